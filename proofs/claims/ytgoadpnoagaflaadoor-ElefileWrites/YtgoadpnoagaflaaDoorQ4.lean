/- Own texts, put together: Lk Wa R Sh Ba Bz By Qr. -/
import Derived.Test.YtgoadpnoagaflaaDoorQ1
import Derived.Deep.RegionHeld3
import Derived.Test.YtgoadpnoagaflaaDoorProg
import Derived.WalkKit
import Derived.WalkSpells
import Derived.WalkLawsBesides
import Derived.Shelf.Small.Wraps
import Derived.Shelf.Strconv.Itoa0
import Derived.Lib.Bytealg
import Derived.Shelf.Strings.OnBuilder
import Derived.Shelf.Strings.BuilderK
import Derived.Shelf.LaysM
import Derived.Shelf.Strconv.Clone
import Derived.OrdersIn
import Derived.TacticsIn
import Derived.RegionTactic
import Derived.OwnWalk
namespace Go.Proofs.YtgoadpnoagaflaaDoor
/- A drawn region, operation by operation, where some are not wanted. -/
section
open Go
section
variable {P : Program} {ops : Array Oper} {Q : Exit → Act → World → Prop} {md : Region.Mode} {S : World → Prop}
theorem take_at {i : Nat} {d : Option Tmp} {v : Value} {fuel : Nat} {listed : Array Bool} {a : Act} {w : World} (hd : (ops[i]?).map (·.dst) = some d)
   (hs : Region.noSelect ops = true) (hf : Region.free md ops listed i = true) (hr : (Region.ready md ops listed).contains i = true)
   (hQ : ∀ c a w, Q (.panic c) (a.put d v) w → Q (.panic c) a w) (hy : ∀ oi, ops[i]? = some oi → YieldsIf P ops S oi v a) (hS : S w)
   (h : wpAnyH P md ops Q S fuel (listed.setIfInBounds i true) (a.put d v) w) : wpAnyH P md ops Q S (fuel + 1) listed a w := by
 cases ho : ops[i]? with
 | none => rw [ho] at hd; cases hd
 | some oi =>
   rw [ho] at hd
   have e : oi.dst = d := Option.some.inj hd
   subst e
   exact wpAnyH_take ho hs hf hr hQ (hy oi ho) hS h
theorem call_at (i : Nat) {fuel : Nat} {listed : Array Bool} {a : Act} {w : World} (hr : Region.ready md ops listed = [i])
   (hi : (ops[i]?).isSome = true)
   (h : ∀ o, ops[i]? = some o → ∀ K' : Act → World → Prop, Shut (∀ a w, S w → (S w → wpAnyH P md ops Q S fuel (listed.setIfInBounds i true) a w) → K' a w) → if Region.wanted o (yielded ops a.tmps) = true then Oper.wp P o a w K' Q else K' (a.put o.dst undef) w) :
   wpAnyH P md ops Q S (fuel + 1) listed a w := by
 obtain ⟨o, ho⟩ := Option.isSome_iff_exists.1 hi
 exact wpAnyH_ready hr (by simp) (AllReadyH.cons ho (h o ho) AllReadyH.nil)
end
end

/- Walks of the small functions of package whole: what each of them answers, for every magnitude. -/
section
open Go.RowKit
structure Ws (w : World) (s : Value) (ns : List Nat) : Prop where
 shape : ∃ a cap, s = .slice a ns.length cap ∧ ns.length ≤ cap ∧ (ns = [] ∨ ∃ b off, a = some ⟨b, off, none⟩ ∧ b < w.heap.size ∧ ∀ j, j < ns.length → w.cell? ⟨b, off + j, none⟩ = some (.int .u64 (ns.getD j 0 : Nat)))
 small : ∀ n, n ∈ ns → n < 18446744073709551616
 short : ns.length ≤ 1000000
theorem Ws.later {w w' : World} {s : Value} {ns : List Nat} {B : Nat} (h : Ws w s ns) (hb : Below B w w') (hB : w.heap.size ≤ B) : Ws w' s ns := by
 obtain ⟨⟨a, cap, hs, hcap, hc⟩, h2, h3⟩ := h
 refine ⟨⟨a, cap, hs, hcap, ?_⟩, h2, h3⟩
 rcases hc with hc | ⟨b, off, ha, hbs, hc⟩
 · exact Or.inl hc
 · exact Or.inr ⟨b, off, ha, Nat.lt_of_lt_of_le hbs hb.size, fun j hj => (hb.cell (by exact Nat.lt_of_lt_of_le hbs hB)).trans (hc j hj)⟩
end

/- Rows of the call's own: a block of cells that may be written, told whole by a list. -/
section
open Go.RowKit
def Row (w : World) (e : TypeId) (g : Nat) (xs : List Value) : Prop := w.heap[g]? = some (.cells xs.toArray e (0, 0))
theorem Row.lt {w : World} {e : TypeId} {g : Nat} {xs : List Value} (h : Row w e g xs) : g < w.heap.size := by
 unfold Row at h
 by_cases hg : g < w.heap.size
 · exact hg
 · rw [Array.getElem?_eq_none (by omega)] at h; cases h
theorem Row.cell {w : World} {e : TypeId} {g : Nat} {xs : List Value} (h : Row w e g xs) (i : Nat) (hi : i < xs.length) : w.cell? ⟨g, i, none⟩ = some xs[i] := by
 unfold Row at h; simp [World.cell?, h, hi]
theorem Row.frozen {w : World} {e : TypeId} {g : Nat} {xs : List Value} (h : Row w e g xs) (i : Nat) : w.frozen? ⟨g, i, none⟩ = false := by
 unfold Row at h; simp [World.frozen?, h]
theorem Row.set {w : World} {e : TypeId} {g : Nat} {xs : List Value} (h : Row w e g xs) (i : Nat) (v : Value) : Row (w.setCell ⟨g, i, none⟩ v) e g (xs.set i v) := by
 have hg := h.lt
 unfold Row at *
 simp [World.setCell, Array.getElem?_modify, h]
theorem Row.other {w : World} {e : TypeId} {g : Nat} {xs : List Value} (h : Row w e g xs) {a : Addr} (hn : g ≠ a.block) (v : Value) : Row (w.setCell a v) e g xs := by
 unfold Row at *; rw [Below.heap_setCell w a v g hn]; exact h
theorem Row.alloc {w : World} {e : TypeId} {g : Nat} {xs : List Value} (h : Row w e g xs) (o : Obj) : Row (w.alloc o) e g xs := by
 have := h.lt
 unfold Row at *; rw [Below.heap_alloc w o g this]; exact h
theorem Row.drew {w : World} {e : TypeId} {g : Nat} {xs : List Value} (h : Row w e g xs) : Row w.drew e g xs := h
theorem Row.below {w w' : World} {e : TypeId} {g B : Nat} {xs : List Value} (h : Row w e g xs) (hb : Below B w w') (hg : g < B) : Row w' e g xs := by
 unfold Row at *; rw [hb.block g hg]; exact h
theorem cell_ne {w : World} {p a : Addr} {x y : Value} (hp : w.cell? p = some x) (ha : w.cell? a = some y) (hxy : x ≠ y) (v : Value) : (w.setCell a v).cell? p = some x := by
 rw [World.cell?_setCell_other w a p v (by intro e; rw [← e, ha] at hp; exact hxy (Option.some.inj hp).symm)]; exact hp
theorem Ws.set {w : World} {s : Value} {ns : List Nat} (h : Ws w s ns) {a : Addr} {y : Value} (ha : w.cell? a = some y) (hy : ∀ n : Nat, y ≠ .int .u64 (n : Nat)) (v : Value) : Ws (w.setCell a v) s ns := by
 obtain ⟨⟨ad, cap, hs, hcap, hc⟩, h2, h3⟩ := h
 refine ⟨⟨ad, cap, hs, hcap, ?_⟩, h2, h3⟩
 rcases hc with hc | ⟨b, off, hb, hbs, hc⟩
 · exact Or.inl hc
 · exact Or.inr ⟨b, off, hb, by simpa using hbs, fun j hj => cell_ne (hc j hj) ha (fun e => hy _ e.symm) v⟩
def wds (l : List Nat) : List Value := l.map fun n => .int .u64 (n : Nat)
theorem wds_length (l : List Nat) : (wds l).length = l.length := by simp [wds]
theorem Row.ws {w : World} {e : TypeId} {g : Nat} {ns : List Nat} (h : Row w e g (wds ns)) (hs : Small ns) (hl : ns.length ≤ 1000000) (cap : Nat) (hcap : ns.length ≤ cap) : Ws w (.slice (some ⟨g, 0, none⟩) ns.length cap) ns :=
 ⟨⟨_, _, rfl, hcap, Or.inr ⟨g, 0, rfl, h.lt, fun j hj => by
   rw [Nat.zero_add, h.cell j (by rw [wds_length]; exact hj)]
   simp [wds, List.getD, hj]⟩⟩, hs, hl⟩
end

/- The library's contracts for cmp.Compare at int and math/bits.Len64, laid at this program: each is one application of a theorem of the guide's library. -/
section
open Go.Shelf Go.Proofs
open Go.RowKit in
open Go.RowKit in
def Tryd.lays129_ren : Go.Shelf.Ren := ⟨fun | 129 => 123 | n => n, fun | 53 => 60 | 3 => 3 | 4 => 4 | 46 => 155 | 5 => 5 | 9 => 9 | n => n, fun | n => n⟩
theorem Tryd.lays129 : Go.Proofs.Lays.n129 Tryd.prog Tryd.lays129_ren := {
 mixed := by kernel_rfl
 f129 := Tryd.func123.trans (congrArg some (by kernel_rfl))
 t3 := Tryd.underlying3
 a3 := Tryd.isAgg3
 z3 := Tryd.sizeOf3
 v3 := Tryd.zeroValue3
 t4 := Tryd.underlying4
 a4 := Tryd.isAgg4
 z4 := Tryd.sizeOf4
 v4 := Tryd.zeroValue4
 t5 := Tryd.underlying5
 a5 := Tryd.isAgg5
 z5 := Tryd.sizeOf5
 v5 := Tryd.zeroValue5
 t9 := Tryd.underlying9
 a9 := Tryd.isAgg9
 z9 := Tryd.sizeOf9
 v9 := Tryd.zeroValue9
 t46 := Tryd.underlying155
 a46 := Tryd.isAgg155
 z46 := Tryd.sizeOf155
 v46 := Tryd.zeroValue155
 t53 := Tryd.underlying60
 a53 := Tryd.isAgg60
 z53 := Tryd.sizeOf60
 v53 := Tryd.zeroValue60 }
theorem Tryd.bits_Len64 (x : Int) (w : World) (h0 : 0 ≤ x) (h1 : x ≤ 18446744073709551615) :
   Calls Tryd.prog 123 #[.int .u64 x] w fun e w' => e = .returned (.int .i64 (Lib.bitLen x.toNat)) ∧ w' = w := Any.bits_Len64 Tryd.lays129 x w h0 h1
end

/- Package lines: lines, words, remarks of a list of bytes: plain facts. -/
section
open Go.Lib
abbrev Bs := List UInt8
def spl (p : UInt8 → Bool) : Bs → List Bs
 | [] => [[]]
 | c :: r => if p c then [] :: spl p r else
     match spl p r with
     | [] => [[c]]
     | h :: t => (c :: h) :: t
theorem spl_ne (p : UInt8 → Bool) (l : Bs) : spl p l ≠ [] := by
 cases l with
 | nil => simp [spl]
 | cons c r =>
   rw [spl]
   split
   · simp
   · split <;> simp
theorem spl_none {p : UInt8 → Bool} {l : Bs} (h : ∀ c ∈ l, p c = false) : spl p l = [l] := by
 induction l with
 | nil => rfl
 | cons c r ih =>
   rw [spl, if_neg (by rw [h c (by simp)]; simp), ih (fun x hx => h x (by simp [hx]))]
theorem spl_app {p : UInt8 → Bool} {a r : Bs} {c : UInt8} (h : ∀ x ∈ a, p x = false) (hc : p c = true) : spl p (a ++ c :: r) = a :: spl p r := by
 induction a with
 | nil => rw [List.nil_append, spl, if_pos hc]
 | cons x a ih =>
   rw [List.cons_append, spl, if_neg (by rw [h x (by simp)]; simp), ih (fun y hy => h y (by simp [hy]))]
def cutT (c : UInt8) (l : Bs) : Bs := l.takeWhile (fun x => x != c)
def cutD (c : UInt8) (l : Bs) : Bs := (l.dropWhile (fun x => x != c)).tail
def cutF (c : UInt8) (l : Bs) : Bool := decide (c ∈ l)
theorem cut_index (c : UInt8) : ∀ (l : Bs), (c ∉ l ∧ cutT c l = l ∧ cutD c l = [] ∧ indexByte l c = -1) ∨ ∃ i : Nat, indexByte l c = (i : Int) ∧ i < l.length ∧ cutT c l = l.take i ∧ cutD c l = l.drop (i + 1) ∧ c ∈ l := by
 intro l
 induction l with
 | nil => exact Or.inl ⟨by simp, rfl, rfl, rfl⟩
 | cons a r ih =>
   by_cases ha : a = c
   · subst ha
     exact Or.inr ⟨0, by rw [indexByte, if_pos (by simp)]; rfl, by simp, by simp [cutT], by simp [cutD], by simp⟩
   · have hb : ¬ ((a == c) = true) := by simpa using ha
     have hb2 : (a != c) = true := by simpa using ha
     rcases ih with ⟨e1, e2, e3, e4⟩ | ⟨i, e1, e2, e3, e4, e5⟩
     · refine Or.inl ⟨by simp [e1]; exact fun e => ha e.symm, ?_, ?_, ?_⟩
       · unfold cutT at e2 ⊢; rw [List.takeWhile_cons_of_pos (p := fun x => x != c) hb2, e2]
       · unfold cutD at e3 ⊢; rw [List.dropWhile_cons_of_pos (p := fun x => x != c) hb2, e3]
       · rw [indexByte, if_neg hb, if_pos (by rw [e4]; rfl)]
     · refine Or.inr ⟨i + 1, ?_, by simp; omega, ?_, ?_, by simp [e5]⟩
       · rw [indexByte, if_neg hb, e1, if_neg (by rw [beq_iff_eq]; omega)]
         omega
       · unfold cutT at e3 ⊢; rw [List.takeWhile_cons_of_pos (p := fun x => x != c) hb2, e3]; rfl
       · unfold cutD at e4 ⊢; rw [List.dropWhile_cons_of_pos (p := fun x => x != c) hb2, e4]; rfl
theorem cut_none {c : UInt8} {l : Bs} (h : c ∉ l) : cutT c l = l ∧ cutD c l = [] := by
 rcases cut_index c l with ⟨_, h1, h2, _⟩ | ⟨_, _, _, _, _, h5⟩
 · exact ⟨h1, h2⟩
 · exact absurd h5 h
theorem cutT_free {c : UInt8} {l : Bs} : ∀ x ∈ cutT c l, x ≠ c := by
 intro x hx
 unfold cutT at hx
 induction l with
 | nil => simp at hx
 | cons a r ih =>
   rw [List.takeWhile_cons] at hx
   split at hx
   · rename_i h
     rcases List.mem_cons.1 hx with e | e
     · subst e; simpa using h
     · exact ih e
   · simp at hx
theorem cut_some {c : UInt8} {l : Bs} (h : c ∈ l) : l = cutT c l ++ c :: cutD c l := by
 induction l with
 | nil => simp at h
 | cons a r ih =>
   by_cases ha : a = c
   · subst ha; simp [cutT, cutD]
   · have hb2 : (a != c) = true := by simpa using ha
     have hr : c ∈ r := by
       rcases List.mem_cons.1 h with e | e
       · exact absurd e.symm ha
       · exact e
     have := ih hr
     unfold cutT cutD at this ⊢
     rw [List.takeWhile_cons_of_pos (p := fun x => x != c) hb2, List.dropWhile_cons_of_pos (p := fun x => x != c) hb2, List.cons_append, ← this]
theorem cutT_len (c : UInt8) (l : Bs) : (cutT c l).length ≤ l.length := by
 rcases cut_index c l with ⟨_, h1, _, _⟩ | ⟨i, _, _, h3, _, _⟩
 · rw [h1]; exact Nat.le_refl _
 · rw [h3, List.length_take]; omega
theorem cutD_len (c : UInt8) (l : Bs) : (cutD c l).length ≤ l.length := by
 rcases cut_index c l with ⟨_, _, h2, _⟩ | ⟨i, _, _, _, h4, _⟩
 · rw [h2]; simp
 · rw [h4, List.length_drop]; omega
def lns (l : Bs) : List Bs := spl (fun x => x == 10) l
theorem lns_none {l : Bs} (h : (10 : UInt8) ∉ l) : lns l = [l] := spl_none fun c hc => by
 by_cases e : c = 10
 · exact absurd (e ▸ hc) h
 · simpa using e
theorem lns_app {a r : Bs} (h : ∀ x ∈ a, x ≠ 10) : lns (a ++ 10 :: r) = a :: lns r := spl_app (fun x hx => by simpa using h x hx) rfl
theorem lns_cut {l : Bs} (h : (10 : UInt8) ∈ l) : lns l = cutT 10 l :: lns (cutD 10 l) := by
 have e := cut_some h
 have := lns_app (a := cutT 10 l) (r := cutD 10 l) cutT_free
 rwa [← e] at this
def bl (c : UInt8) : Bool := c.toNat == 32 || c.toNat == 9 || c.toNat == 13
def gd (c : UInt8) : Bool := decide (33 ≤ c.toNat) && decide (c.toNat ≤ 126) && !(c.toNat == 35)
def toks (l : Bs) : List Bs := (spl bl l).filter (fun w => !w.isEmpty)
def one (a : Bs) : List Bs := if a.isEmpty then [] else [a]
theorem toks_none {l : Bs} (h : ∀ c ∈ l, bl c = false) : toks l = one l := by
 unfold toks one
 rw [spl_none h]
 cases l <;> simp
theorem toks_app {a r : Bs} {c : UInt8} (h : ∀ x ∈ a, bl x = false) (hc : bl c = true) : toks (a ++ c :: r) = one a ++ toks r := by
 unfold toks one
 rw [spl_app h hc]
 cases a <;> simp
theorem spl_word {p : UInt8 → Bool} : ∀ {l : Bs} {x : Bs}, x ∈ spl p l → (∀ c ∈ x, p c = false) ∧ x.length ≤ l.length ∧ ∀ c ∈ x, c ∈ l := by
 intro l
 induction l with
 | nil => intro x hx; simp [spl] at hx; subst hx; simp
 | cons a r ih =>
   intro x hx
   rw [spl] at hx
   by_cases hp : p a = true
   · rw [if_pos hp] at hx
     rcases List.mem_cons.1 hx with e | e
     · subst e; simp
     · have := ih e; exact ⟨this.1, by simp; omega, fun c hc => by simp [this.2.2 c hc]⟩
   · rw [if_neg hp] at hx
     split at hx
     · rename_i e; exact absurd e (spl_ne _ _)
     · rename_i h t e
       rcases List.mem_cons.1 hx with e2 | e2
       · have := ih (x := h) (by rw [e]; simp)
         subst e2
         refine ⟨fun c hc => ?_, by simp; omega, fun c hc => ?_⟩
         · rcases List.mem_cons.1 hc with e3 | e3
           · subst e3; simpa using hp
           · exact this.1 c e3
         · rcases List.mem_cons.1 hc with e3 | e3
           · simp [e3]
           · simp [this.2.2 c e3]
       · have := ih (x := x) (by rw [e]; simp [e2])
         exact ⟨this.1, by simp; omega, fun c hc => by simp [this.2.2 c hc]⟩
theorem toks_word {l x : Bs} (h : x ∈ toks l) : x ≠ [] ∧ (∀ c ∈ x, bl c = false) ∧ x.length ≤ l.length ∧ ∀ c ∈ x, c ∈ l := by
 unfold toks at h
 rw [List.mem_filter] at h
 exact ⟨by simpa using h.2, spl_word h.1⟩
theorem spl_len (p : UInt8 → Bool) : ∀ l : Bs, (spl p l).length ≤ l.length + 1 := by
 intro l
 induction l with
 | nil => simp [spl]
 | cons a r ih =>
   rw [spl]
   split
   · simp; omega
   · split
     · simp
     · rename_i e; rw [e] at ih; simp at ih ⊢; omega
theorem toks_len (l : Bs) : (toks l).length ≤ l.length + 1 := Nat.le_trans (List.length_filter_le _ _) (spl_len _ _)
def ahd (l : Bs) : Bs := cutT 35 l
def lineW (l : Bs) : List Bs := toks (ahd l)
def mayW (w : Bs) : Bool := !w.isEmpty && decide (w.length ≤ 400) && w.all gd
def lineE (l : Bs) : Nat := if 65536 < l.length then 3 else if (lineW l).all mayW then 0 else 4
def bad : Nat → List Bs → Option (Nat × Nat)
 | _, [] => none
 | n, l :: r => if lineE l = 0 then bad (n + 1) r else some (n, lineE l)
def good : Nat → List Bs → List (Nat × List Bs)
 | _, [] => []
 | n, l :: r => (if (lineW l).isEmpty then [] else [(n, lineW l)]) ++ good (n + 1) r
theorem bad_app {a b : List Bs} : ∀ {n : Nat}, bad n a = none → bad n (a ++ b) = bad (n + a.length) b := by
 induction a with
 | nil => intro n _; rfl
 | cons l r ih =>
   intro n h
   rw [bad] at h
   by_cases e : lineE l = 0
   · rw [if_pos e] at h
     rw [List.cons_append, bad, if_pos e, ih h]
     congr 1; simp; omega
   · rw [if_neg e] at h; cases h
def rdV (l : Bs) : List (Nat × List Bs) × Nat × Nat :=
 if 16777216 < l.length then ([], 0, 3) else
 match bad 1 (lns l) with
 | some (n, e) => ([], n, e)
 | none => (good 1 (lns l), 0, 0)
end

/- The library's contracts for strings.Builder, strings.Join and strings.Clone, laid at this program: tables of numbers, and facts of the program's own; each contract is one application of a theorem of the guide's library. -/
section
set_option maxRecDepth 100000
open Go.Shelf Go.Proofs
def Tryd.lays156_ren : Go.Shelf.Ren := ⟨fun | 156 => 51 | 165 => 49 | 166 => 50 | 167 => 52 | 169 => 53 | 240 => 83 | 241 => 84 | 276 => 104 | 277 => 105 | n => n, fun | 31 => 56 | 9 => 9 | 3 => 3 | 4 => 4 | 0 => 0 | 20 => 20 | 72 => 103 | 76 => 107 | 70 => 100 | 37 => 101 | 75 => 106 | 127 => 143 | 164 => 149 | 5 => 5 | 80 => 79 | n => n, fun | n => n⟩
theorem Tryd.lays156 : Go.Proofs.Lays.n156 Tryd.prog Tryd.lays156_ren := {
 mixed := by kernel_rfl
 f156 := Tryd.func51.trans (congrArg some (by kernel_rfl))
 f165 := Tryd.func49.trans (congrArg some (by kernel_rfl))
 f166 := Tryd.func50.trans (congrArg some (by kernel_rfl))
 f169 := Tryd.func53.trans (congrArg some (by kernel_rfl))
 f240 := Tryd.func83.trans (congrArg some (by kernel_rfl))
 f241 := Tryd.func84.trans (congrArg some (by kernel_rfl))
 f276 := Tryd.func104.trans (congrArg some (by kernel_rfl))
 f277 := Tryd.func105.trans (congrArg some (by kernel_rfl))
 t0 := Tryd.underlying0
 a0 := Tryd.isAgg0
 z0 := Tryd.sizeOf0
 v0 := Tryd.zeroValue0
 t3 := Tryd.underlying3
 a3 := Tryd.isAgg3
 z3 := Tryd.sizeOf3
 v3 := Tryd.zeroValue3
 t4 := Tryd.underlying4
 a4 := Tryd.isAgg4
 z4 := Tryd.sizeOf4
 v4 := Tryd.zeroValue4
 t9 := Tryd.underlying9
 a9 := Tryd.isAgg9
 z9 := Tryd.sizeOf9
 v9 := Tryd.zeroValue9
 t20 := Tryd.underlying20
 a20 := Tryd.isAgg20
 z20 := Tryd.sizeOf20
 v20 := Tryd.zeroValue20
 t31 := Tryd.underlying56
 a31 := Tryd.isAgg56
 z31 := Tryd.sizeOf56
 v31 := Tryd.zeroValue56
 t37 := Tryd.underlying101
 a37 := Tryd.isAgg101
 z37 := Tryd.sizeOf101
 v37 := Tryd.zeroValue101
 t70 := Tryd.underlying100
 a70 := Tryd.isAgg100
 z70 := Tryd.sizeOf100
 v70 := Tryd.zeroValue100
 t72 := Tryd.underlying103
 a72 := Tryd.isAgg103
 z72 := Tryd.sizeOf103
 v72 := Tryd.zeroValue103
 t75 := Tryd.underlying106
 a75 := Tryd.isAgg106
 z75 := Tryd.sizeOf106
 v75 := Tryd.zeroValue106
 t76 := Tryd.underlying107
 a76 := Tryd.isAgg107
 z76 := Tryd.sizeOf107
 v76 := Tryd.zeroValue107
 t127 := Tryd.underlying143
 a127 := Tryd.isAgg143
 z127 := Tryd.sizeOf143
 v127 := Tryd.zeroValue143
 t164 := Tryd.underlying149
 a164 := Tryd.isAgg149
 z164 := Tryd.sizeOf149
 v164 := Tryd.zeroValue149 }
theorem Tryd.Builder_Extra_156 : Builder.Extra Tryd.prog Tryd.lays156_ren := {
 sizeBuilder := by kernel_rfl
 liesBuilder := by kernel_rfl
 t5 := Tryd.underlying5
 a5 := Tryd.isAgg5
 z5 := Tryd.sizeOf5
 v5 := Tryd.zeroValue5
 infoByte := by kernel_rfl
 cellsByte := by kernel_rfl
 sizeByte := by kernel_rfl
 neB5 := by decide }
open Go.RowKit in
theorem Tryd.Builder_Grow_fresh (B b n : Nat) (w : World) (hB : B ≤ b) (hbk : w.heap[b]? = some (.cells #[.pointer none, .slice none 0 0] 103 (0, 0))) (hBw : B ≤ w.heap.size) (hn : n ≤ 281474976710656) :
   Calls Tryd.prog 49 #[.pointer (some ⟨b, 0, none⟩), .int .i64 n] w fun e w' => e = .returned (.tuple #[]) ∧ (Lib.BuilderAt 103 5 B b (.pointer (some ⟨b, 0, none⟩)) [] w' ∧ Below B w w') := Any.Builder_Grow_fresh { Tryd.lays156 with } Tryd.Builder_Extra_156 B b n w hB hbk hBw hn
open Go.RowKit in
theorem Tryd.Builder_WriteString (B b : Nat) (bs : List Value) (s : ByteArray) (w : World) (h : Lib.IsBuilder 103 5 B b bs w) (hlen : bs.length + s.size ≤ 140737488355328) (hBw : B ≤ w.heap.size) :
   Calls Tryd.prog 50 #[.pointer (some ⟨b, 0, none⟩), .string s] w fun e w' => e = .returned (.tuple #[.int .i64 s.size, .nilIface]) ∧ (Lib.BuilderAt 103 5 B b (.pointer (some ⟨b, 0, none⟩)) (bs ++ Lib.strCells s) w' ∧ Below B w w') := Any.Builder_WriteString { Tryd.lays156 with } Tryd.Builder_Extra_156 B b bs s w h hlen hBw
open Go.RowKit in
theorem Tryd.Builder_WriteByte (B b : Nat) (bs : List Value) (c : Int) (w : World) (h : Lib.IsBuilder 103 5 B b bs w) (hlen : bs.length + 1 ≤ 140737488355328) (hBw : B ≤ w.heap.size) :
   Calls Tryd.prog 52 #[.pointer (some ⟨b, 0, none⟩), .int .u8 c] w fun e w' => e = .returned .nilIface ∧ (Lib.BuilderAt 103 5 B b (.pointer (some ⟨b, 0, none⟩)) (bs ++ [.int .u8 c]) w' ∧ Below B w w') := Any.Builder_WriteByte { Tryd.lays156 with f167 := Tryd.func52.trans (congrArg some (by kernel_rfl)), t5 := Tryd.underlying5, a5 := Tryd.isAgg5, z5 := Tryd.sizeOf5, v5 := Tryd.zeroValue5 } Tryd.Builder_Extra_156 B b bs c w h hlen hBw
open Go.RowKit in
theorem Tryd.Builder_String_any (B b : Nat) (l : List UInt8) (w : World) (h : Lib.IsBuilder 103 5 B b (Lib.byteCells l) w) (hBw : B ≤ w.heap.size) :
   Calls Tryd.prog 53 #[.pointer (some ⟨b, 0, none⟩)] w fun e w' => e = .returned (.string ⟨l.toArray⟩) ∧ Below B w w' := Any.Builder_String_any { Tryd.lays156 with } Tryd.Builder_Extra_156 B b l w h hBw
open Go.RowKit in
open Go.RowKit in
theorem Tryd.strings_Join (bk o c : Nat) (xs : List ByteArray) (sep : ByteArray) (w : World) (hcells : ∀ (j : Nat) x, xs[j]? = some x → w.cell? ⟨bk, o + j, none⟩ = some (.string x)) (hbk : bk < w.heap.size) (hN : xs.length ≤ 140737488355328) (hcap : xs.length ≤ c) (hlen : (Lib.join (xs.map (·.data.toList)) sep.data.toList).length ≤ 140737488355328) :
   Calls Tryd.prog 51 #[.slice (some ⟨bk, o, none⟩) xs.length c, .string sep] w fun e w' => e = .returned (.string ⟨(Lib.join (xs.map (·.data.toList)) sep.data.toList).toArray⟩) ∧ Below w.heap.size w w' := Any.strings_Join Tryd.lays156 Tryd.Builder_Extra_156 bk o c xs sep w hcells hbk hN hcap hlen
open Go.RowKit in
end

/- A drawn region is carried out in one of finitely many orders: each of them may be walked as a list. -/
section
open Go
section
variable {F : Fence} {n : Nat} {P : Program} {ops : Array Oper} {Q : Exit → Act → World → Prop}
end
section
variable {P : Program} {ops : Array Oper} {Q : Exit → Act → World → Prop}
end
end

/- An append in a drawn region. -/
section
open Go.RowKit
theorem wp_append_own {P : Program} {o : Oper} {aa : Act} {w : World} {K : Act → World → Prop} {Q : Exit → Act → World → Prop} (s x : Operand) (t : TypeId) (ho : o.op = .call { callee := .builtin .append, args := #[s, x], argTypes := #[t, t] })
   (base : Nat) (e : TypeId) (i : TypeInfo) (z : Value) (size bytes : Nat) (ht : P.underlying t = some (.slice e)) (hi : P.info? e = some i) (hz : i.zero = some z) (hsize : i.size = size) (hby : i.bytes = bytes) (hzs : z.cells.size = size) (hsz : 0 < size)
   (v : Value) (n : Nat) (xs : List Value) (hs : aa.eval s = v) (hown : w.ownsRow base e size v n xs) (ad : Addr) (m c : Nat) (news : List Value) (hx : aa.eval x = .slice (some ad) m c) (hl : news.length = m * size) (hnews : ∀ j u, news[j]? = some u → w.cell? (ad.add j) = some u) (h1 : ∀ u ∈ news, u.oneCell' = true)
   (h63 : n + m ≤ maxLen) (hbytes : (n + m) * bytes ≤ 140737488355328) (hbase : base ≤ w.heap.size)
   (h : ∀ v' w', w'.ownsRow base e size v' (n + m) (xs ++ news) → w.grownBy w' v.ownBlock → K (aa.put o.dst v') w') : Oper.wp P o aa w K Q := by
 obtain ⟨v', w', hr, h2, h3, h4⟩ := run_append_own (P := P) w base t o.type e i z size bytes ht hi hz hsize hby hzs hsz v n xs hown ad m c news hl hnews h1 h63 hbytes hbase
 unfold Oper.wp execOp
 simp only [ho, resolve, invoke, builtin, Sem.run_bind, Sem.run_pure, Result.andThen_ok, List.map_toArray, List.map_cons, List.map_nil, hs, hx, hr]
 exact h v' w' h2 h3
end
end Go.Proofs.YtgoadpnoagaflaaDoor
