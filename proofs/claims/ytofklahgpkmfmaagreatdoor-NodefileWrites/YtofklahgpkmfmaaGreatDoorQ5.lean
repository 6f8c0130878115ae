/- Own texts, put together: Wa Sh Ba Bz Qr. -/
import Derived.Test.YtofklahgpkmfmaaGreatDoorProg
import Derived.WalkKit
import Derived.WalkSpells
import Derived.WalkLawsBesides
import Derived.Shelf.Small.Wraps
import Derived.Shelf.Strconv.Itoa0
import Derived.Lib.Bytealg
import Derived.Shelf.Strings.OnBuilder
import Derived.Shelf.Strings.BuilderK
import Derived.Shelf.LaysM
import Derived.Shelf.Strconv.Clone
import Derived.OwnWalk
namespace Go.Proofs.YtofklahgpkmfmaaGreatDoor
/- Walks of the small functions of package whole: what each of them answers, for every magnitude. -/
section
open Go.RowKit
structure Ws (w : World) (s : Value) (ns : List Nat) : Prop where
 shape : ∃ a cap, s = .slice a ns.length cap ∧ ns.length ≤ cap ∧ (ns = [] ∨ ∃ b off, a = some ⟨b, off, none⟩ ∧ b < w.heap.size ∧ ∀ j, j < ns.length → w.cell? ⟨b, off + j, none⟩ = some (.int .u64 (ns.getD j 0 : Nat)))
 small : ∀ n, n ∈ ns → n < 18446744073709551616
 short : ns.length ≤ 1000000
theorem Ws.later {w w' : World} {s : Value} {ns : List Nat} {B : Nat} (h : Ws w s ns) (hb : Below B w w') (hB : w.heap.size ≤ B) : Ws w' s ns := by
 obtain ⟨⟨a, cap, hs, hcap, hc⟩, h2, h3⟩ := h
 refine ⟨⟨a, cap, hs, hcap, ?_⟩, h2, h3⟩
 rcases hc with hc | ⟨b, off, ha, hbs, hc⟩
 · exact Or.inl hc
 · exact Or.inr ⟨b, off, ha, Nat.lt_of_lt_of_le hbs hb.size, fun j hj => (hb.cell (by exact Nat.lt_of_lt_of_le hbs hB)).trans (hc j hj)⟩
end

/- The library's contracts for cmp.Compare at int and math/bits.Len64, laid at this program: each is one application of a theorem of the guide's library. -/
section
open Go.Shelf Go.Proofs
open Go.RowKit in
open Go.RowKit in
def Tryz.lays129_ren : Go.Shelf.Ren := ⟨fun | 129 => 158 | n => n, fun | 53 => 142 | 3 => 3 | 4 => 4 | 46 => 184 | 5 => 5 | 9 => 9 | n => n, fun | n => n⟩
theorem Tryz.lays129 : Go.Proofs.Lays.n129 Tryz.prog Tryz.lays129_ren := {
 mixed := by kernel_rfl
 f129 := Tryz.func158.trans (congrArg some (by kernel_rfl))
 t3 := Tryz.underlying3
 a3 := Tryz.isAgg3
 z3 := Tryz.sizeOf3
 v3 := Tryz.zeroValue3
 t4 := Tryz.underlying4
 a4 := Tryz.isAgg4
 z4 := Tryz.sizeOf4
 v4 := Tryz.zeroValue4
 t5 := Tryz.underlying5
 a5 := Tryz.isAgg5
 z5 := Tryz.sizeOf5
 v5 := Tryz.zeroValue5
 t9 := Tryz.underlying9
 a9 := Tryz.isAgg9
 z9 := Tryz.sizeOf9
 v9 := Tryz.zeroValue9
 t46 := Tryz.underlying184
 a46 := Tryz.isAgg184
 z46 := Tryz.sizeOf184
 v46 := Tryz.zeroValue184
 t53 := Tryz.underlying142
 a53 := Tryz.isAgg142
 z53 := Tryz.sizeOf142
 v53 := Tryz.zeroValue142 }
theorem Tryz.bits_Len64 (x : Int) (w : World) (h0 : 0 ≤ x) (h1 : x ≤ 18446744073709551615) :
   Calls Tryz.prog 158 #[.int .u64 x] w fun e w' => e = .returned (.int .i64 (Lib.bitLen x.toNat)) ∧ w' = w := Any.bits_Len64 Tryz.lays129 x w h0 h1
end

/- Package lines: lines, words, remarks of a list of bytes: plain facts. -/
section
open Go.Lib
abbrev Bs := List UInt8
def spl (p : UInt8 → Bool) : Bs → List Bs
 | [] => [[]]
 | c :: r => if p c then [] :: spl p r else
     match spl p r with
     | [] => [[c]]
     | h :: t => (c :: h) :: t
theorem spl_ne (p : UInt8 → Bool) (l : Bs) : spl p l ≠ [] := by
 cases l with
 | nil => simp [spl]
 | cons c r =>
   rw [spl]
   split
   · simp
   · split <;> simp
theorem spl_none {p : UInt8 → Bool} {l : Bs} (h : ∀ c ∈ l, p c = false) : spl p l = [l] := by
 induction l with
 | nil => rfl
 | cons c r ih =>
   rw [spl, if_neg (by rw [h c (by simp)]; simp), ih (fun x hx => h x (by simp [hx]))]
theorem spl_app {p : UInt8 → Bool} {a r : Bs} {c : UInt8} (h : ∀ x ∈ a, p x = false) (hc : p c = true) : spl p (a ++ c :: r) = a :: spl p r := by
 induction a with
 | nil => rw [List.nil_append, spl, if_pos hc]
 | cons x a ih =>
   rw [List.cons_append, spl, if_neg (by rw [h x (by simp)]; simp), ih (fun y hy => h y (by simp [hy]))]
def cutT (c : UInt8) (l : Bs) : Bs := l.takeWhile (fun x => x != c)
def cutD (c : UInt8) (l : Bs) : Bs := (l.dropWhile (fun x => x != c)).tail
def cutF (c : UInt8) (l : Bs) : Bool := decide (c ∈ l)
theorem cut_index (c : UInt8) : ∀ (l : Bs), (c ∉ l ∧ cutT c l = l ∧ cutD c l = [] ∧ indexByte l c = -1) ∨ ∃ i : Nat, indexByte l c = (i : Int) ∧ i < l.length ∧ cutT c l = l.take i ∧ cutD c l = l.drop (i + 1) ∧ c ∈ l := by
 intro l
 induction l with
 | nil => exact Or.inl ⟨by simp, rfl, rfl, rfl⟩
 | cons a r ih =>
   by_cases ha : a = c
   · subst ha
     exact Or.inr ⟨0, by rw [indexByte, if_pos (by simp)]; rfl, by simp, by simp [cutT], by simp [cutD], by simp⟩
   · have hb : ¬ ((a == c) = true) := by simpa using ha
     have hb2 : (a != c) = true := by simpa using ha
     rcases ih with ⟨e1, e2, e3, e4⟩ | ⟨i, e1, e2, e3, e4, e5⟩
     · refine Or.inl ⟨by simp [e1]; exact fun e => ha e.symm, ?_, ?_, ?_⟩
       · unfold cutT at e2 ⊢; rw [List.takeWhile_cons_of_pos (p := fun x => x != c) hb2, e2]
       · unfold cutD at e3 ⊢; rw [List.dropWhile_cons_of_pos (p := fun x => x != c) hb2, e3]
       · rw [indexByte, if_neg hb, if_pos (by rw [e4]; rfl)]
     · refine Or.inr ⟨i + 1, ?_, by simp; omega, ?_, ?_, by simp [e5]⟩
       · rw [indexByte, if_neg hb, e1, if_neg (by rw [beq_iff_eq]; omega)]
         omega
       · unfold cutT at e3 ⊢; rw [List.takeWhile_cons_of_pos (p := fun x => x != c) hb2, e3]; rfl
       · unfold cutD at e4 ⊢; rw [List.dropWhile_cons_of_pos (p := fun x => x != c) hb2, e4]; rfl
theorem cut_none {c : UInt8} {l : Bs} (h : c ∉ l) : cutT c l = l ∧ cutD c l = [] := by
 rcases cut_index c l with ⟨_, h1, h2, _⟩ | ⟨_, _, _, _, _, h5⟩
 · exact ⟨h1, h2⟩
 · exact absurd h5 h
theorem cutT_free {c : UInt8} {l : Bs} : ∀ x ∈ cutT c l, x ≠ c := by
 intro x hx
 unfold cutT at hx
 induction l with
 | nil => simp at hx
 | cons a r ih =>
   rw [List.takeWhile_cons] at hx
   split at hx
   · rename_i h
     rcases List.mem_cons.1 hx with e | e
     · subst e; simpa using h
     · exact ih e
   · simp at hx
theorem cut_some {c : UInt8} {l : Bs} (h : c ∈ l) : l = cutT c l ++ c :: cutD c l := by
 induction l with
 | nil => simp at h
 | cons a r ih =>
   by_cases ha : a = c
   · subst ha; simp [cutT, cutD]
   · have hb2 : (a != c) = true := by simpa using ha
     have hr : c ∈ r := by
       rcases List.mem_cons.1 h with e | e
       · exact absurd e.symm ha
       · exact e
     have := ih hr
     unfold cutT cutD at this ⊢
     rw [List.takeWhile_cons_of_pos (p := fun x => x != c) hb2, List.dropWhile_cons_of_pos (p := fun x => x != c) hb2, List.cons_append, ← this]
theorem cutT_len (c : UInt8) (l : Bs) : (cutT c l).length ≤ l.length := by
 rcases cut_index c l with ⟨_, h1, _, _⟩ | ⟨i, _, _, h3, _, _⟩
 · rw [h1]; exact Nat.le_refl _
 · rw [h3, List.length_take]; omega
theorem cutD_len (c : UInt8) (l : Bs) : (cutD c l).length ≤ l.length := by
 rcases cut_index c l with ⟨_, _, h2, _⟩ | ⟨i, _, _, _, h4, _⟩
 · rw [h2]; simp
 · rw [h4, List.length_drop]; omega
def lns (l : Bs) : List Bs := spl (fun x => x == 10) l
theorem lns_none {l : Bs} (h : (10 : UInt8) ∉ l) : lns l = [l] := spl_none fun c hc => by
 by_cases e : c = 10
 · exact absurd (e ▸ hc) h
 · simpa using e
theorem lns_app {a r : Bs} (h : ∀ x ∈ a, x ≠ 10) : lns (a ++ 10 :: r) = a :: lns r := spl_app (fun x hx => by simpa using h x hx) rfl
theorem lns_cut {l : Bs} (h : (10 : UInt8) ∈ l) : lns l = cutT 10 l :: lns (cutD 10 l) := by
 have e := cut_some h
 have := lns_app (a := cutT 10 l) (r := cutD 10 l) cutT_free
 rwa [← e] at this
def bl (c : UInt8) : Bool := c.toNat == 32 || c.toNat == 9 || c.toNat == 13
def gd (c : UInt8) : Bool := decide (33 ≤ c.toNat) && decide (c.toNat ≤ 126) && !(c.toNat == 35)
def toks (l : Bs) : List Bs := (spl bl l).filter (fun w => !w.isEmpty)
def one (a : Bs) : List Bs := if a.isEmpty then [] else [a]
theorem toks_none {l : Bs} (h : ∀ c ∈ l, bl c = false) : toks l = one l := by
 unfold toks one
 rw [spl_none h]
 cases l <;> simp
theorem toks_app {a r : Bs} {c : UInt8} (h : ∀ x ∈ a, bl x = false) (hc : bl c = true) : toks (a ++ c :: r) = one a ++ toks r := by
 unfold toks one
 rw [spl_app h hc]
 cases a <;> simp
theorem spl_word {p : UInt8 → Bool} : ∀ {l : Bs} {x : Bs}, x ∈ spl p l → (∀ c ∈ x, p c = false) ∧ x.length ≤ l.length ∧ ∀ c ∈ x, c ∈ l := by
 intro l
 induction l with
 | nil => intro x hx; simp [spl] at hx; subst hx; simp
 | cons a r ih =>
   intro x hx
   rw [spl] at hx
   by_cases hp : p a = true
   · rw [if_pos hp] at hx
     rcases List.mem_cons.1 hx with e | e
     · subst e; simp
     · have := ih e; exact ⟨this.1, by simp; omega, fun c hc => by simp [this.2.2 c hc]⟩
   · rw [if_neg hp] at hx
     split at hx
     · rename_i e; exact absurd e (spl_ne _ _)
     · rename_i h t e
       rcases List.mem_cons.1 hx with e2 | e2
       · have := ih (x := h) (by rw [e]; simp)
         subst e2
         refine ⟨fun c hc => ?_, by simp; omega, fun c hc => ?_⟩
         · rcases List.mem_cons.1 hc with e3 | e3
           · subst e3; simpa using hp
           · exact this.1 c e3
         · rcases List.mem_cons.1 hc with e3 | e3
           · simp [e3]
           · simp [this.2.2 c e3]
       · have := ih (x := x) (by rw [e]; simp [e2])
         exact ⟨this.1, by simp; omega, fun c hc => by simp [this.2.2 c hc]⟩
theorem toks_word {l x : Bs} (h : x ∈ toks l) : x ≠ [] ∧ (∀ c ∈ x, bl c = false) ∧ x.length ≤ l.length ∧ ∀ c ∈ x, c ∈ l := by
 unfold toks at h
 rw [List.mem_filter] at h
 exact ⟨by simpa using h.2, spl_word h.1⟩
theorem spl_len (p : UInt8 → Bool) : ∀ l : Bs, (spl p l).length ≤ l.length + 1 := by
 intro l
 induction l with
 | nil => simp [spl]
 | cons a r ih =>
   rw [spl]
   split
   · simp; omega
   · split
     · simp
     · rename_i e; rw [e] at ih; simp at ih ⊢; omega
theorem toks_len (l : Bs) : (toks l).length ≤ l.length + 1 := Nat.le_trans (List.length_filter_le _ _) (spl_len _ _)
def ahd (l : Bs) : Bs := cutT 35 l
def lineW (l : Bs) : List Bs := toks (ahd l)
def mayW (w : Bs) : Bool := !w.isEmpty && decide (w.length ≤ 400) && w.all gd
def lineE (l : Bs) : Nat := if 65536 < l.length then 3 else if (lineW l).all mayW then 0 else 4
def bad : Nat → List Bs → Option (Nat × Nat)
 | _, [] => none
 | n, l :: r => if lineE l = 0 then bad (n + 1) r else some (n, lineE l)
def good : Nat → List Bs → List (Nat × List Bs)
 | _, [] => []
 | n, l :: r => (if (lineW l).isEmpty then [] else [(n, lineW l)]) ++ good (n + 1) r
theorem bad_app {a b : List Bs} : ∀ {n : Nat}, bad n a = none → bad n (a ++ b) = bad (n + a.length) b := by
 induction a with
 | nil => intro n _; rfl
 | cons l r ih =>
   intro n h
   rw [bad] at h
   by_cases e : lineE l = 0
   · rw [if_pos e] at h
     rw [List.cons_append, bad, if_pos e, ih h]
     congr 1; simp; omega
   · rw [if_neg e] at h; cases h
theorem good_app {a b : List Bs} : ∀ {n : Nat}, good n (a ++ b) = good n a ++ good (n + a.length) b := by
 induction a with
 | nil => intro n; rfl
 | cons l r ih =>
   intro n
   rw [List.cons_append, good, good, ih, List.append_assoc]
   congr 2; congr 1; simp; omega
theorem good_len : ∀ (a : List Bs) (n : Nat), (good n a).length ≤ a.length := by
 intro a
 induction a with
 | nil => intro n; simp [good]
 | cons l r ih =>
   intro n
   rw [good, List.length_append]
   have := ih (n + 1)
   split <;> simp <;> omega
def rdV (l : Bs) : List (Nat × List Bs) × Nat × Nat :=
 if 16777216 < l.length then ([], 0, 3) else
 match bad 1 (lns l) with
 | some (n, e) => ([], n, e)
 | none => (good 1 (lns l), 0, 0)
theorem lineE_cases (l : Bs) : lineE l = 0 ∨ lineE l = 3 ∨ lineE l = 4 := by
 unfold lineE
 split
 · simp
 · split <;> simp
theorem lineE_zero {l : Bs} : lineE l = 0 ↔ l.length ≤ 65536 ∧ (lineW l).all mayW = true := by
 unfold lineE
 split
 · constructor
   · intro h; cases h
   · intro h; omega
 · split
   · rename_i h1 h2; simp [h2]; omega
   · rename_i h1 h2; simp [h2]
end

/- The library's contracts for strings.Builder, strings.Join and strings.Clone, laid at this program: tables of numbers, and facts of the program's own; each contract is one application of a theorem of the guide's library. -/
section
set_option maxRecDepth 100000
open Go.Shelf Go.Proofs
def Tryz.lays156_ren : Go.Shelf.Ren := ⟨fun | 156 => 63 | 165 => 61 | 166 => 62 | 167 => 64 | 169 => 65 | 240 => 105 | 241 => 106 | 276 => 132 | 277 => 133 | n => n, fun | 31 => 56 | 9 => 9 | 3 => 3 | 4 => 4 | 0 => 0 | 20 => 20 | 72 => 124 | 76 => 126 | 70 => 122 | 37 => 66 | 75 => 80 | 127 => 172 | 164 => 153 | 5 => 5 | 80 => 74 | n => n, fun | n => n⟩
theorem Tryz.lays156 : Go.Proofs.Lays.n156 Tryz.prog Tryz.lays156_ren := {
 mixed := by kernel_rfl
 f156 := Tryz.func63.trans (congrArg some (by kernel_rfl))
 f165 := Tryz.func61.trans (congrArg some (by kernel_rfl))
 f166 := Tryz.func62.trans (congrArg some (by kernel_rfl))
 f169 := Tryz.func65.trans (congrArg some (by kernel_rfl))
 f240 := Tryz.func105.trans (congrArg some (by kernel_rfl))
 f241 := Tryz.func106.trans (congrArg some (by kernel_rfl))
 f276 := Tryz.func132.trans (congrArg some (by kernel_rfl))
 f277 := Tryz.func133.trans (congrArg some (by kernel_rfl))
 t0 := Tryz.underlying0
 a0 := Tryz.isAgg0
 z0 := Tryz.sizeOf0
 v0 := Tryz.zeroValue0
 t3 := Tryz.underlying3
 a3 := Tryz.isAgg3
 z3 := Tryz.sizeOf3
 v3 := Tryz.zeroValue3
 t4 := Tryz.underlying4
 a4 := Tryz.isAgg4
 z4 := Tryz.sizeOf4
 v4 := Tryz.zeroValue4
 t9 := Tryz.underlying9
 a9 := Tryz.isAgg9
 z9 := Tryz.sizeOf9
 v9 := Tryz.zeroValue9
 t20 := Tryz.underlying20
 a20 := Tryz.isAgg20
 z20 := Tryz.sizeOf20
 v20 := Tryz.zeroValue20
 t31 := Tryz.underlying56
 a31 := Tryz.isAgg56
 z31 := Tryz.sizeOf56
 v31 := Tryz.zeroValue56
 t37 := Tryz.underlying66
 a37 := Tryz.isAgg66
 z37 := Tryz.sizeOf66
 v37 := Tryz.zeroValue66
 t70 := Tryz.underlying122
 a70 := Tryz.isAgg122
 z70 := Tryz.sizeOf122
 v70 := Tryz.zeroValue122
 t72 := Tryz.underlying124
 a72 := Tryz.isAgg124
 z72 := Tryz.sizeOf124
 v72 := Tryz.zeroValue124
 t75 := Tryz.underlying80
 a75 := Tryz.isAgg80
 z75 := Tryz.sizeOf80
 v75 := Tryz.zeroValue80
 t76 := Tryz.underlying126
 a76 := Tryz.isAgg126
 z76 := Tryz.sizeOf126
 v76 := Tryz.zeroValue126
 t127 := Tryz.underlying172
 a127 := Tryz.isAgg172
 z127 := Tryz.sizeOf172
 v127 := Tryz.zeroValue172
 t164 := Tryz.underlying153
 a164 := Tryz.isAgg153
 z164 := Tryz.sizeOf153
 v164 := Tryz.zeroValue153 }
theorem Tryz.Builder_Extra_156 : Builder.Extra Tryz.prog Tryz.lays156_ren := {
 sizeBuilder := by kernel_rfl
 liesBuilder := by kernel_rfl
 t5 := Tryz.underlying5
 a5 := Tryz.isAgg5
 z5 := Tryz.sizeOf5
 v5 := Tryz.zeroValue5
 infoByte := by kernel_rfl
 cellsByte := by kernel_rfl
 sizeByte := by kernel_rfl
 neB5 := by decide }
open Go.RowKit in
theorem Tryz.Builder_Grow_fresh (B b n : Nat) (w : World) (hB : B ≤ b) (hbk : w.heap[b]? = some (.cells #[.pointer none, .slice none 0 0] 124 (0, 0))) (hBw : B ≤ w.heap.size) (hn : n ≤ 281474976710656) :
   Calls Tryz.prog 61 #[.pointer (some ⟨b, 0, none⟩), .int .i64 n] w fun e w' => e = .returned (.tuple #[]) ∧ (Lib.BuilderAt 124 5 B b (.pointer (some ⟨b, 0, none⟩)) [] w' ∧ Below B w w') := Any.Builder_Grow_fresh { Tryz.lays156 with } Tryz.Builder_Extra_156 B b n w hB hbk hBw hn
open Go.RowKit in
theorem Tryz.Builder_WriteString (B b : Nat) (bs : List Value) (s : ByteArray) (w : World) (h : Lib.IsBuilder 124 5 B b bs w) (hlen : bs.length + s.size ≤ 140737488355328) (hBw : B ≤ w.heap.size) :
   Calls Tryz.prog 62 #[.pointer (some ⟨b, 0, none⟩), .string s] w fun e w' => e = .returned (.tuple #[.int .i64 s.size, .nilIface]) ∧ (Lib.BuilderAt 124 5 B b (.pointer (some ⟨b, 0, none⟩)) (bs ++ Lib.strCells s) w' ∧ Below B w w') := Any.Builder_WriteString { Tryz.lays156 with } Tryz.Builder_Extra_156 B b bs s w h hlen hBw
open Go.RowKit in
theorem Tryz.Builder_WriteByte (B b : Nat) (bs : List Value) (c : Int) (w : World) (h : Lib.IsBuilder 124 5 B b bs w) (hlen : bs.length + 1 ≤ 140737488355328) (hBw : B ≤ w.heap.size) :
   Calls Tryz.prog 64 #[.pointer (some ⟨b, 0, none⟩), .int .u8 c] w fun e w' => e = .returned .nilIface ∧ (Lib.BuilderAt 124 5 B b (.pointer (some ⟨b, 0, none⟩)) (bs ++ [.int .u8 c]) w' ∧ Below B w w') := Any.Builder_WriteByte { Tryz.lays156 with f167 := Tryz.func64.trans (congrArg some (by kernel_rfl)), t5 := Tryz.underlying5, a5 := Tryz.isAgg5, z5 := Tryz.sizeOf5, v5 := Tryz.zeroValue5 } Tryz.Builder_Extra_156 B b bs c w h hlen hBw
open Go.RowKit in
theorem Tryz.Builder_String_any (B b : Nat) (l : List UInt8) (w : World) (h : Lib.IsBuilder 124 5 B b (Lib.byteCells l) w) (hBw : B ≤ w.heap.size) :
   Calls Tryz.prog 65 #[.pointer (some ⟨b, 0, none⟩)] w fun e w' => e = .returned (.string ⟨l.toArray⟩) ∧ Below B w w' := Any.Builder_String_any { Tryz.lays156 with } Tryz.Builder_Extra_156 B b l w h hBw
open Go.RowKit in
open Go.RowKit in
theorem Tryz.strings_Join (bk o c : Nat) (xs : List ByteArray) (sep : ByteArray) (w : World) (hcells : ∀ (j : Nat) x, xs[j]? = some x → w.cell? ⟨bk, o + j, none⟩ = some (.string x)) (hbk : bk < w.heap.size) (hN : xs.length ≤ 140737488355328) (hcap : xs.length ≤ c) (hlen : (Lib.join (xs.map (·.data.toList)) sep.data.toList).length ≤ 140737488355328) :
   Calls Tryz.prog 63 #[.slice (some ⟨bk, o, none⟩) xs.length c, .string sep] w fun e w' => e = .returned (.string ⟨(Lib.join (xs.map (·.data.toList)) sep.data.toList).toArray⟩) ∧ Below w.heap.size w w' := Any.strings_Join Tryz.lays156 Tryz.Builder_Extra_156 bk o c xs sep w hcells hbk hN hcap hlen
def Tryz.laysM316_ren : Go.Shelf.Ren := ⟨fun | 316 => 82 | n => n, fun | 9 => 9 | 3 => 3 | 4 => 4 | 37 => 66 | 0 => 0 | 127 => 172 | 5 => 5 | n => n, fun | n => n⟩
theorem Tryz.laysM316 : Go.Proofs.LaysM.n316 Tryz.prog Tryz.laysM316_ren := {
 mixed := by kernel_rfl
 f316 := Tryz.func82.trans (congrArg some (by kernel_rfl))
 t0 := Tryz.underlying0
 a0 := Tryz.isAgg0
 z0 := Tryz.sizeOf0
 v0 := Tryz.zeroValue0
 t3 := Tryz.underlying3
 a3 := Tryz.isAgg3
 z3 := Tryz.sizeOf3
 v3 := Tryz.zeroValue3
 t4 := Tryz.underlying4
 a4 := Tryz.isAgg4
 z4 := Tryz.sizeOf4
 v4 := Tryz.zeroValue4
 t9 := Tryz.underlying9
 a9 := Tryz.isAgg9
 z9 := Tryz.sizeOf9
 v9 := Tryz.zeroValue9
 t37 := Tryz.underlying66
 a37 := Tryz.isAgg66
 z37 := Tryz.sizeOf66
 v37 := Tryz.zeroValue66
 t127 := Tryz.underlying172
 a127 := Tryz.isAgg172
 z127 := Tryz.sizeOf172
 v127 := Tryz.zeroValue172
 t5 := Tryz.underlying5
 a5 := Tryz.isAgg5
 z5 := Tryz.sizeOf5
 v5 := Tryz.zeroValue5
 i0 := by kernel_rfl
 i3 := by kernel_rfl
 i4 := by kernel_rfl
 i5 := by kernel_rfl
 i9 := by kernel_rfl
 i37 := by kernel_rfl
 i127 := by kernel_rfl }
open Go.RowKit in
theorem Tryz.stringslite_Clone (s : ByteArray) (w : World) (hlim : s.size ≤ 281474976710656) :
   Calls Tryz.prog 82 #[.string s] w fun e w' => e = .returned (.string s) ∧ Below w.heap.size w w' := Any.stringslite_Clone Tryz.laysM316 s w hlim
end

/- An append in a drawn region. -/
section
open Go.RowKit
theorem wp_append_own {P : Program} {o : Oper} {aa : Act} {w : World} {K : Act → World → Prop} {Q : Exit → Act → World → Prop} (s x : Operand) (t : TypeId) (ho : o.op = .call { callee := .builtin .append, args := #[s, x], argTypes := #[t, t] })
   (base : Nat) (e : TypeId) (i : TypeInfo) (z : Value) (size bytes : Nat) (ht : P.underlying t = some (.slice e)) (hi : P.info? e = some i) (hz : i.zero = some z) (hsize : i.size = size) (hby : i.bytes = bytes) (hzs : z.cells.size = size) (hsz : 0 < size)
   (v : Value) (n : Nat) (xs : List Value) (hs : aa.eval s = v) (hown : w.ownsRow base e size v n xs) (ad : Addr) (m c : Nat) (news : List Value) (hx : aa.eval x = .slice (some ad) m c) (hl : news.length = m * size) (hnews : ∀ j u, news[j]? = some u → w.cell? (ad.add j) = some u) (h1 : ∀ u ∈ news, u.oneCell' = true)
   (h63 : n + m ≤ maxLen) (hbytes : (n + m) * bytes ≤ 140737488355328) (hbase : base ≤ w.heap.size)
   (h : ∀ v' w', w'.ownsRow base e size v' (n + m) (xs ++ news) → w.grownBy w' v.ownBlock → K (aa.put o.dst v') w') : Oper.wp P o aa w K Q := by
 obtain ⟨v', w', hr, h2, h3, h4⟩ := run_append_own (P := P) w base t o.type e i z size bytes ht hi hz hsize hby hzs hsz v n xs hown ad m c news hl hnews h1 h63 hbytes hbase
 unfold Oper.wp execOp
 simp only [ho, resolve, invoke, builtin, Sem.run_bind, Sem.run_pure, Result.andThen_ok, List.map_toArray, List.map_cons, List.map_nil, hs, hx, hr]
 exact h v' w' h2 h3
end
end Go.Proofs.YtofklahgpkmfmaaGreatDoor
