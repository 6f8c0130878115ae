/- Own texts, put together: Sw Ba Bz By. -/
import Derived.WalkKit
import Derived.Lib.Bytealg
import Derived.Shelf.Strings.OnBuilder
import Derived.Shelf.Strings.BuilderK
import Derived.Shelf.LaysM
import Derived.Shelf.Strconv.Clone
import Derived.Test.YtkbhmglmbolbiaaGreatDoorProg
import Derived.OrdersIn
import Derived.TacticsIn
import Derived.RegionTactic
namespace Go.Proofs.YtkbhmglmbolbiaaGreatDoor
/- A list of bytes as a text. -/
section
open Go.RowKit
abbrev sv (l : List UInt8) : Value := .string ⟨l.toArray⟩
end

/- Package lines: lines, words, remarks of a list of bytes: plain facts. -/
section
open Go.Lib
abbrev Bs := List UInt8
def spl (p : UInt8 → Bool) : Bs → List Bs
 | [] => [[]]
 | c :: r => if p c then [] :: spl p r else
     match spl p r with
     | [] => [[c]]
     | h :: t => (c :: h) :: t
theorem spl_ne (p : UInt8 → Bool) (l : Bs) : spl p l ≠ [] := by
 cases l with
 | nil => simp [spl]
 | cons c r =>
   rw [spl]
   split
   · simp
   · split <;> simp
theorem spl_none {p : UInt8 → Bool} {l : Bs} (h : ∀ c ∈ l, p c = false) : spl p l = [l] := by
 induction l with
 | nil => rfl
 | cons c r ih =>
   rw [spl, if_neg (by rw [h c (by simp)]; simp), ih (fun x hx => h x (by simp [hx]))]
theorem spl_app {p : UInt8 → Bool} {a r : Bs} {c : UInt8} (h : ∀ x ∈ a, p x = false) (hc : p c = true) : spl p (a ++ c :: r) = a :: spl p r := by
 induction a with
 | nil => rw [List.nil_append, spl, if_pos hc]
 | cons x a ih =>
   rw [List.cons_append, spl, if_neg (by rw [h x (by simp)]; simp), ih (fun y hy => h y (by simp [hy]))]
def cutT (c : UInt8) (l : Bs) : Bs := l.takeWhile (fun x => x != c)
def cutD (c : UInt8) (l : Bs) : Bs := (l.dropWhile (fun x => x != c)).tail
def cutF (c : UInt8) (l : Bs) : Bool := decide (c ∈ l)
theorem cut_index (c : UInt8) : ∀ (l : Bs), (c ∉ l ∧ cutT c l = l ∧ cutD c l = [] ∧ indexByte l c = -1) ∨ ∃ i : Nat, indexByte l c = (i : Int) ∧ i < l.length ∧ cutT c l = l.take i ∧ cutD c l = l.drop (i + 1) ∧ c ∈ l := by
 intro l
 induction l with
 | nil => exact Or.inl ⟨by simp, rfl, rfl, rfl⟩
 | cons a r ih =>
   by_cases ha : a = c
   · subst ha
     exact Or.inr ⟨0, by rw [indexByte, if_pos (by simp)]; rfl, by simp, by simp [cutT], by simp [cutD], by simp⟩
   · have hb : ¬ ((a == c) = true) := by simpa using ha
     have hb2 : (a != c) = true := by simpa using ha
     rcases ih with ⟨e1, e2, e3, e4⟩ | ⟨i, e1, e2, e3, e4, e5⟩
     · refine Or.inl ⟨by simp [e1]; exact fun e => ha e.symm, ?_, ?_, ?_⟩
       · unfold cutT at e2 ⊢; rw [List.takeWhile_cons_of_pos (p := fun x => x != c) hb2, e2]
       · unfold cutD at e3 ⊢; rw [List.dropWhile_cons_of_pos (p := fun x => x != c) hb2, e3]
       · rw [indexByte, if_neg hb, if_pos (by rw [e4]; rfl)]
     · refine Or.inr ⟨i + 1, ?_, by simp; omega, ?_, ?_, by simp [e5]⟩
       · rw [indexByte, if_neg hb, e1, if_neg (by rw [beq_iff_eq]; omega)]
         omega
       · unfold cutT at e3 ⊢; rw [List.takeWhile_cons_of_pos (p := fun x => x != c) hb2, e3]; rfl
       · unfold cutD at e4 ⊢; rw [List.dropWhile_cons_of_pos (p := fun x => x != c) hb2, e4]; rfl
theorem cut_none {c : UInt8} {l : Bs} (h : c ∉ l) : cutT c l = l ∧ cutD c l = [] := by
 rcases cut_index c l with ⟨_, h1, h2, _⟩ | ⟨_, _, _, _, _, h5⟩
 · exact ⟨h1, h2⟩
 · exact absurd h5 h
theorem cutT_free {c : UInt8} {l : Bs} : ∀ x ∈ cutT c l, x ≠ c := by
 intro x hx
 unfold cutT at hx
 induction l with
 | nil => simp at hx
 | cons a r ih =>
   rw [List.takeWhile_cons] at hx
   split at hx
   · rename_i h
     rcases List.mem_cons.1 hx with e | e
     · subst e; simpa using h
     · exact ih e
   · simp at hx
theorem cut_some {c : UInt8} {l : Bs} (h : c ∈ l) : l = cutT c l ++ c :: cutD c l := by
 induction l with
 | nil => simp at h
 | cons a r ih =>
   by_cases ha : a = c
   · subst ha; simp [cutT, cutD]
   · have hb2 : (a != c) = true := by simpa using ha
     have hr : c ∈ r := by
       rcases List.mem_cons.1 h with e | e
       · exact absurd e.symm ha
       · exact e
     have := ih hr
     unfold cutT cutD at this ⊢
     rw [List.takeWhile_cons_of_pos (p := fun x => x != c) hb2, List.dropWhile_cons_of_pos (p := fun x => x != c) hb2, List.cons_append, ← this]
theorem cutT_len (c : UInt8) (l : Bs) : (cutT c l).length ≤ l.length := by
 rcases cut_index c l with ⟨_, h1, _, _⟩ | ⟨i, _, _, h3, _, _⟩
 · rw [h1]; exact Nat.le_refl _
 · rw [h3, List.length_take]; omega
theorem cutD_len (c : UInt8) (l : Bs) : (cutD c l).length ≤ l.length := by
 rcases cut_index c l with ⟨_, _, h2, _⟩ | ⟨i, _, _, _, h4, _⟩
 · rw [h2]; simp
 · rw [h4, List.length_drop]; omega
def lns (l : Bs) : List Bs := spl (fun x => x == 10) l
theorem lns_none {l : Bs} (h : (10 : UInt8) ∉ l) : lns l = [l] := spl_none fun c hc => by
 by_cases e : c = 10
 · exact absurd (e ▸ hc) h
 · simpa using e
theorem lns_app {a r : Bs} (h : ∀ x ∈ a, x ≠ 10) : lns (a ++ 10 :: r) = a :: lns r := spl_app (fun x hx => by simpa using h x hx) rfl
theorem lns_cut {l : Bs} (h : (10 : UInt8) ∈ l) : lns l = cutT 10 l :: lns (cutD 10 l) := by
 have e := cut_some h
 have := lns_app (a := cutT 10 l) (r := cutD 10 l) cutT_free
 rwa [← e] at this
def bl (c : UInt8) : Bool := c.toNat == 32 || c.toNat == 9 || c.toNat == 13
def gd (c : UInt8) : Bool := decide (33 ≤ c.toNat) && decide (c.toNat ≤ 126) && !(c.toNat == 35)
def toks (l : Bs) : List Bs := (spl bl l).filter (fun w => !w.isEmpty)
def one (a : Bs) : List Bs := if a.isEmpty then [] else [a]
theorem toks_none {l : Bs} (h : ∀ c ∈ l, bl c = false) : toks l = one l := by
 unfold toks one
 rw [spl_none h]
 cases l <;> simp
theorem toks_app {a r : Bs} {c : UInt8} (h : ∀ x ∈ a, bl x = false) (hc : bl c = true) : toks (a ++ c :: r) = one a ++ toks r := by
 unfold toks one
 rw [spl_app h hc]
 cases a <;> simp
theorem spl_word {p : UInt8 → Bool} : ∀ {l : Bs} {x : Bs}, x ∈ spl p l → (∀ c ∈ x, p c = false) ∧ x.length ≤ l.length ∧ ∀ c ∈ x, c ∈ l := by
 intro l
 induction l with
 | nil => intro x hx; simp [spl] at hx; subst hx; simp
 | cons a r ih =>
   intro x hx
   rw [spl] at hx
   by_cases hp : p a = true
   · rw [if_pos hp] at hx
     rcases List.mem_cons.1 hx with e | e
     · subst e; simp
     · have := ih e; exact ⟨this.1, by simp; omega, fun c hc => by simp [this.2.2 c hc]⟩
   · rw [if_neg hp] at hx
     split at hx
     · rename_i e; exact absurd e (spl_ne _ _)
     · rename_i h t e
       rcases List.mem_cons.1 hx with e2 | e2
       · have := ih (x := h) (by rw [e]; simp)
         subst e2
         refine ⟨fun c hc => ?_, by simp; omega, fun c hc => ?_⟩
         · rcases List.mem_cons.1 hc with e3 | e3
           · subst e3; simpa using hp
           · exact this.1 c e3
         · rcases List.mem_cons.1 hc with e3 | e3
           · simp [e3]
           · simp [this.2.2 c e3]
       · have := ih (x := x) (by rw [e]; simp [e2])
         exact ⟨this.1, by simp; omega, fun c hc => by simp [this.2.2 c hc]⟩
theorem toks_word {l x : Bs} (h : x ∈ toks l) : x ≠ [] ∧ (∀ c ∈ x, bl c = false) ∧ x.length ≤ l.length ∧ ∀ c ∈ x, c ∈ l := by
 unfold toks at h
 rw [List.mem_filter] at h
 exact ⟨by simpa using h.2, spl_word h.1⟩
theorem spl_len (p : UInt8 → Bool) : ∀ l : Bs, (spl p l).length ≤ l.length + 1 := by
 intro l
 induction l with
 | nil => simp [spl]
 | cons a r ih =>
   rw [spl]
   split
   · simp; omega
   · split
     · simp
     · rename_i e; rw [e] at ih; simp at ih ⊢; omega
theorem toks_len (l : Bs) : (toks l).length ≤ l.length + 1 := Nat.le_trans (List.length_filter_le _ _) (spl_len _ _)
def ahd (l : Bs) : Bs := cutT 35 l
def lineW (l : Bs) : List Bs := toks (ahd l)
def mayW (w : Bs) : Bool := !w.isEmpty && decide (w.length ≤ 400) && w.all gd
def lineE (l : Bs) : Nat := if 65536 < l.length then 3 else if (lineW l).all mayW then 0 else 4
def bad : Nat → List Bs → Option (Nat × Nat)
 | _, [] => none
 | n, l :: r => if lineE l = 0 then bad (n + 1) r else some (n, lineE l)
def good : Nat → List Bs → List (Nat × List Bs)
 | _, [] => []
 | n, l :: r => (if (lineW l).isEmpty then [] else [(n, lineW l)]) ++ good (n + 1) r
theorem bad_app {a b : List Bs} : ∀ {n : Nat}, bad n a = none → bad n (a ++ b) = bad (n + a.length) b := by
 induction a with
 | nil => intro n _; rfl
 | cons l r ih =>
   intro n h
   rw [bad] at h
   by_cases e : lineE l = 0
   · rw [if_pos e] at h
     rw [List.cons_append, bad, if_pos e, ih h]
     congr 1; simp; omega
   · rw [if_neg e] at h; cases h
theorem good_app {a b : List Bs} : ∀ {n : Nat}, good n (a ++ b) = good n a ++ good (n + a.length) b := by
 induction a with
 | nil => intro n; rfl
 | cons l r ih =>
   intro n
   rw [List.cons_append, good, good, ih, List.append_assoc]
   congr 2; congr 1; simp; omega
theorem good_len : ∀ (a : List Bs) (n : Nat), (good n a).length ≤ a.length := by
 intro a
 induction a with
 | nil => intro n; simp [good]
 | cons l r ih =>
   intro n
   rw [good, List.length_append]
   have := ih (n + 1)
   split <;> simp <;> omega
def rdV (l : Bs) : List (Nat × List Bs) × Nat × Nat :=
 if 16777216 < l.length then ([], 0, 3) else
 match bad 1 (lns l) with
 | some (n, e) => ([], n, e)
 | none => (good 1 (lns l), 0, 0)
theorem lineE_cases (l : Bs) : lineE l = 0 ∨ lineE l = 3 ∨ lineE l = 4 := by
 unfold lineE
 split
 · simp
 · split <;> simp
theorem lineE_zero {l : Bs} : lineE l = 0 ↔ l.length ≤ 65536 ∧ (lineW l).all mayW = true := by
 unfold lineE
 split
 · constructor
   · intro h; cases h
   · intro h; omega
 · split
   · rename_i h1 h2; simp [h2]; omega
   · rename_i h1 h2; simp [h2]
end

/- The library's contracts for strings.Builder, strings.Join and strings.Clone, laid at this program: tables of numbers, and facts of the program's own; each contract is one application of a theorem of the guide's library. -/
section
set_option maxRecDepth 100000
open Go.Shelf Go.Proofs
def Tryz.lays156_ren : Go.Shelf.Ren := ⟨fun | 156 => 49 | 165 => 47 | 166 => 48 | 167 => 50 | 169 => 51 | 240 => 90 | 241 => 91 | 276 => 118 | 277 => 119 | n => n, fun | 31 => 54 | 9 => 9 | 3 => 3 | 4 => 4 | 0 => 0 | 20 => 20 | 72 => 112 | 76 => 114 | 70 => 109 | 37 => 110 | 75 => 67 | 127 => 160 | 164 => 129 | 5 => 5 | 80 => 61 | n => n, fun | n => n⟩
theorem Tryz.lays156 : Go.Proofs.Lays.n156 Tryz.prog Tryz.lays156_ren := {
 mixed := by kernel_rfl
 f156 := Tryz.func49.trans (congrArg some (by kernel_rfl))
 f165 := Tryz.func47.trans (congrArg some (by kernel_rfl))
 f166 := Tryz.func48.trans (congrArg some (by kernel_rfl))
 f169 := Tryz.func51.trans (congrArg some (by kernel_rfl))
 f240 := Tryz.func90.trans (congrArg some (by kernel_rfl))
 f241 := Tryz.func91.trans (congrArg some (by kernel_rfl))
 f276 := Tryz.func118.trans (congrArg some (by kernel_rfl))
 f277 := Tryz.func119.trans (congrArg some (by kernel_rfl))
 t0 := Tryz.underlying0
 a0 := Tryz.isAgg0
 z0 := Tryz.sizeOf0
 v0 := Tryz.zeroValue0
 t3 := Tryz.underlying3
 a3 := Tryz.isAgg3
 z3 := Tryz.sizeOf3
 v3 := Tryz.zeroValue3
 t4 := Tryz.underlying4
 a4 := Tryz.isAgg4
 z4 := Tryz.sizeOf4
 v4 := Tryz.zeroValue4
 t9 := Tryz.underlying9
 a9 := Tryz.isAgg9
 z9 := Tryz.sizeOf9
 v9 := Tryz.zeroValue9
 t20 := Tryz.underlying20
 a20 := Tryz.isAgg20
 z20 := Tryz.sizeOf20
 v20 := Tryz.zeroValue20
 t31 := Tryz.underlying54
 a31 := Tryz.isAgg54
 z31 := Tryz.sizeOf54
 v31 := Tryz.zeroValue54
 t37 := Tryz.underlying110
 a37 := Tryz.isAgg110
 z37 := Tryz.sizeOf110
 v37 := Tryz.zeroValue110
 t70 := Tryz.underlying109
 a70 := Tryz.isAgg109
 z70 := Tryz.sizeOf109
 v70 := Tryz.zeroValue109
 t72 := Tryz.underlying112
 a72 := Tryz.isAgg112
 z72 := Tryz.sizeOf112
 v72 := Tryz.zeroValue112
 t75 := Tryz.underlying67
 a75 := Tryz.isAgg67
 z75 := Tryz.sizeOf67
 v75 := Tryz.zeroValue67
 t76 := Tryz.underlying114
 a76 := Tryz.isAgg114
 z76 := Tryz.sizeOf114
 v76 := Tryz.zeroValue114
 t127 := Tryz.underlying160
 a127 := Tryz.isAgg160
 z127 := Tryz.sizeOf160
 v127 := Tryz.zeroValue160
 t164 := Tryz.underlying129
 a164 := Tryz.isAgg129
 z164 := Tryz.sizeOf129
 v164 := Tryz.zeroValue129 }
theorem Tryz.Builder_Extra_156 : Builder.Extra Tryz.prog Tryz.lays156_ren := {
 sizeBuilder := by kernel_rfl
 liesBuilder := by kernel_rfl
 t5 := Tryz.underlying5
 a5 := Tryz.isAgg5
 z5 := Tryz.sizeOf5
 v5 := Tryz.zeroValue5
 infoByte := by kernel_rfl
 cellsByte := by kernel_rfl
 sizeByte := by kernel_rfl
 neB5 := by decide }
open Go.RowKit in
theorem Tryz.Builder_Grow_fresh (B b n : Nat) (w : World) (hB : B ≤ b) (hbk : w.heap[b]? = some (.cells #[.pointer none, .slice none 0 0] 112 (0, 0))) (hBw : B ≤ w.heap.size) (hn : n ≤ 281474976710656) :
   Calls Tryz.prog 47 #[.pointer (some ⟨b, 0, none⟩), .int .i64 n] w fun e w' => e = .returned (.tuple #[]) ∧ (Lib.BuilderAt 112 5 B b (.pointer (some ⟨b, 0, none⟩)) [] w' ∧ Below B w w') := Any.Builder_Grow_fresh { Tryz.lays156 with } Tryz.Builder_Extra_156 B b n w hB hbk hBw hn
open Go.RowKit in
theorem Tryz.Builder_WriteString (B b : Nat) (bs : List Value) (s : ByteArray) (w : World) (h : Lib.IsBuilder 112 5 B b bs w) (hlen : bs.length + s.size ≤ 140737488355328) (hBw : B ≤ w.heap.size) :
   Calls Tryz.prog 48 #[.pointer (some ⟨b, 0, none⟩), .string s] w fun e w' => e = .returned (.tuple #[.int .i64 s.size, .nilIface]) ∧ (Lib.BuilderAt 112 5 B b (.pointer (some ⟨b, 0, none⟩)) (bs ++ Lib.strCells s) w' ∧ Below B w w') := Any.Builder_WriteString { Tryz.lays156 with } Tryz.Builder_Extra_156 B b bs s w h hlen hBw
open Go.RowKit in
theorem Tryz.Builder_WriteByte (B b : Nat) (bs : List Value) (c : Int) (w : World) (h : Lib.IsBuilder 112 5 B b bs w) (hlen : bs.length + 1 ≤ 140737488355328) (hBw : B ≤ w.heap.size) :
   Calls Tryz.prog 50 #[.pointer (some ⟨b, 0, none⟩), .int .u8 c] w fun e w' => e = .returned .nilIface ∧ (Lib.BuilderAt 112 5 B b (.pointer (some ⟨b, 0, none⟩)) (bs ++ [.int .u8 c]) w' ∧ Below B w w') := Any.Builder_WriteByte { Tryz.lays156 with f167 := Tryz.func50.trans (congrArg some (by kernel_rfl)), t5 := Tryz.underlying5, a5 := Tryz.isAgg5, z5 := Tryz.sizeOf5, v5 := Tryz.zeroValue5 } Tryz.Builder_Extra_156 B b bs c w h hlen hBw
open Go.RowKit in
theorem Tryz.Builder_String_any (B b : Nat) (l : List UInt8) (w : World) (h : Lib.IsBuilder 112 5 B b (Lib.byteCells l) w) (hBw : B ≤ w.heap.size) :
   Calls Tryz.prog 51 #[.pointer (some ⟨b, 0, none⟩)] w fun e w' => e = .returned (.string ⟨l.toArray⟩) ∧ Below B w w' := Any.Builder_String_any { Tryz.lays156 with } Tryz.Builder_Extra_156 B b l w h hBw
open Go.RowKit in
open Go.RowKit in
theorem Tryz.strings_Join (bk o c : Nat) (xs : List ByteArray) (sep : ByteArray) (w : World) (hcells : ∀ (j : Nat) x, xs[j]? = some x → w.cell? ⟨bk, o + j, none⟩ = some (.string x)) (hbk : bk < w.heap.size) (hN : xs.length ≤ 140737488355328) (hcap : xs.length ≤ c) (hlen : (Lib.join (xs.map (·.data.toList)) sep.data.toList).length ≤ 140737488355328) :
   Calls Tryz.prog 49 #[.slice (some ⟨bk, o, none⟩) xs.length c, .string sep] w fun e w' => e = .returned (.string ⟨(Lib.join (xs.map (·.data.toList)) sep.data.toList).toArray⟩) ∧ Below w.heap.size w w' := Any.strings_Join Tryz.lays156 Tryz.Builder_Extra_156 bk o c xs sep w hcells hbk hN hcap hlen
def Tryz.laysM316_ren : Go.Shelf.Ren := ⟨fun | 316 => 55 | n => n, fun | 9 => 9 | 3 => 3 | 4 => 4 | 37 => 110 | 0 => 0 | 127 => 160 | 5 => 5 | n => n, fun | n => n⟩
theorem Tryz.laysM316 : Go.Proofs.LaysM.n316 Tryz.prog Tryz.laysM316_ren := {
 mixed := by kernel_rfl
 f316 := Tryz.func55.trans (congrArg some (by kernel_rfl))
 t0 := Tryz.underlying0
 a0 := Tryz.isAgg0
 z0 := Tryz.sizeOf0
 v0 := Tryz.zeroValue0
 t3 := Tryz.underlying3
 a3 := Tryz.isAgg3
 z3 := Tryz.sizeOf3
 v3 := Tryz.zeroValue3
 t4 := Tryz.underlying4
 a4 := Tryz.isAgg4
 z4 := Tryz.sizeOf4
 v4 := Tryz.zeroValue4
 t9 := Tryz.underlying9
 a9 := Tryz.isAgg9
 z9 := Tryz.sizeOf9
 v9 := Tryz.zeroValue9
 t37 := Tryz.underlying110
 a37 := Tryz.isAgg110
 z37 := Tryz.sizeOf110
 v37 := Tryz.zeroValue110
 t127 := Tryz.underlying160
 a127 := Tryz.isAgg160
 z127 := Tryz.sizeOf160
 v127 := Tryz.zeroValue160
 t5 := Tryz.underlying5
 a5 := Tryz.isAgg5
 z5 := Tryz.sizeOf5
 v5 := Tryz.zeroValue5
 i0 := by kernel_rfl
 i3 := by kernel_rfl
 i4 := by kernel_rfl
 i5 := by kernel_rfl
 i9 := by kernel_rfl
 i37 := by kernel_rfl
 i127 := by kernel_rfl }
open Go.RowKit in
theorem Tryz.stringslite_Clone (s : ByteArray) (w : World) (hlim : s.size ≤ 281474976710656) :
   Calls Tryz.prog 55 #[.string s] w fun e w' => e = .returned (.string s) ∧ Below w.heap.size w w' := Any.stringslite_Clone Tryz.laysM316 s w hlim
end

/- A drawn region is carried out in one of finitely many orders: each of them may be walked as a list. -/
section
open Go
def lin (md : Region.Mode) (ops : Array Oper) : Nat → Array Bool → List (List Nat)
 | 0, _ => [[]]
 | fuel + 1, listed => match Region.ready md ops listed with
   | [] => [[]]
   | r => r.flatMap fun i => (lin md ops fuel (listed.setIfInBounds i true)).map (i :: ·)
theorem lin_sound (md : Region.Mode) (ops : Array Oper) : ∀ (fuel t : Nat) (listed : Array Bool), Region.linearise.go md ops fuel t listed [] ∈ lin md ops fuel listed := by
 intro fuel
 induction fuel with
 | zero => intro t listed; simp [Region.linearise.go, lin]
 | succ fuel ih =>
   intro t listed
   simp only [Region.linearise.go]
   change (match (Region.ready md ops listed)[t % (Region.ready md ops listed).length]? with
     | some i => Region.linearise.go md ops fuel (t / (Region.ready md ops listed).length) (listed.setIfInBounds i true) [i]
     | none => [].reverse) ∈ _
   cases hi : (Region.ready md ops listed)[t % (Region.ready md ops listed).length]? with
   | none =>
     have hnil : Region.ready md ops listed = [] := by
       cases hr : Region.ready md ops listed with
       | nil => rfl
       | cons x xs =>
         rw [hr] at hi
         have hlt : t % (x :: xs).length < (x :: xs).length := Nat.mod_lt _ (by simp)
         simp at hi
         simp at hlt
         omega
     simp [lin, hnil]
   | some i =>
     simp only []
     rw [linearise_go_acc, List.reverse_singleton, List.singleton_append, lin]
     have hm := List.mem_of_getElem? hi
     split
     · rename_i e; rw [e] at hm; simp at hm
     · rw [List.mem_flatMap]
       exact ⟨i, hm, List.mem_map.2 ⟨_, ih _ _, rfl⟩⟩
section
variable {F : Fence} {n : Nat} {P : Program} {ops : Array Oper} {Q : Exit → Act → World → Prop}
theorem wpOpsIn_list : ∀ (is : List Nat), wpOpsIn F n P ops Q is = wpListIn F n P ops Q (is.filterMap (fun i => ops[i]?)) := by
 intro is
 induction is with
 | nil => funext a w; simp [wpOpsIn, wpListIn]
 | cons i is ih =>
   funext a w
   cases h : ops[i]? with
   | none => simp only [wpOpsIn, h, List.filterMap_cons, ih]
   | some o => simp only [wpOpsIn, h, List.filterMap_cons, ih, wpListIn]
theorem region_orders {id : Nat} {l : List Oper} {a : Act} {w : World} (hm : P.follows .mixedOrders = true) (os : List (List Nat))
   (hos : lin .any l.toArray l.length (Array.replicate l.length false) = os)
   (h : ∀ o ∈ os, wpListIn F n P l.toArray Q (o.filterMap (fun i => l.toArray[i]?)) a w.drew) : (Code.region id l.toArray true).wpIn F n P Q a w :=
 wpIn_region_draw fun t => by
   simp only [Region.schedule, hm, Bool.true_or, if_true]
   show wpOpsIn F n P l.toArray Q (Region.linearise.go .any l.toArray l.toArray.size t (Array.replicate l.toArray.size false) []) a w.drew
   rw [wpOpsIn_list]
   refine h _ ?_
   rw [← hos]
   have := lin_sound .any l.toArray l.toArray.size t (Array.replicate l.toArray.size false)
   rw [List.size_toArray] at this ⊢
   exact this
end
section
variable {P : Program} {ops : Array Oper} {Q : Exit → Act → World → Prop}
theorem wpOps_list : ∀ (is : List Nat), wpOps P ops Q is = wpList P ops Q (is.filterMap (fun i => ops[i]?)) := by
 intro is
 induction is with
 | nil => funext a w; simp [wpOps, wpList]
 | cons i is ih =>
   funext a w
   cases h : ops[i]? with
   | none => simp only [wpOps, h, List.filterMap_cons, ih]
   | some o => simp only [wpOps, h, List.filterMap_cons, ih, wpList]
theorem wp_region_orders {id : Nat} {l : List Oper} {a : Act} {w : World} (hm : P.follows .mixedOrders = true) (os : List (List Nat))
   (hos : lin .any l.toArray l.length (Array.replicate l.length false) = os)
   (h : ∀ o ∈ os, wpList P l.toArray Q (o.filterMap (fun i => l.toArray[i]?)) a w.drew) : (Code.region id l.toArray true).wp P Q a w :=
 wp_region_draw fun t => by
   simp only [Region.schedule, hm, Bool.true_or, if_true]
   show wpOps P l.toArray Q (Region.linearise.go .any l.toArray l.toArray.size t (Array.replicate l.toArray.size false) []) a w.drew
   rw [wpOps_list]
   refine h _ ?_
   rw [← hos]
   have := lin_sound .any l.toArray l.toArray.size t (Array.replicate l.toArray.size false)
   rw [List.size_toArray] at this ⊢
   exact this
end
theorem region6x4 {F : Fence} {n : Nat} {P : Program} {Q : Exit → Act → World → Prop} {id : Nat} {o0 o1 o2 o3 o4 o5 : Oper} {a : Act} {w : World} (hm : P.follows .mixedOrders = true)
   (hos : lin .any [o0, o1, o2, o3, o4, o5].toArray 6 (Array.replicate 6 false) = [[0, 1, 2, 3, 4, 5], [1, 0, 2, 3, 4, 5], [1, 2, 0, 3, 4, 5], [1, 2, 3, 0, 4, 5]])
   (h0 : wpListIn F n P [o0, o1, o2, o3, o4, o5].toArray Q [o0, o1, o2, o3, o4, o5] a w.drew)
   (h1 : wpListIn F n P [o0, o1, o2, o3, o4, o5].toArray Q [o1, o0, o2, o3, o4, o5] a w.drew)
   (h2 : wpListIn F n P [o0, o1, o2, o3, o4, o5].toArray Q [o1, o2, o0, o3, o4, o5] a w.drew)
   (h3 : wpListIn F n P [o0, o1, o2, o3, o4, o5].toArray Q [o1, o2, o3, o0, o4, o5] a w.drew) : (Code.region id [o0, o1, o2, o3, o4, o5].toArray true).wpIn F n P Q a w := by
 refine region_orders hm _ hos ?_
 intro o ho
 simp only [List.mem_cons, List.not_mem_nil, or_false] at ho
 rcases ho with rfl | rfl | rfl | rfl
 · exact h0
 · exact h1
 · exact h2
 · exact h3
end
end Go.Proofs.YtkbhmglmbolbiaaGreatDoor
