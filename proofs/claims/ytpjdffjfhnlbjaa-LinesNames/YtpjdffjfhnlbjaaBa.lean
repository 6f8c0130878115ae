/- Package lines: lines, words, remarks of a list of bytes: plain facts. -/
import Derived.Lib.Bytealg
namespace Go.Proofs.Ytpjdffjfhnlbjaa
open Go.Lib

abbrev Bs := List UInt8

/-- A list cut at each byte for which p. -/
def spl (p : UInt8 → Bool) : Bs → List Bs
  | [] => [[]]
  | c :: r => if p c then [] :: spl p r else
      match spl p r with
      | [] => [[c]]
      | h :: t => (c :: h) :: t

theorem spl_ne (p : UInt8 → Bool) (l : Bs) : spl p l ≠ [] := by
  cases l with
  | nil => simp [spl]
  | cons c r =>
    rw [spl]
    split
    · simp
    · split <;> simp

theorem spl_none {p : UInt8 → Bool} {l : Bs} (h : ∀ c ∈ l, p c = false) : spl p l = [l] := by
  induction l with
  | nil => rfl
  | cons c r ih =>
    rw [spl, if_neg (by rw [h c (by simp)]; simp), ih (fun x hx => h x (by simp [hx]))]

theorem spl_app {p : UInt8 → Bool} {a r : Bs} {c : UInt8} (h : ∀ x ∈ a, p x = false) (hc : p c = true) : spl p (a ++ c :: r) = a :: spl p r := by
  induction a with
  | nil => rw [List.nil_append, spl, if_pos hc]
  | cons x a ih =>
    rw [List.cons_append, spl, if_neg (by rw [h x (by simp)]; simp), ih (fun y hy => h y (by simp [hy]))]

/-- Ahead of the first byte c; behind it; is there one? -/
def cutT (c : UInt8) (l : Bs) : Bs := l.takeWhile (fun x => x != c)
def cutD (c : UInt8) (l : Bs) : Bs := (l.dropWhile (fun x => x != c)).tail
def cutF (c : UInt8) (l : Bs) : Bool := decide (c ∈ l)

theorem cut_index (c : UInt8) : ∀ (l : Bs), (c ∉ l ∧ cutT c l = l ∧ cutD c l = [] ∧ indexByte l c = -1) ∨ ∃ i : Nat, indexByte l c = (i : Int) ∧ i < l.length ∧ cutT c l = l.take i ∧ cutD c l = l.drop (i + 1) ∧ c ∈ l := by
  intro l
  induction l with
  | nil => exact Or.inl ⟨by simp, rfl, rfl, rfl⟩
  | cons a r ih =>
    by_cases ha : a = c
    · subst ha
      exact Or.inr ⟨0, by rw [indexByte, if_pos (by simp)]; rfl, by simp, by simp [cutT], by simp [cutD], by simp⟩
    · have hb : ¬ ((a == c) = true) := by simpa using ha
      have hb2 : (a != c) = true := by simpa using ha
      rcases ih with ⟨e1, e2, e3, e4⟩ | ⟨i, e1, e2, e3, e4, e5⟩
      · refine Or.inl ⟨by simp [e1]; exact fun e => ha e.symm, ?_, ?_, ?_⟩
        · unfold cutT at e2 ⊢; rw [List.takeWhile_cons_of_pos (p := fun x => x != c) hb2, e2]
        · unfold cutD at e3 ⊢; rw [List.dropWhile_cons_of_pos (p := fun x => x != c) hb2, e3]
        · rw [indexByte, if_neg hb, if_pos (by rw [e4]; rfl)]
      · refine Or.inr ⟨i + 1, ?_, by simp; omega, ?_, ?_, by simp [e5]⟩
        · rw [indexByte, if_neg hb, e1, if_neg (by rw [beq_iff_eq]; omega)]
          omega
        · unfold cutT at e3 ⊢; rw [List.takeWhile_cons_of_pos (p := fun x => x != c) hb2, e3]; rfl
        · unfold cutD at e4 ⊢; rw [List.dropWhile_cons_of_pos (p := fun x => x != c) hb2, e4]; rfl

theorem cut_none {c : UInt8} {l : Bs} (h : c ∉ l) : cutT c l = l ∧ cutD c l = [] := by
  rcases cut_index c l with ⟨_, h1, h2, _⟩ | ⟨_, _, _, _, _, h5⟩
  · exact ⟨h1, h2⟩
  · exact absurd h5 h
theorem cutT_free {c : UInt8} {l : Bs} : ∀ x ∈ cutT c l, x ≠ c := by
  intro x hx
  unfold cutT at hx
  induction l with
  | nil => simp at hx
  | cons a r ih =>
    rw [List.takeWhile_cons] at hx
    split at hx
    · rename_i h
      rcases List.mem_cons.1 hx with e | e
      · subst e; simpa using h
      · exact ih e
    · simp at hx
theorem cut_some {c : UInt8} {l : Bs} (h : c ∈ l) : l = cutT c l ++ c :: cutD c l := by
  induction l with
  | nil => simp at h
  | cons a r ih =>
    by_cases ha : a = c
    · subst ha; simp [cutT, cutD]
    · have hb2 : (a != c) = true := by simpa using ha
      have hr : c ∈ r := by
        rcases List.mem_cons.1 h with e | e
        · exact absurd e.symm ha
        · exact e
      have := ih hr
      unfold cutT cutD at this ⊢
      rw [List.takeWhile_cons_of_pos (p := fun x => x != c) hb2, List.dropWhile_cons_of_pos (p := fun x => x != c) hb2, List.cons_append, ← this]
theorem cutT_app {c : UInt8} {a r : Bs} (h : ∀ x ∈ a, x ≠ c) : cutT c (a ++ c :: r) = a := by
  unfold cutT
  induction a with
  | nil => simp
  | cons x a ih =>
    rw [List.cons_append, List.takeWhile_cons_of_pos (p := fun x => x != c) (by simpa using h x (by simp)), ih (fun y hy => h y (by simp [hy]))]

theorem cutT_len (c : UInt8) (l : Bs) : (cutT c l).length ≤ l.length := by
  rcases cut_index c l with ⟨_, h1, _, _⟩ | ⟨i, _, _, h3, _, _⟩
  · rw [h1]; exact Nat.le_refl _
  · rw [h3, List.length_take]; omega
theorem cutD_len (c : UInt8) (l : Bs) : (cutD c l).length ≤ l.length := by
  rcases cut_index c l with ⟨_, _, h2, _⟩ | ⟨i, _, _, _, h4, _⟩
  · rw [h2]; simp
  · rw [h4, List.length_drop]; omega

/-- A text's lines. -/
def lns (l : Bs) : List Bs := spl (fun x => x == 10) l
theorem lns_none {l : Bs} (h : (10 : UInt8) ∉ l) : lns l = [l] := spl_none fun c hc => by
  by_cases e : c = 10
  · exact absurd (e ▸ hc) h
  · simpa using e
theorem lns_app {a r : Bs} (h : ∀ x ∈ a, x ≠ 10) : lns (a ++ 10 :: r) = a :: lns r := spl_app (fun x hx => by simpa using h x hx) rfl
theorem lns_cut {l : Bs} (h : (10 : UInt8) ∈ l) : lns l = cutT 10 l :: lns (cutD 10 l) := by
  have e := cut_some h
  have := lns_app (a := cutT 10 l) (r := cutD 10 l) cutT_free
  rwa [← e] at this

def bl (c : UInt8) : Bool := c.toNat == 32 || c.toNat == 9 || c.toNat == 13
def gd (c : UInt8) : Bool := decide (33 ≤ c.toNat) && decide (c.toNat ≤ 126) && !(c.toNat == 35)
/-- What stands between blanks. -/
def toks (l : Bs) : List Bs := (spl bl l).filter (fun w => !w.isEmpty)
def one (a : Bs) : List Bs := if a.isEmpty then [] else [a]
theorem toks_none {l : Bs} (h : ∀ c ∈ l, bl c = false) : toks l = one l := by
  unfold toks one
  rw [spl_none h]
  cases l <;> simp
theorem toks_app {a r : Bs} {c : UInt8} (h : ∀ x ∈ a, bl x = false) (hc : bl c = true) : toks (a ++ c :: r) = one a ++ toks r := by
  unfold toks one
  rw [spl_app h hc]
  cases a <;> simp
theorem toks_cons {r : Bs} {c : UInt8} (hc : bl c = true) : toks (c :: r) = toks r := toks_app (a := []) (fun _ h => by simp at h) hc
theorem spl_word {p : UInt8 → Bool} : ∀ {l : Bs} {x : Bs}, x ∈ spl p l → (∀ c ∈ x, p c = false) ∧ x.length ≤ l.length ∧ ∀ c ∈ x, c ∈ l := by
  intro l
  induction l with
  | nil => intro x hx; simp [spl] at hx; subst hx; simp
  | cons a r ih =>
    intro x hx
    rw [spl] at hx
    by_cases hp : p a = true
    · rw [if_pos hp] at hx
      rcases List.mem_cons.1 hx with e | e
      · subst e; simp
      · have := ih e; exact ⟨this.1, by simp; omega, fun c hc => by simp [this.2.2 c hc]⟩
    · rw [if_neg hp] at hx
      split at hx
      · rename_i e; exact absurd e (spl_ne _ _)
      · rename_i h t e
        rcases List.mem_cons.1 hx with e2 | e2
        · have := ih (x := h) (by rw [e]; simp)
          subst e2
          refine ⟨fun c hc => ?_, by simp; omega, fun c hc => ?_⟩
          · rcases List.mem_cons.1 hc with e3 | e3
            · subst e3; simpa using hp
            · exact this.1 c e3
          · rcases List.mem_cons.1 hc with e3 | e3
            · simp [e3]
            · simp [this.2.2 c e3]
        · have := ih (x := x) (by rw [e]; simp [e2])
          exact ⟨this.1, by simp; omega, fun c hc => by simp [this.2.2 c hc]⟩
theorem toks_word {l x : Bs} (h : x ∈ toks l) : x ≠ [] ∧ (∀ c ∈ x, bl c = false) ∧ x.length ≤ l.length ∧ ∀ c ∈ x, c ∈ l := by
  unfold toks at h
  rw [List.mem_filter] at h
  exact ⟨by simpa using h.2, spl_word h.1⟩
theorem spl_len (p : UInt8 → Bool) : ∀ l : Bs, (spl p l).length ≤ l.length + 1 := by
  intro l
  induction l with
  | nil => simp [spl]
  | cons a r ih =>
    rw [spl]
    split
    · simp; omega
    · split
      · simp
      · rename_i e; rw [e] at ih; simp at ih ⊢; omega
theorem toks_len (l : Bs) : (toks l).length ≤ l.length + 1 := Nat.le_trans (List.length_filter_le _ _) (spl_len _ _)

/-- Ahead of the remark. -/
def ahd (l : Bs) : Bs := cutT 35 l
def lineW (l : Bs) : List Bs := toks (ahd l)
/-- May a word be? -/
def mayW (w : Bs) : Bool := !w.isEmpty && decide (w.length ≤ 400) && w.all gd
def lineE (l : Bs) : Nat := if 65536 < l.length then 3 else if (lineW l).all mayW then 0 else 4
/-- The first line that may not be, with its error. -/
def bad : Nat → List Bs → Option (Nat × Nat)
  | _, [] => none
  | n, l :: r => if lineE l = 0 then bad (n + 1) r else some (n, lineE l)
/-- The lines with words. -/
def good : Nat → List Bs → List (Nat × List Bs)
  | _, [] => []
  | n, l :: r => (if (lineW l).isEmpty then [] else [(n, lineW l)]) ++ good (n + 1) r
theorem bad_app {a b : List Bs} : ∀ {n : Nat}, bad n a = none → bad n (a ++ b) = bad (n + a.length) b := by
  induction a with
  | nil => intro n _; rfl
  | cons l r ih =>
    intro n h
    rw [bad] at h
    by_cases e : lineE l = 0
    · rw [if_pos e] at h
      rw [List.cons_append, bad, if_pos e, ih h]
      congr 1; simp; omega
    · rw [if_neg e] at h; cases h
theorem good_app {a b : List Bs} : ∀ {n : Nat}, good n (a ++ b) = good n a ++ good (n + a.length) b := by
  induction a with
  | nil => intro n; rfl
  | cons l r ih =>
    intro n
    rw [List.cons_append, good, good, ih, List.append_assoc]
    congr 2; congr 1; simp; omega
theorem good_len : ∀ (a : List Bs) (n : Nat), (good n a).length ≤ a.length := by
  intro a
  induction a with
  | nil => intro n; simp [good]
  | cons l r ih =>
    intro n
    rw [good, List.length_append]
    have := ih (n + 1)
    split <;> simp <;> omega
/-- What Read tells: the lines, at, the error. -/
def rdV (l : Bs) : List (Nat × List Bs) × Nat × Nat :=
  if 16777216 < l.length then ([], 0, 3) else
  match bad 1 (lns l) with
  | some (n, e) => ([], n, e)
  | none => (good 1 (lns l), 0, 0)
theorem lineE_cases (l : Bs) : lineE l = 0 ∨ lineE l = 3 ∨ lineE l = 4 := by
  unfold lineE
  split
  · simp
  · split <;> simp
theorem lineE_zero {l : Bs} : lineE l = 0 ↔ l.length ≤ 65536 ∧ (lineW l).all mayW = true := by
  unfold lineE
  split
  · constructor
    · intro h; cases h
    · intro h; omega
  · split
    · rename_i h1 h2; simp [h2]; omega
    · rename_i h1 h2; simp [h2]
end Go.Proofs.Ytpjdffjfhnlbjaa
