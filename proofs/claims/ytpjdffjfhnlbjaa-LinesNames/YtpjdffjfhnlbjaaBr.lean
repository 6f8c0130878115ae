/- What is written is read: plain facts. -/
import Derived.Test.YtpjdffjfhnlbjaaBk
namespace Go.Proofs.Ytpjdffjfhnlbjaa
open Go.RowKit Go.Shelf Go.Lib

theorem jn_cons2 (x y : Bs) (r : List Bs) : jn (x :: y :: r) = x ++ 32 :: jn (y :: r) := by
  unfold jn
  rw [join_cons, join_cons]
  simp [joinTail]
theorem jn_one (x : Bs) : jn [x] = x := join_one x [32]
theorem may_gd {x : Bs} (h : mayW x = true) : x ≠ [] ∧ ∀ c ∈ x, gd c = true := by
  unfold mayW at h
  rw [Bool.and_eq_true, Bool.and_eq_true, List.all_eq_true] at h
  exact ⟨by simpa using h.1.1, h.2⟩
theorem jn_chars : ∀ {ws : List Bs}, (∀ x ∈ ws, mayW x = true) → ∀ c ∈ jn ws, gd c = true ∨ c = 32 := by
  intro ws
  induction ws with
  | nil => intro _ c hc; simp [jn, join_nil] at hc
  | cons x r ih =>
    intro h c hc
    cases r with
    | nil => rw [jn_one] at hc; exact Or.inl ((may_gd (h x (by simp))).2 c hc)
    | cons y r =>
      rw [jn_cons2] at hc
      rcases List.mem_append.1 hc with e | e
      · exact Or.inl ((may_gd (h x (by simp))).2 c e)
      · rcases List.mem_cons.1 e with e | e
        · exact Or.inr e
        · exact ih (fun z hz => h z (by simp [hz])) c e
theorem gd_ne10 {c : UInt8} (h : gd c = true ∨ c = 32) : c ≠ 10 ∧ c ≠ 35 := by
  rcases h with h | rfl
  · refine ⟨fun e => ?_, (gd_ne h).1⟩
    rw [e] at h; exact absurd h (by decide)
  · decide
theorem toks_jn : ∀ {ws : List Bs}, (∀ x ∈ ws, mayW x = true) → toks (jn ws) = ws := by
  intro ws
  induction ws with
  | nil => intro _; rfl
  | cons x r ih =>
    intro h
    have hx := may_gd (h x (by simp))
    have hb : ∀ c ∈ x, bl c = false := fun c hc => (gd_ne (hx.2 c hc)).2
    cases r with
    | nil => rw [jn_one, toks_none hb, one_ne hx.1]
    | cons y r =>
      rw [jn_cons2, toks_app hb (by decide), one_ne hx.1, ih (fun z hz => h z (by simp [hz]))]
      rfl
theorem lineW_jn {ws : List Bs} (h : ∀ x ∈ ws, mayW x = true) : lineW (jn ws) = ws := by
  unfold lineW ahd
  rw [(cut_none (fun hc => (gd_ne10 (jn_chars h _ hc)).2 rfl)).1, toks_jn h]
theorem lineE_jn {ws : List Bs} (h : ∀ x ∈ ws, mayW x = true) (hl : (jn ws).length ≤ 65536) : lineE (jn ws) = 0 := by
  rw [lineE_zero, lineW_jn h]
  exact ⟨hl, List.all_eq_true.2 h⟩
theorem lns_wrT : ∀ {L : List (List Bs)}, (∀ ws ∈ L, okL ws = true) → lns (wrT L) = L.map jn ++ [[]] := by
  intro L
  induction L with
  | nil => intro _; rfl
  | cons ws r ih =>
    intro h
    have e : wrT (ws :: r) = jn ws ++ 10 :: wrT r := by simp [wrT]
    rw [e, lns_app (fun c hc => (gd_ne10 (jn_chars (ok_may (h ws (by simp))).2 c hc)).1), ih (fun z hz => h z (by simp [hz]))]
    rfl
/-- Lines numbered one by one. -/
def nums : Nat → List (List Bs) → List (Nat × List Bs)
  | _, [] => []
  | n, ws :: r => (n, ws) :: nums (n + 1) r
theorem nums_len : ∀ (L : List (List Bs)) (n : Nat), (nums n L).length = L.length := by
  intro L
  induction L with
  | nil => intro n; rfl
  | cons a r ih => intro n; simp [nums, ih]
theorem nums_at : ∀ (L : List (List Bs)) (n k : Nat) (h : k < L.length) (h2 : k < (nums n L).length), (nums n L)[k] = (n + k, L[k]) := by
  intro L
  induction L with
  | nil => intro n k h; simp at h
  | cons a r ih =>
    intro n k h h2
    cases k with
    | zero => rfl
    | succ k =>
      have := ih (n + 1) k (by simpa using h) (by simpa [nums] using h2)
      simp only [nums, List.getElem_cons_succ, this]
      rw [show n + 1 + k = n + (k + 1) by omega]
theorem empty_line : lineE [] = 0 ∧ lineW [] = [] := by decide
theorem rd_wrT_aux : ∀ {L : List (List Bs)} (n : Nat), (∀ ws ∈ L, okL ws = true ∧ (jn ws).length ≤ 65536) → bad n (L.map jn ++ [[]]) = none ∧ good n (L.map jn ++ [[]]) = nums n L := by
  intro L
  induction L with
  | nil => intro n _; exact ⟨by simp [bad, empty_line], by simp [good, empty_line, nums]⟩
  | cons ws r ih =>
    intro n h
    have hw := h ws (by simp)
    have hm := ok_may hw.1
    have := ih (n + 1) (fun z hz => h z (by simp [hz]))
    refine ⟨?_, ?_⟩
    · rw [List.map_cons, List.cons_append, bad, if_pos (lineE_jn hm.2 hw.2)]; exact this.1
    · rw [List.map_cons, List.cons_append, good, this.2, lineW_jn hm.2]
      cases ws with
      | nil => exact absurd rfl hm.1
      | cons x y => rfl
theorem fits_parts {L : List (List Bs)} (h : fits L = true) : (∀ ws ∈ L, (jn ws).length ≤ 65536) ∧ (wrT L).length ≤ 16777216 := by
  unfold fits at h
  rw [Bool.and_eq_true, List.all_eq_true] at h
  exact ⟨fun ws hw => by simpa using h.1 ws hw, by simpa using h.2⟩
/-- What is written is read. -/
theorem rd_wr {L : List (List Bs)} (ho : L.all okL = true) (hf : fits L = true) : rdV (wrT L) = (nums 1 L, 0, 0) := by
  rw [List.all_eq_true] at ho
  have hp := fits_parts hf
  have := rd_wrT_aux (L := L) 1 (fun ws hw => ⟨ho ws hw, hp.1 ws hw⟩)
  rw [← lns_wrT ho] at this
  rw [rdV_good hp.2 this.1, this.2]
/-- What is read may be written. -/
def wts (l : List Bs) : Nat := (l.map fun x => x.length + 1).sum
theorem spl_wts (p : UInt8 → Bool) : ∀ l : Bs, wts (spl p l) = l.length + 1 := by
  intro l
  induction l with
  | nil => rfl
  | cons a r ih =>
    rw [spl]
    split
    · simp only [wts, List.map_cons, List.sum_cons] at ih ⊢
      rw [ih]; simp; omega
    · split
      · rename_i e; exact absurd e (spl_ne _ _)
      · rename_i e
        rw [e] at ih
        simp only [wts, List.map_cons, List.sum_cons, List.length_cons] at ih ⊢
        omega
theorem filter_wts (q : Bs → Bool) : ∀ l : List Bs, wts (l.filter q) ≤ wts l := by
  intro l
  induction l with
  | nil => exact Nat.le_refl _
  | cons a r ih =>
    rw [List.filter_cons]
    split
    · simp only [wts, List.map_cons, List.sum_cons] at ih ⊢; omega
    · simp only [wts, List.map_cons, List.sum_cons] at ih ⊢; omega
theorem jn_wts : ∀ {ws : List Bs}, ws ≠ [] → (jn ws).length + 1 = wts ws := by
  intro ws
  induction ws with
  | nil => intro h; exact absurd rfl h
  | cons x r ih =>
    intro _
    cases r with
    | nil => rw [jn_one]; simp [wts]
    | cons y r =>
      have := ih (by simp)
      rw [jn_cons2, List.length_append, List.length_cons]
      simp only [wts, List.map_cons, List.sum_cons] at this ⊢
      omega
theorem jn_lineW (l : Bs) : (jn (lineW l)).length ≤ l.length := by
  by_cases h : lineW l = []
  · rw [h]; simp [jn, join_nil]
  · have h1 := jn_wts h
    have h2 : wts (lineW l) ≤ wts (spl bl (ahd l)) := filter_wts _ _
    rw [spl_wts] at h2
    have h3 : (ahd l).length ≤ l.length := cutT_len _ _
    omega
theorem good_fits : ∀ (ls : List Bs) (n : Nat), bad n ls = none → (∀ p ∈ good n ls, okL p.2 = true ∧ (jn p.2).length ≤ 65536) ∧ (wrT ((good n ls).map (·.2))).length ≤ wts ls := by
  intro ls
  induction ls with
  | nil => intro n _; exact ⟨fun p hp => by simp [good] at hp, by simp [good, wrT]⟩
  | cons l r ih =>
    intro n h
    rw [bad] at h
    by_cases he : lineE l = 0
    · rw [if_pos he] at h
      have hz := lineE_zero.1 he
      have hi := ih (n + 1) h
      rw [good]
      by_cases h0 : (lineW l).isEmpty = true
      · rw [if_pos h0, List.nil_append]
        refine ⟨hi.1, ?_⟩
        simp only [wts, List.map_cons, List.sum_cons] at hi ⊢
        omega
      · rw [if_neg h0]
        have hj := jn_lineW l
        refine ⟨fun p hp => ?_, ?_⟩
        · rcases List.mem_append.1 hp with e | e
          · rw [List.mem_singleton.1 e]
            refine ⟨?_, by show (jn (lineW l)).length ≤ 65536; omega⟩
            unfold okL
            rw [hz.2]; simpa using h0
          · exact hi.1 p e
        · rw [List.map_append, show wrT ((([(n, lineW l)] : List (Nat × List Bs)).map (·.2)) ++ (good (n + 1) r).map (·.2)) = (jn (lineW l) ++ [10]) ++ wrT ((good (n + 1) r).map (·.2)) by simp [wrT]]
          have := hi.2
          simp only [wts, List.map_cons, List.sum_cons, List.length_append, List.length_singleton] at this ⊢
          omega
    · rw [if_neg he] at h; cases h
theorem rd_fits {t : Bs} (ht : t.length ≤ 16777215) (he : (rdV t).2.2 = 0) : ((rdV t).1.map (·.2)).all okL = true ∧ fits ((rdV t).1.map (·.2)) = true := by
  have key : bad 1 (lns t) = none := by
    cases hb : bad 1 (lns t) with
    | none => rfl
    | some p =>
      obtain ⟨n, e⟩ := p
      rw [rdV_bad (by omega) hb] at he
      exfalso
      have : ∀ (ls : List Bs) (m : Nat), bad m ls = some (n, e) → e ≠ 0 := by
        intro ls
        induction ls with
        | nil => intro m h; cases h
        | cons l r ih =>
          intro m h
          rw [bad] at h
          split at h
          · exact ih _ h
          · rename_i hne
            cases h
            exact hne
      exact this _ _ hb he
  rw [rdV_good (by omega) key]
  have hg := good_fits (lns t) 1 key
  have hw : wts (lns t) = t.length + 1 := spl_wts _ _
  refine ⟨?_, ?_⟩
  · rw [List.all_eq_true]
    intro x hx
    obtain ⟨p, hp, rfl⟩ := List.mem_map.1 hx
    exact (hg.1 p hp).1
  · refine fits_yes (fun k hk => ?_) (by rw [hw] at hg; exact Nat.le_trans hg.2 (by omega))
    have hm := List.getElem_mem hk
    obtain ⟨p, hp, e⟩ := List.mem_map.1 hm
    rw [← e]
    exact (hg.1 p hp).2
theorem rd_err {t : Bs} (he : (rdV t).2.2 ≠ 0) : (rdV t).1 = [] := by
  unfold rdV at he ⊢
  split
  · rfl
  · rename_i h
    rw [if_neg h] at he
    split
    · rfl
    · rename_i h2
      rw [h2] at he
      exact absurd rfl he
end Go.Proofs.Ytpjdffjfhnlbjaa
