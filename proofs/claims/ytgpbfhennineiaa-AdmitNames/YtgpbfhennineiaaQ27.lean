/- Own texts, put together: Oh Aa Ab Ac Ad Oi Oj Cn Ss. -/
import Derived.Test.YtgpbfhennineiaaQ3
import Derived.Test.YtgpbfhennineiaaQ4
import Derived.Test.YtgpbfhennineiaaQ23
import Derived.Test.YtgpbfhennineiaaQ26
import Derived.Sort.Grow
import Derived.Laws.StructEq
import Derived.ProofKit
import Derived.OpenShut
import Derived.Laws.Cover2
import Derived.ChangeOld
import Derived.Below
import Derived.Carry
import Derived.Deep.SlicePairs
namespace Go.Proofs.Ytgpbfhennineiaa
/- Package orient: On, Cross. -/
section
open Go.RowKit Go.Shelf
attribute [local go_sem ↓] Go.wp_at_zero Go.wp_at_succ
attribute [local go_sem] run_store_float
def Btw (a b x : Rat) : Prop := (a ≤ x ∧ x ≤ b) ∨ (b ≤ x ∧ x ≤ a)
def OnP (ax ay bx by' px py : Nat) : Prop := P3 ax ay bx by' px py ∧ Btw (fval ax) (fval bx) (fval px) ∧ Btw (fval ay) (fval by') (fval py) ∧ S3 ax ay bx by' px py = 0
theorem sgq_zero {q : Rat} : sgq q = 0 ↔ q = 0 := by
 unfold sgq
 constructor
 · intro h
   split at h
   · omega
   · split at h
     · assumption
     · omega
 · intro h
   rw [h]; rfl
end

/- Points in their order, twins, what is unlike, flat lists: plain facts. -/
section
def hold (p q : Nat × Nat) : Int := if fval p.1 < fval q.1 then -1 else if fval q.1 < fval p.1 then 1 else if fval p.2 < fval q.2 then -1 else if fval q.2 < fval p.2 then 1 else 0
def alike (p q : Nat × Nat) : Prop := fval p.1 = fval q.1 ∧ fval p.2 = fval q.2
instance (p q : Nat × Nat) : Decidable (alike p q) := by unfold alike; exact inferInstance
theorem hold_zero {p q : Nat × Nat} : hold p q = 0 ↔ alike p q := by
 unfold hold alike
 split
 · grind
 split
 · grind
 split
 · grind
 split
 · grind
 · constructor
   · intro _; grind
   · intro _; rfl
theorem hold_neg {p q : Nat × Nat} : hold p q < 0 ↔ (fval p.1 < fval q.1 ∨ (fval p.1 = fval q.1 ∧ fval p.2 < fval q.2)) := by
 unfold hold
 split
 · exact ⟨fun _ => Or.inl (by assumption), fun _ => by decide⟩
 split
 · exact ⟨fun h => absurd h (by decide), fun h => by grind⟩
 split
 · exact ⟨fun _ => Or.inr (by grind), fun _ => by decide⟩
 split
 · exact ⟨fun h => absurd h (by decide), fun h => by grind⟩
 · exact ⟨fun h => absurd h (by decide), fun h => by grind⟩
theorem hold_anti (p q : Nat × Nat) : hold q p = - hold p q := by
 unfold hold
 by_cases h1 : fval p.1 < fval q.1
 · have h2 : ¬ fval q.1 < fval p.1 := by grind
   simp [h1, h2]
 · by_cases h2 : fval q.1 < fval p.1
   · simp [h1, h2]
   · by_cases h3 : fval p.2 < fval q.2
     · have h4 : ¬ fval q.2 < fval p.2 := by grind
       simp [h1, h2, h3, h4]
     · by_cases h4 : fval q.2 < fval p.2 <;> simp [h1, h2, h3, h4]
theorem hold_vals (p q : Nat × Nat) : hold p q = -1 ∨ hold p q = 0 ∨ hold p q = 1 := by
 unfold hold
 split
 · exact Or.inl rfl
 split
 · exact Or.inr (Or.inr rfl)
 split
 · exact Or.inl rfl
 split
 · exact Or.inr (Or.inr rfl)
 · exact Or.inr (Or.inl rfl)
theorem hold_self (p : Nat × Nat) : hold p p = 0 := hold_zero.2 ⟨rfl, rfl⟩
theorem alike_symm' {p q : Nat × Nat} (h : alike p q) : alike q p := ⟨h.1.symm, h.2.symm⟩
theorem alike_trans' {p q r : Nat × Nat} (h : alike p q) (h' : alike q r) : alike p r := ⟨h.1.trans h'.1, h.2.trans h'.2⟩
theorem hold_le_lt {p q r : Nat × Nat} (h : hold p q ≤ 0) (h' : hold q r < 0) : hold p r < 0 := by
 rw [hold_neg] at *
 rcases Int.lt_or_eq_of_le h with h | h
 · rw [hold_neg] at h; grind
 · rw [hold_zero] at h; unfold alike at h; grind
theorem hold_lt_le {p q r : Nat × Nat} (h : hold p q < 0) (h' : hold q r ≤ 0) : hold p r < 0 := by
 rw [hold_neg] at *
 rcases Int.lt_or_eq_of_le h' with h' | h'
 · rw [hold_neg] at h'; grind
 · rw [hold_zero] at h'; unfold alike at h'; grind
variable (f : Nat → Nat × Nat)
def ltO (i j : Nat) : Prop := hold (f i) (f j) < 0 ∨ (hold (f i) (f j) = 0 ∧ i < j)
def cfO (i j : Nat) : Int := if hold (f i) (f j) ≠ 0 then hold (f i) (f j) else if i < j then -1 else if j < i then 1 else 0
variable {f}
theorem cfO_neg {i j : Nat} : cfO f i j < 0 ↔ ltO f i j := by
 unfold cfO ltO
 by_cases h : hold (f i) (f j) = 0
 · rw [if_neg (by simp [h]), h]
   by_cases h1 : i < j
   · simp [h1]
   · by_cases h2 : j < i <;> simp [h1, h2]
 · rw [if_pos h]
   simp [h]
theorem ltO_irrefl (i : Nat) : ¬ ltO f i i := by
 unfold ltO
 rw [hold_self]
 simp
theorem ltO_trans {i j k : Nat} (h : ltO f i j) (h' : ltO f j k) : ltO f i k := by
 unfold ltO at *
 rcases h with h | ⟨h, h1⟩ <;> rcases h' with h' | ⟨h', h2⟩
 · exact Or.inl (hold_le_lt (by omega) h')
 · exact Or.inl (hold_lt_le h (by omega))
 · exact Or.inl (hold_le_lt (by omega) h')
 · exact Or.inr ⟨hold_zero.2 (alike_trans' (hold_zero.1 h) (hold_zero.1 h')), by omega⟩
theorem ltO_total {i j : Nat} (h : i ≠ j) : ltO f i j ∨ ltO f j i := by
 unfold ltO
 have e := hold_anti (f i) (f j)
 have := hold_vals (f i) (f j)
 omega
theorem ltO_asymm {i j : Nat} (h : ltO f i j) : ¬ ltO f j i := fun h' => ltO_irrefl i (ltO_trans h h')
variable (f)
structure Ord (n : Nat) (os : List Nat) : Prop where
 perm : os.Perm (List.range n)
 pw : os.Pairwise (ltO f)
variable {f}
theorem Ord.uniq {n : Nat} {a b : List Nat} (h : Ord f n a) (h' : Ord f n b) : a = b :=
 List.Perm.eq_of_pairwise (le := ltO f) (fun _ _ _ _ h1 h2 => absurd h2 (ltO_asymm h1)) h.pw h'.pw (h.perm.trans h'.perm.symm)
theorem Ord.len {n : Nat} {a : List Nat} (h : Ord f n a) : a.length = n := by rw [h.perm.length_eq, List.length_range]
theorem Ord.mem {n : Nat} {a : List Nat} (h : Ord f n a) {i : Nat} : i ∈ a ↔ i < n := by rw [h.perm.mem_iff, List.mem_range]
theorem Ord.lt {n : Nat} {a : List Nat} (h : Ord f n a) {k : Nat} (hk : k < a.length) : a[k] < n := h.mem.1 (List.getElem_mem hk)
structure IsTw (f : Nat → Nat × Nat) (i k : Nat) : Prop where
 le : k ≤ i
 al : alike (f k) (f i)
 least : ∀ j, j < k → ¬ alike (f j) (f i)
theorem IsTw.uniq {i k k' : Nat} (h : IsTw f i k) (h' : IsTw f i k') : k = k' := by
 rcases Nat.lt_trichotomy k k' with e | e | e
 · exact absurd h.al (h'.least _ e)
 · exact e
 · exact absurd h'.al (h.least _ e)
def tw (f : Nat → Nat × Nat) (i : Nat) : Nat := ((List.range i).find? fun k => decide (alike (f k) (f i))).getD i
theorem range_find {p : Nat → Bool} {n k : Nat} (h : (List.range n).find? p = some k) : k < n ∧ p k = true ∧ ∀ j, j < k → p j = false := by
 rw [List.find?_range_eq_some] at h
 exact ⟨by have := h.2.1; simpa using this, h.1, fun j hj => by have := h.2.2 j hj; simpa using this⟩
theorem tw_is (i : Nat) : IsTw f i (tw f i) := by
 unfold tw
 cases h : (List.range i).find? fun k => decide (alike (f k) (f i)) with
 | none =>
   rw [List.find?_range_eq_none] at h
   exact ⟨Nat.le_refl _, ⟨rfl, rfl⟩, fun j hj => by have := h j hj; simpa using this⟩
 | some k =>
   obtain ⟨h1, h2, h3⟩ := range_find h
   exact ⟨Nat.le_of_lt h1, of_decide_eq_true h2, fun j hj => of_decide_eq_false (h3 j hj)⟩
theorem tw_own {i : Nat} : tw f i = i ↔ ∀ j, j < i → ¬ alike (f j) (f i) := by
 constructor
 · intro h j hj
   exact (tw_is (f := f) i).least j (by rw [h]; exact hj)
 · intro h
   exact (tw_is i).uniq ⟨Nat.le_refl _, ⟨rfl, rfl⟩, h⟩
theorem tw_tw (i : Nat) : tw f (tw f i) = tw f i := by
 rw [tw_own]
 intro j hj h
 exact (tw_is (f := f) i).least j hj (alike_trans' h (tw_is i).al)
theorem tw_iff (i k : Nat) : tw f i = tw f k ↔ alike (f i) (f k) := by
 constructor
 · intro h
   have h1 := (tw_is (f := f) i).al
   rw [h] at h1
   exact alike_trans' (alike_symm' h1) (tw_is k).al
 · intro h
   have h1 := tw_is (f := f) i
   have h2 := tw_is (f := f) k
   rcases Nat.lt_trichotomy (tw f i) (tw f k) with e | e | e
   · exact absurd (alike_trans' h1.al h) (h2.least _ e)
   · exact e
   · exact absurd (alike_trans' h2.al (alike_symm' h)) (h1.least _ e)
def cptA (eq : Nat → Nat → Bool) : Nat → List Nat → List Nat
 | _, [] => []
 | p, x :: r => if eq x p then cptA eq x r else x :: cptA eq x r
def cpt (eq : Nat → Nat → Bool) : List Nat → List Nat
 | [] => []
 | x :: r => x :: cptA eq x r
def akO (f : Nat → Nat × Nat) (i j : Nat) : Bool := decide (alike (f i) (f j))
theorem own_step {n : Nat} {pre r : List Nat} {x y : Nat} (h : Ord f n (pre ++ x :: y :: r)) : (tw f y = y) ↔ akO f y x = false := by
 have hp := h.pw
 rw [List.pairwise_append, List.pairwise_cons, List.pairwise_cons] at hp
 obtain ⟨_, ⟨hx, hy, _⟩, hpre⟩ := hp
 have hxy := hx y (by simp)
 have hyn : y < n := h.mem.1 (by simp)
 unfold akO
 rw [tw_own, decide_eq_false_iff_not]
 constructor
 · intro h1 h2
   rcases hxy with e | ⟨_, e⟩
   · rw [hold_zero.2 (alike_symm' h2)] at e; omega
   · exact h1 x e (alike_symm' h2)
 · intro h1 j hj h2
   have hm : j ∈ pre ++ x :: y :: r := h.mem.2 (by omega)
   have hl : ltO f j y := Or.inr ⟨hold_zero.2 h2, hj⟩
   simp only [List.mem_append, List.mem_cons] at hm
   rcases hm with e | e | e | e
   · have h3 := hpre j e x (by simp)
     have h4 : hold (f j) (f x) ≤ 0 := by rcases h3 with a | ⟨a, _⟩ <;> omega
     rcases hxy with a | ⟨a, _⟩
     · have := hold_le_lt h4 a
       rw [hold_zero.2 h2] at this; omega
     · exact h1 (alike_symm' (hold_zero.1 a))
   · subst e; exact h1 (alike_symm' h2)
   · omega
   · exact ltO_asymm hl (hy j e)
theorem cptA_own {n : Nat} (r : List Nat) : ∀ (pre : List Nat) (x : Nat), Ord f n (pre ++ x :: r) → cptA (akO f) x r = r.filter fun i => decide (tw f i = i) := by
 induction r with
 | nil => intro _ _ _; rfl
 | cons y r ih =>
   intro pre x h
   have h1 := own_step h
   have h2 := ih (pre ++ [x]) y (by simpa using h)
   rw [cptA, List.filter_cons, h2]
   cases e : akO f y x with
   | false => rw [e] at h1; simp [h1]
   | true => rw [e] at h1; simp [h1]
theorem cpt_own {n : Nat} {os : List Nat} (h : Ord f n os) : cpt (akO f) os = os.filter fun i => decide (tw f i = i) := by
 cases os with
 | nil => rfl
 | cons x r =>
   have hx : tw f x = x := by
     rw [tw_own]
     intro j hj h2
     have hxn : x < n := h.mem.1 (by simp)
     have hm : j ∈ x :: r := h.mem.2 (by omega)
     have hl : ltO f j x := Or.inr ⟨hold_zero.2 h2, hj⟩
     rw [List.mem_cons] at hm
     rcases hm with e | e
     · omega
     · exact ltO_asymm hl (List.rel_of_pairwise_cons h.pw e)
   rw [cpt, cptA_own r [] x h, List.filter_cons]
   simp [hx]
def S3p (p q r : Nat × Nat) : Rat := S3 p.1 p.2 q.1 q.2 r.1 r.2
theorem line3 {a b p q r : Nat × Nat} (h : ¬ alike a b) (hp : S3p a b p = 0) (hq : S3p a b q = 0) (hr : S3p a b r = 0) : S3p p q r = 0 := by
 unfold S3p S3 alike at *
 generalize fval a.1 = a1 at *; generalize fval a.2 = a2 at *
 generalize fval b.1 = b1 at *; generalize fval b.2 = b2 at *
 generalize fval p.1 = p1 at *; generalize fval p.2 = p2 at *
 generalize fval q.1 = q1 at *; generalize fval q.2 = q2 at *
 generalize fval r.1 = r1 at *; generalize fval r.2 = r2 at *
 by_cases e : a1 = b1
 · have e2 : b2 - a2 ≠ 0 := by intro h2; exact h ⟨e, by grind⟩
   have k : (b2 - a2) * ((q1 - p1) * (r2 - p2) - (q2 - p2) * (r1 - p1)) = 0 := by grind
   rcases Rat.mul_eq_zero.1 k with k | k
   · exact absurd k e2
   · exact k
 · have e2 : b1 - a1 ≠ 0 := by intro h2; exact e (by grind)
   have k : (b1 - a1) * ((q1 - p1) * (r2 - p2) - (q2 - p2) * (r1 - p1)) = 0 := by grind
   rcases Rat.mul_eq_zero.1 k with k | k
   · exact absurd k e2
   · exact k
theorem line_alike {a b p : Nat × Nat} (h : alike a p) : S3p a b p = 0 := by
 unfold S3p S3
 obtain ⟨h1, h2⟩ := h
 rw [h1, h2]; grind
def FlatP (f : Nat → Nat × Nat) (n : Nat) : Prop := ∀ i j k, i < n → j < n → k < n → S3p (f i) (f j) (f k) = 0
theorem flat_alike {n : Nat} (h : ∀ j, j < n → alike (f 0) (f j)) : FlatP f n := fun i j k hi hj hk => by
 have h1 := h i hi
 have h2 := h j hj
 have h3 := h k hk
 unfold S3p S3
 rw [← h1.1, ← h1.2, ← h2.1, ← h2.2, ← h3.1, ← h3.2]; grind
theorem flat_line {n s t : Nat} (ht : t < n) (hs : s < n) (h : ¬ alike (f t) (f s)) : FlatP f n ↔ ∀ k, k < n → S3p (f t) (f s) (f k) = 0 :=
 ⟨fun H k hk => H t s k ht hs hk, fun H i j k hi hj hk => line3 h (H i hi) (H j hj) (H k hk)⟩
end

/- Package admit: which points and lists may be. -/
section
open Go.RowKit Go.Shelf
attribute [local go_sem ↓] Go.wp_at_zero Go.wp_at_succ
attribute [local go_sem] run_store_float
def WdP (p : Nat × Nat) : Prop := p.1 < 18446744073709551616 ∧ p.2 < 18446744073709551616
abbrev PtP (p : Nat × Nat) : Prop := Pt p.1 p.2
structure Ps (w : World) (s : Value) (n : Nat) (f : Nat → Nat × Nat) : Prop where
 form : ∃ a c, s = .slice a n c ∧ n ≤ c ∧ c ≤ 9223372036854775807 ∧ (n = 0 ∨ ∃ g off, a = some ⟨g, off, none⟩ ∧ g < w.heap.size ∧ ∀ k, k < n → w.cell? ⟨g, off + k * 2, none⟩ = some (.float .f64 (f k).1) ∧ w.cell? ⟨g, off + k * 2 + 1, none⟩ = some (.float .f64 (f k).2))
 word : ∀ k, WdP (f k)
theorem Ps.later {w w' : World} {s : Value} {n : Nat} {f : Nat → Nat × Nat} (h : Ps w s n f) (hb : Below w.heap.size w w') : Ps w' s n f := by
 obtain ⟨⟨a, c, hs, hc, hm, hf⟩, h2⟩ := h
 refine ⟨⟨a, c, hs, hc, hm, ?_⟩, h2⟩
 rcases hf with hf | ⟨g, off, ha, hg, hf⟩
 · exact Or.inl hf
 · exact Or.inr ⟨g, off, ha, Nat.lt_of_lt_of_le hg hb.size, fun k hk => ⟨box_cell hb (hf k hk).1, box_cell hb (hf k hk).2⟩⟩
theorem Ps.shape {w : World} {s : Value} {n : Nat} {f : Nat → Nat × Nat} (h : Ps w s n f) : ∃ a c, s = .slice a n c ∧ n ≤ c ∧ c ≤ 9223372036854775807 := by
 obtain ⟨⟨a, c, h, hc, hm, _⟩, _⟩ := h
 exact ⟨a, c, h, hc, hm⟩
theorem Ps.some {w : World} {n c : Nat} {a : Option Addr} {f : Nat → Nat × Nat} (h : Ps w (.slice a n c) n f) (hn : 0 < n) : ∃ g off, a = some ⟨g, off, none⟩ ∧ g < w.heap.size ∧ ∀ k, k < n → w.cell? ⟨g, off + k * 2, none⟩ = some (.float .f64 (f k).1) ∧ w.cell? ⟨g, off + k * 2 + 1, none⟩ = some (.float .f64 (f k).2) := by
 obtain ⟨⟨a', c', e, hc, hm, hf⟩, _⟩ := h
 cases e
 rcases hf with hf | hf
 · omega
 · exact hf
theorem has1 (ax ay : Nat) (w : World) (hw : WdP (ax, ay)) :
   Calls Try.prog 26 #[.slice (some ⟨w.heap.size, 0, none⟩) 1 1] (w.alloc (.cells #[.float .f64 ax, .float .f64 ay] 28)) fun e w' => (∃ t, e = .returned (.bool t) ∧ (t = true ↔ Pt ax ay)) ∧ Below w.heap.size w w' := by
 have hb : Below w.heap.size w (w.alloc (.cells #[.float .f64 ax, .float .f64 ay] 28)) := (Below.refl _ w).alloc (Nat.le_refl _) _
 refine (has_walk w.heap.size 1 1 (fun _ => ax) (fun _ => ay) _ (fun k hk => ?_) (fun k => hw) (by omega)).mono ?_
 · obtain rfl : k = 0 := by omega
   exact ⟨by go_simp, by go_simp⟩
 · rintro e w' ⟨⟨t, rfl, ht⟩, hb'⟩
   refine ⟨⟨t, rfl, ?_⟩, below_step hb hb'⟩
   rw [ht]
   exact ⟨fun h => h 0 (by omega), fun h j hj => h⟩
theorem has2 (ax ay bx by' : Nat) (w : World) (ha : WdP (ax, ay)) (hb : WdP (bx, by')) :
   Calls Try.prog 26 #[.slice (some ⟨w.heap.size, 0, none⟩) 2 2] (w.alloc (.cells #[.float .f64 ax, .float .f64 ay, .float .f64 bx, .float .f64 by'] 28)) fun e w' => (∃ t, e = .returned (.bool t) ∧ (t = true ↔ Pt ax ay ∧ Pt bx by')) ∧ Below w.heap.size w w' := by
 have hbb : Below w.heap.size w (w.alloc (.cells #[.float .f64 ax, .float .f64 ay, .float .f64 bx, .float .f64 by'] 28)) := (Below.refl _ w).alloc (Nat.le_refl _) _
 refine (has_walk w.heap.size 2 2 (fun k => if k = 0 then ax else bx) (fun k => if k = 0 then ay else by') _ (fun k hk => ?_) (fun k => ?_) (by omega)).mono ?_
 · have : k = 0 ∨ k = 1 := by omega
   rcases this with rfl | rfl <;> exact ⟨by go_simp, by go_simp⟩
 · by_cases h : k = 0
   · simp only [h, if_true]; exact ha
   · simp only [h, if_false]; exact hb
 · rintro e w' ⟨⟨t, rfl, ht⟩, hb'⟩
   refine ⟨⟨t, rfl, ?_⟩, below_step hbb hb'⟩
   rw [ht]
   exact ⟨fun h => ⟨h 0 (by omega), h 1 (by omega)⟩, fun h j hj => by
     have : j = 0 ∨ j = 1 := by omega
     rcases this with rfl | rfl
     · exact h.1
     · exact h.2⟩
set_option maxRecDepth 100000 in
theorem may1_any (x y : Nat) (w : World) (hw : WdP (x, y)) : Calls Try.prog 13 #[pv x y] w fun e w' => (∃ t, e = .returned (.bool t) ∧ (t = true ↔ Pt x y)) ∧ Below w.heap.size w w' := by
 have HW : Hid (WdP (x, y)) := hw
 clear hw
 go_enter Try.func13, Try.ntmps13
 go_wp2_with fail
 have hb : Below w.heap.size w (w.alloc (.cells #[.float .f64 x, .float .f64 y] 28)) := (Below.refl _ w).alloc (Nat.le_refl _) _
 have hh := has1 x y (w.alloc (.cells #[.float .f64 x, .float .f64 y] 28)) HW.out
 have e1 : (w.alloc (.cells #[.float .f64 x, .float .f64 y] 28)).heap.size = w.heap.size + 1 := by simp
 rw [e1] at hh
 refine hh.mono ?_
 rintro e w' ⟨⟨t, rfl, ht⟩, hb'⟩
 have HT : Hid (t = true ↔ Pt x y) := ht
 have HB : Hid (Below w.heap.size w w') := hb.trans (hb'.mono (by simp))
 clear ht hb hb' hh e1
 go_wp2
 go_ret
 exact ⟨⟨t, rfl, HT.out⟩, HB.out⟩
def AllR (n : Nat) (f : Nat → Nat × Nat) (z e : Int) : Prop :=
 (1048576 < n ∧ z = 0 ∧ e = 3) ∨ (n ≤ 1048576 ∧ (∀ k, k < n → PtP (f k)) ∧ z = 0 ∧ e = 0) ∨ (n ≤ 1048576 ∧ ∃ k : Nat, k < n ∧ ¬ PtP (f k) ∧ (∀ j, j < k → PtP (f j)) ∧ z = (k : Nat) ∧ e = 10)
def MayL (n : Nat) (f : Nat → Nat × Nat) : Prop := n ≤ 1048576 ∧ ∀ k, k < n → PtP (f k)
theorem AllR.ok {n : Nat} {f : Nat → Nat × Nat} {z e : Int} (h : AllR n f z e) : e = 0 ↔ MayL n f := by
 rcases h with ⟨h1, rfl, rfl⟩ | ⟨h1, h2, rfl, rfl⟩ | ⟨h1, k, hk, h2, _, rfl, rfl⟩
 · exact ⟨fun h => by omega, fun h => by have := h.1; omega⟩
 · exact ⟨fun _ => ⟨h1, h2⟩, fun _ => rfl⟩
 · exact ⟨fun h => by omega, fun h => absurd (h.2 k hk) h2⟩
set_option maxRecDepth 100000 in
set_option maxHeartbeats 2000000 in
theorem all_any (s : Value) (n : Nat) (f : Nat → Nat × Nat) (w : World) (h : Ps w s n f) : Calls Try.prog 9 #[s] w fun e w' => (∃ z r, e = .returned (.tuple #[.int .i64 z, .int .i64 r]) ∧ AllR n f z r) ∧ Below w.heap.size w w' := by
 obtain ⟨a, c, rfl, hc, hm⟩ := h.shape
 have HF : Hid (Ps w (.slice a n c) n f) := h
 clear h
 by_cases hbig : 1048576 < n
 · have hbig' : (1048576 : Int) < (n : Int) := by omega
   have HB : Hid (1048576 < n) := hbig
   clear hbig
   go_enter Try.func9, Try.ntmps9
   go_wp2
   go_ret2
   exact ⟨⟨0, 3, rfl, Or.inl ⟨HB.out, rfl, rfl⟩⟩, Below.refl _ _⟩
 · have hbig' : ¬ (1048576 : Int) < (n : Int) := by omega
   have hle : n ≤ 1048576 := by omega
   clear hbig
   go_enter Try.func9, Try.ntmps9
   go_wp2
   go_loopw [11] (fun i wr => ∃ k : Nat, k ≤ n ∧ i = .int .i64 (k : Nat) ∧ Hid (Below w.heap.size w wr ∧ ∀ j, j < k → PtP (f j))) (fun i _ => n - (intOf i).toNat)
   case atStart => exact ⟨0, Nat.zero_le _, rfl, Below.refl _ _, fun j hj => by omega⟩
   case round =>
     obtain ⟨k, hk, rfl, hB⟩ := hrel
     by_cases hlt : k < n
     · have hlt' : (k : Int) < (n : Int) := by omega
       have hk0 : (0 : Int) ≤ (k : Int) := by omega
       obtain ⟨g, off, rfl, hg, hcell⟩ := HF.out.some (by omega)
       have c1 := box_cell hB.out.1 (hcell k hlt).1
       have c2 := box_cell hB.out.1 (hcell k hlt).2
       obtain ⟨x, hx⟩ : ∃ x : Nat, Hid ((f k).1 = x) := ⟨_, rfl⟩
       obtain ⟨y, hy⟩ : ∃ y : Nat, Hid ((f k).2 = y) := ⟨_, rfl⟩
       rw [hx.out] at c1
       rw [hy.out] at c2
       have HX : Hid (WdP (x, y)) := by rw [← hx.out, ← hy.out]; exact HF.out.word k
       have HP : Hid (PtP (f k) ↔ Pt x y) := by rw [← hx.out, ← hy.out]; exact Iff.rfl
       have HS : Hid (g < wr.heap.size) := Nat.lt_of_lt_of_le hg hB.out.1.size
       clear hcell hx hy
       go_wp2_with fail
       refine (may1_any x y _ HX.out).mono ?_
       rintro e w1 ⟨⟨t, rfl, ht⟩, hb1⟩
       have HB1 : Hid (Below w.heap.size w w1) := below_step (hB.out.1.alloc hB.out.1.size _) hb1
       have HT : Hid (t = true ↔ Pt x y) := ht
       clear ht hb1 c1 c2
       cases t
       · go_wp2
         go_ret2
         exact ⟨⟨k, 10, rfl, Or.inr (Or.inr ⟨hle, k, hlt, fun h => Bool.noConfusion (HT.out.2 (HP.out.1 h)), hB.out.2, rfl, rfl⟩)⟩, HB1.out⟩
       · have HQ : Hid (Pt x y) := HT.out.1 rfl
         go_wp2
         refine ⟨⟨k + 1, by omega, by go_num, HB1.out, fun j hj => ?_⟩, by simp [intOf]; omega⟩
         by_cases e : j = k
         · rw [e]; exact HP.out.2 HQ.out
         · exact hB.out.2 j (by omega)
     · obtain rfl : k = n := by omega
       have hltb : decide ((k : Int) < (k : Int)) = false := decide_eq_false (by omega)
       go_wp2
       go_ret2
       exact ⟨⟨0, 0, rfl, Or.inr (Or.inl ⟨hle, hB.out.2, rfl, rfl⟩)⟩, hB.out.1⟩
set_option maxRecDepth 100000 in
theorem allMay_any (s : Value) (n : Nat) (f : Nat → Nat × Nat) (w : World) (h : Ps w s n f) : Calls Try.prog 25 #[s] w fun e w' => (∃ t, e = .returned (.bool t) ∧ (t = true ↔ MayL n f)) ∧ Below w.heap.size w w' := by
 have HF : Hid (Ps w s n f) := h
 obtain ⟨a, c, rfl, hc, hm⟩ := h.shape
 clear h
 go_enter Try.func25, Try.ntmps25
 go_wp2_with fail
 refine (all_any _ n f w HF.out).mono ?_
 rintro e w1 ⟨⟨z, r, rfl, hr⟩, hb⟩
 have HR : Hid (r = 0 ↔ MayL n f) := hr.ok
 have HB : Hid (Below w.heap.size w w1) := hb
 clear hr hb
 by_cases hz : r = 0
 · have HM : Hid (MayL n f) := HR.out.1 hz
   subst hz
   go_wp2
   go_ret
   exact ⟨⟨true, rfl, fun _ => HM.out, fun _ => rfl⟩, HB.out⟩
 · have HM : Hid (¬ MayL n f) := fun h => hz (HR.out.2 h)
   have hz' : (r == 0) = false := by simp [hz]
   go_wp2
   go_ret
   exact ⟨⟨false, rfl, fun h => Bool.noConfusion h, fun h => absurd h HM.out⟩, HB.out⟩
end

/- Package admit: two points held against each other. -/
section
open Go.RowKit Go.Shelf Go.Sort
attribute [local go_sem ↓] Go.wp_at_zero Go.wp_at_succ
attribute [local go_sem] run_store_float
def GrW (w W : World) : Prop := ∃ q os, W = grow (w.drewN q) os
theorem GrW.refl (w : World) : GrW w w := ⟨0, #[], by rw [grow_empty]; rfl⟩
theorem GrW.alloc {w W : World} (h : GrW w W) (o : Obj) : GrW w (W.alloc o) := by
 obtain ⟨q, os, rfl⟩ := h
 exact ⟨q, os ++ #[o], by rw [alloc_eq_grow, grow_grow]⟩
theorem GrW.drew {w W : World} (h : GrW w W) : GrW w W.drew := by
 obtain ⟨q, os, rfl⟩ := h
 exact ⟨q + 1, os, rfl⟩
theorem GrW.trans {w W V : World} (h : GrW w W) (h' : GrW W V) : GrW w V := by
 obtain ⟨q, os, rfl⟩ := h
 obtain ⟨q', os', rfl⟩ := h'
 refine ⟨q + q', os ++ os', ?_⟩
 show grow (grow ((w.drewN q).drewN q') os) os' = _
 rw [grow_grow]
 congr 1
 simp [World.drewN, Nat.add_assoc]
theorem GrW.below {w W : World} (h : GrW w W) : Below w.heap.size w W := by
 obtain ⟨q, os, rfl⟩ := h
 refine ⟨rfl, rfl, rfl, by simp [grow, World.drewN], fun k hk => ?_⟩
 show (w.heap ++ os)[k]? = _
 rw [Array.getElem?_append_left hk]
theorem keepG {w W : World} {q1 q2 q3 q4 : Addr} {x1 x2 x3 x4 : Value} (h : W.cell? q1 = some x1 ∧ W.cell? q2 = some x2 ∧ W.cell? q3 = some x3 ∧ W.cell? q4 = some x4 ∧ GrW w W) (o : Obj) : (W.alloc o).cell? q1 = some x1 ∧ (W.alloc o).cell? q2 = some x2 ∧ (W.alloc o).cell? q3 = some x3 ∧ (W.alloc o).cell? q4 = some x4 ∧ GrW w (W.alloc o) :=
 have hb : Below W.heap.size W (W.alloc o) := (Below.refl _ W).alloc (Nat.le_refl _) _
 ⟨box_cell hb h.1, box_cell hb h.2.1, box_cell hb h.2.2.1, box_cell hb h.2.2.2.1, h.2.2.2.2.alloc o⟩
theorem order_ltF {a b : Nat} (fa : Fin64 a) (fb : Fin64 b) (h : fval a < fval b) : FloatKind.f64.format.order a b = some .lt := by rw [order_val fa fb, if_pos h]
theorem order_eqF {a b : Nat} (fa : Fin64 a) (fb : Fin64 b) (h : fval a = fval b) : FloatKind.f64.format.order a b = some .eq := by rw [order_val fa fb, if_neg (by rw [h]; exact Rat.lt_irrefl), if_pos h]
theorem order_gtF {a b : Nat} (fa : Fin64 a) (fb : Fin64 b) (h : fval b < fval a) : FloatKind.f64.format.order a b = some .gt := by rw [order_val fa fb, if_neg (by grind), if_neg (by grind)]
def cmpQ (p q : Rat) : Int := if p < q then -1 else if q < p then 1 else 0
theorem hold_is (p q : Nat × Nat) : hold p q = if cmpQ (fval p.1) (fval q.1) ≠ 0 then cmpQ (fval p.1) (fval q.1) else cmpQ (fval p.2) (fval q.2) := by
 unfold hold cmpQ
 by_cases h1 : fval p.1 < fval q.1
 · simp [h1]
 · by_cases h2 : fval q.1 < fval p.1
   · simp [h1, h2]
   · simp [h1, h2]
theorem isNaN64_any (b : Nat) (h : Fin64 b) (w : World) : Calls Try.prog 59 #[.float .f64 b] w fun e w' => e = .returned (.bool false) ∧ w' = w := by
 have o := order_eqF h h rfl
 clear h
 go_enter Try.func59, Try.ntmps59
 go_wp2
 go_ret
 exact ⟨rfl, rfl⟩
set_option maxHeartbeats 1000000 in
theorem compare64_any (a b : Nat) (fa : Fin64 a) (fb : Fin64 b) (w : World) : Calls Try.prog 43 #[.float .f64 a, .float .f64 b] w fun e w' => e = .returned (.int .i64 (cmpQ (fval a) (fval b))) ∧ w' = w := by
 have H : Hid (Fin64 a ∧ Fin64 b) := ⟨fa, fb⟩
 obtain ⟨z, hz⟩ : ∃ z, Hid (cmpQ (fval a) (fval b) = z) := ⟨_, rfl⟩
 rw [hz.out]
 have key : (FloatKind.f64.format.order a b = some .lt ∧ z = -1) ∨ (FloatKind.f64.format.order a b = some .gt ∧ z = 1) ∨ (FloatKind.f64.format.order a b = some .eq ∧ z = 0) := by
   rw [← hz.out]
   unfold cmpQ
   by_cases h1 : fval a < fval b
   · exact Or.inl ⟨order_ltF fa fb h1, by rw [if_pos h1]⟩
   · by_cases h2 : fval b < fval a
     · exact Or.inr (Or.inl ⟨order_gtF fa fb h2, by rw [if_neg h1, if_pos h2]⟩)
     · exact Or.inr (Or.inr ⟨order_eqF fa fb (by grind), by rw [if_neg h1, if_neg h2]⟩)
 clear fa fb hz
 rcases key with ⟨o, rfl⟩ | ⟨o, rfl⟩ | ⟨o, rfl⟩
 all_goals
   go_enter Try.func43, Try.ntmps43
   go_wp2_with fail
   refine (isNaN64_any a H.out.1 _).mono ?_
   rintro e w1 ⟨rfl, rfl⟩
   go_wp2_with fail
   refine (isNaN64_any b H.out.2 _).mono ?_
   rintro e w1 ⟨rfl, rfl⟩
   go_wp2
   go_ret
   exact ⟨rfl, rfl⟩
def orI (a b : Int) : Int := if a ≠ 0 then a else b
set_option maxHeartbeats 1000000 in
theorem or2_any (g : Nat) (a b : Int) (w : World) (h0 : w.cell? ⟨g, 0, none⟩ = some (.int .i64 a)) (h1 : w.cell? ⟨g, 1, none⟩ = some (.int .i64 b)) :
   Calls Try.prog 38 #[.slice (some ⟨g, 0, none⟩) 2 2] w fun e w' => e = .returned (.int .i64 (orI a b)) ∧ w' = w := by
 obtain ⟨z, hz⟩ : ∃ z, Hid (orI a b = z) := ⟨_, rfl⟩
 rw [hz.out]
 go_enter Try.func38, Try.ntmps38
 go_wp2
 go_loopw [8] (fun i wr => ∃ k : Nat, k ≤ 2 ∧ i = .int .i64 (k : Nat) ∧ wr = w ∧ Hid ((0 < k → a = 0) ∧ (1 < k → b = 0))) (fun i _ => 2 - (intOf i).toNat)
 case atStart => exact ⟨0, by omega, rfl, rfl, fun h => by omega, fun h => by omega⟩
 case round =>
   obtain ⟨k, hk, rfl, rfl, hB⟩ := hrel
   have : k = 0 ∨ k = 1 ∨ k = 2 := by omega
   rcases this with rfl | rfl | rfl
   · by_cases ha : a = 0
     · subst ha
       go_wp2
       refine ⟨⟨1, by omega, by go_num, by trivial, fun _ => by trivial, fun h => by omega⟩, by simp [intOf]⟩
     · have HA : Hid (a ≠ 0) := ha
       go_wp2
       go_ret
       exact ⟨by rw [← hz.out]; unfold orI; rw [if_pos HA.out]; rfl, rfl⟩
   · have ha : a = 0 := hB.out.1 (by omega)
     subst ha
     by_cases hb : b = 0
     · subst hb
       go_wp2
       refine ⟨⟨2, by omega, by go_num, by trivial, fun _ => by trivial, fun _ => by trivial⟩, by simp [intOf]⟩
     · have HA : Hid (b ≠ 0) := hb
       go_wp2
       go_ret
       exact ⟨by rw [← hz.out]; unfold orI; rw [if_neg (by simp)]; rfl, rfl⟩
   · have HA : Hid (a = 0) := hB.out.1 (by omega)
     have HB : Hid (b = 0) := hB.out.2 (by omega)
     go_wp2
     go_ret
     exact ⟨by rw [← hz.out, HA.out, HB.out]; rfl, rfl⟩
set_option maxRecDepth 100000 in
set_option maxHeartbeats 2000000 in
theorem held_any (px py qx qy : Nat) (fp : Fin64 px ∧ Fin64 py) (fq : Fin64 qx ∧ Fin64 qy) (w : World) : Calls Try.prog 34 #[pv px py, pv qx qy] w fun e w' => e = .returned (.int .i64 (hold (px, py) (qx, qy))) ∧ GrW w w' := by
 have HF : Hid (Fin64 px ∧ Fin64 py ∧ Fin64 qx ∧ Fin64 qy) := ⟨fp.1, fp.2, fq.1, fq.2⟩
 rw [hold_is]
 obtain ⟨z1, hz1⟩ : ∃ z, Hid (cmpQ (fval px) (fval qx) = z) := ⟨_, rfl⟩
 obtain ⟨z2, hz2⟩ : ∃ z, Hid (cmpQ (fval py) (fval qy) = z) := ⟨_, rfl⟩
 show Calls _ _ _ _ fun e w' => e = .returned (.int .i64 (orI (cmpQ (fval px) (fval qx)) (cmpQ (fval py) (fval qy)))) ∧ GrW w w'
 rw [hz1.out, hz2.out]
 clear fp fq
 go_enter Try.func34, Try.ntmps34
 go_wp2_with fail
 have HG : Hid (GrW w ((w.alloc (.cells #[.float .f64 px, .float .f64 py] 28)).alloc (.cells #[.float .f64 qx, .float .f64 qy] 28))) := ((GrW.refl w).alloc _).alloc _
 have d1 : ((w.alloc (.cells #[.float .f64 px, .float .f64 py] 28)).alloc (.cells #[.float .f64 qx, .float .f64 qy] 28)).drew.cell? ⟨w.heap.size, 0, none⟩ = some (.float .f64 px) := by go_simp
 have d2 : ((w.alloc (.cells #[.float .f64 px, .float .f64 py] 28)).alloc (.cells #[.float .f64 qx, .float .f64 qy] 28)).drew.cell? ⟨w.heap.size, 1, none⟩ = some (.float .f64 py) := by go_simp
 have d3 : ((w.alloc (.cells #[.float .f64 px, .float .f64 py] 28)).alloc (.cells #[.float .f64 qx, .float .f64 qy] 28)).drew.cell? ⟨w.heap.size + 1, 0, none⟩ = some (.float .f64 qx) := by go_simp
 have d4 : ((w.alloc (.cells #[.float .f64 px, .float .f64 py] 28)).alloc (.cells #[.float .f64 qx, .float .f64 qy] 28)).drew.cell? ⟨w.heap.size + 1, 1, none⟩ = some (.float .f64 qy) := by go_simp
 refine wp_region_held_drew (S := (fun W => W.cell? ⟨w.heap.size, 0, none⟩ = some (.float .f64 px) ∧ W.cell? ⟨w.heap.size, 1, none⟩ = some (.float .f64 py) ∧ W.cell? ⟨w.heap.size + 1, 0, none⟩ = some (.float .f64 qx) ∧ W.cell? ⟨w.heap.size + 1, 1, none⟩ = some (.float .f64 qy) ∧ GrW w W)) (by kernel_rfl) ⟨d1, d2, d3, d4, HG.out.drew⟩ (fun hS => ?_)
 refine takA (i := 0) (d := some 5) (v := .pointer (some ⟨w.heap.size, 0, none⟩)) hS ?_
 simp only [AP]
 refine takA (i := 1) (d := some 6) (v := .float .f64 px) hS ?_
 simp only [AP]
 refine takA (i := 2) (d := some 7) (v := .pointer (some ⟨w.heap.size + 1, 0, none⟩)) hS ?_
 simp only [AP]
 refine takA (i := 3) (d := some 8) (v := .float .f64 qx) hS ?_
 simp only [AP]
 refine takA (i := 5) (d := some 10) (v := .pointer (some ⟨w.heap.size, 1, none⟩)) hS ?_
 simp only [AP]
 refine takA (i := 6) (d := some 11) (v := .float .f64 py) hS ?_
 simp only [AP]
 refine takA (i := 7) (d := some 12) (v := .pointer (some ⟨w.heap.size + 1, 1, none⟩)) hS ?_
 simp only [AP]
 refine takA (i := 8) (d := some 13) (v := .float .f64 qy) hS ?_
 simp only [AP]
 refine calA 4 fun KF hK => ?_
 go_simp
 refine (compare64_any px qx HF.out.1 HF.out.2.2.1 _).mono ?_
 rintro e wx ⟨rfl, hbx⟩
 subst hbx
 rw [hz1.out]
 have hbx := True.intro
 go_wp2_with fail
 refine hK.out _ _ hS ?_
 clear hS hbx
 intro hS
 clear hK KF
 try simp only [AP]
 refine calA 9 fun KF hK => ?_
 go_simp
 refine (compare64_any py qy HF.out.2.1 HF.out.2.2.2 _).mono ?_
 rintro e wx ⟨rfl, hbx⟩
 subst hbx
 rw [hz2.out]
 have hbx := True.intro
 go_wp2_with fail
 refine hK.out _ _ hS ?_
 clear hS hbx
 intro hS
 clear hK KF
 try simp only [AP]
 refine calA 10 fun KF hK => ?_
 go_simp
 have hbx := True.intro
 go_wp2_with fail
 refine hK.out _ _ (keepG hS _) ?_
 clear hS hbx
 intro hS
 clear hK KF
 try simp only [AP]
 refine calA 11 fun KF hK => ?_
 go_simp
 refine (or2_any _ z1 z2 _ (by go_simp) (by go_simp)).mono ?_
 rintro e wx ⟨rfl, hbx⟩
 subst hbx
 have hbx := True.intro
 go_wp2_with fail
 refine hK.out _ _ hS ?_
 clear hS hbx
 intro hS
 clear hK KF
 try simp only [AP]
 refine takA (i := 12) (d := some 4) (v := .int .i64 (orI z1 z2)) hS ?_
 simp only [AP]
 refine wpAnyH_done (by kernel_rfl) ?_ _
 have HD : Hid (GrW w _) := hS.2.2.2.2
 clear hS
 go_wp2
 go_ret
 exact ⟨rfl, HD.out⟩
end

/- Points held equal, and a map from points. -/
section
open Go.RowKit Go.Shelf Go.Sort
def eqW (p q : Nat × Nat) : Bool := (FloatKind.f64.format.order p.1 q.1 == some .eq) && (FloatKind.f64.format.order p.2 q.2 == some .eq)
theorem eqFl (x y : Nat) (w : World) (n : Nat) : (Op.equalIn (n + 1) 26 (.float .f64 x) (.float .f64 y)).run Try.prog w = .ok (FloatKind.f64.format.order x y == some .eq) w := by
 simp [Op.equalIn, run_underlying Try.underlying26, Op.floatEq]
theorem eqPt (x y x' y' : Nat) (w : World) : (Op.equalIn 10000 28 (pv x y) (pv x' y')).run Try.prog w = .ok (eqW (x, y) (x', y')) w := by
 have hf : Try.prog.underlying 28 = some (.struct (Try.prog.fieldsOf 28)) := by kernel_rfl
 have hp : Try.prog.stoodInHeld 28 = false := by kernel_rfl
 rw [run_equalIn_agg w 9999 28 _ _ hf hp]
 unfold Program.fieldsOf eqW
 rw [Try.underlying28]
 have e1 := eqFl x x' 
 have e2 := eqFl y y'
 go_simp
 by_cases h1 : FloatKind.f64.format.order x x' = some .eq
 · by_cases h2 : FloatKind.f64.format.order y y' = some .eq <;> simp [h1, h2]
 · simp [h1]
theorem run_find (p : Nat × Nat) (f : Nat → Nat × Nat) (w : World) (es : List MapEntry) : ∀ (L : List Nat) (i : Nat), es.map (fun e => (e.key, e.val)) = L.map (fun j => (pv (f j).1 (f j).2, Value.int .i64 (j : Nat))) →
   ∃ r, (Instr.findAsking 28 (pv p.1 p.2) es i).run Try.prog w = .ok r w ∧ r.map (·.2) = (L.find? fun j => eqW p (f j)).map fun j => Value.int .i64 (j : Nat) := by
 induction es with
 | nil =>
   intro L i h
   cases L with
   | nil => exact ⟨none, by simp [Instr.findAsking], rfl⟩
   | cons a L => simp at h
 | cons e es ih =>
   intro L i h
   cases L with
   | nil => simp at h
   | cons j L =>
     simp only [List.map_cons, List.cons.injEq, Prod.mk.injEq] at h
     obtain ⟨⟨hk, hv⟩, hr⟩ := h
     obtain ⟨r, h1, h2⟩ := ih L (i + 1) hr
     have he := eqPt p.1 p.2 (f j).1 (f j).2 w
     cases hq : eqW p (f j) with
     | true =>
       refine ⟨some (i, e.val), ?_, ?_⟩
       · rw [hq] at he
         simp only [Instr.findAsking, Op.equal, Op.maxDepth, hk, Sem.run_bind, he, Result.andThen_ok]
         simp
       · rw [List.find?_cons, hq, hv]; rfl
     | false =>
       refine ⟨r, ?_, ?_⟩
       · rw [hq] at he
         simp only [Instr.findAsking, Op.equal, Op.maxDepth, hk, Sem.run_bind, he, Result.andThen_ok]
         simp [h1]
       · rw [List.find?_cons, hq]; exact h2
theorem checkFl (b : Bool) (n x : Nat) (w : World) : (Instr.checkKey b (n + 1) 26 (.float .f64 x)).run Try.prog w = .ok () w := by
 rw [Instr.checkKey]
 simp only [Sem.run_bind, run_underlying Try.underlying26, Result.andThen_ok]
 rfl
theorem checkPt (b : Bool) (n x y : Nat) (w : World) : (Instr.checkKey b (n + 2) 28 (pv x y)).run Try.prog w = .ok () w := by
 rw [Instr.checkKey]
 simp only [Sem.run_bind, run_underlying Try.underlying28, Result.andThen_ok]
 have e1 := checkFl b n x
 have e2 := checkFl b n y
 go_simp
 done
structure Mp (w : World) (B : Nat) (f : Nat → Nat × Nat) (L : List Nat) : Prop where
 obj : ∃ es clock, w.heap[B]? = some (.map es clock) ∧ es.toList.map (fun e => (e.key, e.val)) = L.map (fun j => (pv (f j).1 (f j).2, Value.int .i64 (j : Nat)))
theorem get_map {w : World} {r : Nat} {es : Array MapEntry} {clock : Nat} (h : w.heap[r]? = some (.map es clock)) : (getObj r).run Try.prog w = .ok (.map es clock) w := by simp [getObj, Sem.run, h]
theorem set_map {w : World} {r : Nat} {es : Array MapEntry} {clock : Nat} (o : Obj) (h : w.heap[r]? = some (.map es clock)) : (setObj r o).run Try.prog w = .ok () { w with heap := w.heap.setIfInBounds r o } := by simp [setObj, Sem.run, h]
theorem Mp.find {w : World} {f : Nat → Nat × Nat} {L : List Nat} {es : List MapEntry} (h : es.map (fun e => (e.key, e.val)) = L.map (fun j => (pv (f j).1 (f j).2, Value.int .i64 (j : Nat)))) (p : Nat × Nat) :
   ∃ r, (Instr.findKey 28 (pv p.1 p.2) es).run Try.prog w = .ok r w ∧ r.map (·.2) = (L.find? fun j => eqW p (f j)).map fun j => Value.int .i64 (j : Nat) := by
 obtain ⟨r, h1, h2⟩ := run_find p f w es L 0 h
 cases es with
 | nil =>
   cases L with
   | nil => exact ⟨none, by simp [Instr.findKey, Instr.findNow, run_underlying Try.underlying28], rfl⟩
   | cons a L => simp at h
 | cons e es =>
   refine ⟨r, ?_, h2⟩
   cases L with
   | nil => simp at h
   | cons j L =>
     simp only [Instr.findKey, Sem.run_bind, run_underlying Try.underlying28, Result.andThen_ok]
     simp only [Instr.findNow, Instr.sameNow]
     exact h1
theorem Mp.lookup {w : World} {B : Nat} {f : Nat → Nat × Nat} {L : List Nat} (h : Mp w B f L) (p : Nat × Nat) : (Instr.lookup 45 (.map (some B)) (pv p.1 p.2) true).run Try.prog w = .ok (.tuple #[.int .i64 (((L.find? fun j => eqW p (f j)).getD 0 : Nat) : Int), .bool (L.find? fun j => eqW p (f j)).isSome]) w := by
 obtain ⟨es, clock, h1, h2⟩ := h.obj
 obtain ⟨r, h3, h4⟩ := Mp.find (w := w) h2 p
 have hz : (zeroValue 3).run Try.prog w = .ok (.int .i64 0) w := Try.zeroValue3 w
 have hg : (getObj B).run Try.prog w = .ok (.map es clock) w := get_map h1
 have hc := checkPt es.isEmpty 9998 p.1 p.2 w
 simp only [Instr.lookup, Sem.run_bind, run_underlying Try.underlying45, Result.andThen_ok, hg]
 simp only [Sem.run_pure, Result.andThen_ok]
 rw [show (10000 : Nat) = 9998 + 2 from rfl, hc]
 simp only [Result.andThen_ok, h3]
 cases hf : L.find? fun j => eqW p (f j) with
 | none =>
   rw [hf] at h4
   cases r with
   | none => simp [hz]
   | some x => simp at h4
 | some j =>
   rw [hf] at h4
   cases r with
   | none => simp at h4
   | some x =>
     obtain ⟨i, v⟩ := x
     simp at h4
     subst h4
     simp
theorem Mp.update {w : World} {B : Nat} {f : Nat → Nat × Nat} {L : List Nat} (h : Mp w B f L) (k : Nat) (hk : (L.find? fun j => eqW (f k) (f j)) = none) : ∃ w', (Instr.mapUpdate 45 (.map (some B)) (pv (f k).1 (f k).2) (.int .i64 (k : Nat))).run Try.prog w = .ok () w' ∧ Mp w' B f (L ++ [k]) ∧ (∀ b, b ≠ B → w'.heap[b]? = w.heap[b]?) ∧ w'.heap.size = w.heap.size ∧ w'.os = w.os ∧ w'.tape = w.tape ∧ w'.output = w.output := by
 obtain ⟨es, clock, h1, h2⟩ := h.obj
 obtain ⟨r, h3, h4⟩ := Mp.find (w := w) h2 (f k)
 have hg : (getObj B).run Try.prog w = .ok (.map es clock) w := get_map h1
 have hc := checkPt false 9998 (f k).1 (f k).2 w
 have hr : r = none := by
   rw [hk] at h4
   cases r with
   | none => rfl
   | some x => simp at h4
 subst hr
 have hs := set_map (.map (es.push { key := pv (f k).1 (f k).2, val := .int .i64 (k : Nat), born := clock }) (clock + 1)) h1
 have hB : B < w.heap.size := by
   rcases Nat.lt_or_ge B w.heap.size with e | e
   · exact e
   · rw [Array.getElem?_eq_none e] at h1; cases h1
 refine ⟨{ w with heap := w.heap.setIfInBounds B (.map (es.push { key := pv (f k).1 (f k).2, val := .int .i64 (k : Nat), born := clock }) (clock + 1)) }, ?_, ⟨es.push { key := pv (f k).1 (f k).2, val := .int .i64 (k : Nat), born := clock }, clock + 1, ?_, ?_⟩, ?_, ?_, rfl, rfl, rfl⟩
 · simp only [Instr.mapUpdate, Sem.run_bind, run_underlying Try.underlying45, Result.andThen_ok, hg]
   rw [show (10000 : Nat) = 9998 + 2 from rfl, hc]
   simp only [Result.andThen_ok, h3]
   exact hs
 · show (w.heap.setIfInBounds B _)[B]? = _
   rw [Array.getElem?_setIfInBounds_self_of_lt hB]
 · simp [h2]
 · intro b hb
   show (w.heap.setIfInBounds B _)[b]? = _
   rw [Array.getElem?_setIfInBounds_ne (Ne.symm hb)]
 · simp
end

/- Package orient: Cross. -/
section
open Go.RowKit Go.Shelf
end

/- Which points may be, by reckoning. -/
section
theorem den_one {q : Rat} : q.den = 1 ↔ ∃ k : Int, q = (k : Rat) := by
 constructor
 · intro h
   refine ⟨q.num, ?_⟩
   apply Rat.ext
   · simp
   · simp [h]
 · rintro ⟨k, rfl⟩
   simp
theorem crd_iff (x : Nat) : Crd x ↔ frung x ≤ 5057542381537067008 ∧ (fval x * U 1174).den = 1 := by
 unfold Crd
 rw [den_one, ← M_one, steps_one]
instance (x : Nat) : Decidable (Crd x) := decidable_of_iff _ (crd_iff x).symm
instance (x y : Nat) : Decidable (Pt x y) := by unfold Pt; exact inferInstance
instance (ax ay bx by' cx cy : Nat) : Decidable (P3 ax ay bx by' cx cy) := by unfold P3; exact inferInstance
instance (a b x : Rat) : Decidable (Btw a b x) := by unfold Btw; exact inferInstance
instance (ax ay bx by' cx cy : Nat) : Decidable (OnP ax ay bx by' cx cy) := by unfold OnP; exact inferInstance
end

/- The document's side of layer 5: which points may be. -/
section
open Go.RowKit Go.Shelf
attribute [local go_sem] run_store_float
theorem odd_unit {q : Rat} {l m : Int} (h : q = (m : Rat) * p2 l) (hm : m % 2 = 1) : -100 ≤ l ↔ M (U 974) q := by
 have e974 : U 974 = p2 (-100) := rfl
 rw [e974]
 constructor
 · intro hl
   refine ⟨m * ((2 ^ (l + 100).toNat : Nat) : Int), ?_⟩
   rw [h, Rat.intCast_mul, show (((2 ^ (l + 100).toNat : Nat) : Int) : Rat) = ((2 ^ (l + 100).toNat : Nat) : Rat) from rfl, ← p2_nat, Rat.mul_assoc, ← p2_add, show (((l + 100).toNat : Nat) : Int) + -100 = l by omega]
 · rintro ⟨k, hk⟩
   apply Classical.byContradiction
   intro hn
   obtain ⟨j, hj⟩ : ∃ j : Nat, -100 = l + 1 + (j : Int) := ⟨(-101 - l).toNat, by omega⟩
   have e : p2 (-100) = 2 * ((2 ^ j : Nat) : Rat) * p2 l := by
     rw [hj, p2_add, p2_add, p2_nat, p2_one]; grind
   rw [e] at hk
   have h2 : (m : Rat) * p2 l = ((k * (2 * ((2 ^ j : Nat) : Int)) : Int) : Rat) * p2 l := by
     rw [← h, hk, Rat.intCast_mul, Rat.intCast_mul, show (((2 ^ j : Nat) : Int) : Rat) = ((2 ^ j : Nat) : Rat) from rfl, show ((2 : Int) : Rat) = 2 from rfl]
     grind
   have h3 := int_eq (p2_pos l) h2
   have h4 : k * (2 * ((2 ^ j : Nat) : Int)) = 2 * (k * ((2 ^ j : Nat) : Int)) := by
     rw [← Int.mul_assoc, Int.mul_comm k 2, Int.mul_assoc]
   rw [h4] at h3
   omega
theorem crd_top {x : Nat} (hf : Fin64 x) : frung x ≤ 5057542381537067008 ↔ ab (fval x) ≤ U 1174 := by
 constructor
 · exact crd_ab
 · intro h
   rcases Nat.lt_or_ge 5057542381537067008 (frung x) with h1 | h1
   · exfalso
     have f : frung x < 9218868437227405312 := hf
     have := fval_lt h1 f
     rw [top100, ab_fval x hf] at this
     grind
   · exact h1
theorem sgq_nonpos {q : Rat} : sgq q ≤ 0 ↔ q ≤ 0 := by
 unfold sgq
 constructor
 · intro h
   split at h
   · grind
   · split at h
     · grind
     · omega
 · intro h
   split
   · omega
   · split
     · omega
     · grind
set_option maxRecDepth 100000 in
set_option maxHeartbeats 2000000 in
theorem coord_any (x : Nat) (w : World) (hx : x < 18446744073709551616) : Calls Try.prog 35 #[.float .f64 x] w fun e w' => (∃ t, e = .returned (.bool t) ∧ (t = true ↔ Crd x)) ∧ Below w.heap.size w w' := by
 rcases Nat.lt_trichotomy (frung x) 9218868437227405312 with hf | hf | hf
 · have fx : Fin64 x := hf
   obtain ⟨z, hz1, hz2⟩ := self_sub fx
   have rs : ∀ w, (binOp .sub 26 (.float .f64 x) (.float .f64 x)).run Try.prog w = .ok (.float .f64 z) w := fun w => run_float_arith w .sub _ .f64 _ _ _ hz1
   have q0 := order_nan_self fx
   have q1 := eql_zero2 x
   have HX : Hid (x < 18446744073709551616 ∧ Fin64 x) := ⟨hx, fx⟩
   clear hz1 hx hf fx
   by_cases h0 : frung x = 0
   · rw [decide_eq_true h0] at q1
     have HC : Hid (Crd x) := ⟨by omega, by rw [fval_zero_iff.2 h0]; exact M_zero _⟩
     clear h0
     go_enter Try.func35, Try.ntmps35
     go_wp2
     go_ret
     exact ⟨⟨true, rfl, fun _ => HC.out, fun _ => rfl⟩, Below.refl _ _⟩
   · rw [decide_eq_false h0] at q1
     have HN0 : Hid (fval x ≠ 0) := fun h => h0 (fval_zero_iff.1 h)
     clear h0
     go_enter Try.func35, Try.ntmps35
     go_wp2_with fail
     refine (refOf_any x _ HX.out.1).mono ?_
     rintro e w1 ⟨v1, rfl, hr1, hb1⟩
     obtain ⟨S1, a1, n1, c1, E1, rfl⟩ := hr1.agg
     rw [den_fin HX.out.2] at hr1
     have HB1 : Hid (Below w.heap.size w w1) := hb1
     have R1 : Hid (Rf w1 (.agg #[.int .i64 S1, .slice a1 n1 c1, .int .i64 E1]) (fval x)) := hr1
     have HFT : Hid (Fit (fval x)) := by have := den_Fit x; rwa [den_fin HX.out.2] at this
     clear hr1 hb1 rs q0 hz2
     have HAL : Hid (Below w1.heap.size w1 (w1.alloc (.cells #[.int .i64 S1, .slice a1 n1 c1, .int .i64 E1] 60))) := (Below.refl _ w1).alloc (Nat.le_refl _) _
     go_wp2_with fail
     refine (abs_rf _ (fval x) _ (R1.out.later HAL.out)).mono ?_
     rintro e w2 ⟨v2, rfl, hr2, hb2⟩
     have HB2 : Hid (Below w1.heap.size w1 w2) := below_step HAL.out hb2
     have R2 : Hid (Rf w2 v2 (if fval x < 0 then -fval x else fval x)) := hr2
     have X2 : Hid (BoxN w2 w1.heap.size S1 (.slice a1 n1 c1) E1) := (BoxN.new w1 S1 E1 (.slice a1 n1 c1)).later hb2
     clear hr2 hb2
     go_wp2_with fail
     refine (power_walk 1 100 _ (by omega) (by omega) (by omega)).mono ?_
     rintro e w3 ⟨v3, rfl, hr3, hb3⟩
     have R3 : Hid (Rf w3 v3 (((1 : Nat) : Rat) * p2 100) ∧ Rf w3 v2 (if fval x < 0 then -fval x else fval x)) := ⟨hr3, R2.out.later hb3⟩
     have HB3 : Hid (Below w1.heap.size w1 w3) := below_step HB2.out hb3
     have X3 : Hid (BoxN w3 w1.heap.size S1 (.slice a1 n1 c1) E1) := X2.out.later hb3
     clear hr3 hb3 R2 X2
     obtain ⟨A, hA⟩ : ∃ A, Hid (sgq ((if fval x < 0 then -fval x else fval x) - ((1 : Nat) : Rat) * p2 100) = A) := ⟨_, rfl⟩
     have HA : Hid (A ≤ 0 ↔ frung x ≤ 5057542381537067008) := by
       show A ≤ 0 ↔ _
       rw [← hA.out, sgq_nonpos, crd_top HX.out.2, show U 1174 = p2 100 from rfl, show ((1 : Nat) : Rat) = 1 from rfl]
       show ab (fval x) - 1 * p2 100 ≤ 0 ↔ ab (fval x) ≤ p2 100
       constructor <;> intro h <;> grind
     have HF1 : Hid (Fit (if fval x < 0 then -fval x else fval x)) := by
       show Fit _
       split
       · exact HFT.out.neg
       · exact HFT.out
     go_wp2_with fail
     refine (cmp_is _ _ (if fval x < 0 then -fval x else fval x) (((1 : Nat) : Rat) * p2 100) A _ R3.out.2 R3.out.1 HF1.out (pow_fit 1 100 (by omega) (by omega) (by omega)) hA.out).mono ?_
     rintro e w4 ⟨rfl, hb4⟩
     have HB4 : Hid (Below w1.heap.size w1 w4) := below_step HB3.out hb4
     obtain ⟨x0, x1, x2, _, _⟩ := (X3.out.later hb4).cells
     clear hb4 R3 X3
     by_cases hA0 : A ≤ 0
     · go_wp2_with fail
       refine (low_rf _ (fval x) _ (R1.out.later HB4.out) HN0.out HFT.out).mono ?_
       rintro e w5 ⟨⟨l, m, rfl, hl, hm⟩, hb5⟩
       have HB5 : Hid (Below w.heap.size w w5) := below_step (below_step HB1.out HB4.out) hb5
       have HR : Hid (-100 ≤ l ↔ Crd x) := by
         show -100 ≤ l ↔ Crd x
         rw [odd_unit hl hm]
         exact ⟨fun h => ⟨HA.out.1 hA0, h⟩, fun h => h.2⟩
       clear hl hm hb5 x0 x1 x2
       go_wp2
       go_ret
       exact ⟨⟨decide (-100 ≤ l), rfl, by rw [decide_eq_true_iff]; exact HR.out⟩, HB5.out⟩
     · have dA : decide (A ≤ 0) = false := decide_eq_false hA0
       have HR : Hid (¬ Crd x) := fun h => hA0 (HA.out.2 h.1)
       have HB5 : Hid (Below w.heap.size w w4) := below_step HB1.out HB4.out
       clear hA0 x0 x1 x2
       go_wp2
       go_ret
       exact ⟨⟨false, rfl, fun h => Bool.noConfusion h, fun h => absurd h HR.out⟩, HB5.out⟩
 · have HN : Hid (¬ Crd x) := fun h => by have := h.1; omega
   have hx2 : x = 9218868437227405312 ∨ x = 18442240474082181120 := by unfold frung at hf; omega
   have q0 : FloatKind.f64.format.order x x = some .eq := by rcases hx2 with rfl | rfl <;> decide +kernel
   have h2 : floatBits .sub .f64 x x = none := by rcases hx2 with rfl | rfl <;> decide +kernel
   clear hx2
   have rs := run_sub_nan x x h2
   have h3 : ∀ w, FloatKind.f64.format.order (nanW x x w) 0 = none := fun w => nan_order (nanW_nan x x w).1 0
   clear h2 hf hx
   go_enter Try.func35, Try.ntmps35
   go_wp2
   go_ret
   exact ⟨⟨false, rfl, fun h => Bool.noConfusion h, fun h => absurd h HN.out⟩, (Below.refl _ _).drew⟩
 · have HN : Hid (¬ Crd x) := fun h => by have := h.1; omega
   have q0 : FloatKind.f64.format.order x x = none := order_nan_left hf
   clear hf hx
   go_enter Try.func35, Try.ntmps35
   go_wp2
   go_ret
   exact ⟨⟨false, rfl, fun h => Bool.noConfusion h, fun h => absurd h HN.out⟩, Below.refl _ _⟩
set_option maxRecDepth 100000 in
set_option maxHeartbeats 1000000 in
theorem may_any (x y : Nat) (w : World) (hw : x < 18446744073709551616 ∧ y < 18446744073709551616) : Calls Try.prog 19 #[pv x y] w fun e w' => (∃ t, e = .returned (.bool t) ∧ (t = true ↔ Pt x y)) ∧ Below w.heap.size w w' := by
 have HW : Hid (x < 18446744073709551616 ∧ y < 18446744073709551616) := hw
 have HAL : Hid (Below w.heap.size w (w.alloc (.cells #[.float .f64 x, .float .f64 y] 28))) := (Below.refl _ w).alloc (Nat.le_refl _) _
 clear hw
 go_enter Try.func19, Try.ntmps19
 go_wp2_with fail
 refine (coord_any x _ HW.out.1).mono ?_
 rintro e w1 ⟨⟨t, rfl, ht⟩, hb1⟩
 have d1 : w1.cell? ⟨w.heap.size, 1, none⟩ = some (.float .f64 y) := box_cell hb1 (by go_simp)
 have HB1 : Hid (Below w.heap.size w w1) := below_step HAL.out hb1
 have HT : Hid (t = true ↔ Crd x) := ht
 clear ht hb1
 cases t
 · go_wp2
   go_ret
   exact ⟨⟨false, rfl, fun h => Bool.noConfusion h, fun h => Bool.noConfusion (HT.out.2 h.1)⟩, HB1.out⟩
 · have HX : Hid (Crd x) := HT.out.1 rfl
   go_wp2_with fail
   refine (coord_any y _ HW.out.2).mono ?_
   rintro e w2 ⟨⟨t, rfl, ht⟩, hb2⟩
   have HB2 : Hid (Below w.heap.size w w2) := below_step HB1.out hb2
   have HR : Hid (t = true ↔ Pt x y) := by
     show t = true ↔ _
     rw [ht]
     exact ⟨fun h => ⟨HX.out, h⟩, fun h => h.2⟩
   clear ht hb2 d1
   go_wp2
   go_ret
   exact ⟨⟨t, rfl, HR.out⟩, HB2.out⟩
end

/- A slice of points that is handed in, opened. -/
section
open Go.ChangeShapes Go.WideShapes Go.ChangeAt Go.RowKit Go.Deep
theorem uFloat7 : Try.prog.underlying 26 = some (.float .f64) := by kernel_rfl
theorem uSl7 : Try.prog.underlying 30 = some (.slice 28) := by kernel_rfl
theorem float_of_trod7 {H : Type} {enc : TypeId × Value → H} {P : Program} {w : World} {base m : Nat} {sp : Nat → Bool} {held : Bool} {e : TypeId} {c : Value} {x : DataW H × List MemPlace}
   (he : P.underlying e = some (.float .f64)) (h : DataW.trod enc P w base sp held m e [c] = some x) : ∃ b, c = .float .f64 b ∧ b < 18446744073709551616 := by
 cases m with
 | zero => simp [DataW.trod] at h
 | succ m =>
   unfold DataW.trod at h
   rw [he] at h
   cases c with
   | float k b =>
     simp only [] at h
     split at h
     · rename_i hk
       obtain ⟨rfl, hw⟩ := hk
       exact ⟨b, rfl, by simpa [Lit.wf, FloatKind.has] using hw⟩
     · cases h
   | _ => simp at h
set_option maxRecDepth 100000 in
theorem open_ps {H : Type} {enc : TypeId × Value → H} {W : World} {b0 : Nat} {r : Reach} {v : Value} {d : DataW H} {ps : List MemPlace} (hval : Value.okWide Try.prog W r b0 30 v) (h : DataW.Trod enc Try.prog W 0 (fun _ => true) true 30 v d ps) :
   ∃ n f, Ps W v n f := by
 obtain ⟨a, len, cap, rfl⟩ := okWide_slice uSl7 hval
 obtain ⟨fuel, hf⟩ := h
 rcases open_slice_pairs uSl7 Try.underlying28 (by kernel_rfl) rfl rfl (by kernel_rfl) (by kernel_rfl) hf with ⟨hcs, _⟩ | ⟨a', len', cap', m, nn, V0, V1, D0, D1, P0, P1, hcs, _, hl, hm, hmm, _, hx⟩
 · simp [Value.cells] at hcs
   obtain ⟨rfl, rfl, rfl⟩ := hcs
   exact ⟨0, fun _ => (0, 0), ⟨none, 0, rfl, by simp, by omega, Or.inl rfl⟩, fun _ => by unfold WdP; decide⟩
 · simp [Value.cells] at hcs
   obtain ⟨rfl, rfl, rfl⟩ := hcs
   simp only [if_true] at hmm
   have key : ∀ i, i < len → ∃ p : Nat × Nat, (V0 i = .float .f64 p.1 ∧ V1 i = .float .f64 p.2) ∧ WdP p := fun i hi => by
     obtain ⟨x, e1, h1⟩ := float_of_trod7 uFloat7 (hx i (by omega)).2.2.1
     obtain ⟨y, e2, h2⟩ := float_of_trod7 uFloat7 (hx i (by omega)).2.2.2
     exact ⟨(x, y), ⟨e1, e2⟩, h1, h2⟩
   obtain ⟨q, hq⟩ := choose_lt key
   refine ⟨len, fun k => if k < len then q k else (0, 0), ⟨some a', cap, rfl, by omega, by unfold maxLen at hm; omega, ?_⟩, fun k => ?_⟩
   · by_cases h0 : len = 0
     · exact Or.inl h0
     · right
       obtain ⟨b, off, spot⟩ := a'
       have hspot : spot = none := by simpa [Addr.add] using World.cell?_spot (hx 0 (by omega)).1
       subst hspot
       have h1 := fun k (hk : k < len) => (hx k (by omega)).1
       have h2 := fun k (hk : k < len) => (hx k (by omega)).2.1
       refine ⟨b, off, rfl, World.block_lt_of_cell? _ _ (h1 0 (by omega)), fun k hk => ?_⟩
       rw [if_pos hk]
       have e1 := h1 k hk
       have e2 := h2 k hk
       rw [(hq k hk).1.1, Addr.add_lit] at e1
       rw [(hq k hk).1.2, Addr.add_lit] at e2
       exact ⟨e1, by rw [Nat.add_assoc]; exact e2⟩
   · by_cases hk : k < len
     · rw [if_pos hk]; exact (hq k hk).2
     · rw [if_neg hk]; unfold WdP; decide
end
end Go.Proofs.Ytgpbfhennineiaa
