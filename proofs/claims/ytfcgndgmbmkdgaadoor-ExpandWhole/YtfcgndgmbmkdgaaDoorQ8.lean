/- Own texts, put together: Xc Xd Ee Ef Eg Et Eu Ev. -/
import Derived.Test.YtfcgndgmbmkdgaaDoorQ7
import Derived.Below
/- A list that rises and does not overlap, times a float: plain facts. -/
namespace Go.Proofs.YtfcgndgmbmkdgaaDoor

theorem U_mulX' {s t r : Nat} (h : r + 1074 = s + t) : U s * U t = U r := by
  unfold U
  rw [← p2_add, show (s : Int) - 1074 + ((t : Int) - 1074) = (r : Int) - 1074 by omega]
theorem U_mulX {s t : Nat} (h : 1074 ≤ s + t) : U s * U t = U (s + t - 1074) := U_mulX' (by omega)
theorem M.mul {u v x y : Rat} (h1 : M u x) (h2 : M v y) : M (u * v) (x * y) := by
  obtain ⟨j, rfl⟩ := h1
  obtain ⟨k, rfl⟩ := h2
  exact ⟨j * k, by rw [Rat.intCast_mul]; grind⟩
theorem ab_mul (x y : Rat) : ab (x * y) = ab x * ab y := by
  have key : ∀ a b : Rat, 0 ≤ a → 0 ≤ b → ab (a * b) = a * b := by
    intro a b ha hb
    have := Rat.mul_nonneg ha hb
    unfold ab; rw [if_neg (by grind)]
  have hx : x = ab x ∨ x = -ab x := by unfold ab; split <;> grind
  have hy : y = ab y ∨ y = -ab y := by unfold ab; split <;> grind
  have hk := key (ab x) (ab y) (ab_nonneg x) (ab_nonneg y)
  rcases hx with hx | hx <;> rcases hy with hy | hy
  · rw [← hx, ← hy] at hk
    rw [← hx, ← hy]; exact hk
  · have e : x * y = -(ab x * ab y) := by rw [← hx]; grind
    rw [e, ab_neg, hk]
  · have e : x * y = -(ab x * ab y) := by rw [← hy]; grind
    rw [e, ab_neg, hk]
  · have e : x * y = ab x * ab y := by grind
    rw [e, hk]
theorem lo_many {y : Rat} {l : List Rat} (h : ∀ d ∈ l, Lo d y) (hne : l ≠ []) : ∃ t, (∀ d ∈ l, ab d < U t) ∧ M (U t) y := by
  induction l with
  | nil => exact absurd rfl hne
  | cons d r ih =>
    obtain ⟨s, a, b⟩ := h d (by simp)
    by_cases e : r = []
    · subst e
      exact ⟨s, fun z hz => by simp at hz; rw [hz]; exact a, b⟩
    · obtain ⟨t, c, m⟩ := ih (fun z hz => h z (by simp [hz])) e
      rcases Nat.le_total s t with e | e
      · have := U_mono e
        exact ⟨t, fun z hz => by
          rcases List.mem_cons.1 hz with rfl | hz
          · grind
          · exact c z hz, m⟩
      · have := U_mono e
        exact ⟨s, fun z hz => by
          rcases List.mem_cons.1 hz with rfl | hz
          · exact a
          · have := c z hz; grind, b⟩
/-- Rounding does not go beyond a power of two. -/
theorem Rnd.le_pow {q x : Rat} {T p : Nat} {k : Int} (R : Rnd q x T k) (h : ab q < U p) : ab x ≤ U p := by
  have hu := U_pos T
  have h1 := R.h1
  have h2 := R.h2
  have hq := ab_lt.1 h
  by_cases hT : T ≤ p
  · have hp : M (U T) (U p) := M.down hT ⟨1, by rw [one_rat]; grind⟩
    have key : ∀ z : Rat, M (U T) z → 2 * (z - U p) < U T → z ≤ U p := by
      intro z hz hlt
      rcases (Rat.le_total : z ≤ U p ∨ U p ≤ z) with h | h
      · exact h
      · have := M.eq hu hz hp (by grind) (by grind)
        grind
    exact ab_le.2 ⟨key x R.m (by grind), key (-x) R.m.neg (by grind)⟩
  · exfalso
    have h3 : T ≠ 0 := by omega
    have := R.unit_le h h3
    omega

/-- What is so between two rounds of scaled. (B: b is a multiple of 2^(B - 1074), and below 2^(B + 53 - 1074).) -/
structure SInv (b : Rat) (B : Nat) (de re outs : List Rat) (Q : Rat) : Prop where
  sum : Q + outs.sum = de.sum * b
  ex : Ex outs
  fo : ∀ h ∈ outs, F h
  low : ∀ h ∈ outs, Lo h Q
  hb : ∀ s, (∀ d ∈ de, ab d < U s) → 572 ≤ s → ∀ h ∈ outs, ab h < U s * U B
  qb : ∀ s, (∀ d ∈ de, ab d < U s) → 572 ≤ s → ab Q ≤ U s * U (B + 53)
  fQ : F Q
  ee : Ex (de ++ re)
  fe : ∀ x ∈ re, F x ∧ U 624 ≤ ab x

theorem SInv.start {b : Rat} {B : Nat} {e : List Rat} (h : Ex e) (hf : ∀ x ∈ e, F x ∧ U 624 ≤ ab x) : SInv b B [] e [] 0 where
  sum := by simp only [List.sum_nil]; grind
  ex := ⟨List.Pairwise.nil, by simp⟩
  fo := by simp
  low := by simp
  hb := by simp
  qb := fun s _ _ => by
    have := Rat.mul_pos (U_pos s) (U_pos (B + 53))
    rw [ab_le]; constructor <;> grind
  fQ := F_zero
  ee := h
  fe := hf

/-- The unit of the next float. -/
theorem SInv.unit {b Q x : Rat} {B : Nat} {de re outs : List Rat} (I : SInv b B de (x :: re) outs Q) : ∃ s, 572 ≤ s ∧ (∀ d ∈ de, ab d < U s) ∧ M (U s) x ∧ ab x < U (s + 53) ∧ x ≠ 0 ∧ U s ≤ ab x := by
  have x0 : x ≠ 0 := I.ee.2 x (by simp)
  obtain ⟨fx, hx⟩ := I.fe x (by simp)
  obtain ⟨K, _, h1, h2⟩ := binade (F.mult0 fx) x0
  have hK : 624 ≤ K := by
    have : U 624 < U (K + 1) := by grind
    have := U_lt_iff.1 this
    omega
  have hdx : ∀ d ∈ de, Lo d x := fun d hd => (List.pairwise_append.1 I.ee.1).2.2 d hd x (by simp)
  by_cases e : de = []
  · subst e
    have hm := F.mult fx h1
    exact ⟨K - 52, by omega, by simp, hm, by rw [show K - 52 + 53 = K + 1 by omega]; exact h2, x0, hm.ge (U_pos _) x0⟩
  · obtain ⟨t, ht, hm⟩ := lo_many hdx e
    rcases Nat.le_total t (K - 52) with h | h
    · have hm := F.mult fx h1
      have := U_mono h
      exact ⟨K - 52, by omega, fun d hd => by have := ht d hd; grind, hm, by rw [show K - 52 + 53 = K + 1 by omega]; exact h2, x0, hm.ge (U_pos _) x0⟩
    · have := U_mono (show K + 1 ≤ t + 53 by omega)
      exact ⟨t, by omega, ht, hm, by grind, x0, hm.ge (U_pos _) x0⟩

/-- The bounds of a round. -/
theorem scale_bounds {b Q x T t : Rat} {B s TT : Nat} {k : Int} (hB : 572 ≤ B) (hs : 572 ≤ s) (mb : M (U B) b) (bb : ab b < U (B + 53)) (mx : M (U s) x) (xb : ab x < U (s + 53)) (qb : ab Q ≤ U s * U (B + 53)) (RT : Rnd (x * b) T TT k) (hT : T + t = x * b) :
    ab t ≤ U (s + B - 1074 + 52) ∧ ab (Q + t) < U (s + B - 1074 + 54) ∧ Lo t T ∧ ab (x * b) < U (s + B - 1074 + 106) := by
  have e1 : U s * U (B + 53) = U (s + B - 1074 + 53) := U_mulX' (by omega)
  have e2 : U (s + 53) * U (B + 53) = U (s + B - 1074 + 106) := U_mulX' (by omega)
  have hxb : ab (x * b) < U (s + B - 1074 + 106) := by
    rw [ab_mul, ← e2]
    have h1 := Rat.mul_le_mul_of_nonneg_right (Rat.le_of_lt xb) (ab_nonneg b)
    have h2 := Rat.mul_lt_mul_of_pos_left bb (U_pos (s + 53))
    grind
  have hl := RT.rest_lo
  have hh := RT.half
  rw [show x * b - T = t by grind] at hl hh
  have ht : ab t ≤ U (s + B - 1074 + 52) := by
    by_cases h0 : TT = 0
    · subst h0
      have hm : M (U 0) (x * b) := by
        have := mx.mul mb
        rw [U_mulX (by omega)] at this
        exact this.down (Nat.zero_le _)
      have := RT.mult hm
      have h0 : t = 0 := by grind
      have := U_pos (s + B - 1074 + 52)
      rw [ab_le]; constructor <;> grind
    · have h1 := RT.unit_le hxb h0
      have h2 := U_mono (show TT ≤ (s + B - 1074 + 52) + 1 by omega)
      rw [U_succ] at h2
      grind
  refine ⟨ht, ?_, hl, hxb⟩
  have h1 := ab_add Q t
  have h2 := U_succ (s + B - 1074 + 53)
  have h3 := U_succ (s + B - 1074 + 52)
  have := U_pos (s + B - 1074 + 52)
  rw [e1] at qb
  grind

theorem SInv.step {b Q x T t Q1 h1 Q2 h2 : Rat} {B : Nat} {de re outs : List Rat} {TT T1 T2 : Nat} {kT k1 k2 : Int} (I : SInv b B de (x :: re) outs Q) (hB : 572 ≤ B) (mb : M (U B) b) (bb : ab b < U (B + 53))
    (RT : Rnd (x * b) T TT kT) (hT : T + t = x * b) (ft : F t) (R1 : Rnd (Q + t) Q1 T1 k1) (e1 : Q1 + h1 = Q + t) (f1 : F h1) (R2 : Rnd (T + Q1) Q2 T2 k2) (e2 : Q2 + h2 = T + Q1) (f2 : F h2) : SInv b B (de ++ [x]) re (grownR (grownR outs h1) h2) Q2 := by
  obtain ⟨s, hs, hd, mx, xb, x0, sx⟩ := I.unit
  have hqs := I.qb s hd hs
  obtain ⟨c1, c2, c3, c4⟩ := scale_bounds hB hs mb bb mx xb hqs RT hT
  have mxb : M (U s * U B) (x * b) := mx.mul mb
  -- the elder ones
  have old : ∀ h ∈ outs, Lo h T ∧ Lo h Q1 ∧ Lo h h1 ∧ Lo h Q2 ∧ Lo h h2 := by
    intro h hh
    have a : Lo h (x * b) := ⟨s + B - 1074, by rw [← U_mulX (by omega)]; exact I.hb s hd hs h hh, by rw [← U_mulX (by omega)]; exact mxb⟩
    have a1 := a.rnd RT
    have a2 := a.sub a1
    rw [show x * b - T = t by grind] at a2
    have a3 := ((I.low h hh).add a2).rnd R1
    have a4 := ((I.low h hh).add a2).sub a3
    rw [show Q + t - Q1 = h1 by grind] at a4
    have a5 := (a1.add a3).rnd R2
    have a6 := (a1.add a3).sub a5
    rw [show T + Q1 - Q2 = h2 by grind] at a6
    exact ⟨a1, a3, a4, a5, a6⟩
  -- what is rounded off first
  have first : h1 ≠ 0 → ab h1 ≤ U (s + B - 1074) ∧ Lo h1 Q2 ∧ Lo h1 h2 := by
    intro h0
    have a1 := R1.rest_le' I.fQ
    have a2 := R1.rest_lo
    have a3 := R1.half
    rw [show Q + t - Q1 = h1 by grind] at a1 a2 a3
    have hT1 : T1 ≠ 0 := by
      intro e
      subst e
      have := R1.mult ((F.mult0 I.fQ).add (F.mult0 ft))
      exact h0 (by grind)
    have u1 := R1.unit_le c2 hT1
    have u2 := U_mono (show T1 ≤ (s + B - 1074) + 1 by omega)
    rw [U_succ] at u2
    have a4 : Lo h1 T := by
      obtain ⟨r, ra, rb⟩ := c3
      exact ⟨r, by grind, rb⟩
    have a5 := (a4.add a2).rnd R2
    have a6 := (a4.add a2).sub a5
    rw [show T + Q1 - Q2 = h2 by grind] at a6
    exact ⟨by grind, a5, a6⟩
  have ex1 : Ex (grownR outs h1) := I.ex.grow (fun h hh => (old h hh).2.2.1)
  have low1 : ∀ h ∈ grownR outs h1, Lo h Q2 ∧ Lo h h2 := by
    intro h hh
    rcases mem_grow hh with hh | ⟨rfl, h0⟩
    · exact (old h hh).2.2.2
    · exact (first h0).2
  -- a unit above all that is done
  have up : ∀ s', (∀ d ∈ de ++ [x], ab d < U s') → s < s' := by
    intro s' h'
    have := h' x (by simp)
    have : U s < U s' := by grind
    exact U_lt_iff.1 this
  have hb1 : ∀ s', (∀ d ∈ de ++ [x], ab d < U s') → 572 ≤ s' → ∀ h ∈ grownR outs h1, ab h < U s' * U B := by
    intro s' h' hs' h hh
    rcases mem_grow hh with hh | ⟨rfl, h0⟩
    · exact I.hb s' (fun d hd => h' d (by simp [hd])) hs' h hh
    · have a := (first h0).1
      have l := up s' h'
      have := U_lt_iff.2 (show s + B - 1074 < s' + B - 1074 by omega)
      rw [U_mulX (by omega)]
      grind
  have sum1 : T + Q1 + (grownR outs h1).sum = (de ++ [x]).sum * b := by
    rw [sum_grow, List.sum_append, List.sum_cons, List.sum_nil, Rat.add_zero]
    have := I.sum
    grind
  have big : ∀ s', (∀ d ∈ de ++ [x], ab d < U s') → 572 ≤ s' → ab (T + Q1) < U (s' + B - 1074 + 53) := by
    intro s' h' hs'
    have a1 := ex1.bound (s := s' + B - 1074) (fun h hh => by rw [← U_mulX (by omega)]; exact hb1 s' h' hs' h hh)
    have e3 : Ex (de ++ [x]) := by
      have := I.ee
      rw [List.append_cons] at this
      exact this.left
    have a2 := e3.bound h'
    have a3 := mb.room (by omega) bb
    have a4 : ab ((de ++ [x]).sum * b) ≤ U (s' + B - 1074 + 53) - U (s' + B - 1074) := by
      rw [ab_mul]
      have b1 := Rat.mul_le_mul_of_nonneg_right (Rat.le_of_lt a2) (ab_nonneg b)
      have b2 := Rat.mul_le_mul_of_nonneg_left a3 (Rat.le_of_lt (U_pos s'))
      have b3 : U s' * U (B + 53) = U (s' + B - 1074 + 53) := U_mulX' (by omega)
      have b4 : U s' * U B = U (s' + B - 1074) := U_mulX (by omega)
      have b5 : U s' * (U (B + 53) - U B) = U s' * U (B + 53) - U s' * U B := by grind
      rw [b5, b3, b4] at b2
      grind
    have := ab_self ((de ++ [x]).sum * b)
    have := ab_self (grownR outs h1).sum
    rw [ab_lt]; constructor <;> grind
  refine ⟨?_, ex1.grow (fun h hh => (low1 h hh).2), ?_, ?_, ?_, ?_, R2.f, ?_, fun y hy => I.fe y (by simp [hy])⟩
  · rw [sum_grow]; grind
  · intro h hh
    rcases mem_grow hh with hh | ⟨rfl, _⟩
    · rcases mem_grow hh with hh | ⟨rfl, _⟩
      · exact I.fo h hh
      · exact f1
    · exact f2
  · intro h hh
    rcases mem_grow hh with hh | ⟨rfl, _⟩
    · exact (low1 h hh).1
    · have := R2.rest_lo
      rwa [show T + Q1 - Q2 = h by grind] at this
  · intro s' h' hs' h hh
    rcases mem_grow hh with hh | ⟨rfl, h0⟩
    · exact hb1 s' h' hs' h hh
    · have a1 := big s' h' hs'
      have hT2 : T2 ≠ 0 := by
        intro e
        subst e
        have := R2.mult ((F.mult0 RT.f).add (F.mult0 R1.f))
        exact h0 (by grind)
      have u1 := R2.unit_le a1 hT2
      have u2 := U_mono (show T2 ≤ s' + B - 1074 by omega)
      have a3 := R2.half
      rw [show T + Q1 - Q2 = h by grind] at a3
      have := ab_nonneg h
      have := U_pos (s' + B - 1074)
      rw [U_mulX (by omega)]
      grind
  · intro s' h' hs'
    have := R2.le_pow (big s' h' hs')
    rwa [show U s' * U (B + 53) = U (s' + B - 1074 + 53) from U_mulX' (by omega)]
  · have := I.ee
    rwa [List.append_cons] at this

theorem SInv.done {b Q : Rat} {B : Nat} {de outs : List Rat} (I : SInv b B de [] outs Q) : Ex (grownR outs Q) ∧ (grownR outs Q).sum = de.sum * b ∧ ∀ x ∈ grownR outs Q, F x := by
  refine ⟨I.ex.grow I.low, ?_, fun x hx => ?_⟩
  · rw [sum_grow, ← I.sum]; grind
  · rcases mem_grow hx with hx | ⟨rfl, _⟩
    · exact I.fo x hx
    · exact I.fQ

end Go.Proofs.YtfcgndgmbmkdgaaDoor

/- A list that rises and does not overlap, squeezed: plain facts. -/
namespace Go.Proofs.YtfcgndgmbmkdgaaDoor

/-- Rounded, and to the even one between two. -/
def RndE (q x : Rat) (T : Nat) (k : Int) : Prop := Rnd q x T k ∧ (2 * ab (q - x) = U T → k % 2 = 0)

/-- What is so between two rounds of squeezed. (acc: what is done, the least first; c: what is in hand; lo: what is left.) -/
structure ZInv (top : Nat) (S : Rat) (acc : List Rat) (c : Rat) (lo : List Rat) : Prop where
  sum : lo.sum + c + acc.sum = S
  exl : Ex (lo ++ [c])
  exa : Ex acc
  fl : ∀ x ∈ lo, F x
  fc : F c
  fa : ∀ x ∈ acc, F x
  room : ∃ p, ab (c + lo.sum) < U p ∧ ab c ≤ U p ∧ p + 52 * acc.length ≤ top ∧ ∀ o ∈ acc, M (U (p + 1)) o
  near : ∀ L, acc.getLast? = some L → ∃ P, U (P + 52) ≤ ab L ∧ ab (S - L) < U P

theorem ZInv.start {top : Nat} {c : Rat} {lo : List Rat} (h : Ex (lo ++ [c])) (hf : ∀ x ∈ lo ++ [c], F x ∧ ab x < U top) : ZInv top ((lo ++ [c]).sum) [] c lo where
  sum := by simp only [List.sum_append, List.sum_cons, List.sum_nil]; grind
  exl := h
  exa := ⟨List.Pairwise.nil, by simp⟩
  fl := fun x hx => (hf x (by simp [hx])).1
  fc := (hf c (by simp)).1
  fa := by simp
  room := ⟨top, by
    have := h.bound (s := top) (fun x hx => (hf x hx).2)
    simp only [List.sum_append, List.sum_cons, List.sum_nil] at this
    rwa [show c + lo.sum = lo.sum + (c + 0) by grind], Rat.le_of_lt (hf c (by simp)).2, by simp, by simp⟩
  near := by simp

theorem U_two (T : Nat) (h : T ≠ 0) : U T = 2 * U (T - 1) := by
  have := U_succ (T - 1)
  rwa [show T - 1 + 1 = T by omega] at this
theorem U_52 (T : Nat) : U (T + 52) = 4503599627370496 * U T := by
  rw [U_add]
  have e : ((2 ^ 52 : Nat) : Rat) = 4503599627370496 := by decide +kernel
  rw [e]

/-- What is in hand and the next one, together. -/
theorem ZInv.next {top p : Nat} {S c x : Rat} {acc lo : List Rat} (I : ZInv top S acc c (lo ++ [x])) (h1 : ab (c + (lo ++ [x]).sum) < U p) (h2 : ab c ≤ U p) : ab (c + x) ≤ U p := by
  rw [List.sum_append, List.sum_cons, List.sum_nil, Rat.add_zero] at h1
  have hp := I.exl
  have c0 : c ≠ 0 := hp.2 c (by simp)
  have pw := List.pairwise_append.1 hp.1
  have pw2 := List.pairwise_append.1 pw.1
  by_cases e : lo = []
  · subst e
    rw [List.sum_nil] at h1
    rw [show c + x = c + (0 + x) by grind]
    exact Rat.le_of_lt h1
  · obtain ⟨t, ht, hm⟩ := lo_many (y := c) (l := lo) (fun d hd => pw.2.2 d (by simp [hd]) c (by simp)) e
    obtain ⟨t', ht', hm'⟩ := lo_many (y := x) (l := lo) (fun d hd => pw2.2.2 d hd x (by simp)) e
    obtain ⟨r, hr, m1, m2⟩ : ∃ r, (∀ d ∈ lo, ab d < U r) ∧ M (U r) c ∧ M (U r) x := by
      rcases Nat.le_total t t' with e | e
      · exact ⟨t, ht, hm, hm'.down e⟩
      · exact ⟨t', ht', hm.down e, hm'⟩
    have hb := (Ex.left (b := [x]) ⟨pw.1, fun y hy => hp.2 y (by simp at hy ⊢; grind)⟩).bound hr
    have hrp : r ≤ p := by
      have := m1.ge (U_pos r) c0
      exact U_le_iff.1 (by grind)
    have m3 := m1.add m2
    have mp : M (U r) (U p) := M.down hrp ⟨1, by rw [one_rat]; grind⟩
    have hu := U_pos r
    have hs := ab_lt.1 h1
    have hl := ab_lt.1 hb
    have key : ∀ z : Rat, M (U r) z → z < U p + U r → z ≤ U p := by
      intro z hz hlt
      rcases (Rat.le_total : z ≤ U p ∨ U p ≤ z) with h | h
      · exact h
      · have := M.eq hu hz mp (by grind) (by grind)
        grind
    exact ab_le.2 ⟨key _ m3 (by grind), key _ m3.neg (by grind)⟩

theorem ZInv.tail {top : Nat} {S c x : Rat} {acc lo : List Rat} (I : ZInv top S acc c (lo ++ [x])) : Ex lo ∧ (∀ d ∈ lo, Lo d c ∧ Lo d x) ∧ Lo x c ∧ c ≠ 0 ∧ x ≠ 0 := by
  have hp := I.exl
  have pw := List.pairwise_append.1 hp.1
  have pw2 := List.pairwise_append.1 pw.1
  exact ⟨⟨pw2.1, fun y hy => hp.2 y (by simp [hy])⟩, fun d hd => ⟨pw.2.2 d (by simp [hd]) c (by simp), pw2.2.2 d hd x (by simp)⟩, pw.2.2 x (by simp) c (by simp), hp.2 c (by simp), hp.2 x (by simp)⟩
theorem Ex.snoc {l : List Rat} {x : Rat} (h : Ex l) (h1 : ∀ d ∈ l, Lo d x) (h0 : x ≠ 0) : Ex (l ++ [x]) :=
  ⟨List.pairwise_append.2 ⟨h.1, by simp, fun d hd y hy => by simp at hy; rw [hy]; exact h1 d hd⟩, fun y hy => by
    rcases List.mem_append.1 hy with hy | hy
    · exact h.2 y hy
    · simp at hy; rw [hy]; exact h0⟩
theorem Ex.cons {l : List Rat} {x : Rat} (h : Ex l) (h1 : ∀ d ∈ l, Lo x d) (h0 : x ≠ 0) : Ex (x :: l) :=
  ⟨List.pairwise_cons.2 ⟨h1, h.1⟩, fun y hy => by
    rcases List.mem_cons.1 hy with rfl | hy
    · exact h0
    · exact h.2 y hy⟩
theorem Rnd.le_pow' {q x : Rat} {T p : Nat} {k : Int} (R : Rnd q x T k) (h : ab q ≤ U p) : ab x ≤ U p := by
  by_cases e : ab q = U p
  · have hf : F q := by
      unfold ab at e
      split at e
      · exact ⟨p, -1, by rw [show ((-1 : Int) : Rat) = -1 from rfl]; grind, by omega, by omega⟩
      · exact ⟨p, 1, by rw [one_rat]; grind, by omega, by omega⟩
    rw [R.exact hf]; exact h
  · exact R.le_pow (by grind)

/-- Nothing is rounded off: the next one is taken in. -/
theorem ZInv.take {top : Nat} {S c x : Rat} {acc lo : List Rat} (I : ZInv top S acc c (lo ++ [x])) (fs : F (c + x)) : ZInv top S acc (c + x) lo := by
  obtain ⟨el, hlo, hxc, c0, x0⟩ := I.tail
  obtain ⟨p, r1, r2, r3, r4⟩ := I.room
  have hn := I.next r1 r2
  refine ⟨?_, el.snoc (fun d hd => (hlo d hd).1.add (hlo d hd).2) ?_, I.exa, fun y hy => I.fl y (by simp [hy]), fs, I.fa, ⟨p, ?_, hn, r3, r4⟩, I.near⟩
  · rw [← I.sum, List.sum_append, List.sum_cons, List.sum_nil]; grind
  · intro e
    have := hxc.lt c0
    rw [show c = -x by grind, ab_neg] at this
    grind
  · rw [List.sum_append, List.sum_cons, List.sum_nil] at r1
    rwa [show c + x + lo.sum = c + (lo.sum + (x + 0)) by grind]

theorem M.even {T : Nat} {k : Int} {s : Rat} (h : s = (k : Rat) * U T) (he : k % 2 = 0) : M (U (T + 1)) s := by
  obtain ⟨j, rfl⟩ : ∃ j, k = j * 2 := ⟨k / 2, by omega⟩
  refine ⟨j, ?_⟩
  rw [h, U_succ, Rat.intCast_mul, show ((2 : Int) : Rat) = 2 from rfl]; grind

/-- Something is rounded off: what is in hand is done. -/
theorem ZInv.emit {top : Nat} {S c x s r : Rat} {acc lo : List Rat} {T : Nat} {k : Int} (I : ZInv top S acc c (lo ++ [x])) (R : RndE (c + x) s T k) (hr : s + r = c + x) (fr : F r) (r0 : r ≠ 0) : ZInv top S (s :: acc) r lo := by
  obtain ⟨el, hlo, hxc, c0, x0⟩ := I.tail
  obtain ⟨p, r1, r2, r3, r4⟩ := I.room
  have hn := I.next r1 r2
  obtain ⟨R, hev⟩ := R
  have fx := I.fl x (by simp)
  have hT : T ≠ 0 := by
    intro e
    subst e
    have := R.mult ((F.mult0 I.fc).add (F.mult0 fx))
    exact r0 (by grind)
  have hhalf := R.half
  rw [show c + x - s = r by grind] at hev hhalf
  have hu := U_pos T
  have e2 := U_two T hT
  have e52 := U_52 T
  have hbig : U (T + 52) ≤ ab (c + x) := by
    rw [le_ab, e52]
    rcases R.h3 with h | h | h
    · exact absurd h hT
    · exact Or.inl h
    · exact Or.inr h
  have hTp : T + 52 ≤ p := U_le_iff.1 (by grind)
  have hs : U (T + 52) ≤ ab s := by
    have m52 : M (U T) (U (T + 52)) := M.down (show T ≤ T + 52 by omega) ⟨1, by rw [one_rat]; grind⟩
    have key : ∀ z : Rat, M (U T) z → U (T + 52) < z + U T → U (T + 52) ≤ z := by
      intro z hz hlt
      rcases (Rat.le_total : U (T + 52) ≤ z ∨ z ≤ U (T + 52)) with h | h
      · exact h
      · have := M.eq hu hz m52 (by grind) (by grind)
        grind
    have h1 := R.h1
    have h2 := R.h2
    rw [le_ab]
    rcases le_ab.1 hbig with h | h
    · exact Or.inl (key s R.m (by grind))
    · exact Or.inr (key (-s) R.m.neg (by grind))
  have s0 : s ≠ 0 := by
    intro e
    rw [e] at hs
    have := U_pos (T + 52)
    have : ab 0 ≤ 0 := ab_le.2 ⟨by grind, by grind⟩
    grind
  have hsp : ab s ≤ U p := R.le_pow' hn
  have hlor : ∀ d ∈ lo, Lo d r := fun d hd => by
    have a := (hlo d hd).1.add (hlo d hd).2
    have b := a.sub (a.rnd R)
    rwa [show c + x - s = r by grind] at b
  have hlt : ab s < U (p + 1) := by
    have := U_succ p
    have := U_pos p
    grind
  have exa' : Ex (s :: acc) := I.exa.cons (fun o ho => ⟨p + 1, hlt, r4 o ho⟩) s0
  -- what is left below
  have hroom : ∃ p', ab (r + lo.sum) < U p' ∧ ab r ≤ U p' ∧ p' + 52 ≤ p ∧ U (p' + 52) ≤ ab s ∧ M (U (p' + 1)) s := by
    by_cases tie : 2 * ab r = U T
    · have hm := M.even R.hx (hev tie)
      refine ⟨T, ?_, by have := ab_nonneg r; grind, hTp, hs, hm⟩
      by_cases e : lo = []
      · subst e
        rw [List.sum_nil, Rat.add_zero]; grind
      · obtain ⟨t, ht, hm⟩ := lo_many hlor e
        have a1 := el.bound ht
        have a2 := hm.ge (U_pos t) r0
        have a3 := ab_add r lo.sum
        grind
    · have hlt2 : ab r < U (T - 1) := by grind
      have hm : M (U (T - 1 + 1)) s := by rw [show T - 1 + 1 = T by omega]; exact R.m
      refine ⟨T - 1, ?_, Rat.le_of_lt hlt2, by omega, by have := U_mono (show T - 1 + 52 ≤ T + 52 by omega); grind, hm⟩
      by_cases e : lo = []
      · subst e
        rw [List.sum_nil, Rat.add_zero]; exact hlt2
      · obtain ⟨t, ht, hm⟩ := lo_many hlor e
        have a1 := el.bound ht
        have a2 := hm.ge (U_pos t) r0
        have htT : t ≤ T - 1 := U_le_iff.1 (by grind)
        have a3 := hm.room htT hlt2
        have a4 := ab_add r lo.sum
        grind
  obtain ⟨p', q1, q2, q3, q4, q5⟩ := hroom
  refine ⟨?_, el.snoc hlor r0, exa', fun y hy => I.fl y (by simp [hy]), fr, ?_, ⟨p', q1, q2, ?_, ?_⟩, ?_⟩
  · rw [← I.sum]
    simp only [List.sum_append, List.sum_cons, List.sum_nil]; grind
  · intro y hy
    rcases List.mem_cons.1 hy with rfl | hy
    · exact R.f
    · exact I.fa y hy
  · rw [List.length_cons]; omega
  · intro o ho
    rcases List.mem_cons.1 ho with rfl | ho
    · exact q5
    · exact (r4 o ho).down (by omega)
  · intro L hL
    by_cases e : acc = []
    · subst e
      simp at hL
      subst hL
      have hS := I.sum
      rw [List.sum_append, List.sum_cons, List.sum_nil] at hS
      exact ⟨p', q4, by rw [show S - s = r + lo.sum by grind]; exact q1⟩
    · refine I.near L ?_
      rw [List.getLast?_cons_of_ne_nil e] at hL
      exact hL

/-- The end. -/
theorem ZInv.done {top : Nat} {S c : Rat} {acc : List Rat} (I : ZInv top S acc c []) : Ex (c :: acc) ∧ (c :: acc).sum = S ∧ (∀ x ∈ c :: acc, F x) ∧ 52 * (c :: acc).length ≤ top + 52 := by
  obtain ⟨p, r1, r2, r3, r4⟩ := I.room
  have c0 : c ≠ 0 := I.exl.2 c (by simp)
  have hlt : ab c < U (p + 1) := by
    have := U_succ p
    have := U_pos p
    grind
  refine ⟨I.exa.cons (fun o ho => ⟨p + 1, hlt, r4 o ho⟩) c0, ?_, ?_, ?_⟩
  · have := I.sum
    rw [List.sum_nil] at this
    rw [List.sum_cons]; grind
  · intro y hy
    rcases List.mem_cons.1 hy with rfl | hy
    · exact I.fc
    · exact I.fa y hy
  · rw [List.length_cons]; omega
/-- The last one is near, and has the sign. -/
theorem ZInv.lead {top : Nat} {S c L : Rat} {acc : List Rat} (I : ZInv top S acc c []) (hL : (c :: acc).getLast? = some L) : 1125899906842624 * ab (L - S) ≤ ab S ∧ ((0 < L ∧ 0 < S) ∨ (L < 0 ∧ S < 0)) := by
  have c0 : c ≠ 0 := I.exl.2 c (by simp)
  by_cases e : acc = []
  · subst e
    simp at hL
    subst hL
    have hS := I.sum
    simp only [List.sum_nil] at hS
    have : S = c := by grind
    subst this
    have : ab (S - S) ≤ 0 := ab_le.2 ⟨by grind, by grind⟩
    have := ab_nonneg S
    exact ⟨by grind, by grind⟩
  · rw [List.getLast?_cons_of_ne_nil e] at hL
    obtain ⟨P, h1, h2⟩ := I.near L hL
    rw [U_52] at h1
    have := U_pos P
    have := ab_lt.1 h2
    have h3 : ab (L - S) < U P := by rw [show L - S = -(S - L) by grind, ab_neg]; exact h2
    rcases le_ab.1 h1 with h | h
    · have h4 : 4503599627370495 * U P ≤ ab S := by rw [le_ab]; left; grind
      exact ⟨by grind, Or.inl ⟨by grind, by grind⟩⟩
    · have h4 : 4503599627370495 * U P ≤ ab S := by rw [le_ab]; right; grind
      exact ⟨by grind, Or.inr ⟨by grind, by grind⟩⟩

end Go.Proofs.YtfcgndgmbmkdgaaDoor

/- Tame and safe, as the document has them: the two questions. -/
namespace Go.Proofs.YtfcgndgmbmkdgaaDoor
open Go.RowKit



end Go.Proofs.YtfcgndgmbmkdgaaDoor

/- What is refused. -/
namespace Go.Proofs.YtfcgndgmbmkdgaaDoor
open Go.RowKit

set_option maxHeartbeats 1000000 in
theorem index_tame (n : Nat) (fs : Nat → Nat) (p : Nat → Bool) (g h : Nat) (w : World) (hn : n ≤ 1000) (hc : ∀ j, j < n → w.cell? ⟨g, j, none⟩ = some (.float .f64 (fs j)))
    (hf : w.cell? ⟨h, 0, none⟩ = some (.func (Fn.func 73) #[] #[]))
    (hp : ∀ j, j < n → ∀ w, Calls Tryd.prog 73 #[.float .f64 (fs j)] w fun e w' => e = .returned (.bool (p j)) ∧ w' = w) :
    Calls Tryd.prog 88 #[.slice (some ⟨g, 0, none⟩) n n, .func (Fn.func 85) #[] #[.pointer (some ⟨h, 0, none⟩)]] w fun e w' =>
      (∃ i : Int, e = .returned (.int .i64 i) ∧ ((i = -1 ∧ ∀ j, j < n → p j = true) ∨ (0 ≤ i ∧ ∃ j, j < n ∧ p j = false))) ∧ w' = w := by
  have HP : Hid (∀ j, j < n → ∀ w, Calls Tryd.prog 73 #[.float .f64 (fs j)] w fun e w' => e = .returned (.bool (p j)) ∧ w' = w) := hp
  have HC : Hid (∀ j, j < n → w.cell? ⟨g, j, none⟩ = some (.float .f64 (fs j))) := hc
  clear hp hc
  have hn' : (n : Int) ≤ 1000 := by omega
  go_enter Tryd.func88, Tryd.ntmps88
  go_wp2
  go_loop [8] (fun i => ∃ k : Nat, k ≤ n ∧ i = .int .i64 k ∧ Hid (∀ j, j < k → p j = true)) (fun i => n - (intOf i).toNat)
  case atStart => exact ⟨0, Nat.zero_le _, rfl, fun j hj => by omega⟩
  case round =>
    obtain ⟨k, hk, rfl, hz⟩ := hrel
    have hki : (k : Int) ≤ (n : Int) := by omega
    by_cases hlt : k < n
    · have hl : (k : Int) < (n : Int) := by omega
      have hl0 : (0 : Int) ≤ (k : Int) := by omega
      have hck : w.cell? ⟨g, k, none⟩ = some (.float .f64 (fs k)) := HC.out k hlt
      have HPk : Hid (∀ w, Calls Tryd.prog 73 #[.float .f64 (fs k)] w fun e w' => e = .returned (.bool (p k)) ∧ w' = w) := HP.out k hlt
      obtain ⟨x, hx⟩ : ∃ x, Hid (p k = x) := ⟨_, rfl⟩
      rw [hx.out] at HPk
      generalize fs k = f at *
      go_wp2_with (first | (go_at_call 85; go_in))
      refine (HPk.out _).mono ?_
      rintro e w1 ⟨rfl, rfl⟩
      cases x
      · go_wp2
        go_ret
        exact ⟨⟨_, rfl, Or.inr ⟨by omega, k, hlt, hx.out⟩⟩, rfl⟩
      · go_wp2
        go_round
        case rel =>
          refine ⟨k + 1, by omega, by go_num, ?_⟩
          intro j hj
          by_cases e : j = k
          · rw [e]; exact hx.out
          · exact hz.out j (by omega)
        case measure => simp [intOf]; omega
    · have e : k = n := by omega
      subst e
      go_wp2
      go_ret
      exact ⟨⟨_, rfl, Or.inl ⟨rfl, hz.out⟩⟩, rfl⟩

/-- refused: some float is answered no. -/
theorem refused_tame (n : Nat) (fs : Nat → Nat) (p : Nat → Bool) (g : Nat) (w : World) (hn : n ≤ 1000) (hc : ∀ j, j < n → w.cell? ⟨g, j, none⟩ = some (.float .f64 (fs j)))
    (hp : ∀ j, j < n → ∀ w, Calls Tryd.prog 73 #[.float .f64 (fs j)] w fun e w' => e = .returned (.bool (p j)) ∧ w' = w) :
    Calls Tryd.prog 72 #[.func (Fn.func 73) #[] #[], .slice (some ⟨g, 0, none⟩) n n] w fun e w' =>
      (∃ x : Bool, e = .returned (.bool x) ∧ ((x = false ∧ ∀ j, j < n → p j = true) ∨ (x = true ∧ ∃ j, j < n ∧ p j = false))) ∧ Below w.heap.size w w' := by
  have HI : Hid (∀ W, (∀ j, j < n → W.cell? ⟨g, j, none⟩ = some (.float .f64 (fs j))) → W.cell? ⟨w.heap.size, 0, none⟩ = some (.func (Fn.func 73) #[] #[]) → Calls Tryd.prog 88 #[.slice (some ⟨g, 0, none⟩) n n, .func (Fn.func 85) #[] #[.pointer (some ⟨w.heap.size, 0, none⟩)]] W fun e w' =>
      (∃ i : Int, e = .returned (.int .i64 i) ∧ ((i = -1 ∧ ∀ j, j < n → p j = true) ∨ (0 ≤ i ∧ ∃ j, j < n ∧ p j = false))) ∧ w' = W) := fun W h1 h2 => index_tame n fs p g _ W hn h1 h2 hp
  have HC : Hid (∀ j, j < n → (w.alloc (.cells #[.func (Fn.func 73) #[] #[]] 52)).cell? ⟨g, j, none⟩ = some (.float .f64 (fs j))) := fun j hj => by rw [World.cell?_alloc_lt _ _ _ (World.block_lt_of_cell? _ _ (hc j hj))]; exact hc j hj
  clear hc hp
  go_enter Tryd.func72, Tryd.ntmps72
  go_wp2_with (first | (go_at_call 84; go_in))
  refine (HI.out _ HC.out (by go_simp)).mono ?_
  rintro e w1 ⟨⟨i, rfl, hi⟩, rfl⟩
  rcases hi with ⟨rfl, ha⟩ | ⟨h0, ha⟩
  · have HA : Hid (∀ j, j < n → p j = true) := ha
    clear ha
    go_wp2
    go_ret
    exact ⟨⟨_, rfl, Or.inl ⟨rfl, HA.out⟩⟩, (Below.refl _ _).alloc (Nat.le_refl _) _⟩
  · have HA : Hid (∃ j, j < n ∧ p j = false) := ha
    clear ha
    go_wp2
    go_ret
    exact ⟨⟨_, rfl, Or.inr ⟨by simp, HA.out⟩⟩, (Below.refl _ _).alloc (Nat.le_refl _) _⟩

set_option maxHeartbeats 1000000 in
theorem index_safe (n : Nat) (fs : Nat → Nat) (p : Nat → Bool) (g h : Nat) (w : World) (hn : n ≤ 1000) (hc : ∀ j, j < n → w.cell? ⟨g, j, none⟩ = some (.float .f64 (fs j)))
    (hf : w.cell? ⟨h, 0, none⟩ = some (.func (Fn.func 75) #[] #[]))
    (hp : ∀ j, j < n → ∀ w, Calls Tryd.prog 75 #[.float .f64 (fs j)] w fun e w' => e = .returned (.bool (p j)) ∧ w' = w) :
    Calls Tryd.prog 88 #[.slice (some ⟨g, 0, none⟩) n n, .func (Fn.func 85) #[] #[.pointer (some ⟨h, 0, none⟩)]] w fun e w' =>
      (∃ i : Int, e = .returned (.int .i64 i) ∧ ((i = -1 ∧ ∀ j, j < n → p j = true) ∨ (0 ≤ i ∧ ∃ j, j < n ∧ p j = false))) ∧ w' = w := by
  have HP : Hid (∀ j, j < n → ∀ w, Calls Tryd.prog 75 #[.float .f64 (fs j)] w fun e w' => e = .returned (.bool (p j)) ∧ w' = w) := hp
  have HC : Hid (∀ j, j < n → w.cell? ⟨g, j, none⟩ = some (.float .f64 (fs j))) := hc
  clear hp hc
  have hn' : (n : Int) ≤ 1000 := by omega
  go_enter Tryd.func88, Tryd.ntmps88
  go_wp2
  go_loop [8] (fun i => ∃ k : Nat, k ≤ n ∧ i = .int .i64 k ∧ Hid (∀ j, j < k → p j = true)) (fun i => n - (intOf i).toNat)
  case atStart => exact ⟨0, Nat.zero_le _, rfl, fun j hj => by omega⟩
  case round =>
    obtain ⟨k, hk, rfl, hz⟩ := hrel
    have hki : (k : Int) ≤ (n : Int) := by omega
    by_cases hlt : k < n
    · have hl : (k : Int) < (n : Int) := by omega
      have hl0 : (0 : Int) ≤ (k : Int) := by omega
      have hck : w.cell? ⟨g, k, none⟩ = some (.float .f64 (fs k)) := HC.out k hlt
      have HPk : Hid (∀ w, Calls Tryd.prog 75 #[.float .f64 (fs k)] w fun e w' => e = .returned (.bool (p k)) ∧ w' = w) := HP.out k hlt
      obtain ⟨x, hx⟩ : ∃ x, Hid (p k = x) := ⟨_, rfl⟩
      rw [hx.out] at HPk
      generalize fs k = f at *
      go_wp2_with (first | (go_at_call 85; go_in))
      refine (HPk.out _).mono ?_
      rintro e w1 ⟨rfl, rfl⟩
      cases x
      · go_wp2
        go_ret
        exact ⟨⟨_, rfl, Or.inr ⟨by omega, k, hlt, hx.out⟩⟩, rfl⟩
      · go_wp2
        go_round
        case rel =>
          refine ⟨k + 1, by omega, by go_num, ?_⟩
          intro j hj
          by_cases e : j = k
          · rw [e]; exact hx.out
          · exact hz.out j (by omega)
        case measure => simp [intOf]; omega
    · have e : k = n := by omega
      subst e
      go_wp2
      go_ret
      exact ⟨⟨_, rfl, Or.inl ⟨rfl, hz.out⟩⟩, rfl⟩

/-- refused: some float is answered no. -/
theorem refused_safe (n : Nat) (fs : Nat → Nat) (p : Nat → Bool) (g : Nat) (w : World) (hn : n ≤ 1000) (hc : ∀ j, j < n → w.cell? ⟨g, j, none⟩ = some (.float .f64 (fs j)))
    (hp : ∀ j, j < n → ∀ w, Calls Tryd.prog 75 #[.float .f64 (fs j)] w fun e w' => e = .returned (.bool (p j)) ∧ w' = w) :
    Calls Tryd.prog 72 #[.func (Fn.func 75) #[] #[], .slice (some ⟨g, 0, none⟩) n n] w fun e w' =>
      (∃ x : Bool, e = .returned (.bool x) ∧ ((x = false ∧ ∀ j, j < n → p j = true) ∨ (x = true ∧ ∃ j, j < n ∧ p j = false))) ∧ Below w.heap.size w w' := by
  have HI : Hid (∀ W, (∀ j, j < n → W.cell? ⟨g, j, none⟩ = some (.float .f64 (fs j))) → W.cell? ⟨w.heap.size, 0, none⟩ = some (.func (Fn.func 75) #[] #[]) → Calls Tryd.prog 88 #[.slice (some ⟨g, 0, none⟩) n n, .func (Fn.func 85) #[] #[.pointer (some ⟨w.heap.size, 0, none⟩)]] W fun e w' =>
      (∃ i : Int, e = .returned (.int .i64 i) ∧ ((i = -1 ∧ ∀ j, j < n → p j = true) ∨ (0 ≤ i ∧ ∃ j, j < n ∧ p j = false))) ∧ w' = W) := fun W h1 h2 => index_safe n fs p g _ W hn h1 h2 hp
  have HC : Hid (∀ j, j < n → (w.alloc (.cells #[.func (Fn.func 75) #[] #[]] 52)).cell? ⟨g, j, none⟩ = some (.float .f64 (fs j))) := fun j hj => by rw [World.cell?_alloc_lt _ _ _ (World.block_lt_of_cell? _ _ (hc j hj))]; exact hc j hj
  clear hc hp
  go_enter Tryd.func72, Tryd.ntmps72
  go_wp2_with (first | (go_at_call 84; go_in))
  refine (HI.out _ HC.out (by go_simp)).mono ?_
  rintro e w1 ⟨⟨i, rfl, hi⟩, rfl⟩
  rcases hi with ⟨rfl, ha⟩ | ⟨h0, ha⟩
  · have HA : Hid (∀ j, j < n → p j = true) := ha
    clear ha
    go_wp2
    go_ret
    exact ⟨⟨_, rfl, Or.inl ⟨rfl, HA.out⟩⟩, (Below.refl _ _).alloc (Nat.le_refl _) _⟩
  · have HA : Hid (∃ j, j < n ∧ p j = false) := ha
    clear ha
    go_wp2
    go_ret
    exact ⟨⟨_, rfl, Or.inr ⟨by simp, HA.out⟩⟩, (Below.refl _ _).alloc (Nat.le_refl _) _⟩

end Go.Proofs.YtfcgndgmbmkdgaaDoor

/- The steps of sums, halves and products: each is the float that the language has of it. -/
namespace Go.Proofs.YtfcgndgmbmkdgaaDoor
open Go.RowKit

/-- The steps of a sum. -/
structure TwoSum (a b x fb fa lb la y : Nat) : Prop where
  s0 : floatBits .add .f64 a b = some x
  s1 : floatBits .sub .f64 x a = some fb
  s2 : floatBits .sub .f64 x fb = some fa
  s3 : floatBits .sub .f64 b fb = some lb
  s4 : floatBits .sub .f64 a fa = some la
  s5 : floatBits .add .f64 la lb = some y
/-- The steps of a float's halves. -/
structure Halves (a c d x y : Nat) : Prop where
  s0 : floatBits .mul .f64 4728779608772575232 a = some c
  s1 : floatBits .sub .f64 c a = some d
  s2 : floatBits .sub .f64 c d = some x
  s3 : floatBits .sub .f64 a x = some y
/-- The steps of a product, behind the halves. -/
structure TwoProd (a b x a1 a2 b1 b2 p1 l1 p2 l2 p3 l3 p4 y : Nat) : Prop where
  s0 : floatBits .mul .f64 a b = some x
  s1 : floatBits .mul .f64 a1 b1 = some p1
  s2 : floatBits .sub .f64 x p1 = some l1
  s3 : floatBits .mul .f64 a2 b1 = some p2
  s4 : floatBits .sub .f64 l1 p2 = some l2
  s5 : floatBits .mul .f64 a1 b2 = some p3
  s6 : floatBits .sub .f64 l2 p3 = some l3
  s7 : floatBits .mul .f64 a2 b2 = some p4
  s8 : floatBits .sub .f64 p4 l3 = some y

theorem twoSum_any (a b x fb fa lb la y : Nat) (w : World) (h : TwoSum a b x fb fa lb la y) :
    Calls Tryd.prog 74 #[.float .f64 a, .float .f64 b] w fun e w' => e = .returned (.tuple #[.float .f64 x, .float .f64 y]) ∧ w' = w := by
  have r0 : ∀ w, (binOp .add 22 (.float .f64 a) (.float .f64 b)).run Tryd.prog w = .ok (.float .f64 x) w := fun w => run_float_arith w .add _ .f64 _ _ _ h.s0
  have r1 : ∀ w, (binOp .sub 22 (.float .f64 x) (.float .f64 a)).run Tryd.prog w = .ok (.float .f64 fb) w := fun w => run_float_arith w .sub _ .f64 _ _ _ h.s1
  have r2 : ∀ w, (binOp .sub 22 (.float .f64 x) (.float .f64 fb)).run Tryd.prog w = .ok (.float .f64 fa) w := fun w => run_float_arith w .sub _ .f64 _ _ _ h.s2
  have r3 : ∀ w, (binOp .sub 22 (.float .f64 b) (.float .f64 fb)).run Tryd.prog w = .ok (.float .f64 lb) w := fun w => run_float_arith w .sub _ .f64 _ _ _ h.s3
  have r4 : ∀ w, (binOp .sub 22 (.float .f64 a) (.float .f64 fa)).run Tryd.prog w = .ok (.float .f64 la) w := fun w => run_float_arith w .sub _ .f64 _ _ _ h.s4
  have r5 : ∀ w, (binOp .add 22 (.float .f64 la) (.float .f64 lb)).run Tryd.prog w = .ok (.float .f64 y) w := fun w => run_float_arith w .add _ .f64 _ _ _ h.s5
  clear h
  go_enter Tryd.func74, Tryd.ntmps74
  go_wp2
  go_ret2
  exact ⟨rfl, rfl⟩

theorem halves_any (a c d x y : Nat) (w : World) (h : Halves a c d x y) :
    Calls Tryd.prog 86 #[.float .f64 a] w fun e w' => e = .returned (.tuple #[.float .f64 x, .float .f64 y]) ∧ w' = w := by
  have r0 : ∀ w, (binOp .mul 22 (.float .f64 4728779608772575232) (.float .f64 a)).run Tryd.prog w = .ok (.float .f64 c) w := fun w => run_float_arith w .mul _ .f64 _ _ _ h.s0
  have r1 : ∀ w, (binOp .sub 22 (.float .f64 c) (.float .f64 a)).run Tryd.prog w = .ok (.float .f64 d) w := fun w => run_float_arith w .sub _ .f64 _ _ _ h.s1
  have r2 : ∀ w, (binOp .sub 22 (.float .f64 c) (.float .f64 d)).run Tryd.prog w = .ok (.float .f64 x) w := fun w => run_float_arith w .sub _ .f64 _ _ _ h.s2
  have r3 : ∀ w, (binOp .sub 22 (.float .f64 a) (.float .f64 x)).run Tryd.prog w = .ok (.float .f64 y) w := fun w => run_float_arith w .sub _ .f64 _ _ _ h.s3
  clear h
  go_enter Tryd.func86, Tryd.ntmps86
  go_wp2
  go_ret2
  exact ⟨rfl, rfl⟩

set_option maxHeartbeats 1000000 in
theorem twoProd_any (a b x a1 a2 b1 b2 p1 l1 p2 l2 p3 l3 p4 y c d c' d' : Nat) (w : World) (ha : Halves a c d a1 a2) (hb : Halves b c' d' b1 b2) (h : TwoProd a b x a1 a2 b1 b2 p1 l1 p2 l2 p3 l3 p4 y) :
    Calls Tryd.prog 76 #[.float .f64 a, .float .f64 b] w fun e w' => e = .returned (.tuple #[.float .f64 x, .float .f64 y]) ∧ w' = w := by
  have r0 : ∀ w, (binOp .mul 22 (.float .f64 a) (.float .f64 b)).run Tryd.prog w = .ok (.float .f64 x) w := fun w => run_float_arith w .mul _ .f64 _ _ _ h.s0
  have r1 : ∀ w, (binOp .mul 22 (.float .f64 a1) (.float .f64 b1)).run Tryd.prog w = .ok (.float .f64 p1) w := fun w => run_float_arith w .mul _ .f64 _ _ _ h.s1
  have r2 : ∀ w, (binOp .sub 22 (.float .f64 x) (.float .f64 p1)).run Tryd.prog w = .ok (.float .f64 l1) w := fun w => run_float_arith w .sub _ .f64 _ _ _ h.s2
  have r3 : ∀ w, (binOp .mul 22 (.float .f64 a2) (.float .f64 b1)).run Tryd.prog w = .ok (.float .f64 p2) w := fun w => run_float_arith w .mul _ .f64 _ _ _ h.s3
  have r4 : ∀ w, (binOp .sub 22 (.float .f64 l1) (.float .f64 p2)).run Tryd.prog w = .ok (.float .f64 l2) w := fun w => run_float_arith w .sub _ .f64 _ _ _ h.s4
  have r5 : ∀ w, (binOp .mul 22 (.float .f64 a1) (.float .f64 b2)).run Tryd.prog w = .ok (.float .f64 p3) w := fun w => run_float_arith w .mul _ .f64 _ _ _ h.s5
  have r6 : ∀ w, (binOp .sub 22 (.float .f64 l2) (.float .f64 p3)).run Tryd.prog w = .ok (.float .f64 l3) w := fun w => run_float_arith w .sub _ .f64 _ _ _ h.s6
  have r7 : ∀ w, (binOp .mul 22 (.float .f64 a2) (.float .f64 b2)).run Tryd.prog w = .ok (.float .f64 p4) w := fun w => run_float_arith w .mul _ .f64 _ _ _ h.s7
  have r8 : ∀ w, (binOp .sub 22 (.float .f64 p4) (.float .f64 l3)).run Tryd.prog w = .ok (.float .f64 y) w := fun w => run_float_arith w .sub _ .f64 _ _ _ h.s8
  clear h
  have HA : Hid (Halves a c d a1 a2) := ha
  have HB : Hid (Halves b c' d' b1 b2) := hb
  clear ha hb
  go_enter Tryd.func76, Tryd.ntmps76
  go_wp2_with fail
  refine (halves_any _ _ _ _ _ _ HA.out).mono ?_
  rintro e w1 ⟨rfl, rfl⟩
  go_wp2_with fail
  refine (halves_any _ _ _ _ _ _ HB.out).mono ?_
  rintro e w2 ⟨rfl, rfl⟩
  go_wp2
  go_ret2
  exact ⟨rfl, rfl⟩

set_option maxHeartbeats 1000000 in
theorem sum_yes (a b x fb fa lb la y : Nat) (w : World) (ha : a < 18446744073709551616) (hb : b < 18446744073709551616) (ta : frung a ≤ 9110782046170513408) (tb : frung b ≤ 9110782046170513408) (h : TwoSum a b x fb fa lb la y) :
    Calls Tryd.prog 54 #[.float .f64 a, .float .f64 b] w fun e w' => e = .returned (.tuple #[.float .f64 x, .float .f64 y]) ∧ Below w.heap.size w w' := by
  have HR : Hid (∀ W g, (∀ j, j < 2 → W.cell? ⟨g, j, none⟩ = some (.float .f64 (if j = 0 then a else b))) → Calls Tryd.prog 72 #[.func (Fn.func 73) #[] #[], .slice (some ⟨g, 0, none⟩) 2 2] W fun e w' => e = .returned (.bool false) ∧ Below W.heap.size W w') := fun W g hc =>
    (refused_tame 2 (fun j => if j = 0 then a else b) (fun _ => true) g W (by omega) hc (fun j hj w => by
      by_cases e : j = 0
      · simp only [e, if_true]
        have := tame_any a w ha
        rwa [decide_eq_true ta] at this
      · simp only [e, if_false]
        have := tame_any b w hb
        rwa [decide_eq_true tb] at this)).mono (by
      rintro e w' ⟨⟨x, rfl, hx⟩, hbel⟩
      rcases hx with ⟨rfl, _⟩ | ⟨_, j, _, hj⟩
      · exact ⟨rfl, hbel⟩
      · cases hj)
  have HI : Hid (TwoSum a b x fb fa lb la y) := h
  clear ha hb ta tb h
  go_enter Tryd.func54, Tryd.ntmps54
  go_wp2_with fail
  refine (HR.out _ _ (fun j hj => by rcases (by omega : j = 0 ∨ j = 1) with rfl | rfl <;> go_simp)).mono ?_
  rintro e w1 ⟨rfl, hb1⟩
  have HB : Hid (Below w.heap.size w w1) := ((Below.refl _ _).alloc (Nat.le_refl _) _).trans (hb1.mono (by simp))
  clear hb1
  go_wp2_with fail
  refine (twoSum_any _ _ _ _ _ _ _ _ _ HI.out).mono ?_
  rintro e w2 ⟨rfl, rfl⟩
  go_wp2
  go_ret2
  exact ⟨rfl, HB.out⟩

set_option maxHeartbeats 1000000 in
theorem sum_no (a b : Nat) (w : World) (ha : a < 18446744073709551616) (hb : b < 18446744073709551616) (hno : ¬ (frung a ≤ 9110782046170513408 ∧ frung b ≤ 9110782046170513408)) :
    Calls Tryd.prog 54 #[.float .f64 a, .float .f64 b] w fun e w' => e = .returned (.tuple #[.float .f64 0, .float .f64 0]) ∧ Below w.heap.size w w' := by
  have HR : Hid (∀ W g, (∀ j, j < 2 → W.cell? ⟨g, j, none⟩ = some (.float .f64 (if j = 0 then a else b))) → Calls Tryd.prog 72 #[.func (Fn.func 73) #[] #[], .slice (some ⟨g, 0, none⟩) 2 2] W fun e w' => e = .returned (.bool true) ∧ Below W.heap.size W w') := fun W g hc =>
    (refused_tame 2 (fun j => if j = 0 then a else b) (fun j => if j = 0 then decide (frung a ≤ 9110782046170513408) else decide (frung b ≤ 9110782046170513408)) g W (by omega) hc (fun j hj w => by
      by_cases e : j = 0
      · simp only [e, if_true]
        exact tame_any a w ha
      · simp only [e, if_false]
        exact tame_any b w hb)).mono (by
      rintro e w' ⟨⟨x, rfl, hx⟩, hbel⟩
      rcases hx with ⟨_, hall⟩ | ⟨rfl, _⟩
      · exact absurd ⟨of_decide_eq_true (hall 0 (by omega)), of_decide_eq_true (hall 1 (by omega))⟩ hno
      · exact ⟨rfl, hbel⟩)
  clear ha hb hno
  go_enter Tryd.func54, Tryd.ntmps54
  go_wp2_with fail
  refine (HR.out _ _ (fun j hj => by rcases (by omega : j = 0 ∨ j = 1) with rfl | rfl <;> go_simp)).mono ?_
  rintro e w1 ⟨rfl, hb1⟩
  have HB : Hid (Below w.heap.size w w1) := ((Below.refl _ _).alloc (Nat.le_refl _) _).trans (hb1.mono (by simp))
  clear hb1
  go_wp2
  go_ret2
  exact ⟨rfl, HB.out⟩

set_option maxHeartbeats 1000000 in
theorem prod_yes (a b x a1 a2 b1 b2 p1 l1 p2 l2 p3 l3 p4 y c d c' d' : Nat) (w : World) (ha : a < 18446744073709551616) (hb : b < 18446744073709551616) (ta : SafeW (frung a)) (tb : SafeW (frung b)) (h1 : Halves a c d a1 a2) (h2 : Halves b c' d' b1 b2) (h : TwoProd a b x a1 a2 b1 b2 p1 l1 p2 l2 p3 l3 p4 y) :
    Calls Tryd.prog 57 #[.float .f64 a, .float .f64 b] w fun e w' => e = .returned (.tuple #[.float .f64 x, .float .f64 y]) ∧ Below w.heap.size w w' := by
  have HR : Hid (∀ W g, (∀ j, j < 2 → W.cell? ⟨g, j, none⟩ = some (.float .f64 (if j = 0 then a else b))) → Calls Tryd.prog 72 #[.func (Fn.func 75) #[] #[], .slice (some ⟨g, 0, none⟩) 2 2] W fun e w' => e = .returned (.bool false) ∧ Below W.heap.size W w') := fun W g hc =>
    (refused_safe 2 (fun j => if j = 0 then a else b) (fun _ => true) g W (by omega) hc (fun j hj w => by
      by_cases e : j = 0
      · simp only [e, if_true]
        have := safe_any a w ha
        rwa [decide_eq_true ta] at this
      · simp only [e, if_false]
        have := safe_any b w hb
        rwa [decide_eq_true tb] at this)).mono (by
      rintro e w' ⟨⟨x, rfl, hx⟩, hbel⟩
      rcases hx with ⟨rfl, _⟩ | ⟨_, j, _, hj⟩
      · exact ⟨rfl, hbel⟩
      · cases hj)
  have HI : Hid (Halves a c d a1 a2 ∧ Halves b c' d' b1 b2 ∧ TwoProd a b x a1 a2 b1 b2 p1 l1 p2 l2 p3 l3 p4 y) := ⟨h1, h2, h⟩
  clear ha hb ta tb h h1 h2
  go_enter Tryd.func57, Tryd.ntmps57
  go_wp2_with fail
  refine (HR.out _ _ (fun j hj => by rcases (by omega : j = 0 ∨ j = 1) with rfl | rfl <;> go_simp)).mono ?_
  rintro e w1 ⟨rfl, hb1⟩
  have HB : Hid (Below w.heap.size w w1) := ((Below.refl _ _).alloc (Nat.le_refl _) _).trans (hb1.mono (by simp))
  clear hb1
  go_wp2_with fail
  refine (twoProd_any _ _ _ _ _ _ _ _ _ _ _ _ _ _ _ _ _ _ _ _ HI.out.1 HI.out.2.1 HI.out.2.2).mono ?_
  rintro e w2 ⟨rfl, rfl⟩
  go_wp2
  go_ret2
  exact ⟨rfl, HB.out⟩

set_option maxHeartbeats 1000000 in
theorem prod_no (a b : Nat) (w : World) (ha : a < 18446744073709551616) (hb : b < 18446744073709551616) (hno : ¬ (SafeW (frung a) ∧ SafeW (frung b))) :
    Calls Tryd.prog 57 #[.float .f64 a, .float .f64 b] w fun e w' => e = .returned (.tuple #[.float .f64 0, .float .f64 0]) ∧ Below w.heap.size w w' := by
  have HR : Hid (∀ W g, (∀ j, j < 2 → W.cell? ⟨g, j, none⟩ = some (.float .f64 (if j = 0 then a else b))) → Calls Tryd.prog 72 #[.func (Fn.func 75) #[] #[], .slice (some ⟨g, 0, none⟩) 2 2] W fun e w' => e = .returned (.bool true) ∧ Below W.heap.size W w') := fun W g hc =>
    (refused_safe 2 (fun j => if j = 0 then a else b) (fun j => if j = 0 then decide (SafeW (frung a)) else decide (SafeW (frung b))) g W (by omega) hc (fun j hj w => by
      by_cases e : j = 0
      · simp only [e, if_true]
        exact safe_any a w ha
      · simp only [e, if_false]
        exact safe_any b w hb)).mono (by
      rintro e w' ⟨⟨x, rfl, hx⟩, hbel⟩
      rcases hx with ⟨_, hall⟩ | ⟨rfl, _⟩
      · exact absurd ⟨of_decide_eq_true (hall 0 (by omega)), of_decide_eq_true (hall 1 (by omega))⟩ hno
      · exact ⟨rfl, hbel⟩)
  clear ha hb hno
  go_enter Tryd.func57, Tryd.ntmps57
  go_wp2_with fail
  refine (HR.out _ _ (fun j hj => by rcases (by omega : j = 0 ∨ j = 1) with rfl | rfl <;> go_simp)).mono ?_
  rintro e w1 ⟨rfl, hb1⟩
  have HB : Hid (Below w.heap.size w w1) := ((Below.refl _ _).alloc (Nat.le_refl _) _).trans (hb1.mono (by simp))
  clear hb1
  go_wp2
  go_ret2
  exact ⟨rfl, HB.out⟩

end Go.Proofs.YtfcgndgmbmkdgaaDoor

/- Sums of tame words: what is rounded off is told exactly. -/
namespace Go.Proofs.YtfcgndgmbmkdgaaDoor

/-- A rounded number is at most twice as great. -/
theorem RN.twice {q x c : Rat} (h : RN q x) (h1 : q ≤ c) (h2 : -q ≤ c) : x ≤ 2 * c ∧ -x ≤ 2 * c := by
  obtain ⟨T, k, R⟩ := h
  have := R.best (y := 0) (c := c) F_zero (by grind) (by grind)
  constructor <;> grind

theorem fval_abs (b : Nat) : (fval b = fval (frung b) ∨ fval b = -fval (frung b)) := by
  have e1 : frung (frung b) = frung b := by unfold frung; omega
  have e2 : fneg (frung b) = false := by unfold fneg frung; simp
  rw [fval_eq b, fval_eq (frung b), e1, e2]
  generalize ((fmag (frung b) : Nat) : Rat) * p2 (fpl (frung b)) = z
  cases fneg b <;> simp [sgn1] <;> grind

theorem tame_top : fval 9110782046170513408 = p2 1000 := by
  rw [(fval_pos_lt (by omega)).1, show fmag 9110782046170513408 = 4503599627370496 by decide, show fpl 9110782046170513408 = 948 by decide]
  rw [show (1000 : Int) = 948 + ((52 : Nat) : Int) by omega, p2_add, p2_nat, Rat.mul_comm]

theorem tame_bound {a : Nat} (h : frung a ≤ 9110782046170513408) : fval a ≤ p2 1000 ∧ -fval a ≤ p2 1000 := by
  have h1 : fval (frung a) ≤ p2 1000 := by
    rw [← tame_top]
    rcases Nat.lt_or_ge (frung a) 9110782046170513408 with e | e
    · exact Rat.le_of_lt (fval_lt e (by omega))
    · rw [show frung a = 9110782046170513408 by omega]; exact Rat.le_refl
  have h2 := fval_nonneg (r := frung a) (by omega)
  rcases fval_abs a with e | e <;> rw [e] <;> constructor <;> grind

theorem lim_top : p2 1023 = 8388608 * p2 1000 := by
  rw [show (1023 : Int) = ((23 : Nat) : Int) + 1000 by omega, p2_add, p2_nat]; rfl

theorem twoSum_words {a b : Nat} (ha : frung a ≤ 9110782046170513408) (hb : frung b ≤ 9110782046170513408) :
    ∃ x fb fa lb la y, TwoSum a b x fb fa lb la y ∧ Fin64 x ∧ Fin64 y ∧ x < 18446744073709551616 ∧ y < 18446744073709551616 ∧ RV (fval a + fval b) (fval x) ∧ fval x + fval y = fval a + fval b := by
  have fa_ : Fin64 a := by unfold Fin64; omega
  have fb_ : Fin64 b := by unfold Fin64; omega
  have ba := tame_bound ha
  have bb := tame_bound hb
  have hc := p2_pos 1000
  have ht := lim_top
  generalize p2 1000 = c at *
  have lim : ∀ q : Rat, q ≤ 1000 * c → -q ≤ 1000 * c → Lim q := fun q h1 h2 => ⟨by rw [ht]; grind, by rw [ht]; grind⟩
  obtain ⟨x, s0, fx, lx, rx⟩ := add_bits fa_ fb_ (lim _ (by grind) (by grind))
  have bx := rx.rn.twice (c := 2 * c) (by grind) (by grind)
  obtain ⟨vb, s1, fvb, lvb, rvb⟩ := sub_bits fx fa_ (lim _ (by grind) (by grind))
  have bvb := rvb.rn.twice (c := 5 * c) (by grind) (by grind)
  obtain ⟨va, s2, fva, lva, rva⟩ := sub_bits fx fvb (lim _ (by grind) (by grind))
  have bva := rva.rn.twice (c := 14 * c) (by grind) (by grind)
  obtain ⟨lb, s3, flb, llb, rlb⟩ := sub_bits fb_ fvb (lim _ (by grind) (by grind))
  have blb := rlb.rn.twice (c := 11 * c) (by grind) (by grind)
  obtain ⟨la, s4, fla, lla, rla⟩ := sub_bits fa_ fva (lim _ (by grind) (by grind))
  have bla := rla.rn.twice (c := 29 * c) (by grind) (by grind)
  obtain ⟨y, s5, fy, ly, ry⟩ := add_bits fla flb (lim _ (by grind) (by grind))
  exact ⟨x, vb, va, lb, la, y, ⟨s0, s1, s2, s3, s4, s5⟩, fx, fy, lx, ly, rx, twoSum_exact (fc_word fa_) (fc_word fb_) (fc_word fx) rx.rn rvb.rn rva.rn rlb.rn rla.rn ry.rn⟩

end Go.Proofs.YtfcgndgmbmkdgaaDoor

/- A float's halves, and two floats multiplied (Veltkamp, Dekker), in plain numbers. -/
namespace Go.Proofs.YtfcgndgmbmkdgaaDoor

theorem U_up (S j : Nat) (n : Rat) (h : ((2 ^ j : Nat) : Rat) = n) : U (S + j) = n * U S := by rw [U_add, h]

/-- Halves of a float above 0. -/
theorem halves_pos {a c d x y : Rat} {S : Nat} {A : Int} (ca : FC a S A) (hA : 4503599627370496 ≤ A) (R1 : RN (134217729 * a) c) (R2 : RN (c - a) d) (R3 : RN (c - d) x) (R4 : RN (a - x) y) :
    ∃ X Y : Int, x = (X : Rat) * U (S + 27) ∧ -67108864 ≤ X ∧ X ≤ 67108864 ∧ y = (Y : Rat) * U S ∧ -67108864 ≤ Y ∧ Y ≤ 67108864 ∧ x + y = a := by
  have hu := U_pos S
  have u26 := U_up S 26 67108864 rfl
  have u27 := U_up S 27 134217728 rfl
  have u28 := U_up S 28 268435456 rfl
  have u29 := U_up S 29 536870912 rfl
  have hs := (ca.size).1
  have hl : 4503599627370496 * U S ≤ a := by
    have := Rat.mul_le_mul_of_nonneg_right (Rat.intCast_le_intCast.2 hA) (Rat.le_of_lt hu)
    rw [show ((4503599627370496 : Int) : Rat) = 4503599627370496 from rfl] at this
    rw [ca.hz]; exact this
  obtain ⟨T, k, R⟩ := R1
  have hT : S + 27 ≤ T := by
    rcases Nat.lt_or_ge T (S + 27) with h | h
    · have := U_mono (show T ≤ S + 26 by omega)
      have h4 := R.h4
      exfalso; grind
    · exact h
  have hT2 : T ≤ S + 28 := by
    rcases Nat.lt_or_ge (S + 28) T with h | h
    · have := U_mono (show S + 29 ≤ T by omega)
      exfalso
      rcases R.h3 with h3 | h3 | h3
      · omega
      · grind
      · grind
    · exact h
  have mc : M (U (S + 27)) c := M.down hT R.m
  have r1 := R.h1
  have r2 := R.h2
  -- what is rounded next lies between 2^79 and 2^80 units
  have low : 604462909807314587353088 * U S ≤ c - a := by
    rcases (by omega : T = S + 27 ∨ T = S + 28) with rfl | rfl
    · by_cases e : A = 4503599627370496
      · have ea : a = 4503599627370496 * U S := by rw [ca.hz, e]; rfl
        have : c = 134217729 * a := R.mult ⟨4503599660924928, by rw [ea, u27, show ((4503599660924928 : Int) : Rat) = 4503599660924928 from rfl]; grind⟩
        rw [this, ea]; grind
      · have := Rat.mul_le_mul_of_nonneg_right (Rat.intCast_le_intCast.2 (show (4503599627370497 : Int) ≤ A by omega)) (Rat.le_of_lt hu)
        rw [show ((4503599627370497 : Int) : Rat) = 4503599627370497 from rfl, ← ca.hz] at this
        grind
    · rcases R.h3 with h3 | h3 | h3
      · omega
      · grind
      · grind
  have high : c - a ≤ 1208925819614629174706176 * U S := by
    have : U T ≤ U (S + 28) := U_mono hT2
    grind
  obtain ⟨T2, k2, Q⟩ := R2
  have hT3 : S + 27 ≤ T2 := by
    rcases Nat.lt_or_ge T2 (S + 27) with h | h
    · have := U_mono (show T2 ≤ S + 26 by omega)
      have h4 := Q.h4
      exfalso; grind
    · exact h
  have md : M (U (S + 27)) d := M.down hT3 Q.m
  have err : d - (c - a) ≤ 67108864 * U S ∧ -(d - (c - a)) ≤ 67108864 * U S := by
    have q1 := Q.h1
    have q2 := Q.h2
    rcases Nat.lt_or_ge T2 (S + 28) with h | h
    · have e : T2 = S + 27 := by omega
      subst e
      constructor <;> grind
    · have hle := U_mono h
      have e : c - a = 4503599627370496 * U (S + 28) := by
        rcases Q.h3 with h3 | h3 | h3
        · omega
        · grind
        · grind
      have : T2 = S + 28 := by
        rcases Nat.lt_or_ge (S + 28) T2 with h' | h'
        · have := U_mono (show S + 29 ≤ T2 by omega)
          exfalso
          rcases Q.h3 with h3 | h3 | h3
          · omega
          · grind
          · grind
        · omega
      subst this
      have := Q.mult ⟨4503599627370496, by rw [e]; rfl⟩
      rw [this]; constructor <;> grind
  have m3 : M (U (S + 27)) (c - d) := mc.sub md
  obtain ⟨X, hX⟩ := m3
  have hu27 := U_pos (S + 27)
  have x1 : X ≤ 67108864 := by
    have : (X : Rat) * U (S + 27) < ((67108865 : Int) : Rat) * U (S + 27) := by
      rw [← hX, show ((67108865 : Int) : Rat) = 67108865 from rfl, u27]; grind
    have := cast_lt hu27 this
    omega
  have x2 : -67108864 ≤ X := by
    have : ((-67108865 : Int) : Rat) * U (S + 27) < (X : Rat) * U (S + 27) := by
      rw [← hX, show ((-67108865 : Int) : Rat) = -67108865 from rfl, u27]; grind
    have := cast_lt hu27 this
    omega
  have ex : x = c - d := R3.exact ⟨S + 27, X, hX, by omega, by omega⟩
  have m4 : M (U S) (a - x) := by rw [ex]; exact ca.mul.sub (M.down (by omega) (mc.sub md))
  obtain ⟨Y, hY⟩ := m4
  have ey0 : a - x = d - (c - a) := by rw [ex]; grind
  have y1 : Y ≤ 67108864 := by
    have : (Y : Rat) * U S < ((67108865 : Int) : Rat) * U S := by
      rw [← hY, ey0, show ((67108865 : Int) : Rat) = 67108865 from rfl]; grind
    have := cast_lt hu this
    omega
  have y2 : -67108864 ≤ Y := by
    have : ((-67108865 : Int) : Rat) * U S < (Y : Rat) * U S := by
      rw [← hY, ey0, show ((-67108865 : Int) : Rat) = -67108865 from rfl]; grind
    have := cast_lt hu this
    omega
  have ey : y = a - x := R4.exact ⟨S, Y, hY, by omega, by omega⟩
  exact ⟨X, Y, by rw [ex, hX], x2, x1, by rw [ey, hY], y2, y1, by rw [ey]; grind⟩

end Go.Proofs.YtfcgndgmbmkdgaaDoor

/- Two floats multiplied: what is rounded off is told exactly (Dekker), in plain numbers. -/
namespace Go.Proofs.YtfcgndgmbmkdgaaDoor

theorem RN.neg {q x : Rat} (h : RN q x) : RN (-q) (-x) := by obtain ⟨T, k, R⟩ := h; exact ⟨T, _, R.neg⟩

/-- A float and its halves. -/
structure NH (a a1 a2 : Rat) (S : Nat) (X Y : Int) : Prop where
  h1 : a1 = (X : Rat) * U (S + 27)
  x1 : -67108864 ≤ X
  x2 : X ≤ 67108864
  h2 : a2 = (Y : Rat) * U S
  y1 : -67108864 ≤ Y
  y2 : Y ≤ 67108864
  sum : a1 + a2 = a
  lo : 4503599627370496 * U S ≤ a ∨ 4503599627370496 * U S ≤ -a
  hi1 : a < 9007199254740992 * U S
  hi2 : -(9007199254740992 * U S) < a

theorem halves_nh {a c d x y : Rat} {S : Nat} {A : Int} (ca : FC a S A) (hA : 4503599627370496 ≤ A ∨ A ≤ -4503599627370496) (R1 : RN (134217729 * a) c) (R2 : RN (c - a) d) (R3 : RN (c - d) x) (R4 : RN (a - x) y) : ∃ X Y, NH a x y S X Y := by
  have hu := U_pos S
  have hs := ca.size
  have lo : 4503599627370496 * U S ≤ a ∨ 4503599627370496 * U S ≤ -a := by
    rcases hA with h | h
    · left
      have := Rat.mul_le_mul_of_nonneg_right (Rat.intCast_le_intCast.2 h) (Rat.le_of_lt hu)
      rw [show ((4503599627370496 : Int) : Rat) = 4503599627370496 from rfl] at this
      rw [ca.hz]; exact this
    · right
      have := Rat.mul_le_mul_of_nonneg_right (Rat.intCast_le_intCast.2 h) (Rat.le_of_lt hu)
      rw [show ((-4503599627370496 : Int) : Rat) = -4503599627370496 from rfl] at this
      rw [ca.hz]; grind
  rcases hA with hA | hA
  · obtain ⟨X, Y, e1, b1, b2, e2, b3, b4, e3⟩ := halves_pos ca hA R1 R2 R3 R4
    exact ⟨X, Y, e1, b1, b2, e2, b3, b4, e3, lo, by grind, by grind⟩
  · have n1 := R1.neg
    have n2 := R2.neg
    have n3 := R3.neg
    have n4 := R4.neg
    rw [show -(134217729 * a) = 134217729 * -a by grind] at n1
    rw [show -(c - a) = -c - -a by grind] at n2
    rw [show -(c - d) = -c - -d by grind] at n3
    rw [show -(a - x) = -a - -x by grind] at n4
    obtain ⟨X, Y, e1, b1, b2, e2, b3, b4, e3⟩ := halves_pos ca.neg (by omega) n1 n2 n3 n4
    exact ⟨-X, -Y, by rw [Rat.intCast_neg]; grind, by omega, by omega, by rw [Rat.intCast_neg]; grind, by omega, by omega, by grind, lo, by grind, by grind⟩

theorem mul_bound {X Y : Int} (a : -67108864 ≤ X) (b : X ≤ 67108864) (c : -67108864 ≤ Y) (d : Y ≤ 67108864) : -4503599627370496 ≤ X * Y ∧ X * Y ≤ 4503599627370496 := by
  have h : (X * Y).natAbs ≤ 67108864 * 67108864 := by rw [Int.natAbs_mul]; exact Nat.mul_le_mul (by omega) (by omega)
  omega

theorem prod_lo {a b c d : Rat} (hc : 0 < c) (hd : 0 < d) (h1 : c ≤ a ∨ c ≤ -a) (h2 : d ≤ b ∨ d ≤ -b) : c * d ≤ a * b ∨ c * d ≤ -(a * b) := by
  have key : ∀ {p q : Rat}, c ≤ p → d ≤ q → c * d ≤ p * q := fun {p q} h h' => by
    have e1 := Rat.mul_le_mul_of_nonneg_right h (Rat.le_of_lt hd)
    have e2 := Rat.mul_le_mul_of_nonneg_left h' (show 0 ≤ p by grind)
    exact Rat.le_trans e1 e2
  rcases h1 with h1 | h1 <;> rcases h2 with h2 | h2
  · exact Or.inl (key h1 h2)
  · right; have := key h1 h2; grind
  · right; have := key h1 h2; grind
  · left; have := key h1 h2; grind

theorem twoProd_core {a b x a1 a2 b1 b2 p1 l1 q2 l2 p3 l3 p4 y : Rat} {S1 S2 R : Nat} {X1 Y1 X2 Y2 : Int} (ha : NH a a1 a2 S1 X1 Y1) (hb : NH b b1 b2 S2 X2 Y2) (hR : U S1 * U S2 = U R)
    (Rx : RN (a * b) x) (R1 : RN (a1 * b1) p1) (R2 : RN (x - p1) l1) (R3 : RN (a2 * b1) q2) (R4 : RN (l1 - q2) l2) (R5 : RN (a1 * b2) p3) (R6 : RN (l2 - p3) l3) (R7 : RN (a2 * b2) p4) (R8 : RN (p4 - l3) y) : x + y = a * b := by
  have hu1 := U_pos S1
  have hu2 := U_pos S2
  have hV := U_pos R
  have v27 := U_up R 27 134217728 rfl
  have v51 := U_up R 51 2251799813685248 rfl
  have v52 := U_up R 52 4503599627370496 rfl
  have v53 := U_up R 53 9007199254740992 rfl
  have v54 := U_up R 54 18014398509481984 rfl
  have s27 := U_up S1 27 134217728 rfl
  have t27 := U_up S2 27 134217728 rfl
  have e1 : a1 * b1 = ((X1 * X2 : Int) : Rat) * U (R + 54) := by rw [ha.h1, hb.h1, s27, t27, v54, ← hR, Rat.intCast_mul]; grind
  have e2 : a2 * b1 = ((Y1 * X2 : Int) : Rat) * U (R + 27) := by rw [ha.h2, hb.h1, t27, v27, ← hR, Rat.intCast_mul]; grind
  have e3 : a1 * b2 = ((X1 * Y2 : Int) : Rat) * U (R + 27) := by rw [ha.h1, hb.h2, s27, v27, ← hR, Rat.intCast_mul]; grind
  have e4 : a2 * b2 = ((Y1 * Y2 : Int) : Rat) * U R := by rw [ha.h2, hb.h2, ← hR, Rat.intCast_mul]; grind
  have m1 := mul_bound ha.x1 ha.x2 hb.x1 hb.x2
  have m2 := mul_bound ha.y1 ha.y2 hb.x1 hb.x2
  have m3 := mul_bound ha.x1 ha.x2 hb.y1 hb.y2
  have m4 := mul_bound ha.y1 ha.y2 hb.y1 hb.y2
  have big : ∀ {z : Rat} {T : Nat} {n : Int}, z = (n : Rat) * U T → -4503599627370496 ≤ n ∧ n ≤ 4503599627370496 → z ≤ 4503599627370496 * U T ∧ -z ≤ 4503599627370496 * U T := by
    intro z T n hz hn
    have hu := U_pos T
    have f1 := Rat.mul_le_mul_of_nonneg_right (Rat.intCast_le_intCast.2 hn.2) (Rat.le_of_lt hu)
    have f2 := Rat.mul_le_mul_of_nonneg_right (Rat.intCast_le_intCast.2 hn.1) (Rat.le_of_lt hu)
    rw [show ((4503599627370496 : Int) : Rat) = 4503599627370496 from rfl] at f1
    rw [show ((-4503599627370496 : Int) : Rat) = -4503599627370496 from rfl] at f2
    rw [hz]; constructor <;> grind
  have z2 := big e2 m2
  have z3 := big e3 m3
  have z4 := big e4 m4
  have x1 := R1.exact ⟨_, _, e1, by omega, by omega⟩
  have x3 := R3.exact ⟨_, _, e2, by omega, by omega⟩
  have x5 := R5.exact ⟨_, _, e3, by omega, by omega⟩
  have x7 := R7.exact ⟨_, _, e4, by omega, by omega⟩
  have M1 : M (U (R + 54)) (a1 * b1) := ⟨_, e1⟩
  have M2 : M (U (R + 27)) (a2 * b1) := ⟨_, e2⟩
  have M3 : M (U (R + 27)) (a1 * b2) := ⟨_, e3⟩
  have M4 : M (U R) (a2 * b2) := ⟨_, e4⟩
  have eN : a * b = a1 * b1 + a2 * b1 + a1 * b2 + a2 * b2 := by rw [← ha.sum, ← hb.sum]; grind
  have lo := prod_lo (by grind) (by grind) ha.lo hb.lo
  have hi := abs_mul_lt ha.hi2 ha.hi1 hb.hi2 hb.hi1
  rw [show 4503599627370496 * U S1 * (4503599627370496 * U S2) = 20282409603651670423947251286016 * (U S1 * U S2) by grind, hR] at lo
  rw [show 9007199254740992 * U S1 * (9007199254740992 * U S2) = 81129638414606681695789005144064 * (U S1 * U S2) by grind, hR] at hi
  clear e1 e2 e3 e4 m1 m2 m3 m4 big R1 R3 R5 R7 hR s27 t27
  subst x1 x3 x5 x7
  generalize a * b = N at *
  generalize a1 * b1 = w1 at *
  generalize a2 * b1 = w2 at *
  generalize a1 * b2 = w3 at *
  generalize a2 * b2 = w4 at *
  obtain ⟨T, k, Q⟩ := Rx
  have q1 := Q.h1
  have q2 := Q.h2
  have hT : R + 52 ≤ T := by
    rcases Nat.lt_or_ge T (R + 52) with h | h
    · have := U_mono (show T ≤ R + 51 by omega)
      have h4 := Q.h4
      have h5 := Q.h5
      exfalso
      rcases lo with lo | lo <;> grind
    · exact h
  have hT2 : U T ≤ 9007199254740992 * U R := by
    rcases Nat.lt_or_ge T (R + 54) with h | h
    · have := U_mono (show T ≤ R + 53 by omega)
      grind
    · have := U_mono h
      exfalso
      rcases Q.h3 with h3 | h3 | h3
      · omega
      · grind
      · grind
  have mx : M (U (R + 52)) x := M.down hT Q.m
  have k1 := R2.exact (M.small 268435458 (by omega) (mx.sub (M.down (by omega) M1))
    (by rw [show ((268435458 + 1 : Int) : Rat) = 268435459 from rfl, v52]; grind) (by rw [show ((268435458 + 1 : Int) : Rat) = 268435459 from rfl, v52]; grind))
  have k2 := R4.exact (by
    rw [k1]
    exact M.small 4503599694479360 (by omega) (((M.down (by omega) mx).sub (M.down (by omega) M1)).sub M2)
      (by rw [show ((4503599694479360 + 1 : Int) : Rat) = 4503599694479361 from rfl, v27]; grind) (by rw [show ((4503599694479360 + 1 : Int) : Rat) = 4503599694479361 from rfl, v27]; grind))
  have k3 := R6.exact (by
    rw [k2, k1]
    exact M.small 67108864 (by omega) ((((M.down (by omega) mx).sub (M.down (by omega) M1)).sub M2).sub M3)
      (by rw [show ((67108864 + 1 : Int) : Rat) = 67108865 from rfl, v27]; grind) (by rw [show ((67108864 + 1 : Int) : Rat) = 67108865 from rfl, v27]; grind))
  have k4 := R8.exact (by
    rw [k3, k2, k1]
    exact M.small 4503599627370496 (by omega) (M4.sub ((((M.down (by omega) mx).sub (M.down (by omega) M1)).sub (M.down (by omega) M2)).sub (M.down (by omega) M3)))
      (by rw [show ((4503599627370496 + 1 : Int) : Rat) = 4503599627370497 from rfl]; grind) (by rw [show ((4503599627370496 + 1 : Int) : Rat) = 4503599627370497 from rfl]; grind))
  rw [k4, k3, k2, k1, eN]; grind

end Go.Proofs.YtfcgndgmbmkdgaaDoor
