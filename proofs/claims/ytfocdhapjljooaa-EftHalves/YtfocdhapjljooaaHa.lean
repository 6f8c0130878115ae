/- How many bits a float has; that two numbers are the same. -/
import Derived.Test.YtfocdhapjljooaaZs
import Derived.Test.YtfocdhapjljooaaEx
namespace Go.Proofs.Ytfocdhapjljooaa
open Go.RowKit
attribute [local go_sem ↓] Go.wp_at_zero Go.wp_at_succ

theorem run_store_float (P : Program) (w : World) (a : Addr) (m : Mode) (k : FloatKind) (b : Nat) : (store a (.float k b) m).run P w = stored P w a (.float k b) m := run_store P w a _ m rfl
theorem cmp_same (v1 v2 : Value) (q1 q2 : Rat) (w : World) (h1 : Rf w v1 q1) (h2 : Rf w v2 q2) (b1 : Fit q1) (b2 : Fit q2) (hq : q1 = q2) : Calls Try.prog 18 #[v1, v2] w fun e w' => e = .returned (.int .i64 0) ∧ Below w.heap.size w w' := by
  have h := cmp_rf v1 v2 q1 q2 w h1 h2 b1 b2
  have e : sgq (q1 - q2) = 0 := by unfold sgq; rw [if_neg (by grind), if_pos (by grind)]
  rwa [e] at h

theorem keepN3 {w W W' : World} {p1 p2 p3 : Addr} {x1 x2 x3 : Value} (h : W.cell? p1 = some x1 ∧ W.cell? p2 = some x2 ∧ W.cell? p3 = some x3 ∧ Below w.heap.size w W) (hb : Below W.heap.size W W') : W'.cell? p1 = some x1 ∧ W'.cell? p2 = some x2 ∧ W'.cell? p3 = some x3 ∧ Below w.heap.size w W' :=
  ⟨box_cell hb h.1, box_cell hb h.2.1, box_cell hb h.2.2.1, h.2.2.2.trans (hb.mono h.2.2.2.size)⟩
theorem keepN2 {w W W' : World} {p1 p2 : Addr} {x1 x2 : Value} (h : W.cell? p1 = some x1 ∧ W.cell? p2 = some x2 ∧ Below w.heap.size w W) (hb : Below W.heap.size W W') : W'.cell? p1 = some x1 ∧ W'.cell? p2 = some x2 ∧ Below w.heap.size w W' :=
  ⟨box_cell hb h.1, box_cell hb h.2.1, h.2.2.trans (hb.mono h.2.2.size)⟩
theorem den_fin {b : Nat} (h : Fin64 b) : den b = fval b := by unfold den; exact if_pos h
theorem den_Fit (b : Nat) : Fit (den b) := (den_fit b).mono (by omega) (by omega)
theorem Rf.agg {w : World} {v : Value} {q : Rat} (h : Rf w v q) : ∃ S a n c E, v = .agg #[.int .i64 S, .slice a n c, .int .i64 E] := by
  obtain ⟨S, a, n, c, E, h, _⟩ := h.sgn
  exact ⟨S, a, n, c, E, h⟩

theorem low_ge {q : Rat} {l m n s : Int} (hl : q = (m : Rat) * p2 l) (ho : m % 2 = 1) (hq : q = (n : Rat) * p2 s) : s ≤ l := by
  rcases Int.lt_or_le l s with hlt | hle
  · exfalso
    obtain ⟨j, rfl⟩ : ∃ j : Nat, s = l + 1 + (j : Int) := ⟨(s - l - 1).toNat, by omega⟩
    have e : (m : Rat) * p2 l = ((n * ((2 ^ j : Nat) : Int) * 2 : Int) : Rat) * p2 l := by
      rw [← hl, hq, show l + 1 + (j : Int) = (j : Int) + (1 + l) by omega, p2_add, p2_add, p2_one, p2_nat, Rat.intCast_mul, Rat.intCast_mul]
      show _ = (n : Rat) * ((2 ^ j : Nat) : Rat) * 2 * p2 l
      grind
    have := int_eq (p2_pos l) e
    omega
  · exact hle
/-- At most 26 bits. -/
theorem few_bits {q : Rat} {l h m n : Int} {s : Int} (hl : q = (m : Rat) * p2 l) (ho : m % 2 = 1) (hh : (p2 h ≤ q ∧ q < p2 (h + 1)) ∨ (p2 h ≤ -q ∧ -q < p2 (h + 1))) (hq : q = (n : Rat) * p2 s) (n1 : -67108864 ≤ n) (n2 : n ≤ 67108864) : h - l + 1 ≤ 26 := by
  have hls : s ≤ l := low_ge hl ho hq
  have hp := p2_pos s
  have e26 : p2 (s + 26) = 67108864 * p2 s := by rw [show s + 26 = ((26 : Nat) : Int) + s by omega, p2_add, p2_nat]; rfl
  have a1 := Rat.mul_le_mul_of_nonneg_right (Rat.intCast_le_intCast.2 n2) (Rat.le_of_lt hp)
  have a2 := Rat.mul_le_mul_of_nonneg_right (Rat.intCast_le_intCast.2 n1) (Rat.le_of_lt hp)
  rw [show ((67108864 : Int) : Rat) = 67108864 from rfl, ← hq] at a1
  rw [show ((-67108864 : Int) : Rat) = -67108864 from rfl, ← hq] at a2
  have hle : p2 h ≤ p2 (s + 26) := by rw [e26]; rcases hh with hh | hh <;> grind
  have hle := p2_le_iff.1 hle
  rcases Int.lt_or_le h (s + 26) with h1 | h1
  · omega
  · have : h = s + 26 := by omega
    subst this
    have hqq : q = p2 (s + 26) ∨ q = -p2 (s + 26) := by rw [e26] at hh ⊢; rcases hh with hh | hh <;> grind
    have hl2 : s + 26 ≤ l := by
      rcases Int.lt_or_le l (s + 26) with hlt | hle
      · exfalso
        obtain ⟨j, hj⟩ : ∃ j : Nat, s + 26 = l + 1 + (j : Int) := ⟨(s + 26 - l - 1).toNat, by omega⟩
        have e0 : p2 (s + 26) = ((((2 ^ j : Nat) : Int) * 2 : Int) : Rat) * p2 l := by
          rw [hj, show l + 1 + (j : Int) = (j : Int) + (1 + l) by omega, p2_add, p2_add, p2_one, p2_nat, Rat.intCast_mul]
          show _ = ((2 ^ j : Nat) : Rat) * 2 * p2 l
          grind
        rcases hqq with e | e
        · rw [hl, e0] at e
          have := int_eq (p2_pos l) e
          omega
        · have e : (m : Rat) * p2 l = ((-(((2 ^ j : Nat) : Int) * 2) : Int) : Rat) * p2 l := by rw [← hl, e, e0, Rat.intCast_neg]; grind
          have := int_eq (p2_pos l) e
          omega
      · exact hle
    omega

set_option maxHeartbeats 2000000 in
theorem bits_le (b : Nat) (n s : Int) (w : World) (hb : b < 18446744073709551616) (hq : den b = (n : Rat) * p2 s) (n1 : -67108864 ≤ n) (n2 : n ≤ 67108864) :
    Calls Try.prog 21 #[.float .f64 b] w fun e w' => (∃ k, e = .returned (.int .i64 k) ∧ k ≤ 26) ∧ Below w.heap.size w w' := by
  have HQ : Hid (den b = (n : Rat) * p2 s) := hq
  have HN : Hid (-67108864 ≤ n ∧ n ≤ 67108864) := ⟨n1, n2⟩
  have HO : Hid (∀ w, Calls Try.prog 20 #[.float .f64 b] w fun e w' => RfR w w' (den b) e) := fun w => refOf_any b w hb
  clear hq n1 n2 hb
  go_enter Try.func21, Try.ntmps21
  go_wp2_with fail
  refine (HO.out _).mono ?_
  rintro e w1 ⟨v1, rfl, hr1, hb1⟩
  have hs1 := hr1.sgn
  obtain ⟨S1, a1, n1, c1, E1, rfl, hs⟩ := hs1
  have HB1 : Hid (Below w.heap.size w w1) := hb1
  have HR1 : Hid (Rf w1 (.agg #[.int .i64 S1, .slice a1 n1 c1, .int .i64 E1]) (den b)) := hr1
  have HA : Hid (Below w1.heap.size w1 (w1.alloc (.cells #[.int .i64 S1, .slice a1 n1 c1, .int .i64 E1] 33))) := (Below.refl _ _).alloc (Nat.le_refl _) _
  clear hr1 hb1
  by_cases hz : S1 = 0
  · subst hz
    clear hs
    go_wp2_with fail
    refine (refSign_any a1 n1 c1 0 E1 _).mono ?_
    rintro e w2 ⟨rfl, hb2⟩
    have HB2 : Hid (Below w.heap.size w w2) := HB1.out.trans ((HA.out.trans (hb2.mono HA.out.size)).mono HB1.out.size)
    clear hb2
    go_wp2
    go_ret
    exact ⟨⟨0, rfl, by omega⟩, HB2.out⟩
  · have hq0 : Hid (den b ≠ 0) := by
      show _ ≠ _
      rcases hs with ⟨h, _⟩ | ⟨_, h⟩ | ⟨_, h⟩
      · exact absurd h hz
      · grind
      · grind
    have hz' : (S1 == 0) = false := by simpa using hz
    clear hs hz
    go_wp2_with fail
    refine (refSign_any a1 n1 c1 S1 E1 _).mono ?_
    rintro e w2 ⟨rfl, hb2⟩
    have HB2 : Hid (Below w1.heap.size w1 w2) := HA.out.trans (hb2.mono HA.out.size)
    have u0 : w2.cell? ⟨w1.heap.size, 0, none⟩ = some (.int .i64 S1) := box_cell hb2 (by go_simp)
    have u1 : w2.cell? ⟨w1.heap.size, 1, none⟩ = some (.slice a1 n1 c1) := box_cell hb2 (by go_simp)
    have u2 : w2.cell? ⟨w1.heap.size, 2, none⟩ = some (.int .i64 E1) := box_cell hb2 (by go_simp)
    have hrefl : Hid (Below w2.heap.size w2 w2) := Below.refl _ _
    clear hb2
    go_wp2
    go_region_held3 (fun W => W.cell? ⟨w1.heap.size, 0, none⟩ = some (.int .i64 S1) ∧ W.cell? ⟨w1.heap.size, 1, none⟩ = some (.slice a1 n1 c1) ∧ W.cell? ⟨w1.heap.size, 2, none⟩ = some (.int .i64 E1) ∧ Below w2.heap.size w2 W)
      (first
        | assumption
        | exact ⟨by go_simp, by go_simp, by go_simp, hrefl.out.drew⟩
        | exact keepN3 (by assumption) (by assumption))
      (first
        | (go_at_call 59; refine (high_rf _ (den b) _ (HR1.out.later (HB2.out.trans ((by exact (by assumption : _ ∧ _ ∧ _ ∧ Below w2.heap.size w2 _).2.2.2 : Below w2.heap.size w2 _).mono HB2.out.size))) hq0.out (den_Fit b)).mono ?_; rintro e w3 ⟨⟨h, rfl, hh⟩, hb3⟩)
        | (go_at_call 60; refine (low_rf _ (den b) _ (HR1.out.later (HB2.out.trans ((by exact (by assumption : _ ∧ _ ∧ _ ∧ Below w2.heap.size w2 _).2.2.2 : Below w2.heap.size w2 _).mono HB2.out.size))) hq0.out (den_Fit b)).mono ?_; rintro e w4 ⟨⟨l, m, rfl, hl, ho⟩, hb4⟩))
    have hBf := (by assumption : _ ∧ _ ∧ _ ∧ Below w2.heap.size w2 _).2.2.2
    have HBF : Hid (Below w.heap.size w w4) := HB1.out.trans ((HB2.out.trans (hBf.mono HB2.out.size)).mono HB1.out.size)
    have hk := few_bits hl ho hh HQ.out HN.out.1 HN.out.2
    obtain ⟨bd1, bd2, n', bd3⟩ := den_fit b
    have hl1 : -1074 ≤ l := low_ge hl ho bd3
    have hh1 : h < 1024 := p2_lt_iff.1 (by rcases hh with hh | hh <;> grind)
    have hh2 : l ≤ h := by
      have hp := p2_pos l
      have hm : m ≠ 0 := by omega
      have h1 : p2 l ≤ den b ∨ p2 l ≤ -den b := by
        rcases Int.lt_or_le 0 m with hm | hm
        · left
          have := Rat.mul_le_mul_of_nonneg_right (Rat.intCast_le_intCast.2 (show (1 : Int) ≤ m by omega)) (Rat.le_of_lt hp)
          rw [show ((1 : Int) : Rat) = 1 from rfl, ← hl] at this; grind
        · right
          have := Rat.mul_le_mul_of_nonneg_right (Rat.intCast_le_intCast.2 (show (1 : Int) ≤ -m by omega)) (Rat.le_of_lt hp)
          rw [show ((1 : Int) : Rat) = 1 from rfl, Rat.intCast_neg] at this; grind
      have h2 : p2 l < p2 (h + 1) := by
        have := p2_pos h
        rcases hh with hh | hh <;> rcases h1 with h1 | h1 <;> grind
      have := p2_lt_iff.1 h2
      omega
    have w1' : IntKind.i64.wrap (h - l) = h - l := wrapE _ (by omega) (by omega)
    have w2' : IntKind.i64.wrap (h - l + 1) = h - l + 1 := wrapE _ (by omega) (by omega)
    clear hBf hl hh bd1 bd2 bd3 hb3 hb4 ho
    go_wp2
    go_ret
    exact ⟨⟨_, rfl, by rw [w1', w2']; exact hk⟩, HBF.out⟩
end Go.Proofs.Ytfocdhapjljooaa
