/- Own texts, put together: Ex Ha Hc Hd. -/
import Derived.Test.YtfocdhapjljooaaQ6
/- What Sum, Diff and Prod answer, and what follows of it. -/
namespace Go.Proofs.Ytfocdhapjljooaa
open Go.RowKit

/-- A number's float and what was rounded off, if that is promised; else 0, 0. -/
def Pair (dom : Prop) (q : Rat) (x y : Nat) : Prop :=
  Fin64 x ∧ Fin64 y ∧ x < 18446744073709551616 ∧ y < 18446744073709551616 ∧ ((dom ∧ RV q (fval x) ∧ fval x + fval y = q) ∨ (¬ dom ∧ x = 0 ∧ y = 0))

theorem pair_zero {dom : Prop} {q : Rat} (h : ¬ dom) : Pair dom q 0 0 := ⟨fin_zero, fin_zero, by omega, by omega, Or.inr ⟨h, rfl, rfl⟩⟩

theorem flip_lt {a : Nat} (h : a < 18446744073709551616) : fflip a < 18446744073709551616 := by unfold fflip; split <;> omega
theorem frung_flip {a : Nat} (h : a < 18446744073709551616) : frung (fflip a) = frung a := by unfold fflip frung; split <;> omega
theorem fval_flip {a : Nat} (h : a < 18446744073709551616) (hf : Fin64 a) : fval (fflip a) = -fval a := by
  unfold Fin64 frung at hf
  unfold fflip
  split
  · rename_i hs
    rw [Nat.add_comm]; exact fval_word (by omega)
  · rename_i hs
    obtain ⟨r, rfl⟩ : ∃ r, a = 9223372036854775808 + r := ⟨a - 9223372036854775808, by omega⟩
    rw [fval_word (by omega), show 9223372036854775808 + r - 9223372036854775808 = r by omega]; grind

theorem order_same {x v : Nat} (hx : Fin64 x) (hv : Fin64 v) (h : fval x = fval v) : (FloatKind.f64.format.order x v == some .eq) = true := by
  show (Ieee.double.order x v == some .eq) = true
  rw [order_fin hx hv, h, if_neg Rat.lt_irrefl, if_pos rfl]; rfl

theorem pair_rest {dom : Prop} {q : Rat} {x y : Nat} (h : Pair dom q x y) (hL : dom → Lim q) : ∃ s, floatBits .add .f64 x y = some s ∧ (FloatKind.f64.format.order s x == some .eq) = true := by
  obtain ⟨fx, fy, _, _, h⟩ := h
  rcases h with ⟨hd, hv, he⟩ | ⟨_, rfl, rfl⟩
  · obtain ⟨s, hs, fs, _, hr⟩ := add_bits fx fy (by rw [he]; exact hL hd)
    rw [he] at hr
    exact ⟨s, hs, order_same fs fx (hr.fn hv)⟩
  · exact ⟨0, by decide +kernel, by decide +kernel⟩

theorem pair_eq {dom dom' : Prop} {q q' : Rat} {x y v w : Nat} (h : Pair dom q x y) (h' : Pair dom' q' v w) (hd : dom ↔ dom') (hq : dom → q = q') :
    (FloatKind.f64.format.order x v == some .eq) = true ∧ (FloatKind.f64.format.order y w == some .eq) = true := by
  obtain ⟨fx, fy, _, _, h⟩ := h
  obtain ⟨fv, fw, _, _, h'⟩ := h'
  rcases h with ⟨d, hv, he⟩ | ⟨d, rfl, rfl⟩ <;> rcases h' with ⟨d', hv', he'⟩ | ⟨d', rfl, rfl⟩
  · have e := hq d
    subst e
    have e1 := hv.fn hv'
    exact ⟨order_same fx fv e1, order_same fy fw (by grind)⟩
  · exact absurd (hd.1 d) d'
  · exact absurd (hd.2 d') d
  · exact ⟨order_same fx fv rfl, order_same fy fw rfl⟩

theorem pair_neg {dom dom' : Prop} {q q' : Rat} {x y v w : Nat} (h : Pair dom q x y) (h' : Pair dom' q' v w) (hd : dom ↔ dom') (hq : dom → q' = -q) :
    (FloatKind.f64.format.order v (fflip x) == some .eq) = true ∧ (FloatKind.f64.format.order w (fflip y) == some .eq) = true := by
  obtain ⟨fx, fy, lx, ly, h⟩ := h
  obtain ⟨fv, fw, _, _, h'⟩ := h'
  have gx : Fin64 (fflip x) := by unfold Fin64; rw [frung_flip lx]; exact fx
  have gy : Fin64 (fflip y) := by unfold Fin64; rw [frung_flip ly]; exact fy
  have vx := fval_flip lx fx
  have vy := fval_flip ly fy
  rcases h with ⟨d, hv, he⟩ | ⟨d, rfl, rfl⟩ <;> rcases h' with ⟨d', hv', he'⟩ | ⟨d', rfl, rfl⟩
  · have e := hq d
    subst e
    have e1 := hv.neg.fn hv'
    exact ⟨order_same fv gx (by rw [vx]; grind), order_same fw gy (by rw [vy]; grind)⟩
  · exact absurd (hd.1 d) d'
  · exact absurd (hd.2 d') d
  · rw [fval_zero] at vx
    have z : (0 : Rat) = -0 := by grind
    exact ⟨order_same fv gx (by rw [vx, fval_zero]; exact z), order_same fw gy (by rw [vx, fval_zero]; exact z)⟩

def TameW (a b : Nat) : Prop := frung a ≤ 9110782046170513408 ∧ frung b ≤ 9110782046170513408
def SafeP (a b : Nat) : Prop := SafeW (frung a) ∧ SafeW (frung b)

theorem sum_pair (a b : Nat) (w : World) (ha : a < 18446744073709551616) (hb : b < 18446744073709551616) :
    Calls Try.prog 9 #[.float .f64 a, .float .f64 b] w fun e w' => (∃ x y, e = .returned (.tuple #[.float .f64 x, .float .f64 y]) ∧ Pair (TameW a b) (fval a + fval b) x y) ∧ Below w.heap.size w w' := by
  by_cases h : TameW a b
  · obtain ⟨x, fb, fa, lb, la, y, hs, fx, fy, lx, ly, hv, he⟩ := twoSum_words h.1 h.2
    refine (sum_yes a b x fb fa lb la y w ha hb h.1 h.2 hs).mono ?_
    rintro e w' ⟨rfl, hbel⟩
    exact ⟨⟨x, y, rfl, fx, fy, lx, ly, Or.inl ⟨h, hv, he⟩⟩, hbel⟩
  · refine (sum_no a b w ha hb h).mono ?_
    rintro e w' ⟨rfl, hbel⟩
    exact ⟨⟨0, 0, rfl, pair_zero h⟩, hbel⟩

theorem diff_pair (a b : Nat) (w : World) (ha : a < 18446744073709551616) (hb : b < 18446744073709551616) :
    Calls Try.prog 10 #[.float .f64 a, .float .f64 b] w fun e w' => (∃ x y, e = .returned (.tuple #[.float .f64 x, .float .f64 y]) ∧ Pair (TameW a b) (fval a - fval b) x y) ∧ Below w.heap.size w w' := by
  by_cases h : TameW a b
  · obtain ⟨x, fb, fa, lb, la, y, hs, fx, fy, lx, ly, hv, he⟩ := twoSum_words (b := fflip b) h.1 (by rw [frung_flip hb]; exact h.2)
    rw [fval_flip hb (by unfold Fin64; have := h.2; omega), show fval a + -fval b = fval a - fval b by grind] at hv he
    refine (diff_yes a b x fb fa lb la y w ha hb h.1 h.2 hs).mono ?_
    rintro e w' ⟨rfl, hbel⟩
    exact ⟨⟨x, y, rfl, fx, fy, lx, ly, Or.inl ⟨h, hv, he⟩⟩, hbel⟩
  · refine (diff_no a b w ha hb h).mono ?_
    rintro e w' ⟨rfl, hbel⟩
    exact ⟨⟨0, 0, rfl, pair_zero h⟩, hbel⟩

theorem prod_pair (a b : Nat) (w : World) (ha : a < 18446744073709551616) (hb : b < 18446744073709551616) :
    Calls Try.prog 13 #[.float .f64 a, .float .f64 b] w fun e w' => (∃ x y, e = .returned (.tuple #[.float .f64 x, .float .f64 y]) ∧ Pair (SafeP a b) (fval a * fval b) x y) ∧ Below w.heap.size w w' := by
  by_cases h : SafeP a b
  · obtain ⟨x, a1, a2, b1, b2, p1, l1, q2, l2, p3, l3, p4, y, c, d, c', d', H1, H2, hs, fx, fy, lx, ly, hv, he⟩ := prod_words h.1 h.2
    refine (prod_yes a b x a1 a2 b1 b2 p1 l1 q2 l2 p3 l3 p4 y c d c' d' w ha hb h.1 h.2 H1 H2 hs).mono ?_
    rintro e w' ⟨rfl, hbel⟩
    exact ⟨⟨x, y, rfl, fx, fy, lx, ly, Or.inl ⟨h, hv, he⟩⟩, hbel⟩
  · refine (prod_no a b w ha hb h).mono ?_
    rintro e w' ⟨rfl, hbel⟩
    exact ⟨⟨0, 0, rfl, pair_zero h⟩, hbel⟩

theorem lim_sum {a b : Nat} (h : TameW a b) : Lim (fval a + fval b) ∧ Lim (fval a - fval b) := by
  have b1 := tame_bound h.1
  have b2 := tame_bound h.2
  have hc := p2_pos 1000
  have ht := lim_top
  refine ⟨⟨?_, ?_⟩, ⟨?_, ?_⟩⟩ <;> rw [ht] <;> grind

theorem lim_prod {a b : Nat} (h : SafeP a b) : Lim (fval a * fval b) := by
  have b1 := safe_bound h.1
  have b2 := safe_bound h.2
  have he := p2_pos 450
  have := abs_mul_lt (a := fval a) (b := 2 * p2 450) (c := fval b) (d := 2 * p2 450) (by grind) (by grind) (by grind) (by grind)
  have ht : 2 * p2 450 * (2 * p2 450) ≤ p2 1023 := by
    rw [show 2 * p2 450 * (2 * p2 450) = p2 (1 + 450 + (1 + 450)) by rw [p2_add, p2_add, p2_one]]; exact p2_mono (by omega)
  exact ⟨by grind, by grind⟩


end Go.Proofs.Ytfocdhapjljooaa

/- How many bits a float has; that two numbers are the same. -/
namespace Go.Proofs.Ytfocdhapjljooaa
open Go.RowKit
attribute [local go_sem ↓] Go.wp_at_zero Go.wp_at_succ

theorem run_store_float (P : Program) (w : World) (a : Addr) (m : Mode) (k : FloatKind) (b : Nat) : (store a (.float k b) m).run P w = stored P w a (.float k b) m := run_store P w a _ m rfl
theorem cmp_same (v1 v2 : Value) (q1 q2 : Rat) (w : World) (h1 : Rf w v1 q1) (h2 : Rf w v2 q2) (b1 : Fit q1) (b2 : Fit q2) (hq : q1 = q2) : Calls Try.prog 18 #[v1, v2] w fun e w' => e = .returned (.int .i64 0) ∧ Below w.heap.size w w' := by
  have h := cmp_rf v1 v2 q1 q2 w h1 h2 b1 b2
  have e : sgq (q1 - q2) = 0 := by unfold sgq; rw [if_neg (by grind), if_pos (by grind)]
  rwa [e] at h

theorem keepN3 {w W W' : World} {p1 p2 p3 : Addr} {x1 x2 x3 : Value} (h : W.cell? p1 = some x1 ∧ W.cell? p2 = some x2 ∧ W.cell? p3 = some x3 ∧ Below w.heap.size w W) (hb : Below W.heap.size W W') : W'.cell? p1 = some x1 ∧ W'.cell? p2 = some x2 ∧ W'.cell? p3 = some x3 ∧ Below w.heap.size w W' :=
  ⟨box_cell hb h.1, box_cell hb h.2.1, box_cell hb h.2.2.1, h.2.2.2.trans (hb.mono h.2.2.2.size)⟩
theorem keepN2 {w W W' : World} {p1 p2 : Addr} {x1 x2 : Value} (h : W.cell? p1 = some x1 ∧ W.cell? p2 = some x2 ∧ Below w.heap.size w W) (hb : Below W.heap.size W W') : W'.cell? p1 = some x1 ∧ W'.cell? p2 = some x2 ∧ Below w.heap.size w W' :=
  ⟨box_cell hb h.1, box_cell hb h.2.1, h.2.2.trans (hb.mono h.2.2.size)⟩
theorem den_fin {b : Nat} (h : Fin64 b) : den b = fval b := by unfold den; exact if_pos h
theorem den_Fit (b : Nat) : Fit (den b) := (den_fit b).mono (by omega) (by omega)
theorem Rf.agg {w : World} {v : Value} {q : Rat} (h : Rf w v q) : ∃ S a n c E, v = .agg #[.int .i64 S, .slice a n c, .int .i64 E] := by
  obtain ⟨S, a, n, c, E, h, _⟩ := h.sgn
  exact ⟨S, a, n, c, E, h⟩

theorem low_ge {q : Rat} {l m n s : Int} (hl : q = (m : Rat) * p2 l) (ho : m % 2 = 1) (hq : q = (n : Rat) * p2 s) : s ≤ l := by
  rcases Int.lt_or_le l s with hlt | hle
  · exfalso
    obtain ⟨j, rfl⟩ : ∃ j : Nat, s = l + 1 + (j : Int) := ⟨(s - l - 1).toNat, by omega⟩
    have e : (m : Rat) * p2 l = ((n * ((2 ^ j : Nat) : Int) * 2 : Int) : Rat) * p2 l := by
      rw [← hl, hq, show l + 1 + (j : Int) = (j : Int) + (1 + l) by omega, p2_add, p2_add, p2_one, p2_nat, Rat.intCast_mul, Rat.intCast_mul]
      show _ = (n : Rat) * ((2 ^ j : Nat) : Rat) * 2 * p2 l
      grind
    have := int_eq (p2_pos l) e
    omega
  · exact hle
/-- At most 26 bits. -/
theorem few_bits {q : Rat} {l h m n : Int} {s : Int} (hl : q = (m : Rat) * p2 l) (ho : m % 2 = 1) (hh : (p2 h ≤ q ∧ q < p2 (h + 1)) ∨ (p2 h ≤ -q ∧ -q < p2 (h + 1))) (hq : q = (n : Rat) * p2 s) (n1 : -67108864 ≤ n) (n2 : n ≤ 67108864) : h - l + 1 ≤ 26 := by
  have hls : s ≤ l := low_ge hl ho hq
  have hp := p2_pos s
  have e26 : p2 (s + 26) = 67108864 * p2 s := by rw [show s + 26 = ((26 : Nat) : Int) + s by omega, p2_add, p2_nat]; rfl
  have a1 := Rat.mul_le_mul_of_nonneg_right (Rat.intCast_le_intCast.2 n2) (Rat.le_of_lt hp)
  have a2 := Rat.mul_le_mul_of_nonneg_right (Rat.intCast_le_intCast.2 n1) (Rat.le_of_lt hp)
  rw [show ((67108864 : Int) : Rat) = 67108864 from rfl, ← hq] at a1
  rw [show ((-67108864 : Int) : Rat) = -67108864 from rfl, ← hq] at a2
  have hle : p2 h ≤ p2 (s + 26) := by rw [e26]; rcases hh with hh | hh <;> grind
  have hle := p2_le_iff.1 hle
  rcases Int.lt_or_le h (s + 26) with h1 | h1
  · omega
  · have : h = s + 26 := by omega
    subst this
    have hqq : q = p2 (s + 26) ∨ q = -p2 (s + 26) := by rw [e26] at hh ⊢; rcases hh with hh | hh <;> grind
    have hl2 : s + 26 ≤ l := by
      rcases Int.lt_or_le l (s + 26) with hlt | hle
      · exfalso
        obtain ⟨j, hj⟩ : ∃ j : Nat, s + 26 = l + 1 + (j : Int) := ⟨(s + 26 - l - 1).toNat, by omega⟩
        have e0 : p2 (s + 26) = ((((2 ^ j : Nat) : Int) * 2 : Int) : Rat) * p2 l := by
          rw [hj, show l + 1 + (j : Int) = (j : Int) + (1 + l) by omega, p2_add, p2_add, p2_one, p2_nat, Rat.intCast_mul]
          show _ = ((2 ^ j : Nat) : Rat) * 2 * p2 l
          grind
        rcases hqq with e | e
        · rw [hl, e0] at e
          have := int_eq (p2_pos l) e
          omega
        · have e : (m : Rat) * p2 l = ((-(((2 ^ j : Nat) : Int) * 2) : Int) : Rat) * p2 l := by rw [← hl, e, e0, Rat.intCast_neg]; grind
          have := int_eq (p2_pos l) e
          omega
      · exact hle
    omega

set_option maxHeartbeats 2000000 in
theorem bits_le (b : Nat) (n s : Int) (w : World) (hb : b < 18446744073709551616) (hq : den b = (n : Rat) * p2 s) (n1 : -67108864 ≤ n) (n2 : n ≤ 67108864) :
    Calls Try.prog 21 #[.float .f64 b] w fun e w' => (∃ k, e = .returned (.int .i64 k) ∧ k ≤ 26) ∧ Below w.heap.size w w' := by
  have HQ : Hid (den b = (n : Rat) * p2 s) := hq
  have HN : Hid (-67108864 ≤ n ∧ n ≤ 67108864) := ⟨n1, n2⟩
  have HO : Hid (∀ w, Calls Try.prog 20 #[.float .f64 b] w fun e w' => RfR w w' (den b) e) := fun w => refOf_any b w hb
  clear hq n1 n2 hb
  go_enter Try.func21, Try.ntmps21
  go_wp2_with fail
  refine (HO.out _).mono ?_
  rintro e w1 ⟨v1, rfl, hr1, hb1⟩
  have hs1 := hr1.sgn
  obtain ⟨S1, a1, n1, c1, E1, rfl, hs⟩ := hs1
  have HB1 : Hid (Below w.heap.size w w1) := hb1
  have HR1 : Hid (Rf w1 (.agg #[.int .i64 S1, .slice a1 n1 c1, .int .i64 E1]) (den b)) := hr1
  have HA : Hid (Below w1.heap.size w1 (w1.alloc (.cells #[.int .i64 S1, .slice a1 n1 c1, .int .i64 E1] 33))) := (Below.refl _ _).alloc (Nat.le_refl _) _
  clear hr1 hb1
  by_cases hz : S1 = 0
  · subst hz
    clear hs
    go_wp2_with fail
    refine (refSign_any a1 n1 c1 0 E1 _).mono ?_
    rintro e w2 ⟨rfl, hb2⟩
    have HB2 : Hid (Below w.heap.size w w2) := HB1.out.trans ((HA.out.trans (hb2.mono HA.out.size)).mono HB1.out.size)
    clear hb2
    go_wp2
    go_ret
    exact ⟨⟨0, rfl, by omega⟩, HB2.out⟩
  · have hq0 : Hid (den b ≠ 0) := by
      show _ ≠ _
      rcases hs with ⟨h, _⟩ | ⟨_, h⟩ | ⟨_, h⟩
      · exact absurd h hz
      · grind
      · grind
    have hz' : (S1 == 0) = false := by simpa using hz
    clear hs hz
    go_wp2_with fail
    refine (refSign_any a1 n1 c1 S1 E1 _).mono ?_
    rintro e w2 ⟨rfl, hb2⟩
    have HB2 : Hid (Below w1.heap.size w1 w2) := HA.out.trans (hb2.mono HA.out.size)
    have u0 : w2.cell? ⟨w1.heap.size, 0, none⟩ = some (.int .i64 S1) := box_cell hb2 (by go_simp)
    have u1 : w2.cell? ⟨w1.heap.size, 1, none⟩ = some (.slice a1 n1 c1) := box_cell hb2 (by go_simp)
    have u2 : w2.cell? ⟨w1.heap.size, 2, none⟩ = some (.int .i64 E1) := box_cell hb2 (by go_simp)
    have hrefl : Hid (Below w2.heap.size w2 w2) := Below.refl _ _
    clear hb2
    go_wp2
    go_region_held3 (fun W => W.cell? ⟨w1.heap.size, 0, none⟩ = some (.int .i64 S1) ∧ W.cell? ⟨w1.heap.size, 1, none⟩ = some (.slice a1 n1 c1) ∧ W.cell? ⟨w1.heap.size, 2, none⟩ = some (.int .i64 E1) ∧ Below w2.heap.size w2 W)
      (first
        | assumption
        | exact ⟨by go_simp, by go_simp, by go_simp, hrefl.out.drew⟩
        | exact keepN3 (by assumption) (by assumption))
      (first
        | (go_at_call 59; refine (high_rf _ (den b) _ (HR1.out.later (HB2.out.trans ((by exact (by assumption : _ ∧ _ ∧ _ ∧ Below w2.heap.size w2 _).2.2.2 : Below w2.heap.size w2 _).mono HB2.out.size))) hq0.out (den_Fit b)).mono ?_; rintro e w3 ⟨⟨h, rfl, hh⟩, hb3⟩)
        | (go_at_call 60; refine (low_rf _ (den b) _ (HR1.out.later (HB2.out.trans ((by exact (by assumption : _ ∧ _ ∧ _ ∧ Below w2.heap.size w2 _).2.2.2 : Below w2.heap.size w2 _).mono HB2.out.size))) hq0.out (den_Fit b)).mono ?_; rintro e w4 ⟨⟨l, m, rfl, hl, ho⟩, hb4⟩))
    have hBf := (by assumption : _ ∧ _ ∧ _ ∧ Below w2.heap.size w2 _).2.2.2
    have HBF : Hid (Below w.heap.size w w4) := HB1.out.trans ((HB2.out.trans (hBf.mono HB2.out.size)).mono HB1.out.size)
    have hk := few_bits hl ho hh HQ.out HN.out.1 HN.out.2
    obtain ⟨bd1, bd2, n', bd3⟩ := den_fit b
    have hl1 : -1074 ≤ l := low_ge hl ho bd3
    have hh1 : h < 1024 := p2_lt_iff.1 (by rcases hh with hh | hh <;> grind)
    have hh2 : l ≤ h := by
      have hp := p2_pos l
      have hm : m ≠ 0 := by omega
      have h1 : p2 l ≤ den b ∨ p2 l ≤ -den b := by
        rcases Int.lt_or_le 0 m with hm | hm
        · left
          have := Rat.mul_le_mul_of_nonneg_right (Rat.intCast_le_intCast.2 (show (1 : Int) ≤ m by omega)) (Rat.le_of_lt hp)
          rw [show ((1 : Int) : Rat) = 1 from rfl, ← hl] at this; grind
        · right
          have := Rat.mul_le_mul_of_nonneg_right (Rat.intCast_le_intCast.2 (show (1 : Int) ≤ -m by omega)) (Rat.le_of_lt hp)
          rw [show ((1 : Int) : Rat) = 1 from rfl, Rat.intCast_neg] at this; grind
      have h2 : p2 l < p2 (h + 1) := by
        have := p2_pos h
        rcases hh with hh | hh <;> rcases h1 with h1 | h1 <;> grind
      have := p2_lt_iff.1 h2
      omega
    have w1' : IntKind.i64.wrap (h - l) = h - l := wrapE _ (by omega) (by omega)
    have w2' : IntKind.i64.wrap (h - l + 1) = h - l + 1 := wrapE _ (by omega) (by omega)
    clear hBf hl hh bd1 bd2 bd3 hb3 hb4 ho
    go_wp2
    go_ret
    exact ⟨⟨_, rfl, by rw [w1', w2']; exact hk⟩, HBF.out⟩
end Go.Proofs.Ytfocdhapjljooaa

/- A number and the floats about the one nearest to it: plain facts. Nextafter. -/
namespace Go.Proofs.Ytfocdhapjljooaa
open Go.RowKit

theorem near_between {q : Rat} {r : Nat} (h : Near q r) (hq : 0 < q) (hr : r + 1 < 9218868437227405312) :
    2 * q ≤ fval r + fval (r + 1) ∧ (2 * q = fval r + fval (r + 1) → r % 2 = 0) ∧ (r ≠ 0 → fval r + fval (r - 1) ≤ 2 * q ∧ (2 * q = fval r + fval (r - 1) → r % 2 = 0)) := by
  rcases h with ⟨rfl, _⟩ | ⟨_, T, k, hl, hh, e⟩
  · exact absurd hq (by grind)
  · have hb := kept_bounds hl hh
    have e' : r = T * 4503599627370496 + k := by omega
    have hv := fval_rung T k hb.1 hb.2 (by omega)
    have hU := half_unit T
    have hu := p2_pos ((T : Int) - 1075)
    obtain ⟨l1, l2⟩ := hl
    obtain ⟨s1, s2, s3, s4⟩ := hh
    rw [show ((9007199254740992 : Int) : Rat) = 9007199254740992 from rfl] at l1
    have e1 : ((2 * (k : Int) - 1 : Int) : Rat) = 2 * ((k : Nat) : Rat) - 1 := by rw [Rat.intCast_sub, Rat.intCast_mul]; rfl
    have e2 : ((2 * (k : Int) + 1 : Int) : Rat) = 2 * ((k : Nat) : Rat) + 1 := by rw [Rat.intCast_add, Rat.intCast_mul]; rfl
    rw [e1] at s1 s3
    rw [e2] at s2 s4
    rw [e']
    have hpar : (T * 4503599627370496 + k) % 2 = k % 2 := by omega
    rw [hpar, hv]
    refine ⟨?_, ?_, ?_⟩
    · by_cases hk : k < 9007199254740992
      · have hv1 := fval_rung T (k + 1) (by omega) (by omega) (by omega)
        rw [show T * 4503599627370496 + k + 1 = T * 4503599627370496 + (k + 1) by omega, hv1, hU, Rat.natCast_add]
        rw [show ((1 : Nat) : Rat) = 1 from rfl]
        grind
      · have hv1 := fval_rung (T + 1) 4503599627370497 (by omega) (by omega) (by omega)
        rw [show T * 4503599627370496 + k + 1 = (T + 1) * 4503599627370496 + 4503599627370497 by omega, hv1, U_succ, hU]
        obtain rfl : k = 9007199254740992 := by omega
        rw [show ((9007199254740992 : Nat) : Rat) = 9007199254740992 from rfl] at *
        rw [show ((4503599627370497 : Nat) : Rat) = 4503599627370497 from rfl]
        grind
    · intro he
      by_cases hk : k < 9007199254740992
      · have hv1 := fval_rung T (k + 1) (by omega) (by omega) (by omega)
        rw [show T * 4503599627370496 + k + 1 = T * 4503599627370496 + (k + 1) by omega, hv1, hU, Rat.natCast_add] at he
        rw [show ((1 : Nat) : Rat) = 1 from rfl] at he
        exact s4 (by grind)
      · exfalso
        have hv1 := fval_rung (T + 1) 4503599627370497 (by omega) (by omega) (by omega)
        rw [show T * 4503599627370496 + k + 1 = (T + 1) * 4503599627370496 + 4503599627370497 by omega, hv1, U_succ, hU] at he
        obtain rfl : k = 9007199254740992 := by omega
        rw [show ((9007199254740992 : Nat) : Rat) = 9007199254740992 from rfl] at *
        rw [show ((4503599627370497 : Nat) : Rat) = 4503599627370497 from rfl] at he
        grind
    · intro h0
      by_cases hk : T = 0 ∨ 4503599627370497 ≤ k
      · have hk1 : 1 ≤ k := by rcases hk with rfl | hk <;> omega
        obtain ⟨j, rfl⟩ : ∃ j, k = j + 1 := ⟨k - 1, by omega⟩
        have hv1 := fval_rung T j (by omega) (by omega) (by omega)
        rw [show T * 4503599627370496 + (j + 1) - 1 = T * 4503599627370496 + j by omega, hv1, hU]
        rw [Rat.natCast_add, show ((1 : Nat) : Rat) = 1 from rfl] at *
        exact ⟨by grind, fun he => s3 (by grind)⟩
      · obtain ⟨S, rfl⟩ : ∃ S, T = S + 1 := ⟨T - 1, by omega⟩
        obtain rfl : k = 4503599627370496 := by omega
        have hv1 := fval_rung S 9007199254740991 (by omega) (by omega) (by omega)
        rw [show (S + 1) * 4503599627370496 + 4503599627370496 - 1 = S * 4503599627370496 + 9007199254740991 by omega, hv1]
        have hUS : U S = p2 (((S + 1 : Nat) : Int) - 1075) := by unfold U; congr 1; omega
        rw [hU, hUS]
        rw [show ((9007199254740991 : Nat) : Rat) = 9007199254740991 from rfl, show ((4503599627370496 : Nat) : Rat) = 4503599627370496 from rfl]
        rcases l1 with l1 | l1
        · omega
        · exact ⟨by grind, fun he => by grind⟩

theorem isNaN_fin {b : Nat} (h : Fin64 b) (w : World) : Calls Try.prog 92 #[.float .f64 b] w fun e w' => e = .returned (.bool false) ∧ w' = w := by
  have := isNaN_any b w
  rwa [show isnan b = false by unfold isnan; exact decide_eq_false (by unfold Fin64 at h; omega)] at this
theorem finMax : Fin64 9218868437227405311 := by unfold Fin64 frung; decide

theorem next_lt {r : Nat} (h : r < 9218868437227405311) : fval r < fval 9218868437227405311 := fval_lt h (by omega)
theorem pos_fval {r : Nat} (h : r < 9218868437227405312) (h0 : r ≠ 0) : 0 < fval r := by
  have := fval_lt (r := 0) (s := r) (by omega) h
  rwa [fval0] at this
theorem fin_small {r : Nat} (h : r < 9218868437227405312) : Fin64 r := by unfold Fin64 frung; omega

set_option maxHeartbeats 1000000 in
theorem next_up (r : Nat) (w : World) (h : r < 9218868437227405311) (h0 : r ≠ 0) : Calls Try.prog 90 #[.float .f64 r, .float .f64 9218868437227405311] w fun e w' => e = .returned (.float .f64 (r + 1)) ∧ w' = w := by
  have f1 := fin_small (r := r) (by omega)
  have p1 := pos_fval (r := r) (by omega) h0
  have l1 := next_lt h
  have o1 : FloatKind.f64.format.order r 9218868437227405311 = some .lt := by rw [order_val f1 finMax, if_pos l1]
  have o2 : FloatKind.f64.format.order r 0 = some .gt := by rw [order_val f1 fin0, fval0, if_neg (by grind), if_neg (by grind)]
  have o3 : FloatKind.f64.format.order 9218868437227405311 r = some .gt := by rw [order_val finMax f1, if_neg (by grind), if_neg (by grind)]
  have HN : Hid (∀ w, Calls Try.prog 92 #[.float .f64 r] w fun e w' => e = .returned (.bool false) ∧ w' = w) := isNaN_fin f1
  have HM : Hid (∀ w, Calls Try.prog 92 #[.float .f64 9218868437227405311] w fun e w' => e = .returned (.bool false) ∧ w' = w) := isNaN_fin finMax
  have rb := run_bits r
  have rf : ∀ w, (callFunc 88 #[.int .u64 ((r : Int) + 1)]).run Try.prog w = .ok (.value (.float .f64 (r + 1))) w := fun w => by have := run_frombits (r + 1) w; simpa using this
  have hri : (r : Int) < 9218868437227405311 := by omega
  clear f1 p1 l1 h h0
  go_enter Try.func90, Try.ntmps90
  go_wp2_with fail
  refine (HN.out _).mono ?_
  rintro e w1 ⟨rfl, rfl⟩
  go_wp2_with fail
  refine (HM.out _).mono ?_
  rintro e w1 ⟨rfl, rfl⟩
  go_wp2
  go_ret
  exact ⟨by rfl, rfl⟩

set_option maxHeartbeats 1000000 in
theorem next_down (r : Nat) (w : World) (h : r < 9218868437227405311) (h0 : r ≠ 0) : Calls Try.prog 90 #[.float .f64 r, .float .f64 0] w fun e w' => e = .returned (.float .f64 (r - 1)) ∧ w' = w := by
  have f1 := fin_small (r := r) (by omega)
  have p1 := pos_fval (r := r) (by omega) h0
  have o2 : FloatKind.f64.format.order r 0 = some .gt := by rw [order_val f1 fin0, fval0, if_neg (by grind), if_neg (by grind)]
  have o3 : FloatKind.f64.format.order 0 r = some .lt := by rw [order_val fin0 f1, fval0, if_pos p1]
  have HN : Hid (∀ w, Calls Try.prog 92 #[.float .f64 r] w fun e w' => e = .returned (.bool false) ∧ w' = w) := isNaN_fin f1
  have HM : Hid (∀ w, Calls Try.prog 92 #[.float .f64 0] w fun e w' => e = .returned (.bool false) ∧ w' = w) := isNaN_fin fin0
  have rb := run_bits r
  have rf : ∀ w, (callFunc 88 #[.int .u64 ((r : Int) - 1)]).run Try.prog w = .ok (.value (.float .f64 (r - 1))) w := fun w => by
    have := run_frombits (r - 1) w
    rwa [show (((r - 1 : Nat)) : Int) = (r : Int) - 1 by omega] at this
  have hri : (r : Int) < 9218868437227405311 := by omega
  have hr0 : (1 : Int) ≤ (r : Int) := by omega
  clear f1 p1 h h0
  go_enter Try.func90, Try.ntmps90
  go_wp2_with fail
  refine (HN.out _).mono ?_
  rintro e w1 ⟨rfl, rfl⟩
  go_wp2_with fail
  refine (HM.out _).mono ?_
  rintro e w1 ⟨rfl, rfl⟩
  go_wp2
  go_ret
  exact ⟨by rfl, rfl⟩

set_option maxHeartbeats 1000000 in
theorem copysign_pos (a b : Nat) (w : World) (h1 : bits .andNot .u64 (a : Int) 9223372036854775808 = (a : Int)) (h2 : bits .and .u64 (b : Int) 9223372036854775808 = 0) (h3 : bits .or .u64 (a : Int) 0 = (a : Int)) : Calls Try.prog 97 #[.float .f64 a, .float .f64 b] w fun e w' => e = .returned (.float .f64 a) ∧ w' = w := by
  have r1 := run_bits a
  have r2 := run_bits b
  have r3 := run_frombits a
  go_enter Try.func97, Try.ntmps97
  go_wp2
  go_ret
  exact ⟨rfl, rfl⟩

set_option maxHeartbeats 1000000 in
theorem next_zero (x : Nat) (w : World) (h : x = 0 ∨ x = 9223372036854775808) : Calls Try.prog 90 #[.float .f64 x, .float .f64 9218868437227405311] w fun e w' => e = .returned (.float .f64 1) ∧ w' = w := by
  have f1 : Fin64 x := by unfold Fin64 frung; omega
  have z1 : fval x = 0 := fval_zero_iff.2 (by unfold frung; omega)
  have l1 := next_lt (r := 0) (by omega)
  rw [fval0] at l1
  have o1 : FloatKind.f64.format.order x 9218868437227405311 = some .lt := by rw [order_val f1 finMax, z1, if_pos l1]
  have o2 : FloatKind.f64.format.order x 0 = some .eq := by rw [order_val f1 fin0, fval0, z1, if_neg (by grind), if_pos rfl]
  have HN : Hid (∀ w, Calls Try.prog 92 #[.float .f64 x] w fun e w' => e = .returned (.bool false) ∧ w' = w) := isNaN_fin f1
  have HM : Hid (∀ w, Calls Try.prog 92 #[.float .f64 9218868437227405311] w fun e w' => e = .returned (.bool false) ∧ w' = w) := isNaN_fin finMax
  have rf : ∀ w, (callFunc 88 #[.int .u64 1]).run Try.prog w = .ok (.value (.float .f64 1)) w := run_frombits 1
  have HC : Hid (∀ w, Calls Try.prog 97 #[.float .f64 1, .float .f64 9218868437227405311] w fun e w' => e = .returned (.float .f64 1) ∧ w' = w) := fun w => copysign_pos 1 9218868437227405311 w (by decide +kernel) (by decide +kernel) (by decide +kernel)
  clear f1 z1 l1 h
  go_enter Try.func90, Try.ntmps90
  go_wp2_with fail
  refine (HN.out _).mono ?_
  rintro e w1 ⟨rfl, rfl⟩
  go_wp2_with fail
  refine (HM.out _).mono ?_
  rintro e w1 ⟨rfl, rfl⟩
  go_wp2_with fail
  refine (HC.out _).mono ?_
  rintro e w1 ⟨rfl, rfl⟩
  go_wp2
  go_ret
  exact ⟨by rfl, rfl⟩

end Go.Proofs.Ytfocdhapjljooaa

/- The reference's Rounds: is a float the one nearest to a number? -/
namespace Go.Proofs.Ytfocdhapjljooaa
open Go.RowKit
attribute [local go_sem ↓] Go.wp_at_zero Go.wp_at_succ

theorem BoxN.later {w w' : World} {b : Nat} {S E : Int} {sv : Value} (h : BoxN w b S sv E) (hb : Below w.heap.size w w') : BoxN w' b S sv E := h.block (hb.block _ h.cells.2.2.2.2)
theorem BoxN.other3 {W : World} {b b' : Nat} {S E : Int} {sv : Value} (h : BoxN W b' S sv E) (hne : b' ≠ b) (x y z : Value) : BoxN (((W.setCell ⟨b, 0, none⟩ x).setCell ⟨b, 1, none⟩ y).setCell ⟨b, 2, none⟩ z) b' S sv E := ((h.other hne x).other hne y).other hne z
theorem BoxN.set3 {W : World} {b : Nat} {S E S' E' : Int} {sv sv' : Value} (h : BoxN W b S sv E) : BoxN (((W.setCell ⟨b, 0, none⟩ (.int .i64 S')).setCell ⟨b, 1, none⟩ sv').setCell ⟨b, 2, none⟩ (.int .i64 E')) b S' sv' E' := by
  unfold BoxN at *
  simp [World.setCell, Array.getElem?_modify, h]
theorem BoxN.new (W : World) (S E : Int) (sv : Value) : BoxN (W.alloc (.cells #[.int .i64 S, sv, .int .i64 E] 33)) W.heap.size S sv E := heap_alloc_new W _
theorem below_set3 {w W : World} {b : Nat} (h : Below w.heap.size w W) (hb : w.heap.size ≤ b) (x y z : Value) : Below w.heap.size w (((W.setCell ⟨b, 0, none⟩ x).setCell ⟨b, 1, none⟩ y).setCell ⟨b, 2, none⟩ z) := ((h.setCell hb _).setCell hb _).setCell hb _
theorem keepN9 {w W W' : World} {p1 p2 p3 p4 p5 p6 p7 p8 p9 : Addr} {x1 x2 x3 x4 x5 x6 x7 x8 x9 : Value} (h : W.cell? p1 = some x1 ∧ W.cell? p2 = some x2 ∧ W.cell? p3 = some x3 ∧ W.cell? p4 = some x4 ∧ W.cell? p5 = some x5 ∧ W.cell? p6 = some x6 ∧ W.cell? p7 = some x7 ∧ W.cell? p8 = some x8 ∧ W.cell? p9 = some x9 ∧ Below w.heap.size w W) (hb : Below W.heap.size W W') :
    W'.cell? p1 = some x1 ∧ W'.cell? p2 = some x2 ∧ W'.cell? p3 = some x3 ∧ W'.cell? p4 = some x4 ∧ W'.cell? p5 = some x5 ∧ W'.cell? p6 = some x6 ∧ W'.cell? p7 = some x7 ∧ W'.cell? p8 = some x8 ∧ W'.cell? p9 = some x9 ∧ Below w.heap.size w W' :=
  ⟨box_cell hb h.1, box_cell hb h.2.1, box_cell hb h.2.2.1, box_cell hb h.2.2.2.1, box_cell hb h.2.2.2.2.1, box_cell hb h.2.2.2.2.2.1, box_cell hb h.2.2.2.2.2.2.1, box_cell hb h.2.2.2.2.2.2.2.1, box_cell hb h.2.2.2.2.2.2.2.2.1, h.2.2.2.2.2.2.2.2.2.trans (hb.mono h.2.2.2.2.2.2.2.2.2.size)⟩

/-- Two that stand for one number have one place. -/
theorem canon_E {S S' E E' : Int} {ds ds' : List Nat} (k : Canon S ds E) (k' : Canon S' ds' E') (s : ∀ d ∈ ds, d < 16777216) (s' : ∀ d ∈ ds', d < 16777216) (h : (S : Rat) * mag ds E = (S' : Rat) * mag ds' E') (h0 : (S : Rat) * mag ds E ≠ 0) : E = E' := by
  have key : ∀ (S S' E E' : Int) (ds ds' : List Nat), Canon S ds E → Canon S' ds' E' → (∀ d ∈ ds, d < 16777216) → (S : Rat) * mag ds E = (S' : Rat) * mag ds' E' → (S : Rat) * mag ds E ≠ 0 → E' ≤ E := by
    intro S S' E E' ds ds' k k' s h h0
    rcases k with ⟨rfl, rfl, rfl⟩ | ⟨n1, s1, f1, t1⟩
    · exfalso; exact h0 (by rw [mag_nil]; grind)
    · have hm : ∃ n : Int, mag ds E = (n : Rat) * p2 (24 * E') := by
        refine ⟨S * S' * (v24 ds' : Nat), ?_⟩
        have e : mag ds E = (S : Rat) * ((S' : Rat) * mag ds' E') := by
          rw [← h]
          rcases s1 with rfl | rfl
          · rw [show ((1 : Int) : Rat) = 1 from rfl]; grind
          · rw [show ((-1 : Int) : Rat) = -1 from rfl]; grind
        rw [e]
        unfold mag
        rw [Rat.intCast_mul, Rat.intCast_mul]
        show _ = (S : Rat) * (S' : Rat) * ((v24 ds' : Nat) : Rat) * p2 (24 * E')
        grind
      have := mag_low s f1 hm
      omega
  have a := key S S' E E' ds ds' k k' s h h0
  have b := key S' S E' E ds' ds k' k s' h.symm (by rw [← h]; exact h0)
  omega

theorem cmp_less (v1 v2 : Value) (q1 q2 : Rat) (w : World) (h1 : Rf w v1 q1) (h2 : Rf w v2 q2) (b1 : Fit q1) (b2 : Fit q2) (hq : q1 < q2) : Calls Try.prog 18 #[v1, v2] w fun e w' => e = .returned (.int .i64 (-1)) ∧ Below w.heap.size w w' := by
  have h := cmp_rf v1 v2 q1 q2 w h1 h2 b1 b2
  have e : sgq (q1 - q2) = -1 := by unfold sgq; rw [if_pos (by grind)]
  rwa [e] at h
theorem cmp_is (v1 v2 : Value) (q1 q2 : Rat) (A : Int) (w : World) (h1 : Rf w v1 q1) (h2 : Rf w v2 q2) (b1 : Fit q1) (b2 : Fit q2) (hq : sgq (q1 - q2) = A) : Calls Try.prog 18 #[v1, v2] w fun e w' => e = .returned (.int .i64 A) ∧ Below w.heap.size w w' := by
  have h := cmp_rf v1 v2 q1 q2 w h1 h2 b1 b2
  rwa [hq] at h
theorem pow_fit (n : Nat) (k : Int) (hn : n < 18446744073709551616) (h1 : -4000 ≤ k) (h2 : k ≤ 4000) : Fit ((n : Nat) * p2 k) := by
  refine Bd.mono (h := 64 + k) (l := 0 + k) ⟨?_, ?_, (n : Int), ?_⟩ (by omega) (by omega)
  · rw [p2_add]
    refine Rat.mul_lt_mul_of_pos_right ?_ (p2_pos k)
    rw [show (64 : Int) = ((64 : Nat) : Int) from rfl, p2_nat]
    exact Rat.natCast_lt_natCast.2 hn
  · have a := p2_pos (64 + k)
    have b := Rat.mul_nonneg (Rat.natCast_nonneg : (0 : Rat) ≤ (n : Nat)) (Rat.le_of_lt (p2_pos k))
    grind
  · rw [show 0 + k = k by omega]; rfl

/-- The float x is the one nearest to q, which is not below 0. -/
structure RX (q : Rat) (x r : Nat) : Prop where
  near : (q = 0 ∧ r = 0) ∨ (0 < q ∧ Near q r)
  word : x = r ∨ (x = 9223372036854775808 ∧ r = 0)
  lim : r + 1 < 9218868437227405311

set_option maxRecDepth 100000 in
set_option maxHeartbeats 8000000 in
theorem rounds_zero (v : Value) (q : Rat) (x r : Nat) (w : World) (hv : Rf w v q) (hq : Fit q) (hq2 : Fit (2 * q)) (hlim : q < p2 1010) (hx : RX q x r) (h0 : r = 0) : Calls Try.prog 76 #[v, .float .f64 x] w fun e w' => e = .returned (.bool true) ∧ Below w.heap.size w w' := by
  obtain ⟨S, a, n, c, E, rfl, hs⟩ := hv.sgn
  have hq0 : 0 ≤ q := by rcases hx.near with ⟨h, _⟩ | ⟨h, _⟩ <;> grind
  have hS : decide (S < 0) = false := decide_eq_false (by rcases hs with ⟨h, _⟩ | ⟨h, _⟩ | ⟨_, h⟩ <;> first | omega | (exfalso; grind))
  have hr := hx.lim
  have fx : Fin64 x := by rcases hx.word with rfl | ⟨rfl, _⟩ <;> unfold Fin64 frung <;> omega
  have hxl : x < 18446744073709551616 := by rcases hx.word with h | ⟨h, _⟩ <;> omega
  have dx : den x = fval r := by
    rw [den_fin fx]
    rcases hx.word with rfl | ⟨rfl, rfl⟩
    · rfl
    · rw [fval0]; exact fval_zero_iff.2 (by decide)
  have f1 : Fin64 (r + 1) := fin_small (by omega)
  have d1 : den (r + 1) = fval (r + 1) := den_fin f1
  have l1 : fval r < fval (r + 1) := fval_lt (by omega) (by omega)
  have vx : fval x = fval r := by rw [← den_fin fx]; exact dx
  obtain ⟨n0, s1, s2⟩ := self_sub fx
  have rs : ∀ w, (binOp .sub 22 (.float .f64 x) (.float .f64 x)).run Try.prog w = .ok (.float .f64 n0) w := fun w => run_float_arith w .sub _ .f64 _ _ _ s1
  have o1 : FloatKind.f64.format.order x x = some .eq := by rw [order_val fx fx, if_neg (by grind), if_pos rfl]
  have o2 : FloatKind.f64.format.order (r + 1) x = some .gt := by rw [order_val f1 fx, vx, if_neg (by grind), if_neg (by grind)]
  have HN : Hid (∀ w, Calls Try.prog 90 #[.float .f64 x, .float .f64 9218868437227405311] w fun e w' => e = .returned (.float .f64 (r + 1)) ∧ w' = w) := by
    intro w
    by_cases h0 : r = 0
    · subst h0
      exact next_zero x w (by rcases hx.word with h | ⟨h, _⟩; exact Or.inl h; exact Or.inr h)
    · obtain rfl : x = r := hx.word.resolve_right (fun h => h0 h.2)
      exact next_up x w (by omega) h0
  have hbw : 0 < q → 2 * q ≤ fval r + fval (r + 1) ∧ (2 * q = fval r + fval (r + 1) → r % 2 = 0) ∧ (r ≠ 0 → fval r + fval (r - 1) ≤ 2 * q ∧ (2 * q = fval r + fval (r - 1) → r % 2 = 0)) := fun h => near_between ((hx.near.resolve_left (by rintro ⟨rfl, _⟩; grind)).2) h (by omega)
  have t2 : ((2 : Nat) : Rat) * p2 0 = 2 := by rw [p2_zero, show ((2 : Nat) : Rat) = 2 from rfl]; grind
  have HAB : Hid (sgq (((2 : Nat) : Rat) * p2 0 * q - (den x + den (r + 1))) = -1 ∨ (sgq (((2 : Nat) : Rat) * p2 0 * q - (den x + den (r + 1))) = 0 ∧ r % 2 = 0)) := by
    rw [t2, dx, d1]
    show _ ∨ _
    unfold sgq
    by_cases h : 2 * q < fval r + fval (r + 1)
    · left; rw [if_pos (by grind)]
    · have hp : 0 < q := by
        rcases hx.near with ⟨rfl, rfl⟩ | ⟨h, _⟩
        · exfalso; rw [fval0] at *; grind
        · exact h
      have hb := hbw hp
      right
      rw [if_neg (by grind), if_pos (by grind)]
      exact ⟨rfl, hb.2.1 (by grind)⟩
  have HEV : Hid (r % 2 = 0 → (((x : Int) % 2) == 0) = true) := by
    intro h
    rcases hx.word with rfl | ⟨rfl, _⟩
    · simp; omega
    · decide
  have rb := run_bits x
  have HFQ : Hid (Fit q) := hq
  have HF2 : Hid (Fit (((2 : Nat) : Rat) * p2 0 * q)) := by rw [t2]; exact hq2
  have HFU : Hid (Fit (den x + den (r + 1))) := (Bd.add (den_fit x) (den_fit (r + 1))).mono (by omega) (by omega)
  have HXL : Hid (x < 18446744073709551616) := hxl
  have HG : Hid (q < ((18014398509481983 : Nat) : Rat) * p2 970) := by
    have e1 : p2 1010 ≤ ((18014398509481983 : Nat) : Rat) * p2 970 := by
      have e : p2 1010 = ((1099511627776 : Nat) : Rat) * p2 970 := by rw [show (1010 : Int) = ((40 : Nat) : Int) + 970 by omega, p2_add, p2_nat]
      rw [e]
      exact Rat.mul_le_mul_of_nonneg_right (Rat.natCast_le_natCast.2 (by omega)) (Rat.le_of_lt (p2_pos _))
    show _ < _
    grind
  have HR1 : Hid (r + 1 < 9218868437227405311) := hr
  have HX : Hid (RX q x r) := hx
  have HBWX : Hid (0 < q → 2 * q ≤ fval r + fval (r + 1) ∧ (2 * q = fval r + fval (r + 1) → r % 2 = 0) ∧ (r ≠ 0 → fval r + fval (r - 1) ≤ 2 * q ∧ (2 * q = fval r + fval (r - 1) → r % 2 = 0))) := hbw
  have HDX : Hid (den x = fval r) := dx
  have HT2 : Hid (((2 : Nat) : Rat) * p2 0 = 2) := t2
  have hal0 : Below w.heap.size w (w.alloc (.cells #[.int .i64 S, .slice a n c, .int .i64 E] 33)) := (Below.refl _ _).alloc (Nat.le_refl _) _
  have RA0 : Hid (Rf (w.alloc (.cells #[.int .i64 S, .slice a n c, .int .i64 E] 33)) (.agg #[.int .i64 S, .slice a n c, .int .i64 E]) q) := hv.later hal0
  have HA0 : Hid (BoxN (w.alloc (.cells #[.int .i64 S, .slice a n c, .int .i64 E] 33)) w.heap.size S (.slice a n c) E) := BoxN.new w S E _
  have HB0 : Hid (Below w.heap.size w (w.alloc (.cells #[.int .i64 S, .slice a n c, .int .i64 E] 33))) := hal0
  have hq0' : Hid (0 ≤ q) := hq0
  have ox0 : FloatKind.f64.format.order x 0 = some .eq := by
    rw [order_val fx fin0, vx, fval0, h0, fval0, if_neg (by grind), if_pos rfl]
  have H0 : Hid (r = 0) := h0
  clear hv hq hq2 hlim hx hs hq0 hr fx hxl dx f1 d1 l1 vx s1 hbw t2 hal0 h0
  go_enter Try.func76, Try.ntmps76
  go_wp2_with fail
  refine (power_walk 18014398509481983 970 _ (by omega) (by omega) (by omega)).mono ?_
  rintro e w1 ⟨v1, rfl, hr1, hb1⟩
  obtain ⟨S1, a1, n1, c1, E1, rfl⟩ := hr1.agg
  have hal : Below w1.heap.size w1 (w1.alloc (.cells #[.int .i64 S1, .slice a1 n1 c1, .int .i64 E1] 33)) := (Below.refl _ _).alloc (Nat.le_refl _) _
  have R1 : Hid (Rf (w1.alloc (.cells #[.int .i64 S1, .slice a1 n1 c1, .int .i64 E1] 33)) (.agg #[.int .i64 S1, .slice a1 n1 c1, .int .i64 E1]) (((18014398509481983 : Nat) : Rat) * p2 970)) := hr1.later hal
  have RA1 : Hid (Rf (w1.alloc (.cells #[.int .i64 S1, .slice a1 n1 c1, .int .i64 E1] 33)) (.agg #[.int .i64 S, .slice a n c, .int .i64 E]) q) := (RA0.out.later hb1).later hal
  have HA1 : Hid (BoxN (w1.alloc (.cells #[.int .i64 S1, .slice a1 n1 c1, .int .i64 E1] 33)) w.heap.size S (.slice a n c) E) := (HA0.out.later hb1).later hal
  have HB1 : Hid (Below w.heap.size w (w1.alloc (.cells #[.int .i64 S1, .slice a1 n1 c1, .int .i64 E1] 33))) := HB0.out.trans ((hb1.trans (hal.mono hb1.size)).mono HB0.out.size)
  obtain ⟨za0, za1, za2, _, zal⟩ := (HA0.out.later hb1).cells
  clear hr1 hb1 hal
  go_wp2_with fail
  refine (cmp_less _ _ q _ _ RA1.out R1.out HFQ.out (pow_fit _ 970 (by omega) (by omega) (by omega)) HG.out).mono ?_
  rintro e w2 ⟨rfl, hb2⟩
  have RA2 : Hid (Rf w2 (.agg #[.int .i64 S, .slice a n c, .int .i64 E]) q) := RA1.out.later hb2
  have HA2 : Hid (BoxN w2 w.heap.size S (.slice a n c) E) := HA1.out.later hb2
  have HB2 : Hid (Below w.heap.size w w2) := HB1.out.trans (hb2.mono HB1.out.size)
  clear hb2 RA1 HA1 HB1 R1 za0 za1 za2 zal
  go_wp2_with fail
  refine (power_walk 1 1024 _ (by omega) (by omega) (by omega)).mono ?_
  rintro e w3 ⟨v3, rfl, hr3, hb3⟩
  obtain ⟨S3, a3, n3, c3, E3, rfl⟩ := hr3.agg
  have hal : Below w3.heap.size w3 (w3.alloc (.cells #[.int .i64 S3, .slice a3 n3 c3, .int .i64 E3] 33)) := (Below.refl _ _).alloc (Nat.le_refl _) _
  have RA3 : Hid (Rf (w3.alloc (.cells #[.int .i64 S3, .slice a3 n3 c3, .int .i64 E3] 33)) (.agg #[.int .i64 S, .slice a n c, .int .i64 E]) q) := (RA2.out.later hb3).later hal
  have HA3 : Hid (BoxN (w3.alloc (.cells #[.int .i64 S3, .slice a3 n3 c3, .int .i64 E3] 33)) w.heap.size S (.slice a n c) E) := (HA2.out.later hb3).later hal
  have HU3 : Hid (BoxN (w3.alloc (.cells #[.int .i64 S3, .slice a3 n3 c3, .int .i64 E3] 33)) w3.heap.size S3 (.slice a3 n3 c3) E3) := BoxN.new w3 S3 E3 _
  have HB3 : Hid (Below w.heap.size w (w3.alloc (.cells #[.int .i64 S3, .slice a3 n3 c3, .int .i64 E3] 33))) := HB2.out.trans ((hb3.trans (hal.mono hb3.size)).mono HB2.out.size)
  have hsz3 : Hid (w.heap.size < w3.heap.size) := (HA2.out.later hb3).cells.2.2.2.2
  clear hr3 hb3 hal RA2 HA2 HB2
  go_wp2_with fail
  refine (HN.out _).mono ?_
  rintro e w' ⟨rfl, rfl⟩
  go_wp2_with fail
  refine (HN.out _).mono ?_
  rintro e w' ⟨rfl, rfl⟩
  go_wp2_with fail
  refine (refOf_any (r + 1) _ (by have := HR1.out; omega)).mono ?_
  rintro e w4 ⟨v4, rfl, hr4, hb4⟩
  obtain ⟨S4, a4, n4, c4, E4, rfl⟩ := hr4.agg
  have HU4 := HU3.out.later hb4
  have HA4 := HA3.out.later hb4
  have RA4 : Hid (Rf (((w4.setCell ⟨w3.heap.size, 0, none⟩ (.int .i64 S4)).setCell ⟨w3.heap.size, 1, none⟩ (.slice a4 n4 c4)).setCell ⟨w3.heap.size, 2, none⟩ (.int .i64 E4)) (.agg #[.int .i64 S, .slice a n c, .int .i64 E]) q) := (RA3.out.later hb4).boxed (other_box HU4) _ _ _
  have RU4 : Hid (Rf (((w4.setCell ⟨w3.heap.size, 0, none⟩ (.int .i64 S4)).setCell ⟨w3.heap.size, 1, none⟩ (.slice a4 n4 c4)).setCell ⟨w3.heap.size, 2, none⟩ (.int .i64 E4)) (.agg #[.int .i64 S4, .slice a4 n4 c4, .int .i64 E4]) (den (r + 1))) := hr4.boxed (other_box HU4) _ _ _
  have HA5 : Hid (BoxN (((w4.setCell ⟨w3.heap.size, 0, none⟩ (.int .i64 S4)).setCell ⟨w3.heap.size, 1, none⟩ (.slice a4 n4 c4)).setCell ⟨w3.heap.size, 2, none⟩ (.int .i64 E4)) w.heap.size S (.slice a n c) E) := HA4.other3 (by have := hsz3.out; omega) _ _ _
  have HU5 : Hid (BoxN (((w4.setCell ⟨w3.heap.size, 0, none⟩ (.int .i64 S4)).setCell ⟨w3.heap.size, 1, none⟩ (.slice a4 n4 c4)).setCell ⟨w3.heap.size, 2, none⟩ (.int .i64 E4)) w3.heap.size S4 (.slice a4 n4 c4) E4) := HU4.set3
  have HB5 : Hid (Below w.heap.size w (((w4.setCell ⟨w3.heap.size, 0, none⟩ (.int .i64 S4)).setCell ⟨w3.heap.size, 1, none⟩ (.slice a4 n4 c4)).setCell ⟨w3.heap.size, 2, none⟩ (.int .i64 E4))) := below_set3 (HB3.out.trans (hb4.mono HB3.out.size)) (by have := hsz3.out; omega) _ _ _
  obtain ⟨yu0, yu1, yu2, yuf, yul⟩ := HU4.cells
  clear hr4 hb4 RA3 HA3 HU3 HB3 HA4 HU4
  go_wp2_with fail
  refine (power_walk 1 (-1074) _ (by omega) (by omega) (by omega)).mono ?_
  rintro e w5 ⟨v5, rfl, hr5, hb5⟩
  obtain ⟨S5, ds5, E5, d5, k5, q5⟩ := id hr5
  obtain ⟨a5, c5, rfl, _⟩ := d5.form
  have hfd := run_fieldD S5 E5 a5 ds5.length c5
  clear yu0 yu1 yu2 yuf yul
  go_wp2_with fail
  refine (power_walk 1 (-1074) _ (by omega) (by omega) (by omega)).mono ?_
  rintro e w6 ⟨v6, rfl, hr6, hb6⟩
  obtain ⟨S6, ds6, E6, d6, k6, q6⟩ := id hr6
  obtain ⟨a6, c6, rfl, _⟩ := d6.form
  have hfe := run_fieldE S6 E6 a6 ds6.length c6
  have hpp : (0 : Rat) < ((1 : Nat) : Rat) * p2 (-1074) := Rat.mul_pos (by decide) (p2_pos _)
  have hEE : E5 = E6 := canon_E k5 k6 d5.small d6.small (by rw [← q5, ← q6]) (by rw [← q5]; grind)
  have RD6 : Rf w6 (.agg #[.int .i64 (-1), .slice a5 ds5.length c5, .int .i64 E6]) (-(((1 : Nat) : Rat) * p2 (-1074))) := by
    have h1 := (hr5.later hb6).flip rfl
    have hS5 : S5 = 1 := by
      have := canon_sgn k5
      rw [← q5] at this
      rcases this with ⟨_, h⟩ | ⟨h, _⟩ | ⟨_, h⟩
      · exfalso; grind
      · exact h
      · exfalso; grind
    rw [hS5, hEE] at h1
    exact h1
  obtain ⟨n5, hn5⟩ : ∃ n, Hid (ds5.length = n) := ⟨_, rfl⟩
  rw [hn5.out] at RD6 hfd
  simp only [hn5.out]
  have hal : Below w6.heap.size w6 (w6.alloc (.cells #[.int .i64 (-1), .slice a5 n5 c5, .int .i64 E6] 33)) := (Below.refl _ _).alloc (Nat.le_refl _) _
  have RAW : Hid (Rf (w6.alloc (.cells #[.int .i64 (-1), .slice a5 n5 c5, .int .i64 E6] 33)) (.agg #[.int .i64 S, .slice a n c, .int .i64 E]) q) := ((RA4.out.later hb5).later hb6).later hal
  have RUW : Hid (Rf (w6.alloc (.cells #[.int .i64 (-1), .slice a5 n5 c5, .int .i64 E6] 33)) (.agg #[.int .i64 S4, .slice a4 n4 c4, .int .i64 E4]) (den (r + 1))) := ((RU4.out.later hb5).later hb6).later hal
  have RDW : Hid (Rf (w6.alloc (.cells #[.int .i64 (-1), .slice a5 n5 c5, .int .i64 E6] 33)) (.agg #[.int .i64 (-1), .slice a5 n5 c5, .int .i64 E6]) (-(((1 : Nat) : Rat) * p2 (-1074)))) := RD6.later hal
  have HAW : Hid (BoxN (w6.alloc (.cells #[.int .i64 (-1), .slice a5 n5 c5, .int .i64 E6] 33)) w.heap.size S (.slice a n c) E) := ((HA5.out.later hb5).later hb6).later hal
  have HUW : Hid (BoxN (w6.alloc (.cells #[.int .i64 (-1), .slice a5 n5 c5, .int .i64 E6] 33)) w3.heap.size S4 (.slice a4 n4 c4) E4) := ((HU5.out.later hb5).later hb6).later hal
  have HDW : Hid (BoxN (w6.alloc (.cells #[.int .i64 (-1), .slice a5 n5 c5, .int .i64 E6] 33)) w6.heap.size (-1) (.slice a5 n5 c5) E6) := BoxN.new w6 _ _ _
  have HBW : Hid (Below w.heap.size w (w6.alloc (.cells #[.int .i64 (-1), .slice a5 n5 c5, .int .i64 E6] 33))) := HB5.out.trans (((hb5.trans (hb6.mono hb5.size)).trans (hal.mono (Nat.le_trans hb5.size hb6.size))).mono HB5.out.size)
  have hszu : Hid (w3.heap.size < w6.heap.size ∧ w.heap.size < w6.heap.size) := ⟨((HU5.out.later hb5).later hb6).cells.2.2.2.2, ((HA5.out.later hb5).later hb6).cells.2.2.2.2⟩
  have HPP : Hid ((0 : Rat) < ((1 : Nat) : Rat) * p2 (-1074)) := hpp
  clear hr5 hr6 hb5 hb6 d5 d6 k5 k6 q5 q6 hEE RD6 hal RA4 RU4 HA5 HU5 HB5 hpp
  have HFD : Hid (Fit (-(((1 : Nat) : Rat) * p2 (-1074)))) := Bd.neg (pow_fit 1 (-1074) (by omega) (by omega) (by omega))
  have HFXD : Hid (Fit (den x + -(((1 : Nat) : Rat) * p2 (-1074)))) := by
    refine Bd.mono (Bd.add (den_fit x) (Bd.neg (h := 1024) (l := -1074) ⟨?_, ?_, 1, ?_⟩)) (by omega) (by omega)
    · rw [show ((1 : Nat) : Rat) * p2 (-1074) = p2 (-1074) by rw [show ((1 : Nat) : Rat) = 1 from rfl]; grind]; exact p2_lt (by omega)
    · have := HPP.out
      have := p2_pos 1024
      grind
    · rfl
  have HBL : Hid (sgq (((2 : Nat) : Rat) * p2 0 * q - (den x + -(((1 : Nat) : Rat) * p2 (-1074)))) = 1 ∨ (sgq (((2 : Nat) : Rat) * p2 0 * q - (den x + -(((1 : Nat) : Rat) * p2 (-1074)))) = 0 ∧ r % 2 = 0)) := by
    show _ ∨ _
    left
    have h1 := HPP.out
    have h2 := hq0'.out
    rw [HT2.out, HDX.out, H0.out, fval0]
    unfold sgq
    rw [if_neg (by grind), if_neg (by grind)]
  go_wp2_with fail
  refine (power_walk 2 0 _ (by omega) (by omega) (by omega)).mono ?_
  rintro e w8 ⟨v8, rfl, hr8, hb8⟩
  obtain ⟨S8, a8, n8, c8, E8, rfl⟩ := hr8.agg
  have hal : Below w8.heap.size w8 (w8.alloc (.cells #[.int .i64 S8, .slice a8 n8 c8, .int .i64 E8] 33)) := (Below.refl _ _).alloc (Nat.le_refl _) _
  have R8 : Hid (Rf (w8.alloc (.cells #[.int .i64 S8, .slice a8 n8 c8, .int .i64 E8] 33)) (.agg #[.int .i64 S8, .slice a8 n8 c8, .int .i64 E8]) (((2 : Nat) : Rat) * p2 0)) := hr8.later hal
  have RA8 : Hid (Rf (w8.alloc (.cells #[.int .i64 S8, .slice a8 n8 c8, .int .i64 E8] 33)) (.agg #[.int .i64 S, .slice a n c, .int .i64 E]) q) := (RAW.out.later hb8).later hal
  have RU8 : Hid (Rf (w8.alloc (.cells #[.int .i64 S8, .slice a8 n8 c8, .int .i64 E8] 33)) (.agg #[.int .i64 S4, .slice a4 n4 c4, .int .i64 E4]) (den (r + 1))) := (RUW.out.later hb8).later hal
  have RD8 : Hid (Rf (w8.alloc (.cells #[.int .i64 S8, .slice a8 n8 c8, .int .i64 E8] 33)) (.agg #[.int .i64 (-1), .slice a5 n5 c5, .int .i64 E6]) (-(((1 : Nat) : Rat) * p2 (-1074)))) := (RDW.out.later hb8).later hal
  obtain ⟨xa0, xa1, xa2, _, la⟩ := ((HAW.out.later hb8).later hal).cells
  obtain ⟨xu0, xu1, xu2, _, lu⟩ := ((HUW.out.later hb8).later hal).cells
  obtain ⟨xd0, xd1, xd2, _, ld⟩ := ((HDW.out.later hb8).later hal).cells
  obtain ⟨xt0, xt1, xt2, _, lt⟩ := (BoxN.new w8 S8 E8 (.slice a8 n8 c8)).cells
  have HB8 : Hid (Below w.heap.size w (w8.alloc (.cells #[.int .i64 S8, .slice a8 n8 c8, .int .i64 E8] 33))) := HBW.out.trans (((hb8.trans (hal.mono hb8.size))).mono HBW.out.size)
  have hrefl : Hid (Below (w8.alloc (.cells #[.int .i64 S8, .slice a8 n8 c8, .int .i64 E8] 33)).heap.size (w8.alloc (.cells #[.int .i64 S8, .slice a8 n8 c8, .int .i64 E8] 33)) (w8.alloc (.cells #[.int .i64 S8, .slice a8 n8 c8, .int .i64 E8] 33))) := Below.refl _ _
  clear hr8 hb8 hal la lu ld lt
  obtain ⟨A, hA⟩ : ∃ A, Hid (sgq (((2 : Nat) : Rat) * p2 0 * q - (den x + den (r + 1))) = A) := ⟨_, rfl⟩
  obtain ⟨B, hB⟩ : ∃ B, Hid (sgq (((2 : Nat) : Rat) * p2 0 * q - (den x + (-(((1 : Nat) : Rat) * p2 (-1074))))) = B) := ⟨_, rfl⟩
  go_wp2
  go_region_held3 (fun W => W.cell? ⟨w8.heap.size, 0, none⟩ = some (.int .i64 S8) ∧ W.cell? ⟨w8.heap.size, 1, none⟩ = some (.slice a8 n8 c8) ∧ W.cell? ⟨w8.heap.size, 2, none⟩ = some (.int .i64 E8) ∧ W.cell? ⟨w.heap.size, 0, none⟩ = some (.int .i64 S) ∧ W.cell? ⟨w.heap.size, 1, none⟩ = some (.slice a n c) ∧ W.cell? ⟨w.heap.size, 2, none⟩ = some (.int .i64 E) ∧ W.cell? ⟨w3.heap.size, 0, none⟩ = some (.int .i64 S4) ∧ W.cell? ⟨w3.heap.size, 1, none⟩ = some (.slice a4 n4 c4) ∧ W.cell? ⟨w3.heap.size, 2, none⟩ = some (.int .i64 E4) ∧ Below (w8.alloc (.cells #[.int .i64 S8, .slice a8 n8 c8, .int .i64 E8] 33)).heap.size (w8.alloc (.cells #[.int .i64 S8, .slice a8 n8 c8, .int .i64 E8] 33)) W)
    (first
      | assumption
      | exact ⟨by go_simp, by go_simp, by go_simp, by go_simp, by go_simp, by go_simp, by go_simp, by go_simp, by go_simp, hrefl.out.drew⟩
      | exact keepN9 (by assumption) (by assumption))
    (first
      | (go_at_call 22; refine (mul_rf _ _ (((2 : Nat) : Rat) * p2 0) q _ (R8.out.later hrefl.out.drew) (RA8.out.later hrefl.out.drew) (pow_fit 2 0 (by omega) (by omega) (by omega)) HFQ.out).mono ?_; rintro e wA ⟨vA, rfl, hrA, hbA⟩)
      | (go_at_call 20; refine (refOf_any x _ HXL.out).mono ?_; rintro e wB ⟨vB, rfl, hrB, hbB⟩)
      | (go_at_call 19; refine (refAdd_any _ _ (den x) (den (r + 1)) _ hrB (RU8.out.later (by exact (by assumption : _ ∧ _ ∧ _ ∧ _ ∧ _ ∧ _ ∧ _ ∧ _ ∧ _ ∧ Below (w8.alloc (.cells #[.int .i64 S8, .slice a8 n8 c8, .int .i64 E8] 33)).heap.size (w8.alloc (.cells #[.int .i64 S8, .slice a8 n8 c8, .int .i64 E8] 33)) _).2.2.2.2.2.2.2.2.2)) (den_Fit _) (den_Fit _)).mono ?_; rintro e wC ⟨vC, rfl, hrC, hbC⟩)
      | (go_at_call 18; refine (cmp_is _ _ (((2 : Nat) : Rat) * p2 0 * q) (den x + den (r + 1)) A _ ((hrA.later hbB).later hbC) hrC HF2.out HFU.out hA.out).mono ?_; rintro e wD ⟨rfl, hbD⟩))
  obtain ⟨xt0', xt1', xt2', xa0', xa1', xa2', _, _, _, hBf⟩ := (by assumption : _ ∧ _ ∧ _ ∧ _ ∧ _ ∧ _ ∧ _ ∧ _ ∧ _ ∧ Below (w8.alloc (.cells #[.int .i64 S8, .slice a8 n8 c8, .int .i64 E8] 33)).heap.size (w8.alloc (.cells #[.int .i64 S8, .slice a8 n8 c8, .int .i64 E8] 33)) wD)
  have yd0 := box_cell hBf xd0
  have yd1 := box_cell hBf xd1
  have yd2 := box_cell hBf xd2
  have HBD : Hid (Below (w8.alloc (.cells #[.int .i64 S8, .slice a8 n8 c8, .int .i64 E8] 33)).heap.size (w8.alloc (.cells #[.int .i64 S8, .slice a8 n8 c8, .int .i64 E8] 33)) wD) := hBf
  clear hrA hrB hrC hbA hbB hbC hbD hBf xa0 xa1 xa2 xu0 xu1 xu2 xd0 xd1 xd2 xt0 xt1 xt2
  have hrefl2 : Hid (Below wD.heap.size wD wD) := Below.refl _ _
  go_wp2
  go_region_held3 (fun W => W.cell? ⟨w8.heap.size, 0, none⟩ = some (.int .i64 S8) ∧ W.cell? ⟨w8.heap.size, 1, none⟩ = some (.slice a8 n8 c8) ∧ W.cell? ⟨w8.heap.size, 2, none⟩ = some (.int .i64 E8) ∧ W.cell? ⟨w.heap.size, 0, none⟩ = some (.int .i64 S) ∧ W.cell? ⟨w.heap.size, 1, none⟩ = some (.slice a n c) ∧ W.cell? ⟨w.heap.size, 2, none⟩ = some (.int .i64 E) ∧ W.cell? ⟨w6.heap.size, 0, none⟩ = some (.int .i64 (-1)) ∧ W.cell? ⟨w6.heap.size, 1, none⟩ = some (.slice a5 n5 c5) ∧ W.cell? ⟨w6.heap.size, 2, none⟩ = some (.int .i64 E6) ∧ Below wD.heap.size wD W)
    (first
      | assumption
      | exact ⟨by go_simp, by go_simp, by go_simp, by go_simp, by go_simp, by go_simp, by go_simp, by go_simp, by go_simp, hrefl2.out.drew⟩
      | exact keepN9 (by assumption) (by assumption))
    (first
      | (go_at_call 22; refine (mul_rf _ _ (((2 : Nat) : Rat) * p2 0) q _ ((R8.out.later HBD.out).later hrefl2.out.drew) ((RA8.out.later HBD.out).later hrefl2.out.drew) (pow_fit 2 0 (by omega) (by omega) (by omega)) HFQ.out).mono ?_; rintro e wA ⟨vA, rfl, hrA, hbA⟩)
      | (go_at_call 20; refine (refOf_any x _ HXL.out).mono ?_; rintro e wB ⟨vB, rfl, hrB, hbB⟩)
      | (go_at_call 19; refine (refAdd_any _ _ (den x) (-(((1 : Nat) : Rat) * p2 (-1074))) _ hrB ((RD8.out.later HBD.out).later (by exact (by assumption : _ ∧ _ ∧ _ ∧ _ ∧ _ ∧ _ ∧ _ ∧ _ ∧ _ ∧ Below wD.heap.size wD _).2.2.2.2.2.2.2.2.2)) (den_Fit _) HFD.out).mono ?_; rintro e wC ⟨vC, rfl, hrC, hbC⟩)
      | (go_at_call 18; refine (cmp_is _ _ (((2 : Nat) : Rat) * p2 0 * q) (den x + (-(((1 : Nat) : Rat) * p2 (-1074)))) B _ ((hrA.later hbB).later hbC) hrC HF2.out HFXD.out hB.out).mono ?_; rintro e wE ⟨rfl, hbE⟩))
  have hBg := (by assumption : _ ∧ _ ∧ _ ∧ _ ∧ _ ∧ _ ∧ _ ∧ _ ∧ _ ∧ Below wD.heap.size wD wE).2.2.2.2.2.2.2.2.2
  have HBE : Hid (Below w.heap.size w wE) := HB8.out.trans ((HBD.out.trans (hBg.mono HBD.out.size)).mono HB8.out.size)
  have hAc : A = -1 ∨ (A = 0 ∧ r % 2 = 0) := by have := HAB.out; rwa [hA.out] at this
  have hBc : B = 1 ∨ (B = 0 ∧ r % 2 = 0) := by have := HBL.out; rwa [hB.out] at this
  clear hrA hrB hrC hbA hbB hbC hbE hBg xt0' xt1' xt2' xa0' xa1' xa2' yd0 yd1 yd2 hA hB
  rcases hAc with rfl | ⟨rfl, hpar⟩
  · rcases hBc with rfl | ⟨rfl, hpar⟩
    · go_wp2
      all_goals
        go_ret
        exact ⟨rfl, HBE.out⟩
    · have hev := HEV.out hpar
      clear hpar
      go_wp2
      go_ret
      exact ⟨rfl, HBE.out⟩
  · have hev := HEV.out hpar
    clear hpar
    rcases hBc with rfl | ⟨rfl, _⟩
    · go_wp2
      go_ret
      exact ⟨rfl, HBE.out⟩
    · go_wp2
      go_ret
      exact ⟨rfl, HBE.out⟩

end Go.Proofs.Ytfocdhapjljooaa
