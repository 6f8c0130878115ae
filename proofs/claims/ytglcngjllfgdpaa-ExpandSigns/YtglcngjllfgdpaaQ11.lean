/- Own texts, put together: Hd Xy Xz Pa Pb Pc. -/
import Derived.Test.YtglcngjllfgdpaaQ10
/- The reference's Rounds: is a float the one nearest to a number? -/
namespace Go.Proofs.Ytglcngjllfgdpaa
open Go.RowKit
attribute [local go_sem ↓] Go.wp_at_zero Go.wp_at_succ

theorem BoxN.later {w w' : World} {b : Nat} {S E : Int} {sv : Value} (h : BoxN w b S sv E) (hb : Below w.heap.size w w') : BoxN w' b S sv E := h.block (hb.block _ h.cells.2.2.2.2)
theorem BoxN.other3 {W : World} {b b' : Nat} {S E : Int} {sv : Value} (h : BoxN W b' S sv E) (hne : b' ≠ b) (x y z : Value) : BoxN (((W.setCell ⟨b, 0, none⟩ x).setCell ⟨b, 1, none⟩ y).setCell ⟨b, 2, none⟩ z) b' S sv E := ((h.other hne x).other hne y).other hne z
theorem BoxN.set3 {W : World} {b : Nat} {S E S' E' : Int} {sv sv' : Value} (h : BoxN W b S sv E) : BoxN (((W.setCell ⟨b, 0, none⟩ (.int .i64 S')).setCell ⟨b, 1, none⟩ sv').setCell ⟨b, 2, none⟩ (.int .i64 E')) b S' sv' E' := by
  unfold BoxN at *
  simp [World.setCell, Array.getElem?_modify, h]
theorem BoxN.new (W : World) (S E : Int) (sv : Value) : BoxN (W.alloc (.cells #[.int .i64 S, sv, .int .i64 E] 33)) W.heap.size S sv E := heap_alloc_new W _
theorem below_set3 {w W : World} {b : Nat} (h : Below w.heap.size w W) (hb : w.heap.size ≤ b) (x y z : Value) : Below w.heap.size w (((W.setCell ⟨b, 0, none⟩ x).setCell ⟨b, 1, none⟩ y).setCell ⟨b, 2, none⟩ z) := ((h.setCell hb _).setCell hb _).setCell hb _
theorem keepN9 {w W W' : World} {p1 p2 p3 p4 p5 p6 p7 p8 p9 : Addr} {x1 x2 x3 x4 x5 x6 x7 x8 x9 : Value} (h : W.cell? p1 = some x1 ∧ W.cell? p2 = some x2 ∧ W.cell? p3 = some x3 ∧ W.cell? p4 = some x4 ∧ W.cell? p5 = some x5 ∧ W.cell? p6 = some x6 ∧ W.cell? p7 = some x7 ∧ W.cell? p8 = some x8 ∧ W.cell? p9 = some x9 ∧ Below w.heap.size w W) (hb : Below W.heap.size W W') :
    W'.cell? p1 = some x1 ∧ W'.cell? p2 = some x2 ∧ W'.cell? p3 = some x3 ∧ W'.cell? p4 = some x4 ∧ W'.cell? p5 = some x5 ∧ W'.cell? p6 = some x6 ∧ W'.cell? p7 = some x7 ∧ W'.cell? p8 = some x8 ∧ W'.cell? p9 = some x9 ∧ Below w.heap.size w W' :=
  ⟨box_cell hb h.1, box_cell hb h.2.1, box_cell hb h.2.2.1, box_cell hb h.2.2.2.1, box_cell hb h.2.2.2.2.1, box_cell hb h.2.2.2.2.2.1, box_cell hb h.2.2.2.2.2.2.1, box_cell hb h.2.2.2.2.2.2.2.1, box_cell hb h.2.2.2.2.2.2.2.2.1, h.2.2.2.2.2.2.2.2.2.trans (hb.mono h.2.2.2.2.2.2.2.2.2.size)⟩

/-- Two that stand for one number have one place. -/
theorem canon_E {S S' E E' : Int} {ds ds' : List Nat} (k : Canon S ds E) (k' : Canon S' ds' E') (s : ∀ d ∈ ds, d < 16777216) (s' : ∀ d ∈ ds', d < 16777216) (h : (S : Rat) * mag ds E = (S' : Rat) * mag ds' E') (h0 : (S : Rat) * mag ds E ≠ 0) : E = E' := by
  have key : ∀ (S S' E E' : Int) (ds ds' : List Nat), Canon S ds E → Canon S' ds' E' → (∀ d ∈ ds, d < 16777216) → (S : Rat) * mag ds E = (S' : Rat) * mag ds' E' → (S : Rat) * mag ds E ≠ 0 → E' ≤ E := by
    intro S S' E E' ds ds' k k' s h h0
    rcases k with ⟨rfl, rfl, rfl⟩ | ⟨n1, s1, f1, t1⟩
    · exfalso; exact h0 (by rw [mag_nil]; grind)
    · have hm : ∃ n : Int, mag ds E = (n : Rat) * p2 (24 * E') := by
        refine ⟨S * S' * (v24 ds' : Nat), ?_⟩
        have e : mag ds E = (S : Rat) * ((S' : Rat) * mag ds' E') := by
          rw [← h]
          rcases s1 with rfl | rfl
          · rw [show ((1 : Int) : Rat) = 1 from rfl]; grind
          · rw [show ((-1 : Int) : Rat) = -1 from rfl]; grind
        rw [e]
        unfold mag
        rw [Rat.intCast_mul, Rat.intCast_mul]
        show _ = (S : Rat) * (S' : Rat) * ((v24 ds' : Nat) : Rat) * p2 (24 * E')
        grind
      have := mag_low s f1 hm
      omega
  have a := key S S' E E' ds ds' k k' s h h0
  have b := key S' S E' E ds' ds k' k s' h.symm (by rw [← h]; exact h0)
  omega

theorem cmp_less (v1 v2 : Value) (q1 q2 : Rat) (w : World) (h1 : Rf w v1 q1) (h2 : Rf w v2 q2) (b1 : Fit q1) (b2 : Fit q2) (hq : q1 < q2) : Calls Try.prog 18 #[v1, v2] w fun e w' => e = .returned (.int .i64 (-1)) ∧ Below w.heap.size w w' := by
  have h := cmp_rf v1 v2 q1 q2 w h1 h2 b1 b2
  have e : sgq (q1 - q2) = -1 := by unfold sgq; rw [if_pos (by grind)]
  rwa [e] at h
theorem cmp_is (v1 v2 : Value) (q1 q2 : Rat) (A : Int) (w : World) (h1 : Rf w v1 q1) (h2 : Rf w v2 q2) (b1 : Fit q1) (b2 : Fit q2) (hq : sgq (q1 - q2) = A) : Calls Try.prog 18 #[v1, v2] w fun e w' => e = .returned (.int .i64 A) ∧ Below w.heap.size w w' := by
  have h := cmp_rf v1 v2 q1 q2 w h1 h2 b1 b2
  rwa [hq] at h
theorem pow_fit (n : Nat) (k : Int) (hn : n < 18446744073709551616) (h1 : -4000 ≤ k) (h2 : k ≤ 4000) : Fit ((n : Nat) * p2 k) := by
  refine Bd.mono (h := 64 + k) (l := 0 + k) ⟨?_, ?_, (n : Int), ?_⟩ (by omega) (by omega)
  · rw [p2_add]
    refine Rat.mul_lt_mul_of_pos_right ?_ (p2_pos k)
    rw [show (64 : Int) = ((64 : Nat) : Int) from rfl, p2_nat]
    exact Rat.natCast_lt_natCast.2 hn
  · have a := p2_pos (64 + k)
    have b := Rat.mul_nonneg (Rat.natCast_nonneg : (0 : Rat) ≤ (n : Nat)) (Rat.le_of_lt (p2_pos k))
    grind
  · rw [show 0 + k = k by omega]; rfl

/-- The float x is the one nearest to q, which is not below 0. -/
structure RX (q : Rat) (x r : Nat) : Prop where
  near : (q = 0 ∧ r = 0) ∨ (0 < q ∧ Near q r)
  word : x = r ∨ (x = 9223372036854775808 ∧ r = 0)
  lim : r + 1 < 9218868437227405311

set_option maxRecDepth 100000 in
set_option maxHeartbeats 8000000 in
theorem rounds_zero (v : Value) (q : Rat) (x r : Nat) (w : World) (hv : Rf w v q) (hq : Fit q) (hq2 : Fit (2 * q)) (hlim : q < p2 1010) (hx : RX q x r) (h0 : r = 0) : Calls Try.prog 82 #[v, .float .f64 x] w fun e w' => e = .returned (.bool true) ∧ Below w.heap.size w w' := by
  obtain ⟨S, a, n, c, E, rfl, hs⟩ := hv.sgn
  have hq0 : 0 ≤ q := by rcases hx.near with ⟨h, _⟩ | ⟨h, _⟩ <;> grind
  have hS : decide (S < 0) = false := decide_eq_false (by rcases hs with ⟨h, _⟩ | ⟨h, _⟩ | ⟨_, h⟩ <;> first | omega | (exfalso; grind))
  have hr := hx.lim
  have fx : Fin64 x := by rcases hx.word with rfl | ⟨rfl, _⟩ <;> unfold Fin64 frung <;> omega
  have hxl : x < 18446744073709551616 := by rcases hx.word with h | ⟨h, _⟩ <;> omega
  have dx : den x = fval r := by
    rw [den_fin fx]
    rcases hx.word with rfl | ⟨rfl, rfl⟩
    · rfl
    · rw [fval0]; exact fval_zero_iff.2 (by decide)
  have f1 : Fin64 (r + 1) := fin_small (by omega)
  have d1 : den (r + 1) = fval (r + 1) := den_fin f1
  have l1 : fval r < fval (r + 1) := fval_lt (by omega) (by omega)
  have vx : fval x = fval r := by rw [← den_fin fx]; exact dx
  obtain ⟨n0, s1, s2⟩ := self_sub fx
  have rs : ∀ w, (binOp .sub 22 (.float .f64 x) (.float .f64 x)).run Try.prog w = .ok (.float .f64 n0) w := fun w => run_float_arith w .sub _ .f64 _ _ _ s1
  have o1 : FloatKind.f64.format.order x x = some .eq := by rw [order_val fx fx, if_neg (by grind), if_pos rfl]
  have o2 : FloatKind.f64.format.order (r + 1) x = some .gt := by rw [order_val f1 fx, vx, if_neg (by grind), if_neg (by grind)]
  have HN : Hid (∀ w, Calls Try.prog 99 #[.float .f64 x, .float .f64 9218868437227405311] w fun e w' => e = .returned (.float .f64 (r + 1)) ∧ w' = w) := by
    intro w
    by_cases h0 : r = 0
    · subst h0
      exact next_zero x w (by rcases hx.word with h | ⟨h, _⟩; exact Or.inl h; exact Or.inr h)
    · obtain rfl : x = r := hx.word.resolve_right (fun h => h0 h.2)
      exact next_up x w (by omega) h0
  have hbw : 0 < q → 2 * q ≤ fval r + fval (r + 1) ∧ (2 * q = fval r + fval (r + 1) → r % 2 = 0) ∧ (r ≠ 0 → fval r + fval (r - 1) ≤ 2 * q ∧ (2 * q = fval r + fval (r - 1) → r % 2 = 0)) := fun h => near_between ((hx.near.resolve_left (by rintro ⟨rfl, _⟩; grind)).2) h (by omega)
  have t2 : ((2 : Nat) : Rat) * p2 0 = 2 := by rw [p2_zero, show ((2 : Nat) : Rat) = 2 from rfl]; grind
  have HAB : Hid (sgq (((2 : Nat) : Rat) * p2 0 * q - (den x + den (r + 1))) = -1 ∨ (sgq (((2 : Nat) : Rat) * p2 0 * q - (den x + den (r + 1))) = 0 ∧ r % 2 = 0)) := by
    rw [t2, dx, d1]
    show _ ∨ _
    unfold sgq
    by_cases h : 2 * q < fval r + fval (r + 1)
    · left; rw [if_pos (by grind)]
    · have hp : 0 < q := by
        rcases hx.near with ⟨rfl, rfl⟩ | ⟨h, _⟩
        · exfalso; rw [fval0] at *; grind
        · exact h
      have hb := hbw hp
      right
      rw [if_neg (by grind), if_pos (by grind)]
      exact ⟨rfl, hb.2.1 (by grind)⟩
  have HEV : Hid (r % 2 = 0 → (((x : Int) % 2) == 0) = true) := by
    intro h
    rcases hx.word with rfl | ⟨rfl, _⟩
    · simp; omega
    · decide
  have rb := run_bits x
  have HFQ : Hid (Fit q) := hq
  have HF2 : Hid (Fit (((2 : Nat) : Rat) * p2 0 * q)) := by rw [t2]; exact hq2
  have HFU : Hid (Fit (den x + den (r + 1))) := (Bd.add (den_fit x) (den_fit (r + 1))).mono (by omega) (by omega)
  have HXL : Hid (x < 18446744073709551616) := hxl
  have HG : Hid (q < ((18014398509481983 : Nat) : Rat) * p2 970) := by
    have e1 : p2 1010 ≤ ((18014398509481983 : Nat) : Rat) * p2 970 := by
      have e : p2 1010 = ((1099511627776 : Nat) : Rat) * p2 970 := by rw [show (1010 : Int) = ((40 : Nat) : Int) + 970 by omega, p2_add, p2_nat]
      rw [e]
      exact Rat.mul_le_mul_of_nonneg_right (Rat.natCast_le_natCast.2 (by omega)) (Rat.le_of_lt (p2_pos _))
    show _ < _
    grind
  have HR1 : Hid (r + 1 < 9218868437227405311) := hr
  have HX : Hid (RX q x r) := hx
  have HBWX : Hid (0 < q → 2 * q ≤ fval r + fval (r + 1) ∧ (2 * q = fval r + fval (r + 1) → r % 2 = 0) ∧ (r ≠ 0 → fval r + fval (r - 1) ≤ 2 * q ∧ (2 * q = fval r + fval (r - 1) → r % 2 = 0))) := hbw
  have HDX : Hid (den x = fval r) := dx
  have HT2 : Hid (((2 : Nat) : Rat) * p2 0 = 2) := t2
  have hal0 : Below w.heap.size w (w.alloc (.cells #[.int .i64 S, .slice a n c, .int .i64 E] 33)) := (Below.refl _ _).alloc (Nat.le_refl _) _
  have RA0 : Hid (Rf (w.alloc (.cells #[.int .i64 S, .slice a n c, .int .i64 E] 33)) (.agg #[.int .i64 S, .slice a n c, .int .i64 E]) q) := hv.later hal0
  have HA0 : Hid (BoxN (w.alloc (.cells #[.int .i64 S, .slice a n c, .int .i64 E] 33)) w.heap.size S (.slice a n c) E) := BoxN.new w S E _
  have HB0 : Hid (Below w.heap.size w (w.alloc (.cells #[.int .i64 S, .slice a n c, .int .i64 E] 33))) := hal0
  have hq0' : Hid (0 ≤ q) := hq0
  have ox0 : FloatKind.f64.format.order x 0 = some .eq := by
    rw [order_val fx fin0, vx, fval0, h0, fval0, if_neg (by grind), if_pos rfl]
  have H0 : Hid (r = 0) := h0
  clear hv hq hq2 hlim hx hs hq0 hr fx hxl dx f1 d1 l1 vx s1 hbw t2 hal0 h0
  go_enter Try.func82, Try.ntmps82
  go_wp2_with fail
  refine (power_walk 18014398509481983 970 _ (by omega) (by omega) (by omega)).mono ?_
  rintro e w1 ⟨v1, rfl, hr1, hb1⟩
  obtain ⟨S1, a1, n1, c1, E1, rfl⟩ := hr1.agg
  have hal : Below w1.heap.size w1 (w1.alloc (.cells #[.int .i64 S1, .slice a1 n1 c1, .int .i64 E1] 33)) := (Below.refl _ _).alloc (Nat.le_refl _) _
  have R1 : Hid (Rf (w1.alloc (.cells #[.int .i64 S1, .slice a1 n1 c1, .int .i64 E1] 33)) (.agg #[.int .i64 S1, .slice a1 n1 c1, .int .i64 E1]) (((18014398509481983 : Nat) : Rat) * p2 970)) := hr1.later hal
  have RA1 : Hid (Rf (w1.alloc (.cells #[.int .i64 S1, .slice a1 n1 c1, .int .i64 E1] 33)) (.agg #[.int .i64 S, .slice a n c, .int .i64 E]) q) := (RA0.out.later hb1).later hal
  have HA1 : Hid (BoxN (w1.alloc (.cells #[.int .i64 S1, .slice a1 n1 c1, .int .i64 E1] 33)) w.heap.size S (.slice a n c) E) := (HA0.out.later hb1).later hal
  have HB1 : Hid (Below w.heap.size w (w1.alloc (.cells #[.int .i64 S1, .slice a1 n1 c1, .int .i64 E1] 33))) := HB0.out.trans ((hb1.trans (hal.mono hb1.size)).mono HB0.out.size)
  obtain ⟨za0, za1, za2, _, zal⟩ := (HA0.out.later hb1).cells
  clear hr1 hb1 hal
  go_wp2_with fail
  refine (cmp_less _ _ q _ _ RA1.out R1.out HFQ.out (pow_fit _ 970 (by omega) (by omega) (by omega)) HG.out).mono ?_
  rintro e w2 ⟨rfl, hb2⟩
  have RA2 : Hid (Rf w2 (.agg #[.int .i64 S, .slice a n c, .int .i64 E]) q) := RA1.out.later hb2
  have HA2 : Hid (BoxN w2 w.heap.size S (.slice a n c) E) := HA1.out.later hb2
  have HB2 : Hid (Below w.heap.size w w2) := HB1.out.trans (hb2.mono HB1.out.size)
  clear hb2 RA1 HA1 HB1 R1 za0 za1 za2 zal
  go_wp2_with fail
  refine (power_walk 1 1024 _ (by omega) (by omega) (by omega)).mono ?_
  rintro e w3 ⟨v3, rfl, hr3, hb3⟩
  obtain ⟨S3, a3, n3, c3, E3, rfl⟩ := hr3.agg
  have hal : Below w3.heap.size w3 (w3.alloc (.cells #[.int .i64 S3, .slice a3 n3 c3, .int .i64 E3] 33)) := (Below.refl _ _).alloc (Nat.le_refl _) _
  have RA3 : Hid (Rf (w3.alloc (.cells #[.int .i64 S3, .slice a3 n3 c3, .int .i64 E3] 33)) (.agg #[.int .i64 S, .slice a n c, .int .i64 E]) q) := (RA2.out.later hb3).later hal
  have HA3 : Hid (BoxN (w3.alloc (.cells #[.int .i64 S3, .slice a3 n3 c3, .int .i64 E3] 33)) w.heap.size S (.slice a n c) E) := (HA2.out.later hb3).later hal
  have HU3 : Hid (BoxN (w3.alloc (.cells #[.int .i64 S3, .slice a3 n3 c3, .int .i64 E3] 33)) w3.heap.size S3 (.slice a3 n3 c3) E3) := BoxN.new w3 S3 E3 _
  have HB3 : Hid (Below w.heap.size w (w3.alloc (.cells #[.int .i64 S3, .slice a3 n3 c3, .int .i64 E3] 33))) := HB2.out.trans ((hb3.trans (hal.mono hb3.size)).mono HB2.out.size)
  have hsz3 : Hid (w.heap.size < w3.heap.size) := (HA2.out.later hb3).cells.2.2.2.2
  clear hr3 hb3 hal RA2 HA2 HB2
  go_wp2_with fail
  refine (HN.out _).mono ?_
  rintro e w' ⟨rfl, rfl⟩
  go_wp2_with fail
  refine (HN.out _).mono ?_
  rintro e w' ⟨rfl, rfl⟩
  go_wp2_with fail
  refine (refOf_any (r + 1) _ (by have := HR1.out; omega)).mono ?_
  rintro e w4 ⟨v4, rfl, hr4, hb4⟩
  obtain ⟨S4, a4, n4, c4, E4, rfl⟩ := hr4.agg
  have HU4 := HU3.out.later hb4
  have HA4 := HA3.out.later hb4
  have RA4 : Hid (Rf (((w4.setCell ⟨w3.heap.size, 0, none⟩ (.int .i64 S4)).setCell ⟨w3.heap.size, 1, none⟩ (.slice a4 n4 c4)).setCell ⟨w3.heap.size, 2, none⟩ (.int .i64 E4)) (.agg #[.int .i64 S, .slice a n c, .int .i64 E]) q) := (RA3.out.later hb4).boxed (other_box HU4) _ _ _
  have RU4 : Hid (Rf (((w4.setCell ⟨w3.heap.size, 0, none⟩ (.int .i64 S4)).setCell ⟨w3.heap.size, 1, none⟩ (.slice a4 n4 c4)).setCell ⟨w3.heap.size, 2, none⟩ (.int .i64 E4)) (.agg #[.int .i64 S4, .slice a4 n4 c4, .int .i64 E4]) (den (r + 1))) := hr4.boxed (other_box HU4) _ _ _
  have HA5 : Hid (BoxN (((w4.setCell ⟨w3.heap.size, 0, none⟩ (.int .i64 S4)).setCell ⟨w3.heap.size, 1, none⟩ (.slice a4 n4 c4)).setCell ⟨w3.heap.size, 2, none⟩ (.int .i64 E4)) w.heap.size S (.slice a n c) E) := HA4.other3 (by have := hsz3.out; omega) _ _ _
  have HU5 : Hid (BoxN (((w4.setCell ⟨w3.heap.size, 0, none⟩ (.int .i64 S4)).setCell ⟨w3.heap.size, 1, none⟩ (.slice a4 n4 c4)).setCell ⟨w3.heap.size, 2, none⟩ (.int .i64 E4)) w3.heap.size S4 (.slice a4 n4 c4) E4) := HU4.set3
  have HB5 : Hid (Below w.heap.size w (((w4.setCell ⟨w3.heap.size, 0, none⟩ (.int .i64 S4)).setCell ⟨w3.heap.size, 1, none⟩ (.slice a4 n4 c4)).setCell ⟨w3.heap.size, 2, none⟩ (.int .i64 E4))) := below_set3 (HB3.out.trans (hb4.mono HB3.out.size)) (by have := hsz3.out; omega) _ _ _
  obtain ⟨yu0, yu1, yu2, yuf, yul⟩ := HU4.cells
  clear hr4 hb4 RA3 HA3 HU3 HB3 HA4 HU4
  go_wp2_with fail
  refine (power_walk 1 (-1074) _ (by omega) (by omega) (by omega)).mono ?_
  rintro e w5 ⟨v5, rfl, hr5, hb5⟩
  obtain ⟨S5, ds5, E5, d5, k5, q5⟩ := id hr5
  obtain ⟨a5, c5, rfl, _⟩ := d5.form
  have hfd := run_fieldD S5 E5 a5 ds5.length c5
  clear yu0 yu1 yu2 yuf yul
  go_wp2_with fail
  refine (power_walk 1 (-1074) _ (by omega) (by omega) (by omega)).mono ?_
  rintro e w6 ⟨v6, rfl, hr6, hb6⟩
  obtain ⟨S6, ds6, E6, d6, k6, q6⟩ := id hr6
  obtain ⟨a6, c6, rfl, _⟩ := d6.form
  have hfe := run_fieldE S6 E6 a6 ds6.length c6
  have hpp : (0 : Rat) < ((1 : Nat) : Rat) * p2 (-1074) := Rat.mul_pos (by decide) (p2_pos _)
  have hEE : E5 = E6 := canon_E k5 k6 d5.small d6.small (by rw [← q5, ← q6]) (by rw [← q5]; grind)
  have RD6 : Rf w6 (.agg #[.int .i64 (-1), .slice a5 ds5.length c5, .int .i64 E6]) (-(((1 : Nat) : Rat) * p2 (-1074))) := by
    have h1 := (hr5.later hb6).flip rfl
    have hS5 : S5 = 1 := by
      have := canon_sgn k5
      rw [← q5] at this
      rcases this with ⟨_, h⟩ | ⟨h, _⟩ | ⟨_, h⟩
      · exfalso; grind
      · exact h
      · exfalso; grind
    rw [hS5, hEE] at h1
    exact h1
  obtain ⟨n5, hn5⟩ : ∃ n, Hid (ds5.length = n) := ⟨_, rfl⟩
  rw [hn5.out] at RD6 hfd
  simp only [hn5.out]
  have hal : Below w6.heap.size w6 (w6.alloc (.cells #[.int .i64 (-1), .slice a5 n5 c5, .int .i64 E6] 33)) := (Below.refl _ _).alloc (Nat.le_refl _) _
  have RAW : Hid (Rf (w6.alloc (.cells #[.int .i64 (-1), .slice a5 n5 c5, .int .i64 E6] 33)) (.agg #[.int .i64 S, .slice a n c, .int .i64 E]) q) := ((RA4.out.later hb5).later hb6).later hal
  have RUW : Hid (Rf (w6.alloc (.cells #[.int .i64 (-1), .slice a5 n5 c5, .int .i64 E6] 33)) (.agg #[.int .i64 S4, .slice a4 n4 c4, .int .i64 E4]) (den (r + 1))) := ((RU4.out.later hb5).later hb6).later hal
  have RDW : Hid (Rf (w6.alloc (.cells #[.int .i64 (-1), .slice a5 n5 c5, .int .i64 E6] 33)) (.agg #[.int .i64 (-1), .slice a5 n5 c5, .int .i64 E6]) (-(((1 : Nat) : Rat) * p2 (-1074)))) := RD6.later hal
  have HAW : Hid (BoxN (w6.alloc (.cells #[.int .i64 (-1), .slice a5 n5 c5, .int .i64 E6] 33)) w.heap.size S (.slice a n c) E) := ((HA5.out.later hb5).later hb6).later hal
  have HUW : Hid (BoxN (w6.alloc (.cells #[.int .i64 (-1), .slice a5 n5 c5, .int .i64 E6] 33)) w3.heap.size S4 (.slice a4 n4 c4) E4) := ((HU5.out.later hb5).later hb6).later hal
  have HDW : Hid (BoxN (w6.alloc (.cells #[.int .i64 (-1), .slice a5 n5 c5, .int .i64 E6] 33)) w6.heap.size (-1) (.slice a5 n5 c5) E6) := BoxN.new w6 _ _ _
  have HBW : Hid (Below w.heap.size w (w6.alloc (.cells #[.int .i64 (-1), .slice a5 n5 c5, .int .i64 E6] 33))) := HB5.out.trans (((hb5.trans (hb6.mono hb5.size)).trans (hal.mono (Nat.le_trans hb5.size hb6.size))).mono HB5.out.size)
  have hszu : Hid (w3.heap.size < w6.heap.size ∧ w.heap.size < w6.heap.size) := ⟨((HU5.out.later hb5).later hb6).cells.2.2.2.2, ((HA5.out.later hb5).later hb6).cells.2.2.2.2⟩
  have HPP : Hid ((0 : Rat) < ((1 : Nat) : Rat) * p2 (-1074)) := hpp
  clear hr5 hr6 hb5 hb6 d5 d6 k5 k6 q5 q6 hEE RD6 hal RA4 RU4 HA5 HU5 HB5 hpp
  have HFD : Hid (Fit (-(((1 : Nat) : Rat) * p2 (-1074)))) := Bd.neg (pow_fit 1 (-1074) (by omega) (by omega) (by omega))
  have HFXD : Hid (Fit (den x + -(((1 : Nat) : Rat) * p2 (-1074)))) := by
    refine Bd.mono (Bd.add (den_fit x) (Bd.neg (h := 1024) (l := -1074) ⟨?_, ?_, 1, ?_⟩)) (by omega) (by omega)
    · rw [show ((1 : Nat) : Rat) * p2 (-1074) = p2 (-1074) by rw [show ((1 : Nat) : Rat) = 1 from rfl]; grind]; exact p2_lt (by omega)
    · have := HPP.out
      have := p2_pos 1024
      grind
    · rfl
  have HBL : Hid (sgq (((2 : Nat) : Rat) * p2 0 * q - (den x + -(((1 : Nat) : Rat) * p2 (-1074)))) = 1 ∨ (sgq (((2 : Nat) : Rat) * p2 0 * q - (den x + -(((1 : Nat) : Rat) * p2 (-1074)))) = 0 ∧ r % 2 = 0)) := by
    show _ ∨ _
    left
    have h1 := HPP.out
    have h2 := hq0'.out
    rw [HT2.out, HDX.out, H0.out, fval0]
    unfold sgq
    rw [if_neg (by grind), if_neg (by grind)]
  go_wp2_with fail
  refine (power_walk 2 0 _ (by omega) (by omega) (by omega)).mono ?_
  rintro e w8 ⟨v8, rfl, hr8, hb8⟩
  obtain ⟨S8, a8, n8, c8, E8, rfl⟩ := hr8.agg
  have hal : Below w8.heap.size w8 (w8.alloc (.cells #[.int .i64 S8, .slice a8 n8 c8, .int .i64 E8] 33)) := (Below.refl _ _).alloc (Nat.le_refl _) _
  have R8 : Hid (Rf (w8.alloc (.cells #[.int .i64 S8, .slice a8 n8 c8, .int .i64 E8] 33)) (.agg #[.int .i64 S8, .slice a8 n8 c8, .int .i64 E8]) (((2 : Nat) : Rat) * p2 0)) := hr8.later hal
  have RA8 : Hid (Rf (w8.alloc (.cells #[.int .i64 S8, .slice a8 n8 c8, .int .i64 E8] 33)) (.agg #[.int .i64 S, .slice a n c, .int .i64 E]) q) := (RAW.out.later hb8).later hal
  have RU8 : Hid (Rf (w8.alloc (.cells #[.int .i64 S8, .slice a8 n8 c8, .int .i64 E8] 33)) (.agg #[.int .i64 S4, .slice a4 n4 c4, .int .i64 E4]) (den (r + 1))) := (RUW.out.later hb8).later hal
  have RD8 : Hid (Rf (w8.alloc (.cells #[.int .i64 S8, .slice a8 n8 c8, .int .i64 E8] 33)) (.agg #[.int .i64 (-1), .slice a5 n5 c5, .int .i64 E6]) (-(((1 : Nat) : Rat) * p2 (-1074)))) := (RDW.out.later hb8).later hal
  obtain ⟨xa0, xa1, xa2, _, la⟩ := ((HAW.out.later hb8).later hal).cells
  obtain ⟨xu0, xu1, xu2, _, lu⟩ := ((HUW.out.later hb8).later hal).cells
  obtain ⟨xd0, xd1, xd2, _, ld⟩ := ((HDW.out.later hb8).later hal).cells
  obtain ⟨xt0, xt1, xt2, _, lt⟩ := (BoxN.new w8 S8 E8 (.slice a8 n8 c8)).cells
  have HB8 : Hid (Below w.heap.size w (w8.alloc (.cells #[.int .i64 S8, .slice a8 n8 c8, .int .i64 E8] 33))) := HBW.out.trans (((hb8.trans (hal.mono hb8.size))).mono HBW.out.size)
  have hrefl : Hid (Below (w8.alloc (.cells #[.int .i64 S8, .slice a8 n8 c8, .int .i64 E8] 33)).heap.size (w8.alloc (.cells #[.int .i64 S8, .slice a8 n8 c8, .int .i64 E8] 33)) (w8.alloc (.cells #[.int .i64 S8, .slice a8 n8 c8, .int .i64 E8] 33))) := Below.refl _ _
  clear hr8 hb8 hal la lu ld lt
  obtain ⟨A, hA⟩ : ∃ A, Hid (sgq (((2 : Nat) : Rat) * p2 0 * q - (den x + den (r + 1))) = A) := ⟨_, rfl⟩
  obtain ⟨B, hB⟩ : ∃ B, Hid (sgq (((2 : Nat) : Rat) * p2 0 * q - (den x + (-(((1 : Nat) : Rat) * p2 (-1074))))) = B) := ⟨_, rfl⟩
  go_wp2
  go_region_held3 (fun W => W.cell? ⟨w8.heap.size, 0, none⟩ = some (.int .i64 S8) ∧ W.cell? ⟨w8.heap.size, 1, none⟩ = some (.slice a8 n8 c8) ∧ W.cell? ⟨w8.heap.size, 2, none⟩ = some (.int .i64 E8) ∧ W.cell? ⟨w.heap.size, 0, none⟩ = some (.int .i64 S) ∧ W.cell? ⟨w.heap.size, 1, none⟩ = some (.slice a n c) ∧ W.cell? ⟨w.heap.size, 2, none⟩ = some (.int .i64 E) ∧ W.cell? ⟨w3.heap.size, 0, none⟩ = some (.int .i64 S4) ∧ W.cell? ⟨w3.heap.size, 1, none⟩ = some (.slice a4 n4 c4) ∧ W.cell? ⟨w3.heap.size, 2, none⟩ = some (.int .i64 E4) ∧ Below (w8.alloc (.cells #[.int .i64 S8, .slice a8 n8 c8, .int .i64 E8] 33)).heap.size (w8.alloc (.cells #[.int .i64 S8, .slice a8 n8 c8, .int .i64 E8] 33)) W)
    (first
      | assumption
      | exact ⟨by go_simp, by go_simp, by go_simp, by go_simp, by go_simp, by go_simp, by go_simp, by go_simp, by go_simp, hrefl.out.drew⟩
      | exact keepN9 (by assumption) (by assumption))
    (first
      | (go_at_call 22; refine (mul_rf _ _ (((2 : Nat) : Rat) * p2 0) q _ (R8.out.later hrefl.out.drew) (RA8.out.later hrefl.out.drew) (pow_fit 2 0 (by omega) (by omega) (by omega)) HFQ.out).mono ?_; rintro e wA ⟨vA, rfl, hrA, hbA⟩)
      | (go_at_call 20; refine (refOf_any x _ HXL.out).mono ?_; rintro e wB ⟨vB, rfl, hrB, hbB⟩)
      | (go_at_call 19; refine (refAdd_any _ _ (den x) (den (r + 1)) _ hrB (RU8.out.later (by exact (by assumption : _ ∧ _ ∧ _ ∧ _ ∧ _ ∧ _ ∧ _ ∧ _ ∧ _ ∧ Below (w8.alloc (.cells #[.int .i64 S8, .slice a8 n8 c8, .int .i64 E8] 33)).heap.size (w8.alloc (.cells #[.int .i64 S8, .slice a8 n8 c8, .int .i64 E8] 33)) _).2.2.2.2.2.2.2.2.2)) (den_Fit _) (den_Fit _)).mono ?_; rintro e wC ⟨vC, rfl, hrC, hbC⟩)
      | (go_at_call 18; refine (cmp_is _ _ (((2 : Nat) : Rat) * p2 0 * q) (den x + den (r + 1)) A _ ((hrA.later hbB).later hbC) hrC HF2.out HFU.out hA.out).mono ?_; rintro e wD ⟨rfl, hbD⟩))
  obtain ⟨xt0', xt1', xt2', xa0', xa1', xa2', _, _, _, hBf⟩ := (by assumption : _ ∧ _ ∧ _ ∧ _ ∧ _ ∧ _ ∧ _ ∧ _ ∧ _ ∧ Below (w8.alloc (.cells #[.int .i64 S8, .slice a8 n8 c8, .int .i64 E8] 33)).heap.size (w8.alloc (.cells #[.int .i64 S8, .slice a8 n8 c8, .int .i64 E8] 33)) wD)
  have yd0 := box_cell hBf xd0
  have yd1 := box_cell hBf xd1
  have yd2 := box_cell hBf xd2
  have HBD : Hid (Below (w8.alloc (.cells #[.int .i64 S8, .slice a8 n8 c8, .int .i64 E8] 33)).heap.size (w8.alloc (.cells #[.int .i64 S8, .slice a8 n8 c8, .int .i64 E8] 33)) wD) := hBf
  clear hrA hrB hrC hbA hbB hbC hbD hBf xa0 xa1 xa2 xu0 xu1 xu2 xd0 xd1 xd2 xt0 xt1 xt2
  have hrefl2 : Hid (Below wD.heap.size wD wD) := Below.refl _ _
  go_wp2
  go_region_held3 (fun W => W.cell? ⟨w8.heap.size, 0, none⟩ = some (.int .i64 S8) ∧ W.cell? ⟨w8.heap.size, 1, none⟩ = some (.slice a8 n8 c8) ∧ W.cell? ⟨w8.heap.size, 2, none⟩ = some (.int .i64 E8) ∧ W.cell? ⟨w.heap.size, 0, none⟩ = some (.int .i64 S) ∧ W.cell? ⟨w.heap.size, 1, none⟩ = some (.slice a n c) ∧ W.cell? ⟨w.heap.size, 2, none⟩ = some (.int .i64 E) ∧ W.cell? ⟨w6.heap.size, 0, none⟩ = some (.int .i64 (-1)) ∧ W.cell? ⟨w6.heap.size, 1, none⟩ = some (.slice a5 n5 c5) ∧ W.cell? ⟨w6.heap.size, 2, none⟩ = some (.int .i64 E6) ∧ Below wD.heap.size wD W)
    (first
      | assumption
      | exact ⟨by go_simp, by go_simp, by go_simp, by go_simp, by go_simp, by go_simp, by go_simp, by go_simp, by go_simp, hrefl2.out.drew⟩
      | exact keepN9 (by assumption) (by assumption))
    (first
      | (go_at_call 22; refine (mul_rf _ _ (((2 : Nat) : Rat) * p2 0) q _ ((R8.out.later HBD.out).later hrefl2.out.drew) ((RA8.out.later HBD.out).later hrefl2.out.drew) (pow_fit 2 0 (by omega) (by omega) (by omega)) HFQ.out).mono ?_; rintro e wA ⟨vA, rfl, hrA, hbA⟩)
      | (go_at_call 20; refine (refOf_any x _ HXL.out).mono ?_; rintro e wB ⟨vB, rfl, hrB, hbB⟩)
      | (go_at_call 19; refine (refAdd_any _ _ (den x) (-(((1 : Nat) : Rat) * p2 (-1074))) _ hrB ((RD8.out.later HBD.out).later (by exact (by assumption : _ ∧ _ ∧ _ ∧ _ ∧ _ ∧ _ ∧ _ ∧ _ ∧ _ ∧ Below wD.heap.size wD _).2.2.2.2.2.2.2.2.2)) (den_Fit _) HFD.out).mono ?_; rintro e wC ⟨vC, rfl, hrC, hbC⟩)
      | (go_at_call 18; refine (cmp_is _ _ (((2 : Nat) : Rat) * p2 0 * q) (den x + (-(((1 : Nat) : Rat) * p2 (-1074)))) B _ ((hrA.later hbB).later hbC) hrC HF2.out HFXD.out hB.out).mono ?_; rintro e wE ⟨rfl, hbE⟩))
  have hBg := (by assumption : _ ∧ _ ∧ _ ∧ _ ∧ _ ∧ _ ∧ _ ∧ _ ∧ _ ∧ Below wD.heap.size wD wE).2.2.2.2.2.2.2.2.2
  have HBE : Hid (Below w.heap.size w wE) := HB8.out.trans ((HBD.out.trans (hBg.mono HBD.out.size)).mono HB8.out.size)
  have hAc : A = -1 ∨ (A = 0 ∧ r % 2 = 0) := by have := HAB.out; rwa [hA.out] at this
  have hBc : B = 1 ∨ (B = 0 ∧ r % 2 = 0) := by have := HBL.out; rwa [hB.out] at this
  clear hrA hrB hrC hbA hbB hbC hbE hBg xt0' xt1' xt2' xa0' xa1' xa2' yd0 yd1 yd2 hA hB
  rcases hAc with rfl | ⟨rfl, hpar⟩
  · rcases hBc with rfl | ⟨rfl, hpar⟩
    · go_wp2
      all_goals
        go_ret
        exact ⟨rfl, HBE.out⟩
    · have hev := HEV.out hpar
      clear hpar
      go_wp2
      go_ret
      exact ⟨rfl, HBE.out⟩
  · have hev := HEV.out hpar
    clear hpar
    rcases hBc with rfl | ⟨rfl, _⟩
    · go_wp2
      go_ret
      exact ⟨rfl, HBE.out⟩
    · go_wp2
      go_ret
      exact ⟨rfl, HBE.out⟩

end Go.Proofs.Ytglcngjllfgdpaa

/- The document's side of package expand: which lists may be. -/
namespace Go.Proofs.Ytglcngjllfgdpaa
open Go.RowKit Go.Shelf
attribute [local go_sem ↓] Go.wp_at_zero Go.wp_at_succ
attribute [local go_sem] run_store_float

theorem szw_fin {x : Nat} (hx : x < 18446744073709551616) (h : Fin64 x) (h0 : frung x ≠ 0) : szw x = frung x := by
  unfold Fin64 at h
  unfold szw
  split
  · unfold frung; omega
  · unfold frung at *; omega
/-- Is a float's magnitude at least a? -/
theorem mag_geq {x a : Nat} (hx : x < 18446744073709551616) (ha : 0 < a) (hb : a < 9218868437227405312) : (FloatKind.f64.format.order (szw x) a == some .gt || FloatKind.f64.format.order (szw x) a == some .eq) = decide (a ≤ frung x ∧ frung x ≤ 9218868437227405312) := by
  rcases Nat.lt_or_ge 9218868437227405312 (frung x) with h | h
  · have e : szw x = x := by unfold szw; rw [if_neg (by omega)]
    rw [e]
    show (Ieee.double.order x a == some .gt || Ieee.double.order x a == some .eq) = _
    rw [order_nan_left h]
    simp; omega
  · by_cases h0 : frung x = 0
    · have hf : Fin64 (szw x) ∧ fval (szw x) = 0 := by
        have : frung (szw x) = 0 := by
          unfold szw
          split
          · unfold frung at *; omega
          · exact h0
        exact ⟨by unfold Fin64; omega, fval_zero_iff.2 this⟩
      have fa : Fin64 a := fin_small hb
      have := pos_fval hb (by omega)
      rw [order_val hf.1 fa, hf.2, if_pos this]
      simp; omega
    · rw [szw_geq hx h h0 hb]
      simp [h]

/-- Lo, by the lowest bit. -/
theorem lo_low {p x : Rat} {l m : Int} (hx : x = (m : Rat) * p2 l) (hm : m % 2 = 1) (hl : -1074 ≤ l) : Lo p x ↔ ab p < p2 l := by
  obtain ⟨L, hL⟩ : ∃ L : Nat, l = (L : Int) - 1074 := ⟨(l + 1074).toNat, by omega⟩
  subst hL
  have hu : p2 ((L : Int) - 1074) = U L := rfl
  rw [hu] at hx ⊢
  constructor
  · rintro ⟨t, a, n, b⟩
    have ht : t ≤ L := by
      rcases Nat.lt_or_ge L t with hlt | hge
      · exfalso
        obtain ⟨j, rfl⟩ : ∃ j, t = L + 1 + j := ⟨t - L - 1, by omega⟩
        have e : (m : Rat) * U L = ((n * ((2 ^ j : Nat) : Int) * 2 : Int) : Rat) * U L := by
          rw [← hx, b, show L + 1 + j = (L + 1) + j by omega, U_add, U_succ, Rat.intCast_mul, Rat.intCast_mul]
          show _ = (n : Rat) * ((2 ^ j : Nat) : Rat) * 2 * U L
          grind
        have := int_eq (U_pos L) e
        omega
      · exact hge
    have := U_mono ht
    grind
  · intro h
    exact ⟨L, h, m, hx⟩

theorem keepN4 {w W W' : World} {p1 p2 p3 p4 : Addr} {x1 x2 x3 x4 : Value} (h : W.cell? p1 = some x1 ∧ W.cell? p2 = some x2 ∧ W.cell? p3 = some x3 ∧ W.cell? p4 = some x4 ∧ Below w.heap.size w W) (hb : Below W.heap.size W W') : W'.cell? p1 = some x1 ∧ W'.cell? p2 = some x2 ∧ W'.cell? p3 = some x3 ∧ W'.cell? p4 = some x4 ∧ Below w.heap.size w W' :=
  ⟨box_cell hb h.1, box_cell hb h.2.1, box_cell hb h.2.2.1, box_cell hb h.2.2.2.1, below_step h.2.2.2.2 hb⟩
theorem low_bounds {x : Nat} {l m : Int} (h : den x = (m : Rat) * p2 l) (hm : m % 2 = 1) : -1074 ≤ l ∧ l ≤ 1024 := by
  obtain ⟨bd1, bd2, n', bd3⟩ := den_fit x
  refine ⟨low_ge h hm bd3, ?_⟩
  have h0 : den x ≠ 0 := by
    intro e
    have e2 : (m : Rat) * p2 l = ((0 : Int) : Rat) * p2 l := by rw [← h, e, show ((0 : Int) : Rat) = 0 from rfl]; grind
    have := int_eq (p2_pos l) e2
    omega
  have h1 := M.ge (p2_pos l) ⟨m, h⟩ h0
  have h2 : p2 l < p2 1024 := by
    unfold ab at h1
    split at h1 <;> grind
  have := p2_lt_iff.1 h2
  omega
theorem ab_den {p : Nat} (hp : p < 18446744073709551616) (h : Fin64 p) (h0 : frung p ≠ 0) : den (szw p) = ab (fval p) ∧ szw p < 18446744073709551616 := by
  rw [szw_fin hp h h0]
  have : Fin64 (frung p) := fin_small h
  rw [den_fin this, ab_fval p h]
  unfold Fin64 at h
  exact ⟨rfl, by omega⟩
theorem sgq_neg {q : Rat} : sgq q < 0 ↔ q < 0 := by
  unfold sgq
  split
  · simp_all
  · split
    · simp_all
    · simp_all

set_option maxRecDepth 100000 in
set_option maxHeartbeats 8000000 in
theorem within_walk (g off c lo hi n : Nat) (bs : List Nat) (w : World) (hc : ∀ k, k < n → w.cell? ⟨g, off + k, none⟩ = some (.float .f64 (bs.getD k 0))) (hw : ∀ b ∈ bs, b < 18446744073709551616) (hn : bs.length = n) (hl : n ≤ 64) (h0 : 0 < lo) (h1 : lo < 9218868437227405312) (h2 : hi < 9218868437227405312) (h3 : 0 < hi) :
    Calls Try.prog 77 #[.slice (some ⟨g, off, none⟩) n c, .float .f64 lo, .float .f64 hi] w fun e w' => (∃ t, e = .returned (.bool t) ∧ (t = true ↔ MayP lo hi bs)) ∧ Below w.heap.size w w' := by
  have HC : Hid (∀ k, k < n → w.cell? ⟨g, off + k, none⟩ = some (.float .f64 (bs.getD k 0))) := hc
  have HW : Hid (∀ b ∈ bs, b < 18446744073709551616) := hw
  have HN : Hid (bs.length = n) := hn
  have l1 : (n : Int) ≤ 64 := by omega
  have l2 : decide (64 < (n : Int)) = false := decide_eq_false (by omega)
  have HL : Hid (0 < lo ∧ lo < 9218868437227405312 ∧ hi < 9218868437227405312 ∧ 0 < hi) := ⟨h0, h1, h2, h3⟩
  clear hc hw hn hl h0 h1 h2 h3
  go_enter Try.func77, Try.ntmps77
  go_wp2
  go_loopw [7] (fun i wr => ∃ k : Nat, k ≤ n ∧ i = .int .i64 (k : Nat) ∧ Hid (∀ p, p < k → MayAt lo hi bs p) ∧ Hid (Below w.heap.size w wr)) (fun i _ => n - (intOf i).toNat)
  case atStart => exact ⟨0, Nat.zero_le _, rfl, fun p hp => by omega, Below.refl _ _⟩
  case round =>
    obtain ⟨k, hk, rfl, hok, hB⟩ := hrel
    by_cases hlt : k < n
    · have hlt' : (k : Int) < (n : Int) := by omega
      have hk0 : (0 : Int) ≤ (k : Int) := by omega
      have hck := box_cell hB.out (HC.out k hlt)
      obtain ⟨x, hx⟩ : ∃ x : Nat, Hid (bs.getD k 0 = x) := ⟨_, rfl⟩
      rw [hx.out] at hck
      have HX : Hid (x < 18446744073709551616) := by show x < _; rw [← hx.out]; exact getD_word HW.out k
      have HNO : Hid (¬ MayAt lo hi bs k → ¬ MayP lo hi bs) := fun h1 h2 => h1 (h2.2 k (by rw [HN.out]; exact hlt))
      have q1 := mag_geq HX.out HL.out.1 HL.out.2.1
      by_cases c1 : lo ≤ frung x ∧ frung x ≤ 9218868437227405312
      · rw [decide_eq_true c1] at q1
        have q2 := szw_leq HX.out c1.2 HL.out.2.2.2 HL.out.2.2.1
        by_cases c2 : frung x ≤ hi
        · rw [decide_eq_true c2] at q2
          have HFX : Hid (Fin64 x ∧ lo ≤ frung x ∧ frung x ≤ hi ∧ frung x ≠ 0) := ⟨by unfold Fin64; have := HL.out; omega, c1.1, c2, by have := HL.out; omega⟩
          clear c1 c2
          by_cases hz : k = 0
          · subst hz
            rw [Nat.add_zero] at hck
            have HM : Hid (MayAt lo hi bs 0) := ⟨by rw [hx.out]; exact HFX.out.2.1, by rw [hx.out]; exact HFX.out.2.2.1, by rw [hx.out]; exact HFX.out.2.2.2, fun h => absurd h (by omega)⟩
            go_wp2_with fail
            refine (magnitude_any x _ HX.out).mono ?_
            rintro e w1 ⟨rfl, hw1⟩
            obtain rfl := hw1.symm
            go_wp2
            exact ⟨⟨1, by omega, by go_num, fun p hp => by rw [show p = 0 by omega]; exact HM.out, hB⟩, by simp [intOf]; omega⟩
          · obtain ⟨j, rfl⟩ : ∃ j, k = j + 1 := ⟨k - 1, by omega⟩
            have hj' : (j : Int) < (n : Int) := by omega
            have hj0 : (0 : Int) ≤ (j : Int) := by omega
            have e0 : ((j : Int) + 1 == 0) = false := by simp; omega
            have hcj := box_cell hB.out (HC.out j (by omega))
            obtain ⟨p, hp⟩ : ∃ p : Nat, Hid (bs.getD j 0 = p) := ⟨_, rfl⟩
            rw [hp.out] at hcj
            have HP : Hid (Fin64 p ∧ frung p ≠ 0 ∧ p < 18446744073709551616) := by
              have := hok.out j (by omega)
              refine ⟨?_, ?_, ?_⟩
              · rw [← hp.out]; unfold Fin64; have := this.2.1; have := HL.out; omega
              · rw [← hp.out]; exact this.2.2.1
              · rw [← hp.out]; exact getD_word HW.out j
            have HCELL : Hid (w.cell? ⟨g, off + j, none⟩ = some (.float .f64 p)) := by have := HC.out j (by omega); rw [hp.out] at this; exact this
            go_wp2_with fail
            refine (magnitude_any x _ HX.out).mono ?_
            rintro e w1 ⟨rfl, hw1⟩
            obtain rfl := hw1.symm
            go_wp2_with fail
            refine (refOf_any x _ HX.out).mono ?_
            rintro e w1 ⟨v1, rfl, hr1, hb1⟩
            have HR1 : Hid (Rf w1 v1 (den x) ∧ Below w.heap.size w w1) := ⟨hr1, below_step hB.out hb1⟩
            clear hr1 hb1
            go_wp2_with fail
            refine (low_rf v1 (den x) _ HR1.out.1 (by rw [den_fin HFX.out.1]; exact fun e => HFX.out.2.2.2 (fval_zero_iff.1 e)) (den_Fit x)).mono ?_
            rintro e w2 ⟨⟨l, m, rfl, hlm, hmo⟩, hb2⟩
            have HLM : Hid (den x = (m : Rat) * p2 l ∧ m % 2 = 1 ∧ -1074 ≤ l ∧ l ≤ 1024) := ⟨hlm, hmo, low_bounds hlm hmo⟩
            have HB2 : Hid (Below w.heap.size w w2) := below_step HR1.out.2 hb2
            clear hlm hmo hb2 hck hcj
            go_wp2_with fail
            refine (power_walk 1 l _ (by omega) (by have := HLM.out; omega) (by have := HLM.out; omega)).mono ?_
            rintro e w3 ⟨v3, rfl, hr3, hb3⟩
            obtain ⟨S3, a3, n3, c3, E3, rfl⟩ := hr3.agg
            have HR3 : Hid (Rf w3 (.agg #[.int .i64 S3, .slice a3 n3 c3, .int .i64 E3]) (((1 : Nat) : Rat) * p2 l) ∧ Below w.heap.size w w3) := ⟨hr3, below_step HB2.out hb3⟩
            have hcj3 := box_cell HR3.out.2 HCELL.out
            obtain ⟨hdp, hsz⟩ := ab_den HP.out.2.2 HP.out.1 HP.out.2.1
            have HDP : Hid (den (szw p) = ab (fval p) ∧ szw p < 18446744073709551616) := ⟨hdp, hsz⟩
            obtain ⟨z, hzz⟩ : ∃ z, Hid (sgq (den (szw p) - ((1 : Nat) : Rat) * p2 l) = z) := ⟨_, rfl⟩
            have HFIT : Hid (Fit (((1 : Nat) : Rat) * p2 l)) := pow_fit 1 l (by omega) (by have := HLM.out; omega) (by have := HLM.out; omega)
            have HCM : Hid (∀ v1 v2 W, Rf W v1 (den (szw p)) → Rf W v2 (((1 : Nat) : Rat) * p2 l) → Calls Try.prog 18 #[v1, v2] W fun e w' => e = .returned (.int .i64 z) ∧ Below W.heap.size W w') := fun v1 v2 W r1 r2 => by
              have := cmp_rf v1 v2 _ _ W r1 r2 (den_Fit _) HFIT.out
              rwa [hzz.out] at this
            have HAL : Hid (Below w3.heap.size w3 (w3.alloc (.cells #[.int .i64 S3, .slice a3 n3 c3, .int .i64 E3] 33))) := (Below.refl _ _).alloc (Nat.le_refl _) _
            have hcj4 : (w3.alloc (.cells #[.int .i64 S3, .slice a3 n3 c3, .int .i64 E3] 33)).cell? ⟨g, off + j, none⟩ = some (.float .f64 p) := box_cell HAL.out hcj3
            clear hr3 hb3 hdp hsz hcj3
            go_wp2
            have hwr : IntKind.i64.wrap (j : Int) = (j : Int) := wrapE _ (by omega) (by omega)
            go_region_held3 (fun W => W.cell? ⟨w3.heap.size, 0, none⟩ = some (.int .i64 S3) ∧ W.cell? ⟨w3.heap.size, 1, none⟩ = some (.slice a3 n3 c3) ∧ W.cell? ⟨w3.heap.size, 2, none⟩ = some (.int .i64 E3) ∧ W.cell? ⟨g, off + j, none⟩ = some (.float .f64 p) ∧ Below w3.heap.size w3 W)
              (first
                | assumption
                | exact ⟨by go_simp, by go_simp, by go_simp, hcj4, HAL.out.drew⟩
                | exact keepN4 (by assumption) (by assumption))
              (first
                | (go_at_call 97; refine (magnitude_any p _ HP.out.2.2).mono ?_; rintro e wA ⟨rfl, rfl⟩)
                | (go_at_call 20; refine (refOf_any (szw p) _ HDP.out.2).mono ?_; rintro e wB ⟨vB, rfl, hrB, hbB⟩)
                | (go_at_call 18; refine (HCM.out _ _ _ hrB (HR3.out.1.later (by exact (by assumption : _ ∧ _ ∧ _ ∧ _ ∧ Below w3.heap.size w3 _).2.2.2.2))).mono ?_; rintro e wC ⟨rfl, hbC⟩))
            have hBf := (by assumption : _ ∧ _ ∧ _ ∧ _ ∧ Below w3.heap.size w3 _).2.2.2.2
            have HBF : Hid (Below w.heap.size w wC) := below_step HR3.out.2 hBf
            clear hrB hbB hbC hBf hwr
            have key : Hid (z < 0 ↔ Lo (fval p) (fval x)) := by
              show _ ↔ _
              rw [← hzz.out, sgq_neg, HDP.out.1, show ((1 : Nat) : Rat) = 1 from rfl, lo_low (by rw [← den_fin HFX.out.1]; exact HLM.out.1) HLM.out.2.1 HLM.out.2.2.1]
              constructor <;> intro h <;> grind
            by_cases hneg : z < 0
            · have HM : Hid (MayAt lo hi bs (j + 1)) := ⟨by rw [hx.out]; exact HFX.out.2.1, by rw [hx.out]; exact HFX.out.2.2.1, by rw [hx.out]; exact HFX.out.2.2.2, fun _ => by rw [show j + 1 - 1 = j by omega, hp.out, hx.out]; exact key.out.1 hneg⟩
              clear hcj4
              go_wp2
              exact ⟨⟨j + 1 + 1, by omega, by go_num, fun q hq => by
                by_cases e : q = j + 1
                · rw [e]; exact HM.out
                · exact hok.out q (by omega), HBF⟩, by simp [intOf]; omega⟩
            · have HM : Hid (¬ MayAt lo hi bs (j + 1)) := fun h => hneg (key.out.2 (by have := h.2.2.2 (by omega); rwa [show j + 1 - 1 = j by omega, hp.out, hx.out] at this))
              have hge : 0 ≤ z := by omega
              clear hneg hcj4
              go_wp2
              go_ret
              exact ⟨⟨false, rfl, by simp; exact HNO.out HM.out⟩, HBF.out⟩
        · rw [decide_eq_false c2] at q2
          have HM : Hid (¬ MayAt lo hi bs k) := fun h => c2 (by rw [← hx.out]; exact h.2.1)
          clear c1 c2
          go_wp2_with fail
          refine (magnitude_any x _ HX.out).mono ?_
          rintro e w1 ⟨rfl, hw1⟩
          obtain rfl := hw1.symm
          go_wp2
          go_ret
          exact ⟨⟨false, rfl, by simp; exact HNO.out HM.out⟩, hB.out⟩
      · rw [decide_eq_false c1] at q1
        have HM : Hid (¬ MayAt lo hi bs k) := fun h => c1 ⟨by rw [← hx.out]; exact h.1, by have := h.2.1; rw [hx.out] at this; have := HL.out; omega⟩
        clear c1
        go_wp2_with fail
        refine (magnitude_any x _ HX.out).mono ?_
        rintro e w1 ⟨rfl, hw1⟩
        obtain rfl := hw1.symm
        go_wp2
        go_ret
        exact ⟨⟨false, rfl, by simp; exact HNO.out HM.out⟩, hB.out⟩
    · obtain rfl : k = n := by omega
      have hltb : decide ((k : Int) < (k : Int)) = false := decide_eq_false (by omega)
      have HE : Hid (MayP lo hi bs) := ⟨by rw [HN.out]; omega, fun i hi => hok.out i (by rw [← HN.out]; exact hi)⟩
      go_wp2
      go_ret
      exact ⟨⟨true, rfl, fun _ => HE.out, fun _ => rfl⟩, hB.out⟩

set_option maxRecDepth 100000 in
set_option maxHeartbeats 1000000 in
theorem within_none (a : Option Addr) (c lo hi : Nat) (w : World) : Calls Try.prog 77 #[.slice a 0 c, .float .f64 lo, .float .f64 hi] w fun e w' => e = .returned (.bool true) ∧ w' = w := by
  go_enter Try.func77, Try.ntmps77
  go_wp2
  go_loop [7] (fun i => i = .int .i64 0) (fun _ => 0)
  case atStart => exact rfl
  case round =>
    obtain rfl := hrel
    go_wp2
    go_ret
    exact ⟨rfl, rfl⟩
set_option maxRecDepth 100000 in
set_option maxHeartbeats 1000000 in
theorem within_long (a : Option Addr) (n c lo hi : Nat) (w : World) (h : 64 < n) : Calls Try.prog 77 #[.slice a n c, .float .f64 lo, .float .f64 hi] w fun e w' => e = .returned (.bool false) ∧ w' = w := by
  have h' : decide (64 < (n : Int)) = true := decide_eq_true (by omega)
  clear h
  go_enter Try.func77, Try.ntmps77
  go_wp2
  go_ret
  exact ⟨rfl, rfl⟩
theorem within_any (lo hi : Nat) (s : Value) (bs : List Nat) (w : World) (h : Fs w s bs) (h0 : 0 < lo) (h1 : lo < 9218868437227405312) (h2 : hi < 9218868437227405312) (h3 : 0 < hi) :
    Calls Try.prog 77 #[s, .float .f64 lo, .float .f64 hi] w fun e w' => (∃ t, e = .returned (.bool t) ∧ (t = true ↔ MayP lo hi bs)) ∧ Below w.heap.size w w' := by
  obtain ⟨⟨a, c, rfl, hc, hm, hf⟩, hw⟩ := h
  by_cases hl : bs.length ≤ 64
  · rcases hf with rfl | ⟨g, off, rfl, hf⟩
    · refine (within_none a c lo hi w).mono ?_
      rintro e w' ⟨rfl, rfl⟩
      exact ⟨⟨true, rfl, ⟨fun _ => ⟨by simp, fun i hi => by simp at hi⟩, fun _ => rfl⟩⟩, Below.refl _ _⟩
    · exact within_walk g off c lo hi bs.length bs w hf hw rfl hl h0 h1 h2 h3
  · refine (within_long a bs.length c lo hi w (by omega)).mono ?_
    rintro e w' ⟨rfl, rfl⟩
    exact ⟨⟨false, rfl, ⟨fun h => Bool.noConfusion h, fun h => absurd h.1 hl⟩⟩, Below.refl _ _⟩
theorem may_one {hi : Nat} {bs : List Nat} : MayP 1 hi bs ↔ MayP 0 hi bs := by
  constructor
  · exact fun h => ⟨h.1, fun i hi => ⟨Nat.zero_le _, (h.2 i hi).2⟩⟩
  · exact fun h => ⟨h.1, fun i hi => ⟨by have := (h.2 i hi).2.2.1; omega, (h.2 i hi).2⟩⟩

end Go.Proofs.Ytglcngjllfgdpaa

/- The document's side of package expand: Check, Safe, Addable, Number. -/
namespace Go.Proofs.Ytglcngjllfgdpaa
open Go.RowKit Go.Shelf
attribute [local go_sem ↓] Go.wp_at_zero Go.wp_at_succ

set_option maxRecDepth 100000 in
theorem refCheck3_any (s : Value) (bs : List Nat) (w : World) (h : Fs w s bs) :
    Calls Try.prog 41 #[s] w fun e w' => (∃ t, e = .returned (.bool t) ∧ (t = true ↔ MayC bs)) ∧ Below w.heap.size w w' := by
  have HA : Hid (Calls Try.prog 77 #[s, .float .f64 1, .float .f64 9065746049896808448] w fun e w' => (∃ t, e = .returned (.bool t) ∧ (t = true ↔ MayC bs)) ∧ Below w.heap.size w w') := by
    refine (within_any 1 9065746049896808448 s bs w h (by omega) (by omega) (by omega) (by omega)).mono ?_
    rintro e w' ⟨⟨t, rfl, ht⟩, hb⟩
    exact ⟨⟨t, rfl, ht.trans may_one⟩, hb⟩
  clear h
  go_enter Try.func41, Try.ntmps41
  go_wp2_with fail
  refine HA.out.mono ?_
  rintro e w1 ⟨⟨t, rfl, ht⟩, hb⟩
  have HT : Hid ((t = true ↔ MayC bs) ∧ Below w.heap.size w w1) := ⟨ht, hb⟩
  clear ht hb
  go_wp2_with fail
  go_ret
  exact ⟨⟨t, rfl, HT.out.1⟩, HT.out.2⟩
set_option maxRecDepth 100000 in
theorem refSafe3_any (s : Value) (bs : List Nat) (w : World) (h : Fs w s bs) :
    Calls Try.prog 37 #[s] w fun e w' => (∃ t, e = .returned (.bool t) ∧ (t = true ↔ MayS bs)) ∧ Below w.heap.size w w' := by
  have HA : Hid (Calls Try.prog 77 #[s, .float .f64 2580562586483294208, .float .f64 6633802251116740608] w fun e w' => (∃ t, e = .returned (.bool t) ∧ (t = true ↔ MayS bs)) ∧ Below w.heap.size w w') := by
    refine (within_any 2580562586483294208 6633802251116740608 s bs w h (by omega) (by omega) (by omega) (by omega)).mono ?_
    rintro e w' ⟨⟨t, rfl, ht⟩, hb⟩
    exact ⟨⟨t, rfl, ht.trans Iff.rfl⟩, hb⟩
  clear h
  go_enter Try.func37, Try.ntmps37
  go_wp2_with fail
  refine HA.out.mono ?_
  rintro e w1 ⟨⟨t, rfl, ht⟩, hb⟩
  have HT : Hid ((t = true ↔ MayS bs) ∧ Below w.heap.size w w1) := ⟨ht, hb⟩
  clear ht hb
  go_wp2_with fail
  go_ret
  exact ⟨⟨t, rfl, HT.out.1⟩, HT.out.2⟩
/-- The sum of the first k. -/
def denL (bs : List Nat) (k : Nat) : Rat := ((bs.take k).map den).sum
theorem denL_succ {bs : List Nat} {k : Nat} (h : k < bs.length) : denL bs (k + 1) = denL bs k + den (bs.getD k 0) := by
  unfold denL
  have e : bs.take (k + 1) = bs.take k ++ [bs.getD k 0] := by rw [List.take_add_one]; simp [List.getD, h]
  rw [e]
  simp only [List.map_append, List.map_cons, List.map_nil, List.sum_append, List.sum_cons, List.sum_nil]
  grind
theorem denL_bd (bs : List Nat) (k : Nat) (hk : k ≤ bs.length) : Bd (1024 + (k : Int)) (-1074) (denL bs k) := by
  induction k with
  | zero => exact bd_zero _ _
  | succ k ih =>
    rw [denL_succ (by omega)]
    have h1 := ih (by omega)
    have h2 := (den_fit (bs.getD k 0)).mono (show (1024 : Int) ≤ 1024 + (k : Int) by omega) (Int.le_refl _)
    exact (h1.add h2).mono (by omega) (Int.le_refl _)
structure NumW (w wr : World) (S E : Int) (sv : Value) (q : Rat) : Prop where
  b0 : BoxN wr w.heap.size 0 (.slice none 0 0) 0
  b1 : BoxN wr (w.heap.size + 1) S sv E
  rf : Rf wr (.agg #[.int .i64 S, sv, .int .i64 E]) q
  bel : Below w.heap.size w wr
theorem NumW.start (w : World) : NumW w ((w.alloc (.cells #[.int .i64 0, .slice none 0 0, .int .i64 0] 33)).alloc (.cells #[.int .i64 0, .slice none 0 0, .int .i64 0] 33)) 0 0 (.slice none 0 0) 0 :=
  ⟨(BoxN.new w 0 0 _).alloc _, by have := BoxN.new (w.alloc (.cells #[.int .i64 0, .slice none 0 0, .int .i64 0] 33)) 0 0 (.slice none 0 0); simpa using this, rf_zero _, ((Below.refl _ w).alloc (Nat.le_refl _) _).alloc (by simp) _⟩
theorem NumW.later {w wr wr' : World} {S E : Int} {sv : Value} {q : Rat} (h : NumW w wr S E sv q) (hb : Below wr.heap.size wr wr') : NumW w wr' S E sv q := ⟨h.b0.later hb, h.b1.later hb, h.rf.later hb, below_step h.bel hb⟩
theorem NumW.drew {w wr : World} {S E : Int} {sv : Value} {q : Rat} (h : NumW w wr S E sv q) : NumW w wr.drew S E sv q := ⟨h.b0, h.b1, h.rf.later ⟨rfl, rfl, rfl, Nat.le_refl _, fun _ _ => rfl⟩, h.bel.drew⟩
theorem NumW.set {w wr : World} {S E S' E' : Int} {sv sv' : Value} {q q' : Rat} (h : NumW w wr S E sv q) (hr : Rf wr (.agg #[.int .i64 S', sv', .int .i64 E']) q') : NumW w (((wr.setCell ⟨w.heap.size + 1, 0, none⟩ (.int .i64 S')).setCell ⟨w.heap.size + 1, 1, none⟩ sv').setCell ⟨w.heap.size + 1, 2, none⟩ (.int .i64 E')) S' E' sv' q' :=
  ⟨h.b0.other3 (by omega) _ _ _, h.b1.set3, hr.boxed (other_box h.b1) _ _ _, ((h.bel.setCell (by show w.heap.size ≤ w.heap.size + 1; omega) _).setCell (by show w.heap.size ≤ w.heap.size + 1; omega) _).setCell (by show w.heap.size ≤ w.heap.size + 1; omega) _⟩

set_option maxRecDepth 100000 in
set_option maxHeartbeats 8000000 in
theorem number_walk (g off c n : Nat) (bs : List Nat) (w : World) (hc : ∀ k, k < n → w.cell? ⟨g, off + k, none⟩ = some (.float .f64 (bs.getD k 0))) (hw : ∀ b ∈ bs, b < 18446744073709551616) (hn : bs.length = n) (hl : n ≤ 64) :
    Calls Try.prog 39 #[.slice (some ⟨g, off, none⟩) n c] w fun e w' => RfR w w' ((bs.map den).sum) e := by
  have HC : Hid (∀ k, k < n → w.cell? ⟨g, off + k, none⟩ = some (.float .f64 (bs.getD k 0))) := hc
  have HW : Hid (∀ b ∈ bs, b < 18446744073709551616) := hw
  have HN : Hid (bs.length = n) := hn
  have l1 : (n : Int) ≤ 64 := by omega
  clear hc hw hn hl
  go_enter Try.func39, Try.ntmps39
  go_wp2
  go_loopw [4] (fun i wr => ∃ (k : Nat) (S E : Int) (a : Option Addr) (l d : Nat), k ≤ n ∧ i = .int .i64 (k : Nat) ∧ Hid (NumW w wr S E (.slice a l d) (denL bs k))) (fun i _ => n - (intOf i).toNat)
  case atStart => exact ⟨0, 0, 0, none, 0, 0, Nat.zero_le _, rfl, NumW.start w⟩
  case round =>
    obtain ⟨k, S, E, a, l, d, hk, rfl, hz⟩ := hrel
    by_cases hlt : k < n
    · have hlt' : (k : Int) < (n : Int) := by omega
      have hk0 : (0 : Int) ≤ (k : Int) := by omega
      have hck := box_cell hz.out.bel (HC.out k hlt)
      obtain ⟨x, hx⟩ : ∃ x : Nat, Hid (bs.getD k 0 = x) := ⟨_, rfl⟩
      rw [hx.out] at hck
      have HX : Hid (x < 18446744073709551616) := by show x < _; rw [← hx.out]; exact getD_word HW.out k
      obtain ⟨c0, c1, c2, _, _⟩ := hz.out.b1.cells
      have HFT : Hid (Fit (denL bs k)) := (denL_bd bs k (by rw [HN.out]; omega)).mono (by omega) (by omega)
      go_wp2
      go_region_with (first
        | (go_at_call 20; refine (refOf_any x _ HX.out).mono ?_; rintro e w2 ⟨v2, rfl, hr2, hb2⟩; have HZ2 : Hid (NumW w w2 S E (.slice a l d) (denL bs k)) := hz.out.drew.later hb2; obtain ⟨d0, d1, d2, _, _⟩ := HZ2.out.b1.cells)
        | (go_at_call 19; refine (refAdd_any _ _ (denL bs k) (den x) _ HZ2.out.rf hr2 HFT.out (den_Fit x)).mono ?_; rintro e w3 ⟨v3, rfl, hr3, hb3⟩; obtain ⟨S3, a3, n3, c3, E3, rfl⟩ := hr3.agg; have HZ3 : Hid (NumW w w3 S E (.slice a l d) (denL bs k)) := HZ2.out.later hb3; obtain ⟨e0, e1, e2, ef, _⟩ := HZ3.out.b1.cells; have ef0 := ef 0; have ef1 := ef 1; have ef2 := ef 2; clear ef))
      all_goals go_wp2
      all_goals exact ⟨⟨k + 1, S3, E3, a3, n3, c3, by omega, by go_num, by rw [denL_succ (by rw [HN.out]; exact hlt), hx.out]; exact HZ3.out.set hr3⟩, by simp [intOf]; omega⟩
    · obtain rfl : k = n := by omega
      have hltb : decide ((k : Int) < (k : Int)) = false := decide_eq_false (by omega)
      obtain ⟨c0, c1, c2, _, _⟩ := hz.out.b1.cells
      obtain ⟨t0, t1, t2, tf, _⟩ := hz.out.b0.cells
      have tf0 := tf 0
      have tf1 := tf 1
      have tf2 := tf 2
      clear tf
      go_wp2
      refine bodyPost_ret (v := .agg #[.int .i64 S, .slice a l d, .int .i64 E]) (by simp [results, Try.results39, go_sem, t0, t1, t2]) rfl ?_
      have e : denL bs k = (bs.map den).sum := by unfold denL; rw [← HN.out, List.take_length]
      rw [← e]
      refine ⟨_, rfl, hz.out.rf.boxed (other_box hz.out.b0) _ _ _, ?_⟩
      exact ((hz.out.bel.setCell (Nat.le_refl _) _).setCell (Nat.le_refl _) _).setCell (Nat.le_refl _) _

set_option maxRecDepth 100000 in
set_option maxHeartbeats 1000000 in
theorem number_none (a : Option Addr) (c : Nat) (w : World) : Calls Try.prog 39 #[.slice a 0 c] w fun e w' => RfR w w' 0 e := by
  go_enter Try.func39, Try.ntmps39
  go_wp2
  go_loopw [4] (fun i wr => i = .int .i64 0 ∧ Hid (NumW w wr 0 0 (.slice none 0 0) 0)) (fun _ _ => 0)
  case atStart => exact ⟨rfl, NumW.start w⟩
  case round =>
    obtain ⟨rfl, hz⟩ := hrel
    obtain ⟨c0, c1, c2, _, _⟩ := hz.out.b1.cells
    obtain ⟨t0, t1, t2, tf, _⟩ := hz.out.b0.cells
    have tf0 := tf 0
    have tf1 := tf 1
    have tf2 := tf 2
    clear tf
    go_wp2
    refine bodyPost_ret (v := .agg #[.int .i64 0, .slice none 0 0, .int .i64 0]) (by simp [results, Try.results39, go_sem, t0, t1, t2]) rfl ?_
    refine ⟨_, rfl, rf_zero _, ?_⟩
    exact ((hz.out.bel.setCell (Nat.le_refl _) _).setCell (Nat.le_refl _) _).setCell (Nat.le_refl _) _
theorem den_sum {bs : List Nat} (h : ∀ b ∈ bs, Fin64 b) : (bs.map den).sum = (vals bs).sum := by
  unfold vals
  congr 1
  apply List.map_congr_left
  intro b hb
  exact den_fin (h b hb)
theorem number_any (s : Value) (bs : List Nat) (w : World) (h : Fs w s bs) (hl : bs.length ≤ 64) (hf : ∀ b ∈ bs, Fin64 b) : Calls Try.prog 39 #[s] w fun e w' => RfR w w' (vals bs).sum e := by
  obtain ⟨⟨a, c, rfl, hc, hm, hf'⟩, hw⟩ := h
  rcases hf' with rfl | ⟨g, off, rfl, hf'⟩
  · exact number_none a c w
  · rw [← den_sum hf]
    exact number_walk g off c bs.length bs w hf' hw rfl hl

end Go.Proofs.Ytglcngjllfgdpaa

/- The laws' helpers of package expand: long, same. -/
namespace Go.Proofs.Ytglcngjllfgdpaa
open Go.RowKit Go.Shelf
attribute [local go_sem ↓] Go.wp_at_zero Go.wp_at_succ

set_option maxRecDepth 100000 in
theorem long_any (a1 a2 : Option Addr) (n m c1 c2 : Nat) (w : World) : Calls Try.prog 35 #[.slice a1 n c1, .slice a2 m c2] w fun e w' => e = .returned (.bool (decide (200 < n ∨ 200 < m))) ∧ w' = w := by
  by_cases h1 : 200 < n
  · have hd : decide (200 < n ∨ 200 < m) = true := decide_eq_true (Or.inl h1)
    rw [hd]
    have h2 : decide (200 < (n : Int)) = true := decide_eq_true (by omega)
    clear hd h1
    go_enter Try.func35, Try.ntmps35
    go_wp2
    go_ret
    exact ⟨rfl, rfl⟩
  · have hd : decide (200 < n ∨ 200 < m) = decide (200 < (m : Int)) := by
      by_cases h : 200 < m
      · rw [decide_eq_true (Or.inr h), decide_eq_true (by omega)]
      · rw [decide_eq_false (by omega), decide_eq_false (by omega)]
    rw [hd]
    have h2 : decide (200 < (n : Int)) = false := decide_eq_false (by omega)
    clear hd h1
    go_enter Try.func35, Try.ntmps35
    go_wp2
    go_ret
    exact ⟨rfl, rfl⟩

set_option maxRecDepth 100000 in
set_option maxHeartbeats 4000000 in
theorem same_walk (n c1 c2 g1 o1 g2 o2 : Nat) (bs : List Nat) (w : World) (h1 : ∀ k, k < n → w.cell? ⟨g1, o1 + k, none⟩ = some (.float .f64 (bs.getD k 0))) (h2 : ∀ k, k < n → w.cell? ⟨g2, o2 + k, none⟩ = some (.float .f64 (bs.getD k 0))) (hn : n ≤ 1000) :
    Calls Try.prog 40 #[.slice (some ⟨g1, o1, none⟩) n c1, .slice (some ⟨g2, o2, none⟩) n c2] w fun e w' => e = .returned (.bool true) ∧ Below w.heap.size w w' := by
  have H1 : Hid (∀ k, k < n → w.cell? ⟨g1, o1 + k, none⟩ = some (.float .f64 (bs.getD k 0))) := h1
  have H2 : Hid (∀ k, k < n → w.cell? ⟨g2, o2 + k, none⟩ = some (.float .f64 (bs.getD k 0))) := h2
  have l1 : (n : Int) ≤ 1000 := by omega
  clear h1 h2 hn
  go_enter Try.func40, Try.ntmps40
  go_wp2
  go_loopw [5] (fun i wr => ∃ k : Nat, k ≤ n ∧ i = .int .i64 (k : Nat) ∧ Hid (Below w.heap.size w wr)) (fun i _ => n - (intOf i).toNat)
  case atStart => exact ⟨0, Nat.zero_le _, rfl, Below.refl _ _⟩
  case round =>
    obtain ⟨k, hk, rfl, hB⟩ := hrel
    by_cases hlt : k < n
    · have hlt' : (k : Int) < (n : Int) := by omega
      have hk0 : (0 : Int) ≤ (k : Int) := by omega
      have c1 := box_cell hB.out (H1.out k hlt)
      have c2 := box_cell hB.out (H2.out k hlt)
      generalize bs.getD k 0 = x at c1 c2
      by_cases hx : frung x ≤ 9218868437227405312
      · have q : FloatKind.f64.format.order x x = some .eq := by have := eql_self x; rw [decide_eq_true hx] at this; simpa using this
        clear hx
        go_wp2
        go_region
        go_wp2
        exact ⟨⟨k + 1, by omega, by go_num, hB.out.drew⟩, by simp [intOf]; omega⟩
      · have q : FloatKind.f64.format.order x x = none := order_nan_left (by omega)
        clear hx
        go_wp2
        go_region_held3 (fun W => W.cell? ⟨g1, o1 + k, none⟩ = some (.float .f64 x) ∧ W.cell? ⟨g2, o2 + k, none⟩ = some (.float .f64 x))
          (first | assumption | exact ⟨by go_simp, by go_simp⟩)
          (fail)
        go_wp2
        exact ⟨⟨k + 1, by omega, by go_num, hB.out.drew⟩, by simp [intOf]; omega⟩
    · obtain rfl : k = n := by omega
      have hltb : decide ((k : Int) < (k : Int)) = false := decide_eq_false (by omega)
      go_wp2
      go_ret
      exact ⟨rfl, hB.out⟩

set_option maxRecDepth 100000 in
set_option maxHeartbeats 1000000 in
theorem same_none (a1 a2 : Option Addr) (c1 c2 : Nat) (w : World) : Calls Try.prog 40 #[.slice a1 0 c1, .slice a2 0 c2] w fun e w' => e = .returned (.bool true) ∧ w' = w := by
  go_enter Try.func40, Try.ntmps40
  go_wp2
  go_loop [5] (fun i => i = .int .i64 0) (fun _ => 0)
  case atStart => exact rfl
  case round =>
    obtain rfl := hrel
    go_wp2
    go_ret
    exact ⟨rfl, rfl⟩
theorem same_any (s s2 : Value) (bs : List Nat) (w : World) (h1 : Fs w s bs) (h2 : Fs w s2 bs) (hl : bs.length ≤ 1000) : Calls Try.prog 40 #[s, s2] w fun e w' => e = .returned (.bool true) ∧ Below w.heap.size w w' := by
  obtain ⟨⟨a1, c1, rfl, _, _, f1⟩, _⟩ := h1
  obtain ⟨⟨a2, c2, rfl, _, _, f2⟩, _⟩ := h2
  rcases f1 with rfl | ⟨g1, o1, rfl, f1⟩
  · refine (same_none a1 a2 c1 c2 w).mono ?_
    rintro e w' ⟨rfl, rfl⟩
    exact ⟨rfl, Below.refl _ _⟩
  · rcases f2 with rfl | ⟨g2, o2, rfl, f2⟩
    · refine (same_none _ a2 c1 c2 w).mono ?_
      rintro e w' ⟨rfl, rfl⟩
      exact ⟨rfl, Below.refl _ _⟩
    · exact same_walk bs.length c1 c2 g1 o1 g2 o2 bs w f1 f2 hl

end Go.Proofs.Ytglcngjllfgdpaa

/- The laws' helpers of package expand: near. -/
namespace Go.Proofs.Ytglcngjllfgdpaa
open Go.RowKit Go.Shelf
attribute [local go_sem ↓] Go.wp_at_zero Go.wp_at_succ

theorem keepN7 {w W W' : World} {p1 p2 p3 p4 p5 p6 p7 : Addr} {x1 x2 x3 x4 x5 x6 x7 : Value} (h : W.cell? p1 = some x1 ∧ W.cell? p2 = some x2 ∧ W.cell? p3 = some x3 ∧ W.cell? p4 = some x4 ∧ W.cell? p5 = some x5 ∧ W.cell? p6 = some x6 ∧ W.cell? p7 = some x7 ∧ Below w.heap.size w W) (hb : Below W.heap.size W W') :
    W'.cell? p1 = some x1 ∧ W'.cell? p2 = some x2 ∧ W'.cell? p3 = some x3 ∧ W'.cell? p4 = some x4 ∧ W'.cell? p5 = some x5 ∧ W'.cell? p6 = some x6 ∧ W'.cell? p7 = some x7 ∧ Below w.heap.size w W' :=
  ⟨box_cell hb h.1, box_cell hb h.2.1, box_cell hb h.2.2.1, box_cell hb h.2.2.2.1, box_cell hb h.2.2.2.2.1, box_cell hb h.2.2.2.2.2.1, box_cell hb h.2.2.2.2.2.2.1, below_step h.2.2.2.2.2.2.2 hb⟩
theorem Bd.ab {h l : Int} {q : Rat} (hb : Bd h l q) : Bd h l (if q < 0 then -q else q) := by
  split
  · exact hb.neg
  · exact hb
theorem p2_50 : p2 50 = 1125899906842624 := by rw [show (50 : Int) = ((50 : Nat) : Int) from rfl, p2_nat]; rfl
theorem sgq_le {q : Rat} (h : q ≤ 0) : sgq q ≤ 0 := by
  unfold sgq
  split
  · omega
  · split
    · omega
    · grind

set_option maxRecDepth 100000 in
set_option maxHeartbeats 8000000 in
theorem near_law (x : Nat) (v : Value) (q : Rat) (w : World) (hx : x < 18446744073709551616) (fx : Fin64 x) (hv : Rf w v q) (hq : Bd 2000 (-1074) q) (hn : NearS x q) :
    Calls Try.prog 43 #[.float .f64 x, v] w fun e w' => e = .returned (.bool true) ∧ Below w.heap.size w w' := by
  obtain ⟨S, a, n, c, E, rfl, hs⟩ := hv.sgn
  obtain ⟨z, hz1, hz2⟩ := self_sub fx
  have rs : ∀ w, (binOp .sub 22 (.float .f64 x) (.float .f64 x)).run Try.prog w = .ok (.float .f64 z) w := fun w => run_float_arith w .sub _ .f64 _ _ _ hz1
  have q0 := order_nan_self fx
  have HS : Hid (S = sgq q) := sgq_of hs
  have HV : Hid (Rf w (.agg #[.int .i64 S, .slice a n c, .int .i64 E]) q) := hv
  have HQ : Hid (Bd 2000 (-1074) q ∧ x < 18446744073709551616 ∧ Fin64 x ∧ NearS x q) := ⟨hq, hx, fx, hn⟩
  have HFQ : Hid (Fit q) := hq.mono (by omega) (by omega)
  clear hs hz1 hv hq hx fx hn
  go_enter Try.func43, Try.ntmps43
  go_wp2_with fail
  refine (refOf_any x _ HQ.out.2.1).mono ?_
  rintro e w1 ⟨v1, rfl, hr1, hb1⟩
  obtain ⟨S1, a1, n1, c1, E1, rfl, hs1⟩ := hr1.sgn
  have e1 : S1 = S := by rw [sgq_of hs1, HS.out, den_fin HQ.out.2.2.1]; exact HQ.out.2.2.2.2
  subst e1
  have HB1 : Hid (Below w.heap.size w w1) := below_step ((Below.refl _ w).alloc (Nat.le_refl _) _) hb1
  have X1 : Hid (BoxN w1 w.heap.size S1 (.slice a n c) E) := (BoxN.new w S1 E (.slice a n c)).later hb1
  have R1 : Hid (Rf w1 (.agg #[.int .i64 S1, .slice a1 n1 c1, .int .i64 E1]) (den x)) := hr1
  obtain ⟨u0, u1, u2, _, _⟩ := X1.out.cells
  clear hs1 hr1 hb1 rs q0 hz2
  go_wp2_with fail
  refine (sub_rf _ _ (den x) q _ (R1.out.later ((Below.refl _ w1).alloc (Nat.le_refl _) _)) (HV.out.later (HB1.out.alloc HB1.out.size _)) (den_Fit x) HFQ.out).mono ?_
  rintro e w2 ⟨v2, rfl, hr2, hb2⟩
  have HB2 : Hid (Below w1.heap.size w1 w2) := below_step ((Below.refl _ w1).alloc (Nat.le_refl _) _) hb2
  have X2 : Hid (BoxN w2 w1.heap.size S1 (.slice a1 n1 c1) E1) := (BoxN.new w1 S1 E1 (.slice a1 n1 c1)).later hb2
  have R2 : Hid (Rf w2 v2 (den x - q)) := hr2
  clear hr2 hb2 u0 u1 u2
  go_wp2_with fail
  refine (abs_rf v2 (den x - q) _ R2.out).mono ?_
  rintro e w3 ⟨v3, rfl, hr3, hb3⟩
  obtain ⟨S3, a3, n3, c3, E3, rfl, _⟩ := hr3.sgn
  have HAL : Hid (Below w3.heap.size w3 (w3.alloc (.cells #[.int .i64 S3, .slice a3 n3 c3, .int .i64 E3] 33))) := (Below.refl _ w3).alloc (Nat.le_refl _) _
  have HB3 : Hid (Below w2.heap.size w2 w3) := hb3
  have R3 : Hid (Rf w3 (.agg #[.int .i64 S3, .slice a3 n3 c3, .int .i64 E3]) (ab (den x - q))) := hr3
  obtain ⟨y0, y1, y2, _, _⟩ := (((X1.out.later HB2.out).later HB3.out).later HAL.out).cells
  obtain ⟨z0, _, _, _, _⟩ := ((X2.out.later HB3.out).later HAL.out).cells
  have HBW : Hid (Below w.heap.size w w3) := below_step (below_step HB1.out HB2.out) HB3.out
  obtain ⟨A, hA⟩ : ∃ A, Hid (sgq (ab (den x - q) * (((1 : Nat) : Rat) * p2 50) - (if q < 0 then -q else q)) = A) := ⟨_, rfl⟩
  have hA0 : A ≤ 0 := by
    rw [← hA.out]
    apply sgq_le
    have h1 := HQ.out.2.2.2.1
    rw [p2_50, show ((1 : Nat) : Rat) = 1 from rfl, den_fin HQ.out.2.2.1]
    have h2 : ab q = if q < 0 then -q else q := rfl
    rw [← h2]
    grind
  have HF1 : Hid (Fit (ab (den x - q) * (((1 : Nat) : Rat) * p2 50))) := by
    have h1 : Bd 2001 (-1074) (den x - q) := ((den_fit x).mono (show (1024 : Int) ≤ 2000 by omega) (Int.le_refl _)).sub HQ.out.1
    have h2 : Bd 2001 (-1074) (ab (den x - q)) := h1.ab
    rw [show ((1 : Nat) : Rat) * p2 50 = p2 50 by rw [show ((1 : Nat) : Rat) = 1 from rfl]; grind]
    exact (h2.shift 50).mono (by omega) (by omega)
  have HF2 : Hid (Fit (if q < 0 then -q else q)) := HQ.out.1.ab.mono (by omega) (by omega)
  have HF3 : Hid (Fit (ab (den x - q))) := by
    have h1 : Bd 2001 (-1074) (den x - q) := ((den_fit x).mono (show (1024 : Int) ≤ 2000 by omega) (Int.le_refl _)).sub HQ.out.1
    exact (Bd.ab h1).mono (by omega) (by omega)
  clear hr3 hb3
  go_wp2
  go_region_held3 (fun W => W.cell? ⟨w.heap.size, 0, none⟩ = some (.int .i64 S1) ∧ W.cell? ⟨w.heap.size, 1, none⟩ = some (.slice a n c) ∧ W.cell? ⟨w.heap.size, 2, none⟩ = some (.int .i64 E) ∧ W.cell? ⟨w1.heap.size, 0, none⟩ = some (.int .i64 S1) ∧ W.cell? ⟨w3.heap.size, 0, none⟩ = some (.int .i64 S3) ∧ W.cell? ⟨w3.heap.size, 1, none⟩ = some (.slice a3 n3 c3) ∧ W.cell? ⟨w3.heap.size, 2, none⟩ = some (.int .i64 E3) ∧ Below w3.heap.size w3 W)
    (first
      | assumption
      | exact ⟨by go_simp, by go_simp, by go_simp, by go_simp, by go_simp, by go_simp, by go_simp, HAL.out.drew⟩
      | exact keepN7 (by assumption) (by assumption))
    (first
      | (go_at_call 60; refine (power_walk 1 50 _ (by omega) (by omega) (by omega)).mono ?_; rintro e wA ⟨vA, rfl, hrA, hbA⟩)
      | (go_at_call 22; refine (mul_rf _ _ (ab (den x - q)) (((1 : Nat) : Rat) * p2 50) _ (R3.out.later (by exact (by assumption : _ ∧ _ ∧ _ ∧ _ ∧ _ ∧ _ ∧ _ ∧ Below w3.heap.size w3 _).2.2.2.2.2.2.2)) hrA HF3.out (pow_fit 1 50 (by omega) (by omega) (by omega))).mono ?_; rintro e wB ⟨vB, rfl, hrB, hbB⟩)
      | (go_at_call 78; refine (abs_rf _ q _ (HV.out.later (below_step HBW.out (by exact (by assumption : _ ∧ _ ∧ _ ∧ _ ∧ _ ∧ _ ∧ _ ∧ Below w3.heap.size w3 _).2.2.2.2.2.2.2)))).mono ?_; rintro e wC ⟨vC, rfl, hrC, hbC⟩)
      | (go_at_call 18; refine (cmp_is _ _ (ab (den x - q) * (((1 : Nat) : Rat) * p2 50)) (if q < 0 then -q else q) A _ (hrB.later hbC) hrC HF1.out HF2.out hA.out).mono ?_; rintro e wD ⟨rfl, hbD⟩))
  have hBf := (by assumption : _ ∧ _ ∧ _ ∧ _ ∧ _ ∧ _ ∧ _ ∧ Below w3.heap.size w3 _).2.2.2.2.2.2.2
  have HBF : Hid (Below w.heap.size w wD) := below_step HBW.out hBf
  clear hrA hrB hrC hbA hbB hbC hbD hBf
  go_wp2
  go_ret
  exact ⟨rfl, HBF.out⟩

end Go.Proofs.Ytglcngjllfgdpaa

/- The laws' helpers of package expand: has. -/
namespace Go.Proofs.Ytglcngjllfgdpaa
open Go.RowKit Go.Shelf
attribute [local go_sem ↓] Go.wp_at_zero Go.wp_at_succ

theorem vals_bd {bs : List Nat} (hl : bs.length ≤ 64) (h : ∀ b ∈ bs, Fin64 b) : Bd 1088 (-1074) (vals bs).sum := by
  have := denL_bd bs bs.length (Nat.le_refl _)
  unfold denL at this
  rw [List.take_length, den_sum h] at this
  exact this.mono (by omega) (Int.le_refl _)

set_option maxRecDepth 100000 in
set_option maxHeartbeats 4000000 in
/-- An answer that may be and has the number asked for. -/
theorem has_law (s v : Value) (bs : List Nat) (q : Rat) (w : World) (hs : Fs w s bs) (hv : Rf w v q) (hm : MayC bs) (hq : (vals bs).sum = q) :
    Calls Try.prog 38 #[s, v] w fun e w' => e = .returned (.bool true) ∧ Below w.heap.size w w' := by
  obtain ⟨S, a, n, c, E, rfl, _⟩ := hv.sgn
  have H : Hid (Fs w s bs) := hs
  have HV : Hid (Rf w (.agg #[.int .i64 S, .slice a n c, .int .i64 E]) q) := hv
  have HM : Hid (MayC bs ∧ (vals bs).sum = q ∧ ∀ b ∈ bs, Fin64 b) := ⟨hm, hq, (check_up hm).fin⟩
  have HFQ : Hid (Fit q) := by rw [← hq]; exact (vals_bd hm.1 (check_up hm).fin).mono (by omega) (by omega)
  have HAL : Hid (Below w.heap.size w (w.alloc (.cells #[.int .i64 S, .slice a n c, .int .i64 E] 33))) := (Below.refl _ w).alloc (Nat.le_refl _) _
  clear hs hv hm hq
  go_enter Try.func38, Try.ntmps38
  go_wp2
  go_region_held3 (fun W => W.cell? ⟨w.heap.size, 0, none⟩ = some (.int .i64 S) ∧ W.cell? ⟨w.heap.size, 1, none⟩ = some (.slice a n c) ∧ W.cell? ⟨w.heap.size, 2, none⟩ = some (.int .i64 E) ∧ Below w.heap.size w W)
    (first
      | assumption
      | exact ⟨by go_simp, by go_simp, by go_simp, HAL.out.drew⟩
      | exact keepN3 (by assumption) (by assumption))
    (first
      | (go_at_call 41; refine (refCheck3_any s bs _ (H.out.later (by exact (by assumption : _ ∧ _ ∧ _ ∧ Below w.heap.size w _).2.2.2))).mono ?_; rintro e wA ⟨⟨t, rfl, ht⟩, hbA⟩; obtain rfl := ht.2 HM.out.1; clear ht)
      | (go_at_call 39; refine (number_any s bs _ (H.out.later (by exact (by assumption : _ ∧ _ ∧ _ ∧ Below w.heap.size w _).2.2.2)) HM.out.1.1 HM.out.2.2).mono ?_; rintro e wB ⟨vB, rfl, hrB, hbB⟩)
      | (go_at_call 18; refine (cmp_same _ _ (vals bs).sum q _ hrB (HV.out.later (by exact (by assumption : _ ∧ _ ∧ _ ∧ Below w.heap.size w _).2.2.2)) (by rw [HM.out.2.1]; exact HFQ.out) HFQ.out HM.out.2.1).mono ?_; rintro e wC ⟨rfl, hbC⟩))
  have hBf := (by assumption : _ ∧ _ ∧ _ ∧ Below w.heap.size w _).2.2.2
  have HBF : Hid (Below w.heap.size w wC) := hBf
  clear hbA hrB hbB hbC hBf
  go_wp2
  go_ret
  exact ⟨rfl, HBF.out⟩

end Go.Proofs.Ytglcngjllfgdpaa
