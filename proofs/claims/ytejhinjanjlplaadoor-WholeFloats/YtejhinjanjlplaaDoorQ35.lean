/- Own texts, put together: Hd. -/
import Derived.Test.YtejhinjanjlplaaDoorQ34
/- The reference's Rounds: is a float the one nearest to a number? -/
namespace Go.Proofs.YtejhinjanjlplaaDoor
open Go.RowKit
attribute [local go_sem ↓] Go.wp_at_zero Go.wp_at_succ
theorem BoxN.later {w w' : World} {b : Nat} {S E : Int} {sv : Value} (h : BoxN w b S sv E) (hb : Below w.heap.size w w') : BoxN w' b S sv E := h.block (hb.block _ h.cells.2.2.2.2)
theorem BoxN.other3 {W : World} {b b' : Nat} {S E : Int} {sv : Value} (h : BoxN W b' S sv E) (hne : b' ≠ b) (x y z : Value) : BoxN (((W.setCell ⟨b, 0, none⟩ x).setCell ⟨b, 1, none⟩ y).setCell ⟨b, 2, none⟩ z) b' S sv E := ((h.other hne x).other hne y).other hne z
theorem BoxN.set3 {W : World} {b : Nat} {S E S' E' : Int} {sv sv' : Value} (h : BoxN W b S sv E) : BoxN (((W.setCell ⟨b, 0, none⟩ (.int .i64 S')).setCell ⟨b, 1, none⟩ sv').setCell ⟨b, 2, none⟩ (.int .i64 E')) b S' sv' E' := by
 unfold BoxN at *
 simp [World.setCell, Array.getElem?_modify, h]
theorem BoxN.new (W : World) (S E : Int) (sv : Value) : BoxN (W.alloc (.cells #[.int .i64 S, sv, .int .i64 E] 36)) W.heap.size S sv E := heap_alloc_new W _
theorem below_num3 {w W : World} {b : Nat} (h : Below w.heap.size w W) (hb : w.heap.size ≤ b) (x y z : Value) : Below w.heap.size w (((W.setCell ⟨b, 0, none⟩ x).setCell ⟨b, 1, none⟩ y).setCell ⟨b, 2, none⟩ z) := ((h.setCell hb _).setCell hb _).setCell hb _
theorem keepN9 {w W W' : World} {p1 p2 p3 p4 p5 p6 p7 p8 p9 : Addr} {x1 x2 x3 x4 x5 x6 x7 x8 x9 : Value} (h : W.cell? p1 = some x1 ∧ W.cell? p2 = some x2 ∧ W.cell? p3 = some x3 ∧ W.cell? p4 = some x4 ∧ W.cell? p5 = some x5 ∧ W.cell? p6 = some x6 ∧ W.cell? p7 = some x7 ∧ W.cell? p8 = some x8 ∧ W.cell? p9 = some x9 ∧ Below w.heap.size w W) (hb : Below W.heap.size W W') :
   W'.cell? p1 = some x1 ∧ W'.cell? p2 = some x2 ∧ W'.cell? p3 = some x3 ∧ W'.cell? p4 = some x4 ∧ W'.cell? p5 = some x5 ∧ W'.cell? p6 = some x6 ∧ W'.cell? p7 = some x7 ∧ W'.cell? p8 = some x8 ∧ W'.cell? p9 = some x9 ∧ Below w.heap.size w W' :=
 ⟨box_cell hb h.1, box_cell hb h.2.1, box_cell hb h.2.2.1, box_cell hb h.2.2.2.1, box_cell hb h.2.2.2.2.1, box_cell hb h.2.2.2.2.2.1, box_cell hb h.2.2.2.2.2.2.1, box_cell hb h.2.2.2.2.2.2.2.1, box_cell hb h.2.2.2.2.2.2.2.2.1, h.2.2.2.2.2.2.2.2.2.trans (hb.mono h.2.2.2.2.2.2.2.2.2.size)⟩
theorem canon_E {S S' E E' : Int} {ds ds' : List Nat} (k : Canon S ds E) (k' : Canon S' ds' E') (s : ∀ d ∈ ds, d < 16777216) (s' : ∀ d ∈ ds', d < 16777216) (h : (S : Rat) * mag ds E = (S' : Rat) * mag ds' E') (h0 : (S : Rat) * mag ds E ≠ 0) : E = E' := by
 have key : ∀ (S S' E E' : Int) (ds ds' : List Nat), Canon S ds E → Canon S' ds' E' → (∀ d ∈ ds, d < 16777216) → (S : Rat) * mag ds E = (S' : Rat) * mag ds' E' → (S : Rat) * mag ds E ≠ 0 → E' ≤ E := by
   intro S S' E E' ds ds' k k' s h h0
   rcases k with ⟨rfl, rfl, rfl⟩ | ⟨n1, s1, f1, t1⟩
   · exfalso; exact h0 (by rw [mag_nil]; grind)
   · have hm : ∃ n : Int, mag ds E = (n : Rat) * p2 (24 * E') := by
       refine ⟨S * S' * (v24 ds' : Nat), ?_⟩
       have e : mag ds E = (S : Rat) * ((S' : Rat) * mag ds' E') := by
         rw [← h]
         rcases s1 with rfl | rfl
         · rw [show ((1 : Int) : Rat) = 1 from rfl]; grind
         · rw [show ((-1 : Int) : Rat) = -1 from rfl]; grind
       rw [e]
       unfold mag
       rw [Rat.intCast_mul, Rat.intCast_mul]
       show _ = (S : Rat) * (S' : Rat) * ((v24 ds' : Nat) : Rat) * p2 (24 * E')
       grind
     have := mag_low s f1 hm
     omega
 have a := key S S' E E' ds ds' k k' s h h0
 have b := key S' S E' E ds' ds k' k s' h.symm (by rw [← h]; exact h0)
 omega
theorem cmp_less (v1 v2 : Value) (q1 q2 : Rat) (w : World) (h1 : Rf w v1 q1) (h2 : Rf w v2 q2) (b1 : Fit q1) (b2 : Fit q2) (hq : q1 < q2) : Calls Tryd.prog 30 #[v1, v2] w fun e w' => e = .returned (.int .i64 (-1)) ∧ Below w.heap.size w w' := by
 have h := cmp_rf v1 v2 q1 q2 w h1 h2 b1 b2
 have e : sgq (q1 - q2) = -1 := by unfold sgq; rw [if_pos (by grind)]
 rwa [e] at h
theorem cmp_is (v1 v2 : Value) (q1 q2 : Rat) (A : Int) (w : World) (h1 : Rf w v1 q1) (h2 : Rf w v2 q2) (b1 : Fit q1) (b2 : Fit q2) (hq : sgq (q1 - q2) = A) : Calls Tryd.prog 30 #[v1, v2] w fun e w' => e = .returned (.int .i64 A) ∧ Below w.heap.size w w' := by
 have h := cmp_rf v1 v2 q1 q2 w h1 h2 b1 b2
 rwa [hq] at h
theorem pow_fit (n : Nat) (k : Int) (hn : n < 18446744073709551616) (h1 : -4000 ≤ k) (h2 : k ≤ 4000) : Fit ((n : Nat) * p2 k) := by
 refine Bd.mono (h := 64 + k) (l := 0 + k) ⟨?_, ?_, (n : Int), ?_⟩ (by omega) (by omega)
 · rw [p2_add]
   refine Rat.mul_lt_mul_of_pos_right ?_ (p2_pos k)
   rw [show (64 : Int) = ((64 : Nat) : Int) from rfl, p2_nat]
   exact Rat.natCast_lt_natCast.2 hn
 · have a := p2_pos (64 + k)
   have b := Rat.mul_nonneg (Rat.natCast_nonneg : (0 : Rat) ≤ (n : Nat)) (Rat.le_of_lt (p2_pos k))
   grind
 · rw [show 0 + k = k by omega]; rfl
structure RXh (q : Rat) (x r : Nat) : Prop where
 near : (q = 0 ∧ r = 0) ∨ (0 < q ∧ Near q r)
 word : x = r ∨ (x = 9223372036854775808 ∧ r = 0)
 lim : r + 1 < 9218868437227405311
set_option maxRecDepth 100000 in
set_option maxHeartbeats 8000000 in
theorem rounds_zero (v : Value) (q : Rat) (x r : Nat) (w : World) (hv : Rf w v q) (hq : Fit q) (hq2 : Fit (2 * q)) (hlim : q < p2 1010) (hx : RXh q x r) (h0 : r = 0) : Calls Tryd.prog 11 #[v, .float .f64 x] w fun e w' => e = .returned (.bool true) ∧ Below w.heap.size w w' := by
 obtain ⟨S, a, n, c, E, rfl, hs⟩ := hv.sgn
 have hq0 : 0 ≤ q := by rcases hx.near with ⟨h, _⟩ | ⟨h, _⟩ <;> grind
 have hS : decide (S < 0) = false := decide_eq_false (by rcases hs with ⟨h, _⟩ | ⟨h, _⟩ | ⟨_, h⟩ <;> first | omega | (exfalso; grind))
 have hr := hx.lim
 have fx : Fin64 x := by rcases hx.word with rfl | ⟨rfl, _⟩ <;> unfold Fin64 frung <;> omega
 have hxl : x < 18446744073709551616 := by rcases hx.word with h | ⟨h, _⟩ <;> omega
 have dx : den x = fval r := by
   rw [den_fin fx]
   rcases hx.word with rfl | ⟨rfl, rfl⟩
   · rfl
   · rw [fval0]; exact fval_zero_iff.2 (by decide)
 have f1 : Fin64 (r + 1) := fin_small (by omega)
 have d1 : den (r + 1) = fval (r + 1) := den_fin f1
 have l1 : fval r < fval (r + 1) := fval_lt (by omega) (by omega)
 have vx : fval x = fval r := by rw [← den_fin fx]; exact dx
 obtain ⟨n0, s1, s2⟩ := self_sub fx
 have rs : ∀ w, (binOp .sub 22 (.float .f64 x) (.float .f64 x)).run Tryd.prog w = .ok (.float .f64 n0) w := fun w => run_float_arith w .sub _ .f64 _ _ _ s1
 have o1 : FloatKind.f64.format.order x x = some .eq := by rw [order_val fx fx, if_neg (by grind), if_pos rfl]
 have o2 : FloatKind.f64.format.order (r + 1) x = some .gt := by rw [order_val f1 fx, vx, if_neg (by grind), if_neg (by grind)]
 have HN : Hid (∀ w, Calls Tryd.prog 31 #[.float .f64 x, .float .f64 9218868437227405311] w fun e w' => e = .returned (.float .f64 (r + 1)) ∧ w' = w) := by
   intro w
   by_cases h0 : r = 0
   · subst h0
     exact next_zero x w (by rcases hx.word with h | ⟨h, _⟩; exact Or.inl h; exact Or.inr h)
   · obtain rfl : x = r := hx.word.resolve_right (fun h => h0 h.2)
     exact next_up x w (by omega) h0
 have hbw : 0 < q → 2 * q ≤ fval r + fval (r + 1) ∧ (2 * q = fval r + fval (r + 1) → r % 2 = 0) ∧ (r ≠ 0 → fval r + fval (r - 1) ≤ 2 * q ∧ (2 * q = fval r + fval (r - 1) → r % 2 = 0)) := fun h => near_between ((hx.near.resolve_left (by rintro ⟨rfl, _⟩; grind)).2) h (by omega)
 have t2 : ((2 : Nat) : Rat) * p2 0 = 2 := by rw [p2_zero, show ((2 : Nat) : Rat) = 2 from rfl]; grind
 have HAB : Hid (sgq (((2 : Nat) : Rat) * p2 0 * q - (den x + den (r + 1))) = -1 ∨ (sgq (((2 : Nat) : Rat) * p2 0 * q - (den x + den (r + 1))) = 0 ∧ r % 2 = 0)) := by
   rw [t2, dx, d1]
   show _ ∨ _
   unfold sgq
   by_cases h : 2 * q < fval r + fval (r + 1)
   · left; rw [if_pos (by grind)]
   · have hp : 0 < q := by
       rcases hx.near with ⟨rfl, rfl⟩ | ⟨h, _⟩
       · exfalso; rw [fval0] at *; grind
       · exact h
     have hb := hbw hp
     right
     rw [if_neg (by grind), if_pos (by grind)]
     exact ⟨rfl, hb.2.1 (by grind)⟩
 have HEV : Hid (r % 2 = 0 → (((x : Int) % 2) == 0) = true) := by
   intro h
   rcases hx.word with rfl | ⟨rfl, _⟩
   · simp; omega
   · decide
 have rb := run_bits x
 have HFQ : Hid (Fit q) := hq
 have HF2 : Hid (Fit (((2 : Nat) : Rat) * p2 0 * q)) := by rw [t2]; exact hq2
 have HFU : Hid (Fit (den x + den (r + 1))) := (Bd.add (den_fit x) (den_fit (r + 1))).mono (by omega) (by omega)
 have HXL : Hid (x < 18446744073709551616) := hxl
 have HG : Hid (q < ((18014398509481983 : Nat) : Rat) * p2 970) := by
   have e1 : p2 1010 ≤ ((18014398509481983 : Nat) : Rat) * p2 970 := by
     have e : p2 1010 = ((1099511627776 : Nat) : Rat) * p2 970 := by rw [show (1010 : Int) = ((40 : Nat) : Int) + 970 by omega, p2_add, p2_nat]
     rw [e]
     exact Rat.mul_le_mul_of_nonneg_right (Rat.natCast_le_natCast.2 (by omega)) (Rat.le_of_lt (p2_pos _))
   show _ < _
   grind
 have HR1 : Hid (r + 1 < 9218868437227405311) := hr
 have HX : Hid (RXh q x r) := hx
 have HBWX : Hid (0 < q → 2 * q ≤ fval r + fval (r + 1) ∧ (2 * q = fval r + fval (r + 1) → r % 2 = 0) ∧ (r ≠ 0 → fval r + fval (r - 1) ≤ 2 * q ∧ (2 * q = fval r + fval (r - 1) → r % 2 = 0))) := hbw
 have HDX : Hid (den x = fval r) := dx
 have HT2 : Hid (((2 : Nat) : Rat) * p2 0 = 2) := t2
 have hal0 : Below w.heap.size w (w.alloc (.cells #[.int .i64 S, .slice a n c, .int .i64 E] 36)) := (Below.refl _ _).alloc (Nat.le_refl _) _
 have RA0 : Hid (Rf (w.alloc (.cells #[.int .i64 S, .slice a n c, .int .i64 E] 36)) (.agg #[.int .i64 S, .slice a n c, .int .i64 E]) q) := hv.later hal0
 have HA0 : Hid (BoxN (w.alloc (.cells #[.int .i64 S, .slice a n c, .int .i64 E] 36)) w.heap.size S (.slice a n c) E) := BoxN.new w S E _
 have HB0 : Hid (Below w.heap.size w (w.alloc (.cells #[.int .i64 S, .slice a n c, .int .i64 E] 36))) := hal0
 have hq0' : Hid (0 ≤ q) := hq0
 have ox0 : FloatKind.f64.format.order x 0 = some .eq := by
   rw [order_val fx fin0, vx, fval0, h0, fval0, if_neg (by grind), if_pos rfl]
 have H0 : Hid (r = 0) := h0
 clear hv hq hq2 hlim hx hs hq0 hr fx hxl dx f1 d1 l1 vx s1 hbw t2 hal0 h0
 go_enter Tryd.func11, Tryd.ntmps11
 go_wp2_with fail
 refine (power_walk 18014398509481983 970 _ (by omega) (by omega) (by omega)).mono ?_
 rintro e w1 ⟨v1, rfl, hr1, hb1⟩
 obtain ⟨S1, a1, n1, c1, E1, rfl⟩ := hr1.agg
 have hal : Below w1.heap.size w1 (w1.alloc (.cells #[.int .i64 S1, .slice a1 n1 c1, .int .i64 E1] 36)) := (Below.refl _ _).alloc (Nat.le_refl _) _
 have R1 : Hid (Rf (w1.alloc (.cells #[.int .i64 S1, .slice a1 n1 c1, .int .i64 E1] 36)) (.agg #[.int .i64 S1, .slice a1 n1 c1, .int .i64 E1]) (((18014398509481983 : Nat) : Rat) * p2 970)) := hr1.later hal
 have RA1 : Hid (Rf (w1.alloc (.cells #[.int .i64 S1, .slice a1 n1 c1, .int .i64 E1] 36)) (.agg #[.int .i64 S, .slice a n c, .int .i64 E]) q) := (RA0.out.later hb1).later hal
 have HA1 : Hid (BoxN (w1.alloc (.cells #[.int .i64 S1, .slice a1 n1 c1, .int .i64 E1] 36)) w.heap.size S (.slice a n c) E) := (HA0.out.later hb1).later hal
 have HB1 : Hid (Below w.heap.size w (w1.alloc (.cells #[.int .i64 S1, .slice a1 n1 c1, .int .i64 E1] 36))) := HB0.out.trans ((hb1.trans (hal.mono hb1.size)).mono HB0.out.size)
 obtain ⟨za0, za1, za2, _, zal⟩ := (HA0.out.later hb1).cells
 clear hr1 hb1 hal
 go_wp2_with fail
 refine (cmp_less _ _ q _ _ RA1.out R1.out HFQ.out (pow_fit _ 970 (by omega) (by omega) (by omega)) HG.out).mono ?_
 rintro e w2 ⟨rfl, hb2⟩
 have RA2 : Hid (Rf w2 (.agg #[.int .i64 S, .slice a n c, .int .i64 E]) q) := RA1.out.later hb2
 have HA2 : Hid (BoxN w2 w.heap.size S (.slice a n c) E) := HA1.out.later hb2
 have HB2 : Hid (Below w.heap.size w w2) := HB1.out.trans (hb2.mono HB1.out.size)
 clear hb2 RA1 HA1 HB1 R1 za0 za1 za2 zal
 go_wp2_with fail
 refine (power_walk 1 1024 _ (by omega) (by omega) (by omega)).mono ?_
 rintro e w3 ⟨v3, rfl, hr3, hb3⟩
 obtain ⟨S3, a3, n3, c3, E3, rfl⟩ := hr3.agg
 have hal : Below w3.heap.size w3 (w3.alloc (.cells #[.int .i64 S3, .slice a3 n3 c3, .int .i64 E3] 36)) := (Below.refl _ _).alloc (Nat.le_refl _) _
 have RA3 : Hid (Rf (w3.alloc (.cells #[.int .i64 S3, .slice a3 n3 c3, .int .i64 E3] 36)) (.agg #[.int .i64 S, .slice a n c, .int .i64 E]) q) := (RA2.out.later hb3).later hal
 have HA3 : Hid (BoxN (w3.alloc (.cells #[.int .i64 S3, .slice a3 n3 c3, .int .i64 E3] 36)) w.heap.size S (.slice a n c) E) := (HA2.out.later hb3).later hal
 have HU3 : Hid (BoxN (w3.alloc (.cells #[.int .i64 S3, .slice a3 n3 c3, .int .i64 E3] 36)) w3.heap.size S3 (.slice a3 n3 c3) E3) := BoxN.new w3 S3 E3 _
 have HB3 : Hid (Below w.heap.size w (w3.alloc (.cells #[.int .i64 S3, .slice a3 n3 c3, .int .i64 E3] 36))) := HB2.out.trans ((hb3.trans (hal.mono hb3.size)).mono HB2.out.size)
 have hsz3 : Hid (w.heap.size < w3.heap.size) := (HA2.out.later hb3).cells.2.2.2.2
 clear hr3 hb3 hal RA2 HA2 HB2
 go_wp2_with fail
 refine (HN.out _).mono ?_
 rintro e w' ⟨rfl, rfl⟩
 go_wp2_with fail
 refine (HN.out _).mono ?_
 rintro e w' ⟨rfl, rfl⟩
 go_wp2_with fail
 refine (refOf_any (r + 1) _ (by have := HR1.out; omega)).mono ?_
 rintro e w4 ⟨v4, rfl, hr4, hb4⟩
 obtain ⟨S4, a4, n4, c4, E4, rfl⟩ := hr4.agg
 have HU4 := HU3.out.later hb4
 have HA4 := HA3.out.later hb4
 have RA4 : Hid (Rf (((w4.setCell ⟨w3.heap.size, 0, none⟩ (.int .i64 S4)).setCell ⟨w3.heap.size, 1, none⟩ (.slice a4 n4 c4)).setCell ⟨w3.heap.size, 2, none⟩ (.int .i64 E4)) (.agg #[.int .i64 S, .slice a n c, .int .i64 E]) q) := (RA3.out.later hb4).boxed (other_box HU4) _ _ _
 have RU4 : Hid (Rf (((w4.setCell ⟨w3.heap.size, 0, none⟩ (.int .i64 S4)).setCell ⟨w3.heap.size, 1, none⟩ (.slice a4 n4 c4)).setCell ⟨w3.heap.size, 2, none⟩ (.int .i64 E4)) (.agg #[.int .i64 S4, .slice a4 n4 c4, .int .i64 E4]) (den (r + 1))) := hr4.boxed (other_box HU4) _ _ _
 have HA5 : Hid (BoxN (((w4.setCell ⟨w3.heap.size, 0, none⟩ (.int .i64 S4)).setCell ⟨w3.heap.size, 1, none⟩ (.slice a4 n4 c4)).setCell ⟨w3.heap.size, 2, none⟩ (.int .i64 E4)) w.heap.size S (.slice a n c) E) := HA4.other3 (by have := hsz3.out; omega) _ _ _
 have HU5 : Hid (BoxN (((w4.setCell ⟨w3.heap.size, 0, none⟩ (.int .i64 S4)).setCell ⟨w3.heap.size, 1, none⟩ (.slice a4 n4 c4)).setCell ⟨w3.heap.size, 2, none⟩ (.int .i64 E4)) w3.heap.size S4 (.slice a4 n4 c4) E4) := HU4.set3
 have HB5 : Hid (Below w.heap.size w (((w4.setCell ⟨w3.heap.size, 0, none⟩ (.int .i64 S4)).setCell ⟨w3.heap.size, 1, none⟩ (.slice a4 n4 c4)).setCell ⟨w3.heap.size, 2, none⟩ (.int .i64 E4))) := below_num3 (HB3.out.trans (hb4.mono HB3.out.size)) (by have := hsz3.out; omega) _ _ _
 obtain ⟨yu0, yu1, yu2, yuf, yul⟩ := HU4.cells
 clear hr4 hb4 RA3 HA3 HU3 HB3 HA4 HU4
 go_wp2_with fail
 refine (power_walk 1 (-1074) _ (by omega) (by omega) (by omega)).mono ?_
 rintro e w5 ⟨v5, rfl, hr5, hb5⟩
 obtain ⟨S5, ds5, E5, d5, k5, q5⟩ := id hr5
 obtain ⟨a5, c5, rfl, _⟩ := d5.form
 have hfd := run_fieldD S5 E5 a5 ds5.length c5
 clear yu0 yu1 yu2 yuf yul
 go_wp2_with fail
 refine (power_walk 1 (-1074) _ (by omega) (by omega) (by omega)).mono ?_
 rintro e w6 ⟨v6, rfl, hr6, hb6⟩
 obtain ⟨S6, ds6, E6, d6, k6, q6⟩ := id hr6
 obtain ⟨a6, c6, rfl, _⟩ := d6.form
 have hfe := run_fieldE S6 E6 a6 ds6.length c6
 have hpp : (0 : Rat) < ((1 : Nat) : Rat) * p2 (-1074) := Rat.mul_pos (by decide) (p2_pos _)
 have hEE : E5 = E6 := canon_E k5 k6 d5.small d6.small (by rw [← q5, ← q6]) (by rw [← q5]; grind)
 have RD6 : Rf w6 (.agg #[.int .i64 (-1), .slice a5 ds5.length c5, .int .i64 E6]) (-(((1 : Nat) : Rat) * p2 (-1074))) := by
   have h1 := (hr5.later hb6).flip rfl
   have hS5 : S5 = 1 := by
     have := canon_sgn k5
     rw [← q5] at this
     rcases this with ⟨_, h⟩ | ⟨h, _⟩ | ⟨_, h⟩
     · exfalso; grind
     · exact h
     · exfalso; grind
   rw [hS5, hEE] at h1
   exact h1
 obtain ⟨n5, hn5⟩ : ∃ n, Hid (ds5.length = n) := ⟨_, rfl⟩
 rw [hn5.out] at RD6 hfd
 simp only [hn5.out]
 have hal : Below w6.heap.size w6 (w6.alloc (.cells #[.int .i64 (-1), .slice a5 n5 c5, .int .i64 E6] 36)) := (Below.refl _ _).alloc (Nat.le_refl _) _
 have RAW : Hid (Rf (w6.alloc (.cells #[.int .i64 (-1), .slice a5 n5 c5, .int .i64 E6] 36)) (.agg #[.int .i64 S, .slice a n c, .int .i64 E]) q) := ((RA4.out.later hb5).later hb6).later hal
 have RUW : Hid (Rf (w6.alloc (.cells #[.int .i64 (-1), .slice a5 n5 c5, .int .i64 E6] 36)) (.agg #[.int .i64 S4, .slice a4 n4 c4, .int .i64 E4]) (den (r + 1))) := ((RU4.out.later hb5).later hb6).later hal
 have RDW : Hid (Rf (w6.alloc (.cells #[.int .i64 (-1), .slice a5 n5 c5, .int .i64 E6] 36)) (.agg #[.int .i64 (-1), .slice a5 n5 c5, .int .i64 E6]) (-(((1 : Nat) : Rat) * p2 (-1074)))) := RD6.later hal
 have HAW : Hid (BoxN (w6.alloc (.cells #[.int .i64 (-1), .slice a5 n5 c5, .int .i64 E6] 36)) w.heap.size S (.slice a n c) E) := ((HA5.out.later hb5).later hb6).later hal
 have HUW : Hid (BoxN (w6.alloc (.cells #[.int .i64 (-1), .slice a5 n5 c5, .int .i64 E6] 36)) w3.heap.size S4 (.slice a4 n4 c4) E4) := ((HU5.out.later hb5).later hb6).later hal
 have HDW : Hid (BoxN (w6.alloc (.cells #[.int .i64 (-1), .slice a5 n5 c5, .int .i64 E6] 36)) w6.heap.size (-1) (.slice a5 n5 c5) E6) := BoxN.new w6 _ _ _
 have HBW : Hid (Below w.heap.size w (w6.alloc (.cells #[.int .i64 (-1), .slice a5 n5 c5, .int .i64 E6] 36))) := HB5.out.trans (((hb5.trans (hb6.mono hb5.size)).trans (hal.mono (Nat.le_trans hb5.size hb6.size))).mono HB5.out.size)
 have hszu : Hid (w3.heap.size < w6.heap.size ∧ w.heap.size < w6.heap.size) := ⟨((HU5.out.later hb5).later hb6).cells.2.2.2.2, ((HA5.out.later hb5).later hb6).cells.2.2.2.2⟩
 have HPP : Hid ((0 : Rat) < ((1 : Nat) : Rat) * p2 (-1074)) := hpp
 clear hr5 hr6 hb5 hb6 d5 d6 k5 k6 q5 q6 hEE RD6 hal RA4 RU4 HA5 HU5 HB5 hpp
 have HFD : Hid (Fit (-(((1 : Nat) : Rat) * p2 (-1074)))) := Bd.neg (pow_fit 1 (-1074) (by omega) (by omega) (by omega))
 have HFXD : Hid (Fit (den x + -(((1 : Nat) : Rat) * p2 (-1074)))) := by
   refine Bd.mono (Bd.add (den_fit x) (Bd.neg (h := 1024) (l := -1074) ⟨?_, ?_, 1, ?_⟩)) (by omega) (by omega)
   · rw [show ((1 : Nat) : Rat) * p2 (-1074) = p2 (-1074) by rw [show ((1 : Nat) : Rat) = 1 from rfl]; grind]; exact p2_lt (by omega)
   · have := HPP.out
     have := p2_pos 1024
     grind
   · rfl
 have HBL : Hid (sgq (((2 : Nat) : Rat) * p2 0 * q - (den x + -(((1 : Nat) : Rat) * p2 (-1074)))) = 1 ∨ (sgq (((2 : Nat) : Rat) * p2 0 * q - (den x + -(((1 : Nat) : Rat) * p2 (-1074)))) = 0 ∧ r % 2 = 0)) := by
   show _ ∨ _
   left
   have h1 := HPP.out
   have h2 := hq0'.out
   rw [HT2.out, HDX.out, H0.out, fval0]
   unfold sgq
   rw [if_neg (by grind), if_neg (by grind)]
 go_wp2_with fail
 refine (power_walk 2 0 _ (by omega) (by omega) (by omega)).mono ?_
 rintro e w8 ⟨v8, rfl, hr8, hb8⟩
 obtain ⟨S8, a8, n8, c8, E8, rfl⟩ := hr8.agg
 have hal : Below w8.heap.size w8 (w8.alloc (.cells #[.int .i64 S8, .slice a8 n8 c8, .int .i64 E8] 36)) := (Below.refl _ _).alloc (Nat.le_refl _) _
 have R8 : Hid (Rf (w8.alloc (.cells #[.int .i64 S8, .slice a8 n8 c8, .int .i64 E8] 36)) (.agg #[.int .i64 S8, .slice a8 n8 c8, .int .i64 E8]) (((2 : Nat) : Rat) * p2 0)) := hr8.later hal
 have RA8 : Hid (Rf (w8.alloc (.cells #[.int .i64 S8, .slice a8 n8 c8, .int .i64 E8] 36)) (.agg #[.int .i64 S, .slice a n c, .int .i64 E]) q) := (RAW.out.later hb8).later hal
 have RU8 : Hid (Rf (w8.alloc (.cells #[.int .i64 S8, .slice a8 n8 c8, .int .i64 E8] 36)) (.agg #[.int .i64 S4, .slice a4 n4 c4, .int .i64 E4]) (den (r + 1))) := (RUW.out.later hb8).later hal
 have RD8 : Hid (Rf (w8.alloc (.cells #[.int .i64 S8, .slice a8 n8 c8, .int .i64 E8] 36)) (.agg #[.int .i64 (-1), .slice a5 n5 c5, .int .i64 E6]) (-(((1 : Nat) : Rat) * p2 (-1074)))) := (RDW.out.later hb8).later hal
 obtain ⟨xa0, xa1, xa2, _, la⟩ := ((HAW.out.later hb8).later hal).cells
 obtain ⟨xu0, xu1, xu2, _, lu⟩ := ((HUW.out.later hb8).later hal).cells
 obtain ⟨xd0, xd1, xd2, _, ld⟩ := ((HDW.out.later hb8).later hal).cells
 obtain ⟨xt0, xt1, xt2, _, lt⟩ := (BoxN.new w8 S8 E8 (.slice a8 n8 c8)).cells
 have HB8 : Hid (Below w.heap.size w (w8.alloc (.cells #[.int .i64 S8, .slice a8 n8 c8, .int .i64 E8] 36))) := HBW.out.trans (((hb8.trans (hal.mono hb8.size))).mono HBW.out.size)
 have hrefl : Hid (Below (w8.alloc (.cells #[.int .i64 S8, .slice a8 n8 c8, .int .i64 E8] 36)).heap.size (w8.alloc (.cells #[.int .i64 S8, .slice a8 n8 c8, .int .i64 E8] 36)) (w8.alloc (.cells #[.int .i64 S8, .slice a8 n8 c8, .int .i64 E8] 36))) := Below.refl _ _
 clear hr8 hb8 hal la lu ld lt
 obtain ⟨A, hA⟩ : ∃ A, Hid (sgq (((2 : Nat) : Rat) * p2 0 * q - (den x + den (r + 1))) = A) := ⟨_, rfl⟩
 obtain ⟨B, hB⟩ : ∃ B, Hid (sgq (((2 : Nat) : Rat) * p2 0 * q - (den x + (-(((1 : Nat) : Rat) * p2 (-1074))))) = B) := ⟨_, rfl⟩
 go_wp2
 go_region_held3 (fun W => W.cell? ⟨w8.heap.size, 0, none⟩ = some (.int .i64 S8) ∧ W.cell? ⟨w8.heap.size, 1, none⟩ = some (.slice a8 n8 c8) ∧ W.cell? ⟨w8.heap.size, 2, none⟩ = some (.int .i64 E8) ∧ W.cell? ⟨w.heap.size, 0, none⟩ = some (.int .i64 S) ∧ W.cell? ⟨w.heap.size, 1, none⟩ = some (.slice a n c) ∧ W.cell? ⟨w.heap.size, 2, none⟩ = some (.int .i64 E) ∧ W.cell? ⟨w3.heap.size, 0, none⟩ = some (.int .i64 S4) ∧ W.cell? ⟨w3.heap.size, 1, none⟩ = some (.slice a4 n4 c4) ∧ W.cell? ⟨w3.heap.size, 2, none⟩ = some (.int .i64 E4) ∧ Below (w8.alloc (.cells #[.int .i64 S8, .slice a8 n8 c8, .int .i64 E8] 36)).heap.size (w8.alloc (.cells #[.int .i64 S8, .slice a8 n8 c8, .int .i64 E8] 36)) W)
   (first
     | assumption
     | exact ⟨by go_simp, by go_simp, by go_simp, by go_simp, by go_simp, by go_simp, by go_simp, by go_simp, by go_simp, hrefl.out.drew⟩
     | exact keepN9 (by assumption) (by assumption))
   (first
     | (go_at_call 14; refine (mul_rf _ _ (((2 : Nat) : Rat) * p2 0) q _ (R8.out.later hrefl.out.drew) (RA8.out.later hrefl.out.drew) (pow_fit 2 0 (by omega) (by omega) (by omega)) HFQ.out).mono ?_; rintro e wA ⟨vA, rfl, hrA, hbA⟩)
     | (go_at_call 13; refine (refOf_any x _ HXL.out).mono ?_; rintro e wB ⟨vB, rfl, hrB, hbB⟩)
     | (go_at_call 12; refine (refAdd_any _ _ (den x) (den (r + 1)) _ hrB (RU8.out.later (by exact (by assumption : _ ∧ _ ∧ _ ∧ _ ∧ _ ∧ _ ∧ _ ∧ _ ∧ _ ∧ Below (w8.alloc (.cells #[.int .i64 S8, .slice a8 n8 c8, .int .i64 E8] 36)).heap.size (w8.alloc (.cells #[.int .i64 S8, .slice a8 n8 c8, .int .i64 E8] 36)) _).2.2.2.2.2.2.2.2.2)) (den_Fit _) (den_Fit _)).mono ?_; rintro e wC ⟨vC, rfl, hrC, hbC⟩)
     | (go_at_call 30; refine (cmp_is _ _ (((2 : Nat) : Rat) * p2 0 * q) (den x + den (r + 1)) A _ ((hrA.later hbB).later hbC) hrC HF2.out HFU.out hA.out).mono ?_; rintro e wD ⟨rfl, hbD⟩))
 obtain ⟨xt0', xt1', xt2', xa0', xa1', xa2', _, _, _, hBf⟩ := (by assumption : _ ∧ _ ∧ _ ∧ _ ∧ _ ∧ _ ∧ _ ∧ _ ∧ _ ∧ Below (w8.alloc (.cells #[.int .i64 S8, .slice a8 n8 c8, .int .i64 E8] 36)).heap.size (w8.alloc (.cells #[.int .i64 S8, .slice a8 n8 c8, .int .i64 E8] 36)) wD)
 have yd0 := box_cell hBf xd0
 have yd1 := box_cell hBf xd1
 have yd2 := box_cell hBf xd2
 have HBD : Hid (Below (w8.alloc (.cells #[.int .i64 S8, .slice a8 n8 c8, .int .i64 E8] 36)).heap.size (w8.alloc (.cells #[.int .i64 S8, .slice a8 n8 c8, .int .i64 E8] 36)) wD) := hBf
 clear hrA hrB hrC hbA hbB hbC hbD hBf xa0 xa1 xa2 xu0 xu1 xu2 xd0 xd1 xd2 xt0 xt1 xt2
 have hrefl2 : Hid (Below wD.heap.size wD wD) := Below.refl _ _
 go_wp2
 go_region_held3 (fun W => W.cell? ⟨w8.heap.size, 0, none⟩ = some (.int .i64 S8) ∧ W.cell? ⟨w8.heap.size, 1, none⟩ = some (.slice a8 n8 c8) ∧ W.cell? ⟨w8.heap.size, 2, none⟩ = some (.int .i64 E8) ∧ W.cell? ⟨w.heap.size, 0, none⟩ = some (.int .i64 S) ∧ W.cell? ⟨w.heap.size, 1, none⟩ = some (.slice a n c) ∧ W.cell? ⟨w.heap.size, 2, none⟩ = some (.int .i64 E) ∧ W.cell? ⟨w6.heap.size, 0, none⟩ = some (.int .i64 (-1)) ∧ W.cell? ⟨w6.heap.size, 1, none⟩ = some (.slice a5 n5 c5) ∧ W.cell? ⟨w6.heap.size, 2, none⟩ = some (.int .i64 E6) ∧ Below wD.heap.size wD W)
   (first
     | assumption
     | exact ⟨by go_simp, by go_simp, by go_simp, by go_simp, by go_simp, by go_simp, by go_simp, by go_simp, by go_simp, hrefl2.out.drew⟩
     | exact keepN9 (by assumption) (by assumption))
   (first
     | (go_at_call 14; refine (mul_rf _ _ (((2 : Nat) : Rat) * p2 0) q _ ((R8.out.later HBD.out).later hrefl2.out.drew) ((RA8.out.later HBD.out).later hrefl2.out.drew) (pow_fit 2 0 (by omega) (by omega) (by omega)) HFQ.out).mono ?_; rintro e wA ⟨vA, rfl, hrA, hbA⟩)
     | (go_at_call 13; refine (refOf_any x _ HXL.out).mono ?_; rintro e wB ⟨vB, rfl, hrB, hbB⟩)
     | (go_at_call 12; refine (refAdd_any _ _ (den x) (-(((1 : Nat) : Rat) * p2 (-1074))) _ hrB ((RD8.out.later HBD.out).later (by exact (by assumption : _ ∧ _ ∧ _ ∧ _ ∧ _ ∧ _ ∧ _ ∧ _ ∧ _ ∧ Below wD.heap.size wD _).2.2.2.2.2.2.2.2.2)) (den_Fit _) HFD.out).mono ?_; rintro e wC ⟨vC, rfl, hrC, hbC⟩)
     | (go_at_call 30; refine (cmp_is _ _ (((2 : Nat) : Rat) * p2 0 * q) (den x + (-(((1 : Nat) : Rat) * p2 (-1074)))) B _ ((hrA.later hbB).later hbC) hrC HF2.out HFXD.out hB.out).mono ?_; rintro e wE ⟨rfl, hbE⟩))
 have hBg := (by assumption : _ ∧ _ ∧ _ ∧ _ ∧ _ ∧ _ ∧ _ ∧ _ ∧ _ ∧ Below wD.heap.size wD wE).2.2.2.2.2.2.2.2.2
 have HBE : Hid (Below w.heap.size w wE) := HB8.out.trans ((HBD.out.trans (hBg.mono HBD.out.size)).mono HB8.out.size)
 have hAc : A = -1 ∨ (A = 0 ∧ r % 2 = 0) := by have := HAB.out; rwa [hA.out] at this
 have hBc : B = 1 ∨ (B = 0 ∧ r % 2 = 0) := by have := HBL.out; rwa [hB.out] at this
 clear hrA hrB hrC hbA hbB hbC hbE hBg xt0' xt1' xt2' xa0' xa1' xa2' yd0 yd1 yd2 hA hB
 rcases hAc with rfl | ⟨rfl, hpar⟩
 · rcases hBc with rfl | ⟨rfl, hpar⟩
   · go_wp2
     all_goals
       go_ret
       exact ⟨rfl, HBE.out⟩
   · have hev := HEV.out hpar
     clear hpar
     go_wp2
     go_ret
     exact ⟨rfl, HBE.out⟩
 · have hev := HEV.out hpar
   clear hpar
   rcases hBc with rfl | ⟨rfl, _⟩
   · go_wp2
     go_ret
     exact ⟨rfl, HBE.out⟩
   · go_wp2
     go_ret
     exact ⟨rfl, HBE.out⟩
end Go.Proofs.YtejhinjanjlplaaDoor
