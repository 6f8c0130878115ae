/- Own texts, put together: Wm Wn. -/
import Derived.Test.YtlpnobcapdbfkaaDoorQ6
import Derived.Test.YtlpnobcapdbfkaaDoorQ8
namespace Go.Proofs.YtlpnobcapdbfkaaDoor
/- The walks of cmp.Compare at uint64 and of against: two magnitudes held against each other. -/
section
open Go.RowKit
attribute [local go_sem ↓] Go.wp_at_zero Go.wp_at_succ
def cmpI (x y : Int) : Int := if x < y then -1 else if y < x then 1 else 0
set_option maxHeartbeats 1000000 in
theorem isNaN64_any (x : Int) (w : World) : Calls Tryd.prog 56 #[.int .u64 x] w fun e w' => e = .returned (.bool false) ∧ w' = w := by
 go_enter Tryd.func56, Tryd.ntmps56
 go_wp2
 go_ret
 exact ⟨by simp, rfl⟩
set_option maxHeartbeats 1000000 in
theorem cmp64_any (x y : Int) (w : World) : Calls Tryd.prog 44 #[.int .u64 x, .int .u64 y] w fun e w' => e = .returned (.int .i64 (cmpI x y)) ∧ w' = w := by
 rcases Int.lt_trichotomy x y with h | h | h
 · have hx : ¬ y < x := by omega
   go_enter Tryd.func44, Tryd.ntmps44
   go_wp2_with (first | (go_at_call 56; refine (isNaN64_any _ _).mono ?_; rintro e w' ⟨rfl, rfl⟩))
   go_ret
   exact ⟨by simp [cmpI, h], rfl⟩
 · subst h
   have hx : ¬ x < x := by omega
   go_enter Tryd.func44, Tryd.ntmps44
   go_wp2_with (first | (go_at_call 56; refine (isNaN64_any _ _).mono ?_; rintro e w' ⟨rfl, rfl⟩))
   go_ret
   exact ⟨by simp [cmpI], rfl⟩
 · have hx : ¬ x < y := by omega
   go_enter Tryd.func44, Tryd.ntmps44
   go_wp2_with (first | (go_at_call 56; refine (isNaN64_any _ _).mono ?_; rintro e w' ⟨rfl, rfl⟩))
   go_ret
   exact ⟨by simp [cmpI, h, hx], rfl⟩
theorem cmpInt_any (x y : Int) (w : World) : Calls Tryd.prog 27 #[.int .i64 x, .int .i64 y] w fun e w' => e = .returned (.int .i64 (cmpI x y)) ∧ w' = w := by
 have e : cmpI x y = Lib.compareInt x y := by unfold cmpI Lib.compareInt; rfl
 rw [e]
 exact Tryd.cmp_Compare_int x y w
end

/- The walk of against: the sign of one magnitude less another. -/
section
open Go.RowKit
attribute [local go_sem ↓] Go.wp_at_zero Go.wp_at_succ
theorem ret_int {k : IntKind} {a b : Int} (h : a = b) : Ending.returned (.int k a) = .returned (.int k b) := by rw [h]
theorem bel4 {w W : World} {p1 p2 p3 p4 : Addr} {x1 x2 x3 x4 : Value} (h : W.cell? p1 = some x1 ∧ W.cell? p2 = some x2 ∧ W.cell? p3 = some x3 ∧ W.cell? p4 = some x4 ∧ Below w.heap.size w W) : Below w.heap.size w W := h.2.2.2.2
theorem cmp_lt {a b : Nat} (h : a < b) : cmpI (a : Int) (b : Int) = -1 := by unfold cmpI; rw [if_pos (by omega)]
theorem cmp_gt {a b : Nat} (h : b < a) : cmpI (a : Int) (b : Int) = 1 := by unfold cmpI; rw [if_neg (by omega), if_pos (by omega)]
theorem cmp_eq {a b : Nat} (h : a = b) : cmpI (a : Int) (b : Int) = 0 := by subst h; unfold cmpI; simp
set_option maxHeartbeats 2000000 in
theorem against_zero1 (a1 a2 : Option Addr) (c1 c2 n2 : Nat) (low1 low2 : Int) (w : World) :
   Calls Tryd.prog 28 #[.agg #[.slice a1 0 c1, .int .i64 low1], .agg #[.slice a2 n2 c2, .int .i64 low2]] w fun e w' => e = .returned (.int .i64 (cmpI 0 n2)) ∧ Below w.heap.size w w' := by
 have HB0 : Hid (Below w.heap.size w ((w.alloc (.cells #[.slice a1 0 c1, .int .i64 low1] 25)).alloc (.cells #[.slice a2 n2 c2, .int .i64 low2] 25))) := ((Below.refl _ _).alloc (Nat.le_refl _) _).alloc (by simp) _
 go_enter Tryd.func28, Tryd.ntmps28
 go_wp2_with fail
 refine (isZero_any _ _ _ _ _).mono ?_
 rintro e w1 ⟨rfl, hb1⟩
 have x0 : w1.cell? ⟨w.heap.size, 0, none⟩ = some (.slice a1 0 c1) := cell_later hb1 (by go_simp)
 have x2 : w1.cell? ⟨w.heap.size + 1, 0, none⟩ = some (.slice a2 n2 c2) := cell_later hb1 (by go_simp)
 have HB1 : Hid _ := hb1
 clear hb1
 go_wp2_with (first | (go_at_call 27; refine (cmpInt_any _ _ _).mono ?_; rintro e w' ⟨rfl, rfl⟩))
 go_ret
 exact ⟨rfl, thru HB0.out HB1.out⟩
set_option maxHeartbeats 2000000 in
theorem against_zero2 (a1 a2 : Option Addr) (c1 c2 n1 : Nat) (low1 low2 : Int) (w : World) (hn : ((n1 : Int) == 0) = false) :
   Calls Tryd.prog 28 #[.agg #[.slice a1 n1 c1, .int .i64 low1], .agg #[.slice a2 0 c2, .int .i64 low2]] w fun e w' => e = .returned (.int .i64 (cmpI n1 0)) ∧ Below w.heap.size w w' := by
 have HB0 : Hid (Below w.heap.size w ((w.alloc (.cells #[.slice a1 n1 c1, .int .i64 low1] 25)).alloc (.cells #[.slice a2 0 c2, .int .i64 low2] 25))) := ((Below.refl _ _).alloc (Nat.le_refl _) _).alloc (by simp) _
 go_enter Tryd.func28, Tryd.ntmps28
 go_wp2_with fail
 refine (isZero_any _ _ _ _ _).mono ?_
 rintro e w1 ⟨rfl, hb1⟩
 have x0 : w1.cell? ⟨w.heap.size, 0, none⟩ = some (.slice a1 n1 c1) := cell_later hb1 (by go_simp)
 have x2 : w1.cell? ⟨w.heap.size + 1, 0, none⟩ = some (.slice a2 0 c2) := cell_later hb1 (by go_simp)
 have x3 : w1.cell? ⟨w.heap.size + 1, 1, none⟩ = some (.int .i64 low2) := cell_later hb1 (by go_simp)
 have HB1 : Hid _ := hb1
 clear hb1
 go_wp2_with fail
 refine (isZero_any _ _ _ _ _).mono ?_
 rintro e w2 ⟨rfl, hb2⟩
 have y0 := cell_later hb2 x0
 have y2 := cell_later hb2 x2
 have HB2 : Hid _ := hb2
 clear hb2
 go_wp2_with (first | (go_at_call 27; refine (cmpInt_any _ _ _).mono ?_; rintro e w' ⟨rfl, rfl⟩))
 go_ret
 exact ⟨rfl, thru (thru HB0.out HB1.out) HB2.out⟩
set_option maxHeartbeats 4000000 in
theorem against_walk (a1 a2 : Option Addr) (c1 c2 : Nat) (ns1 ns2 : List Nat) (low1 low2 L : Int) (k1 k2 E A C : Nat) (w : World) (hA : val ns1 * 2 ^ k1 = A) (hC : val ns2 * 2 ^ k2 = C)
   (h1 : Ws w (.slice a1 ns1.length c1) ns1) (h2 : Ws w (.slice a2 ns2.length c2) ns2) (o1 : OwnF ns1 low1) (o2 : OwnF ns2 low2) (n1 : ns1 ≠ []) (n2 : ns2 ≠ [])
   (hL : min low1 low2 = L) (hk1 : low1 = L + (k1 : Nat)) (hk2 : low2 = L + (k2 : Nat)) (b1 : -70000 ≤ L) (b2 : low1 ≤ 70000) (b3 : low2 ≤ 70000) (hE : hiB ns1 low1 + 1 = L + (E : Nat)) (hE2 : E ≤ 1000000) :
   Calls Tryd.prog 28 #[.agg #[.slice a1 ns1.length c1, .int .i64 low1], .agg #[.slice a2 ns2.length c2, .int .i64 low2]] w fun e w' => e = .returned (.int .i64 (cmpI A C)) ∧ Below w.heap.size w w' := by
 have HB0 : Hid (Below w.heap.size w ((w.alloc (.cells #[.slice a1 ns1.length c1, .int .i64 low1] 25)).alloc (.cells #[.slice a2 ns2.length c2, .int .i64 low2] 25))) := ((Below.refl _ _).alloc (Nat.le_refl _) _).alloc (by simp) _
 have z1 : ((ns1.length : Int) == 0) = false := by rw [beq_eq_false_iff_ne]; have := List.length_pos_iff.2 n1; omega
 have z2 : ((ns2.length : Int) == 0) = false := by rw [beq_eq_false_iff_ne]; have := List.length_pos_iff.2 n2; omega
 have lo1 : -70000 ≤ low1 := by omega
 have lo2 : -70000 ≤ low2 := by omega
 have HA : Hid (val ns1 * 2 ^ k1 = A) := hA
 have HC : Hid (val ns2 * 2 ^ k2 = C) := hC
 have HK1 : Hid _ := hk1
 have HK2 : Hid _ := hk2
 have HE : Hid _ := hE
 clear hk1 hk2 hE hA hC
 go_enter Tryd.func28, Tryd.ntmps28
 go_wp2_with fail
 refine (isZero_any _ _ _ _ _).mono ?_
 rintro e w1 ⟨rfl, hb1⟩
 have x0 : w1.cell? ⟨w.heap.size, 0, none⟩ = some (.slice a1 ns1.length c1) := cell_later hb1 (by go_simp)
 have x1 : w1.cell? ⟨w.heap.size, 1, none⟩ = some (.int .i64 low1) := cell_later hb1 (by go_simp)
 have x2 : w1.cell? ⟨w.heap.size + 1, 0, none⟩ = some (.slice a2 ns2.length c2) := cell_later hb1 (by go_simp)
 have x3 : w1.cell? ⟨w.heap.size + 1, 1, none⟩ = some (.int .i64 low2) := cell_later hb1 (by go_simp)
 have HB1 : Hid (Below w.heap.size w w1) := thru HB0.out hb1
 clear hb1
 go_wp2_with fail
 refine (isZero_any _ _ _ _ _).mono ?_
 rintro e w2 ⟨rfl, hb2⟩
 have y0 := cell_later hb2 x0
 have y1 := cell_later hb2 x1
 have y2 := cell_later hb2 x2
 have y3 := cell_later hb2 x3
 have HB2 : Hid (Below w.heap.size w w2) := thru HB1.out hb2
 clear hb2 x0 x1 x2 x3 HB1 HB0
 go_wp2_with fail
 refine (highest_any _ ns1 _ _ (h1.later HB2.out (Nat.le_refl _)) (own_topped o1) (by omega) (by omega)).mono ?_
 rintro e w3 ⟨rfl, hb3⟩
 have x0 := cell_later hb3 y0
 have x1 := cell_later hb3 y1
 have x2 := cell_later hb3 y2
 have x3 := cell_later hb3 y3
 have HB3 : Hid (Below w.heap.size w w3) := thru HB2.out hb3
 clear hb3 y0 y1 y2 y3 HB2
 go_wp2_with fail
 refine (highest_any _ ns2 _ _ (h2.later HB3.out (Nat.le_refl _)) (own_topped o2) (by omega) (by omega)).mono ?_
 rintro e w4 ⟨rfl, hb4⟩
 have y0 := cell_later hb4 x0
 have y1 := cell_later hb4 x1
 have y2 := cell_later hb4 x2
 have y3 := cell_later hb4 x3
 have HB4 : Hid (Below w.heap.size w w4) := thru HB3.out hb4
 clear hb4 x0 x1 x2 x3 HB3
 go_wp2_with fail
 refine (cmpInt_any _ _ _).mono ?_
 rintro e w5 ⟨rfl, rfl⟩
 by_cases hh : hiB ns1 low1 = hiB ns2 low2
 · have hz : (cmpI (hiB ns1 low1) (hiB ns2 low2) != 0) = false := by unfold cmpI; simp [hh]
   have HAL : Hid (Alike A C (E : Nat)) := by
     unfold Alike
     have hp : 0 < (E : Int) := by have := own_low_hi o1; have := HE.out; have := HK1.out; omega
     rw [if_pos hp, Int.toNat_natCast, ← HA.out, ← HC.out, hi_div HK1.out n1 E HE.out, hi_div HK2.out n2 E (by rw [← hh]; exact HE.out)]; exact rfl
   have hEi : (E : Int) ≤ 1000000 := by omega
   have heq : hiB ns1 low1 = L + (E : Int) - 1 := by have := HE.out; omega
   have HH : Hid _ := hh
   clear hh
   generalize cmpI (hiB ns1 low1) (hiB ns2 low2) = c at *
   rw [heq]
   generalize hiB ns1 low1 = hi1 at *
   have HEQ : Hid _ := heq
   clear heq
   go_wp2
   go_loopw [8] (fun at' wr => ∃ e : Int, -64 ≤ e ∧ e ≤ E ∧ at' = .int .i64 (L + e - 64) ∧ Hid (Alike A C e) ∧ wr.cell? ⟨w.heap.size, 0, none⟩ = some (.slice a1 ns1.length c1) ∧ wr.cell? ⟨w.heap.size, 1, none⟩ = some (.int .i64 low1) ∧ wr.cell? ⟨w.heap.size + 1, 0, none⟩ = some (.slice a2 ns2.length c2) ∧ wr.cell? ⟨w.heap.size + 1, 1, none⟩ = some (.int .i64 low2) ∧ Hid (Below w.heap.size w wr))
     (fun at' _ => (intOf at' - L + 64).toNat)
   case atStart => exact ⟨E, by omega, by omega, by congr 1; omega, HAL, y0, y1, y2, y3, HB4⟩
   case round =>
     obtain ⟨e, he1, he2, rfl, hal, x0, x1, x2, x3, hb⟩ := hrel
     clear y0 y1 y2 y3 HB4 HAL
     by_cases hpos : 0 < e
     · obtain ⟨n, rfl⟩ := Int.eq_ofNat_of_zero_le (Int.le_of_lt hpos)
       have hgt : L - 64 < L + (n : Int) - 64 := by omega
       have W1 : Hid (win ns1 low1 (L + (n : Nat) - 64) = A * 18446744073709551616 / 2 ^ n % 18446744073709551616) := by rw [HK1.out, ← HA.out]; exact win_at _ _ _ _
       have W2 : Hid (win ns2 low2 (L + (n : Nat) - 64) = C * 18446744073709551616 / 2 ^ n % 18446744073709551616) := by rw [HK2.out, ← HC.out]; exact win_at _ _ _ _
       have hw1 : -400000000 ≤ L + (n : Int) - 64 := by omega
       have hw2 : L + (n : Int) - 64 ≤ 400000000 := by omega
       have H1 : Hid (Ws w (.slice a1 ns1.length c1) ns1) := h1
       have H2 : Hid (Ws w (.slice a2 ns2.length c2) ns2) := h2
       clear h1 h2
       generalize hat : L + (n : Int) - 64 = at' at *
       have HAT : Hid _ := hat
       clear hat
       go_wp2
       go_region_held3 (fun W => W.cell? ⟨w.heap.size, 0, none⟩ = some (.slice a1 ns1.length c1) ∧ W.cell? ⟨w.heap.size, 1, none⟩ = some (.int .i64 low1) ∧ W.cell? ⟨w.heap.size + 1, 0, none⟩ = some (.slice a2 ns2.length c2) ∧ W.cell? ⟨w.heap.size + 1, 1, none⟩ = some (.int .i64 low2) ∧ Below w.heap.size w W)
         (first
           | assumption
           | exact ⟨x0, x1, x2, x3, hb.out.drew⟩
           | exact keep4 (by assumption) (by assumption))
         (first
           | (go_at_call_of 40 low1; refine (window_any _ ns1 _ _ _ ?_ (by omega) (by omega) (by omega) (by omega)).mono ?_; exact H1.out.later (bel4 (by assumption)) (Nat.le_refl _); rintro e wx ⟨rfl, hbx⟩)
           | (go_at_call_of 40 low2; refine (window_any _ ns2 _ _ _ ?_ (by omega) (by omega) (by omega) (by omega)).mono ?_; exact H2.out.later (bel4 (by assumption)) (Nat.le_refl _); rintro e wx ⟨rfl, hbx⟩)
           | (go_at_call 44; refine (cmp64_any _ _ _).mono ?_; rintro e wz ⟨rfl, rfl⟩))
       have hh := (by assumption : wz.cell? ⟨w.heap.size, 0, none⟩ = some (.slice a1 ns1.length c1) ∧ wz.cell? ⟨w.heap.size, 1, none⟩ = some (.int .i64 low1) ∧ wz.cell? ⟨w.heap.size + 1, 0, none⟩ = some (.slice a2 ns2.length c2) ∧ wz.cell? ⟨w.heap.size + 1, 1, none⟩ = some (.int .i64 low2) ∧ Below w.heap.size w wz)
       have HHH : Hid _ := hh
       clear hh
       have hal' := hal.out
       have W1' := W1.out
       have W2' := W2.out
       rcases Nat.lt_trichotomy (win ns1 low1 at') (win ns2 low2 at') with hlt | heq | hgt
       · have hc := cmp_lt hlt
         have HF : Hid (cmpI A C = -1) := cmp_lt (alike_lt (by omega) hal' (by rw [← W1', ← W2']; exact hlt))
         clear hal' W1' W2' W1 W2 hlt
         go_wp2
         go_ret
         exact ⟨ret_int (hc.trans HF.out.symm), HHH.out.2.2.2.2⟩
       · have hc := cmp_eq heq
         have HF : Hid (Alike A C ((n : Int) - 64)) := alike_step (by omega) hal' (by rw [← W1', ← W2']; exact heq)
         clear hal' W1' W2' W1 W2 heq
         go_wp2
         exact ⟨⟨(n : Int) - 64, by omega, by omega, by have := HAT.out; congr 1; omega, HF, HHH.out.1, HHH.out.2.1, HHH.out.2.2.1, HHH.out.2.2.2.1, HHH.out.2.2.2.2⟩, by have := HAT.out; simp [intOf]; omega⟩
       · have hc := cmp_gt hgt
         have HF : Hid (cmpI A C = 1) := cmp_gt (alike_lt (by omega) (alike_symm hal') (by rw [← W1', ← W2']; exact hgt))
         clear hal' W1' W2' W1 W2 hgt
         go_wp2
         go_ret
         exact ⟨ret_int (hc.trans HF.out.symm), HHH.out.2.2.2.2⟩
     · have hge : ¬ (L - 64 < L + e - 64) := by omega
       have HF : Hid (cmpI A C = 0) := cmp_eq (by have := hal.out; unfold Alike at this; rw [if_neg hpos] at this; exact this)
       go_wp2
       go_ret
       exact ⟨by rw [HF.out]; rfl, hb.out⟩
 · have hne : (cmpI (hiB ns1 low1) (hiB ns2 low2) != 0) = true := by
     rw [bne_iff_ne]; unfold cmpI; split
     · omega
     · split <;> omega
   have HF : Hid (cmpI (hiB ns1 low1) (hiB ns2 low2) = cmpI A C) := by
     rcases Int.lt_or_gt_of_ne hh with h | h
     · rw [← HA.out, ← HC.out, cmp_lt (hi_lt HK1.out HK2.out n1 n2 (own_val o2 n2) h)]; unfold cmpI; rw [if_pos h]; exact rfl
     · rw [← HA.out, ← HC.out, cmp_gt (hi_lt HK2.out HK1.out n2 n1 (own_val o1 n1) h)]; unfold cmpI; rw [if_neg (by omega), if_pos h]; exact rfl
   clear hh
   generalize cmpI (hiB ns1 low1) (hiB ns2 low2) = c at *
   go_wp2
   go_ret
   exact ⟨by rw [← HF.out]; rfl, HB4.out⟩
end
end Go.Proofs.YtlpnobcapdbfkaaDoor
