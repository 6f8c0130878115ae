/- awake: the examples. -/
import Derived.Test.YtfocdhapjljooaaEg
namespace Go.Proofs.Ytfocdhapjljooaa
open Go.RowKit

theorem ex1 : TwoSum 4845873199050653696 4607182418800017408 4845873199050653696 0 4845873199050653696 4607182418800017408 0 4607182418800017408 := ⟨by decide +kernel, by decide +kernel, by decide +kernel, by decide +kernel, by decide +kernel, by decide +kernel⟩
theorem ex2 : TwoSum 4845873199050653697 4607182418800017408 4845873199050653698 4611686018427387904 4845873199050653697 13830554455654793216 0 13830554455654793216 := ⟨by decide +kernel, by decide +kernel, by decide +kernel, by decide +kernel, by decide +kernel, by decide +kernel⟩
theorem ex3 : TwoSum 4607182418800017408 13826050856027422720 4602678819172646912 13826050856027422720 4607182418800017408 0 0 0 := ⟨by decide +kernel, by decide +kernel, by decide +kernel, by decide +kernel, by decide +kernel, by decide +kernel⟩
theorem ex4 : Halves 4728779608772575232 4850376798745133056 4850376798711578624 4728779608739020800 4607182418800017408 := ⟨by decide +kernel, by decide +kernel, by decide +kernel, by decide +kernel⟩
theorem ex5 : TwoProd 4728779608772575232 4728779608772575232 4850376798745133056 4728779608739020800 4607182418800017408 4728779608739020800 4607182418800017408 4850376798678024192 4733283208366391296 4728779608739020800 4728779608739020800 4728779608739020800 0 4607182418800017408 4607182418800017408 := ⟨by decide +kernel, by decide +kernel, by decide +kernel, by decide +kernel, by decide +kernel, by decide +kernel, by decide +kernel, by decide +kernel, by decide +kernel⟩
theorem ex3' : TwoSum 4607182418800017408 (fflip 4602678819172646912) 4602678819172646912 13826050856027422720 4607182418800017408 0 0 0 := ex3

set_option maxHeartbeats 1000000 in
theorem awake_any (w : World) : Calls Try.prog 12 #[] w fun e w' => e = .returned (.bool true) ∧ Below w.heap.size w w' := by
  have q0 : (FloatKind.f64.format.order 4845873199050653696 4845873199050653696 == some .eq) = true := by decide +kernel
  have q1 : (FloatKind.f64.format.order 4607182418800017408 4607182418800017408 == some .eq) = true := by decide +kernel
  have q2 : (FloatKind.f64.format.order 4845873199050653698 4845873199050653698 == some .eq) = true := by decide +kernel
  have q3 : (FloatKind.f64.format.order 13830554455654793216 13830554455654793216 == some .eq) = true := by decide +kernel
  have q4 : (FloatKind.f64.format.order 4728779608739020800 4728779608739020800 == some .eq) = true := by decide +kernel
  have q5 : (FloatKind.f64.format.order 4607182418800017408 4607182418800017408 == some .eq) = true := by decide +kernel
  have q6 : (FloatKind.f64.format.order 4850376798745133056 4850376798745133056 == some .eq) = true := by decide +kernel
  have q7 : (FloatKind.f64.format.order 4607182418800017408 4607182418800017408 == some .eq) = true := by decide +kernel
  have q8 : (FloatKind.f64.format.order 4602678819172646912 4602678819172646912 == some .eq) = true := by decide +kernel
  have q9 : (FloatKind.f64.format.order 0 0 == some .eq) = true := by decide +kernel
  go_enter Try.func12, Try.ntmps12
  go_wp2_with fail
  refine (sum_yes _ _ _ _ _ _ _ _ _ (by omega) (by omega) (by decide) (by decide) ex1).mono ?_
  rintro e w1 ⟨rfl, hb1⟩
  have HB1 : Hid (Below w.heap.size w w1) := hb1
  clear hb1
  go_wp2_with fail
  refine (sum_yes _ _ _ _ _ _ _ _ _ (by omega) (by omega) (by decide) (by decide) ex2).mono ?_
  rintro e w2 ⟨rfl, hb2⟩
  have HB2 : Hid (Below w.heap.size w w2) := (HB1.out.trans (hb2.mono HB1.out.size))
  clear hb2
  go_wp2_with fail
  refine (split_yes _ _ _ _ _ _ (by omega) (by decide) ex4).mono ?_
  rintro e w3 ⟨rfl, hb3⟩
  have HB3 : Hid (Below w.heap.size w w3) := (HB2.out.trans (hb3.mono HB2.out.size))
  clear hb3
  go_wp2_with fail
  refine (prod_yes _ _ _ _ _ _ _ _ _ _ _ _ _ _ _ _ _ _ _ _ (by omega) (by omega) (by decide) (by decide) ex4 ex4 ex5).mono ?_
  rintro e w4 ⟨rfl, hb4⟩
  have HB4 : Hid (Below w.heap.size w w4) := (HB3.out.trans (hb4.mono HB3.out.size))
  clear hb4
  go_wp2_with fail
  refine (diff_yes _ _ _ _ _ _ _ _ _ (by omega) (by omega) (by decide) (by decide) ex3').mono ?_
  rintro e w5 ⟨rfl, hb5⟩
  have HB5 : Hid (Below w.heap.size w w5) := (HB4.out.trans (hb5.mono HB4.out.size))
  clear hb5
  go_wp2_with fail
  refine (tame_any 4607182418800017408 _ (by omega)).mono ?_
  rw [show decide (frung 4607182418800017408 ≤ 9110782046170513408) = true from by decide]
  rintro e w6 ⟨rfl, rfl⟩
  go_wp2_with fail
  refine (safe_any 4607182418800017408 _ (by omega)).mono ?_
  rw [show decide (SafeW (frung 4607182418800017408)) = true from by decide]
  rintro e w6 ⟨rfl, rfl⟩
  go_wp2_with fail
  refine (safe_any 6633802251116740608 _ (by omega)).mono ?_
  rw [show decide (SafeW (frung 6633802251116740608)) = true from by decide]
  rintro e w6 ⟨rfl, rfl⟩
  go_wp2_with fail
  refine (safe_any 11803934623338070016 _ (by omega)).mono ?_
  rw [show decide (SafeW (frung 11803934623338070016)) = true from by decide]
  rintro e w6 ⟨rfl, rfl⟩
  go_wp2_with fail
  refine (safe_any 6638305850744111104 _ (by omega)).mono ?_
  rw [show decide (SafeW (frung 6638305850744111104)) = false from by decide]
  rintro e w6 ⟨rfl, rfl⟩
  go_wp2_with fail
  refine (tame_any 9110782046170513408 _ (by omega)).mono ?_
  rw [show decide (frung 9110782046170513408 ≤ 9110782046170513408) = true from by decide]
  rintro e w6 ⟨rfl, rfl⟩
  go_wp2_with fail
  refine (tame_any 9115285645797883904 _ (by omega)).mono ?_
  rw [show decide (frung 9115285645797883904 ≤ 9110782046170513408) = false from by decide]
  rintro e w6 ⟨rfl, rfl⟩
  go_wp2
  go_ret
  exact ⟨rfl, HB5.out⟩


end Go.Proofs.Ytfocdhapjljooaa
