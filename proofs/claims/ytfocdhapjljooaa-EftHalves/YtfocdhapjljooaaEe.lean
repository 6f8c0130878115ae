/- Tame and safe, as the document has them: the two questions. -/
import Derived.Test.YtfocdhapjljooaaEd
namespace Go.Proofs.Ytfocdhapjljooaa
open Go.RowKit

set_option maxHeartbeats 1000000 in
theorem refTame_any (b : Nat) (w : World) (hb : b < 18446744073709551616) :
    Calls Try.prog 45 #[.float .f64 b] w fun e w' => e = .returned (.bool (decide (frung b ≤ 9110782046170513408))) ∧ w' = w := by
  have h1 := eql_self b
  have HS : Hid (∀ w, Calls Try.prog 50 #[.float .f64 b] w fun e w' => e = .returned (.float .f64 (szw b)) ∧ w' = w) := fun w => size_any b w hb
  by_cases hn : frung b ≤ 9218868437227405312
  · have h2 := szw_leq (c := 9110782046170513408) hb hn (by omega) (by omega)
    have h1' : (FloatKind.f64.format.order b b == some .eq) = true := by rw [h1]; exact decide_eq_true hn
    clear h1 hn hb
    generalize decide (frung b ≤ 9110782046170513408) = res at *
    generalize szw b = z at *
    go_enter Try.func45, Try.ntmps45
    go_wp2_with fail
    refine (HS.out _).mono ?_
    rintro e w1 ⟨rfl, rfl⟩
    go_wp2_with fail
    refine (power_up 1000 (by omega) _).mono ?_
    rintro e w2 ⟨rfl, rfl⟩
    go_wp2
    go_ret
    exact ⟨rfl, rfl⟩
  · have h1' : (FloatKind.f64.format.order b b == some .eq) = false := by rw [h1]; exact decide_eq_false hn
    have hr : decide (frung b ≤ 9110782046170513408) = false := decide_eq_false (by omega)
    rw [hr]
    clear h1 hn hb hr
    go_enter Try.func45, Try.ntmps45
    go_wp2
    go_ret
    exact ⟨rfl, rfl⟩

set_option maxHeartbeats 2000000 in
theorem refSafe_any (b : Nat) (w : World) (hb : b < 18446744073709551616) :
    Calls Try.prog 17 #[.float .f64 b] w fun e w' => e = .returned (.bool (decide (SafeW (frung b)))) ∧ w' = w := by
  have h1 := eql_self b
  have h0 := eql_zero2 b
  have HS : Hid (∀ w, Calls Try.prog 50 #[.float .f64 b] w fun e w' => e = .returned (.float .f64 (szw b)) ∧ w' = w) := fun w => size_any b w hb
  by_cases hz : frung b = 0
  · have h0' : (FloatKind.f64.format.order b 0 == some .eq) = true := by rw [h0]; exact decide_eq_true hz
    have hr : decide (SafeW (frung b)) = true := decide_eq_true (Or.inl hz)
    rw [hr]
    clear h1 h0 hz hb hr
    go_enter Try.func17, Try.ntmps17
    go_wp2
    go_ret
    exact ⟨rfl, rfl⟩
  have h0' : (FloatKind.f64.format.order b 0 == some .eq) = false := by rw [h0]; exact decide_eq_false hz
  by_cases hn : frung b ≤ 9218868437227405312
  · have h2 := szw_geq (c := 2580562586483294208) hb hn hz (by omega)
    have h3 := szw_leq (c := 6633802251116740608) hb hn (by omega) (by omega)
    have h1' : (FloatKind.f64.format.order b b == some .eq) = true := by rw [h1]; exact decide_eq_true hn
    have ek : decide (SafeW (frung b)) = (decide (2580562586483294208 ≤ frung b) && decide (frung b ≤ 6633802251116740608)) := by
      unfold SafeW
      by_cases e2 : 2580562586483294208 ≤ frung b <;> by_cases e3 : frung b ≤ 6633802251116740608 <;> simp [hz, e2, e3]
    clear h1 h0 hn hz hb
    generalize decide (SafeW (frung b)) = res at *
    generalize decide (2580562586483294208 ≤ frung b) = t2 at *
    generalize decide (frung b ≤ 6633802251116740608) = t3 at *
    generalize szw b = z at *
    cases t2
    · simp at ek
      subst ek
      clear h3
      go_enter Try.func17, Try.ntmps17
      go_wp2_with fail
      refine (HS.out _).mono ?_
      rintro e w1 ⟨rfl, rfl⟩
      go_wp2_with fail
      refine (power_down 450 (by omega) (by omega) _).mono ?_
      rintro e w2 ⟨rfl, rfl⟩
      go_wp2
      go_ret
      exact ⟨rfl, rfl⟩
    · simp at ek
      subst ek
      go_enter Try.func17, Try.ntmps17
      go_wp2_with fail
      refine (HS.out _).mono ?_
      rintro e w1 ⟨rfl, rfl⟩
      go_wp2_with fail
      refine (power_down 450 (by omega) (by omega) _).mono ?_
      rintro e w2 ⟨rfl, rfl⟩
      go_wp2_with fail
      refine (HS.out _).mono ?_
      rintro e w3 ⟨rfl, rfl⟩
      go_wp2_with fail
      refine (power_up 450 (by omega) _).mono ?_
      rintro e w4 ⟨rfl, rfl⟩
      go_wp2
      go_ret
      exact ⟨rfl, rfl⟩
  · have h1' : (FloatKind.f64.format.order b b == some .eq) = false := by rw [h1]; exact decide_eq_false hn
    have hr : decide (SafeW (frung b)) = false := decide_eq_false (by unfold SafeW; omega)
    rw [hr]
    clear h1 h0 hn hz hb hr
    go_enter Try.func17, Try.ntmps17
    go_wp2
    go_ret
    exact ⟨rfl, rfl⟩

end Go.Proofs.Ytfocdhapjljooaa
