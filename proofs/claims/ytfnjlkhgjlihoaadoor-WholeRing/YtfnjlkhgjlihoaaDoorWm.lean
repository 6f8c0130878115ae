/- The walks of cmp.Compare at uint64 and of against: two magnitudes held against each other. -/
import Derived.Test.YtfnjlkhgjlihoaaDoorWi
namespace Go.Proofs.YtfnjlkhgjlihoaaDoor
open Go.RowKit
attribute [local go_sem ↓] Go.wp_at_zero Go.wp_at_succ

def cmpI (x y : Int) : Int := if x < y then -1 else if y < x then 1 else 0

set_option maxHeartbeats 1000000 in
theorem isNaN64_any (x : Int) (w : World) : Calls Tryd.prog 79 #[.int .u64 x] w fun e w' => e = .returned (.bool false) ∧ w' = w := by
  go_enter Tryd.func79, Tryd.ntmps79
  go_wp2
  go_ret
  exact ⟨by simp, rfl⟩

set_option maxHeartbeats 1000000 in
theorem cmp64_any (x y : Int) (w : World) : Calls Tryd.prog 67 #[.int .u64 x, .int .u64 y] w fun e w' => e = .returned (.int .i64 (cmpI x y)) ∧ w' = w := by
  rcases Int.lt_trichotomy x y with h | h | h
  · have hx : ¬ y < x := by omega
    go_enter Tryd.func67, Tryd.ntmps67
    go_wp2_with (first | (go_at_call 79; refine (isNaN64_any _ _).mono ?_; rintro e w' ⟨rfl, rfl⟩))
    go_ret
    exact ⟨by simp [cmpI, h], rfl⟩
  · subst h
    have hx : ¬ x < x := by omega
    go_enter Tryd.func67, Tryd.ntmps67
    go_wp2_with (first | (go_at_call 79; refine (isNaN64_any _ _).mono ?_; rintro e w' ⟨rfl, rfl⟩))
    go_ret
    exact ⟨by simp [cmpI], rfl⟩
  · have hx : ¬ x < y := by omega
    go_enter Tryd.func67, Tryd.ntmps67
    go_wp2_with (first | (go_at_call 79; refine (isNaN64_any _ _).mono ?_; rintro e w' ⟨rfl, rfl⟩))
    go_ret
    exact ⟨by simp [cmpI, h, hx], rfl⟩

theorem cmpInt_any (x y : Int) (w : World) : Calls Tryd.prog 43 #[.int .i64 x, .int .i64 y] w fun e w' => e = .returned (.int .i64 (cmpI x y)) ∧ w' = w := by
  have e : cmpI x y = Lib.compareInt x y := by unfold cmpI Lib.compareInt; rfl
  rw [e]
  exact Tryd.cmp_Compare_int x y w

end Go.Proofs.YtfnjlkhgjlihoaaDoor
