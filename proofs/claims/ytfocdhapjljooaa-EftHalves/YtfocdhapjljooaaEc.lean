/- Which floats are tame, which are safe: the document's. -/
import Derived.Test.YtfocdhapjljooaaEb
namespace Go.Proofs.Ytfocdhapjljooaa
open Go.RowKit

theorem pw_up : ∀ k, k < 1000 → floatBits .mul .f64 ((1023 + k) * 4503599627370496) 4611686018427387904 = some ((1024 + k) * 4503599627370496) := by decide +kernel
theorem pw_down : ∀ k, k < 450 → floatBits .quo .f64 ((1023 - k) * 4503599627370496) 4611686018427387904 = some ((1022 - k) * 4503599627370496) := by decide +kernel

set_option maxHeartbeats 1000000 in
theorem power_up (n : Nat) (hn : n ≤ 1000) (w : World) :
    Calls Try.prog 51 #[.int .i64 (n : Int)] w fun e w' => e = .returned (.float .f64 ((1023 + n) * 4503599627370496)) ∧ w' = w := by
  have hn' : (n : Int) ≤ 1000 := by omega
  have hn0 : (0 : Int) ≤ (n : Int) := by omega
  go_enter Try.func51, Try.ntmps51
  go_wp2
  go_loop [3, 4] (fun x i => ∃ k : Nat, k ≤ n ∧ i = .int .i64 k ∧ x = .float .f64 ((1023 + k) * 4503599627370496)) (fun _ i => n - (intOf i).toNat)
  case atStart => exact ⟨0, Nat.zero_le _, rfl, rfl⟩
  case round =>
    obtain ⟨k, hk, rfl, rfl⟩ := hrel
    have hki : (k : Int) ≤ (n : Int) := by omega
    by_cases h : k < n
    · have h1 : ∀ w, (binOp .mul 22 (.float .f64 ((1023 + k) * 4503599627370496)) (.float .f64 4611686018427387904)).run Try.prog w = .ok (.float .f64 ((1024 + k) * 4503599627370496)) w := fun w => run_float_arith w .mul _ .f64 _ _ _ (pw_up k (by omega))
      have hl : (k : Int) < (n : Int) := by omega
      go_wp2
      go_round
      case rel => exact ⟨k + 1, by omega, by go_num, by congr 2; omega⟩
      case measure => simp [intOf]; omega
    · have e : k = n := by omega
      subst e
      go_wp2
      go_loop [3, 5] (fun x e => e = .int .i64 0 ∧ x = .float .f64 ((1023 + k) * 4503599627370496)) (fun _ _ => 0)
      case atStart => exact ⟨rfl, rfl⟩
      case round =>
        obtain ⟨rfl, rfl⟩ := hrel
        go_wp2
        go_ret
        exact ⟨rfl, rfl⟩

set_option maxHeartbeats 1000000 in
theorem power_down (n : Nat) (hn : n ≤ 450) (hp : 0 < n) (w : World) :
    Calls Try.prog 51 #[.int .i64 (-(n : Int))] w fun e w' => e = .returned (.float .f64 ((1023 - n) * 4503599627370496)) ∧ w' = w := by
  have hn' : (n : Int) ≤ 450 := by omega
  have hn0 : (0 : Int) < (n : Int) := by omega
  go_enter Try.func51, Try.ntmps51
  go_wp2
  go_loop [3, 4] (fun x e => e = .int .i64 0 ∧ x = .float .f64 4607182418800017408) (fun _ _ => 0)
  case atStart => exact ⟨rfl, rfl⟩
  case round =>
    obtain ⟨rfl, rfl⟩ := hrel
    go_wp2
    go_loop [3, 5] (fun x i => ∃ k : Nat, k ≤ n ∧ i = .int .i64 (-(k : Int)) ∧ x = .float .f64 ((1023 - k) * 4503599627370496)) (fun _ i => n - (-(intOf i)).toNat)
    case atStart => exact ⟨0, Nat.zero_le _, rfl, rfl⟩
    case round =>
      obtain ⟨k, hk, rfl, rfl⟩ := hrel
      have hki : (k : Int) ≤ (n : Int) := by omega
      by_cases h : k < n
      · have h1 : ∀ w, (binOp .quo 22 (.float .f64 ((1023 - k) * 4503599627370496)) (.float .f64 4611686018427387904)).run Try.prog w = .ok (.float .f64 ((1022 - k) * 4503599627370496)) w := fun w => run_float_arith w .quo _ .f64 _ _ _ (pw_down k (by omega))
        have hl : (k : Int) < (n : Int) := by omega
        have hl' : -(n : Int) < -(k : Int) := by omega
        have hwr : IntKind.i64.wrap (-(k : Int) - 1) = -((k + 1 : Nat) : Int) := by rw [show -(k : Int) - 1 = -((k + 1 : Nat) : Int) by omega]; exact wrapE _ (by omega) (by omega)
        go_wp2
        go_round
        case rel => exact ⟨k + 1, by omega, by simp, by congr 2; omega⟩
        case measure => simp [intOf]; omega
      · have e : k = n := by omega
        subst e
        go_wp2
        go_ret
        exact ⟨rfl, rfl⟩

end Go.Proofs.Ytfocdhapjljooaa
