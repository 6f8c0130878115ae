/- The float nearest to a magnitude. -/
import Derived.Test.YtfnjlkhgjlihoaaDoorFh
namespace Go.Proofs.YtfnjlkhgjlihoaaDoor
open Go.RowKit
attribute [local go_sem ↓] Go.wp_at_zero Go.wp_at_succ

set_option maxHeartbeats 2000000 in
theorem nearest_walk (s : Value) (ns : List Nat) (low hi last : Int) (W kept : Nat) (A B : Int) (half lt odd : Bool) (r : Nat) (w : World) (hws : Ws w s ns) (ht : Topped ns) (l1 : -65536 ≤ low) (l2 : low ≤ 65536) (hhi : hiB ns low = hi) (h1 : -65536 ≤ hi) (h2 : hi ≤ 65536)
    (hlast : max (hi - 52) (-1074) = last) (hW : win ns low (last - 1) = W) (hWb : W < 18014398509481984) (hA : bits .and .u64 (W : Int) 1 = A) (hA2 : (A == 1) = half) (hB : bits .and .u64 ((W : Int) / 2) 1 = B) (hB2 : (B == 1) = odd) (hlt : decide (low < last - 1) = lt) (hk : (W : Int) / 2 + (if half && (lt || odd) then 1 else 0) = (kept : Int))
    (hl : ∀ w, Calls Tryd.prog 49 #[.float .f64 (floatOfInt .f64 (kept : Int)), .int .i64 last] w fun e w' => e = .returned (.float .f64 r) ∧ w' = w) :
    Calls Tryd.prog 41 #[.agg #[s, .int .i64 low]] w fun e w' => e = .returned (.float .f64 r) ∧ Below w.heap.size w w' := by
  have HL : Hid _ := hl
  have HW0 : Hid (Ws w s ns) := hws
  have HB0 : Hid (Below w.heap.size w (w.alloc (.cells #[s, .int .i64 low] 25))) := (Below.refl _ _).alloc (Nat.le_refl _) _
  clear hl hws
  go_enter Tryd.func41, Tryd.ntmps41
  go_wp2_with fail
  refine (highest_any _ ns _ _ (HW0.out.later HB0.out (Nat.le_refl _)) ht (by omega) (by omega)).mono ?_
  rintro e w1 ⟨rfl, hb1⟩
  rw [hhi]
  have c0 : w1.cell? ⟨w.heap.size, 0, none⟩ = some s := cell_later hb1 (by go_simp)
  have c1 : w1.cell? ⟨w.heap.size, 1, none⟩ = some (.int .i64 low) := cell_later hb1 (by go_simp)
  have HB1 : Hid (Below w.heap.size w w1) := thru HB0.out hb1
  clear hb1
  go_wp2_with fail
  refine (window_any _ ns _ _ _ (HW0.out.later HB1.out (Nat.le_refl _)) (by omega) (by omega) (by omega) (by omega)).mono ?_
  rintro e w2 ⟨rfl, hb2⟩
  rw [hW]
  have d0 : w2.cell? ⟨w.heap.size, 0, none⟩ = some s := cell_later hb2 c0
  have d1 : w2.cell? ⟨w.heap.size, 1, none⟩ = some (.int .i64 low) := cell_later hb2 c1
  have HB2 : Hid (Below w.heap.size w w2) := thru HB1.out hb2
  clear hb2 c0 c1
  go_wp2_with fail
  refine (window_any _ ns _ _ _ (HW0.out.later HB2.out (Nat.le_refl _)) (by omega) (by omega) (by omega) (by omega)).mono ?_
  rintro e w3 ⟨rfl, hb3⟩
  rw [hW]
  have f0 : w3.cell? ⟨w.heap.size, 0, none⟩ = some s := cell_later hb3 d0
  have f1 : w3.cell? ⟨w.heap.size, 1, none⟩ = some (.int .i64 low) := cell_later hb3 d1
  have HB3 : Hid (Below w.heap.size w w3) := thru HB2.out hb3
  clear hb3 d0 d1
  have hdiv : (0 : Int) ≤ (W : Int) / 2 ∧ (W : Int) / 2 < 9007199254740992 := by omega
  have hwr : IntKind.u64.wrap ((W : Int) / 2 + 1) = (W : Int) / 2 + 1 := by rw [IntKind.wrap_u64]; omega
  cases half
  · rw [Bool.false_and, if_neg (by decide), Int.add_zero] at hk
    have HK : Hid _ := hk
    clear hk
    go_wp2_with (first
      | (go_at_call 49; rw [HK.out]; refine (HL.out _).mono ?_; rintro e w' ⟨rfl, rfl⟩))
    go_ret
    exact ⟨rfl, HB3.out⟩
  · cases lt
    · cases odd
      · rw [Bool.true_and, Bool.or_self, if_neg (by decide), Int.add_zero] at hk
        have HK : Hid _ := hk
        clear hk
        go_wp2_with (first
          | (go_at_call 49; rw [HK.out]; refine (HL.out _).mono ?_; rintro e w' ⟨rfl, rfl⟩))
        go_ret
        exact ⟨rfl, HB3.out⟩
      · rw [Bool.true_and, Bool.or_true, if_pos rfl] at hk
        have HK : Hid _ := hk
        clear hk
        go_wp2_with (first
          | (go_at_call 49; rw [HK.out]; refine (HL.out _).mono ?_; rintro e w' ⟨rfl, rfl⟩))
        go_ret
        exact ⟨rfl, HB3.out⟩
    · rw [Bool.true_and, Bool.true_or, if_pos rfl] at hk
      have HK : Hid _ := hk
      clear hk
      go_wp2_with (first
        | (go_at_call 49; rw [HK.out]; refine (HL.out _).mono ?_; rintro e w' ⟨rfl, rfl⟩))
      go_ret
      exact ⟨rfl, HB3.out⟩

end Go.Proofs.YtfnjlkhgjlihoaaDoor
