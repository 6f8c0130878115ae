/- Own texts, put together: Ol Oq. -/
import Derived.Test.YtglcngjllfgdpabQ13
/- OrientTurns, OrientAround: the laws' walks. -/
namespace Go.Proofs.Ytglcngjllfgdpab
open Go.RowKit Go.Shelf

theorem sgq_minus (q : Rat) : sgq (-q) = -sgq q := by
  unfold sgq
  rcases (by grind : q < 0 ∨ q = 0 ∨ 0 < q) with h | h | h
  · rw [if_neg (by grind), if_neg (by grind), if_pos h]; omega
  · rw [h]; decide +kernel
  · rw [if_pos (by grind), if_neg (by grind), if_neg (by grind)]
theorem sg3_round (ax ay bx by' cx cy : Nat) : sg3 bx by' cx cy ax ay = sg3 ax ay bx by' cx cy := by
  by_cases h : P3 ax ay bx by' cx cy
  · rw [sg3_yes h, sg3_yes ⟨h.2.1, h.2.2, h.1⟩]
    congr 1
    unfold S3
    grind
  · rw [sg3_no h, sg3_no (fun h' => h ⟨h'.2.2, h'.1, h'.2.1⟩)]
theorem sg3_swap (ax ay bx by' cx cy : Nat) : sg3 bx by' ax ay cx cy = -sg3 ax ay bx by' cx cy := by
  by_cases h : P3 ax ay bx by' cx cy
  · rw [sg3_yes h, sg3_yes ⟨h.2.1, h.1, h.2.2⟩, ← sgq_minus]
    congr 1
    unfold S3
    grind
  · rw [sg3_no h, sg3_no (fun h' => h ⟨h'.2.1, h'.1, h'.2.2⟩)]; omega
theorem sg3_twice (ax ay bx by' : Nat) : sg3 ax ay ax ay bx by' = 0 := by
  by_cases h : P3 ax ay ax ay bx by'
  · rw [sg3_yes h, sgq_zero]
    unfold S3
    grind
  · rw [sg3_no h]

set_option maxRecDepth 100000 in
set_option maxHeartbeats 4000000 in
theorem turns_law (ax ay bx by' cx cy : Nat) (w : World) (hw : W6 ax ay bx by' cx cy) :
    Calls Try.prog 6 #[pv ax ay, pv bx by', pv cx cy] w fun e w' => e = .returned (.bool true) ∧ Below w.heap.size w w' := by
  have HW : Hid (W6 ax ay bx by' cx cy) := hw
  clear hw
  have HS : Hid (B3 w (((w.alloc (.cells #[.float .f64 ax, .float .f64 ay] 24)).alloc (.cells #[.float .f64 bx, .float .f64 by'] 24)).alloc (.cells #[.float .f64 cx, .float .f64 cy] 24)) ax ay bx by' cx cy) := B3.start w ax ay bx by' cx cy
  obtain ⟨z, hz⟩ : ∃ z, Hid (sg3 ax ay bx by' cx cy = z) := ⟨_, rfl⟩
  obtain ⟨h1, h2⟩ := sg3_range ax ay bx by' cx cy
  rw [hz.out] at h1 h2
  have n1 : IntKind.i64.wrap (-z) = -z := wrapE _ (by omega) (by omega)
  go_enter Try.func6, Try.ntmps6
  go_wp2_with fail
  refine (sign_is ax ay bx by' cx cy _ (z) ⟨HW.out.1, HW.out.2.1, HW.out.2.2⟩ (by exact hz.out)).mono ?_
  rintro e w1 ⟨rfl, hb1⟩
  have H1 : Hid (B3 w w1 ax ay bx by' cx cy) := HS.out.later hb1
  clear hb1
  obtain ⟨u0, u1, u2, u3, u4, u5, _⟩ := H1.out
  go_wp2_with fail
  refine (sign_is bx by' cx cy ax ay _ (z) ⟨HW.out.2.1, HW.out.2.2, HW.out.1⟩ (by rw [sg3_round]; exact hz.out)).mono ?_
  rintro e w2 ⟨rfl, hb2⟩
  have H2 : Hid (B3 w w2 ax ay bx by' cx cy) := H1.out.later hb2
  clear u0 u1 u2 u3 u4 u5 H1
  clear hb2
  obtain ⟨u0, u1, u2, u3, u4, u5, _⟩ := H2.out
  go_wp2_with fail
  refine (sign_is cx cy ax ay bx by' _ (z) ⟨HW.out.2.2, HW.out.1, HW.out.2.1⟩ (by rw [sg3_round, sg3_round]; exact hz.out)).mono ?_
  rintro e w3 ⟨rfl, hb3⟩
  have H3 : Hid (B3 w w3 ax ay bx by' cx cy) := H2.out.later hb3
  clear u0 u1 u2 u3 u4 u5 H2
  clear hb3
  obtain ⟨u0, u1, u2, u3, u4, u5, _⟩ := H3.out
  go_wp2_with fail
  refine (sign_is bx by' ax ay cx cy _ (-z) ⟨HW.out.2.1, HW.out.1, HW.out.2.2⟩ (by rw [sg3_swap, hz.out])).mono ?_
  rintro e w4 ⟨rfl, hb4⟩
  have H4 : Hid (B3 w w4 ax ay bx by' cx cy) := H3.out.later hb4
  clear u0 u1 u2 u3 u4 u5 H3
  clear hb4
  obtain ⟨u0, u1, u2, u3, u4, u5, _⟩ := H4.out
  go_wp2_with fail
  refine (sign_is ax ay cx cy bx by' _ (-z) ⟨HW.out.1, HW.out.2.2, HW.out.2.1⟩ (by rw [sg3_swap, sg3_round, sg3_round, hz.out])).mono ?_
  rintro e w5 ⟨rfl, hb5⟩
  have H5 : Hid (B3 w w5 ax ay bx by' cx cy) := H4.out.later hb5
  clear u0 u1 u2 u3 u4 u5 H4
  clear hb5
  obtain ⟨u0, u1, u2, u3, u4, u5, _⟩ := H5.out
  go_wp2_with fail
  refine (sign_is cx cy bx by' ax ay _ (-z) ⟨HW.out.2.2, HW.out.2.1, HW.out.1⟩ (by rw [sg3_swap, sg3_round, hz.out])).mono ?_
  rintro e w6 ⟨rfl, hb6⟩
  have H6 : Hid (B3 w w6 ax ay bx by' cx cy) := H5.out.later hb6
  clear u0 u1 u2 u3 u4 u5 H5
  clear hb6
  obtain ⟨u0, u1, u2, u3, u4, u5, _⟩ := H6.out
  go_wp2_with fail
  refine (sign_is ax ay ax ay bx by' _ (0) ⟨HW.out.1, HW.out.1, HW.out.2.1⟩ (by exact sg3_twice _ _ _ _)).mono ?_
  rintro e w7 ⟨rfl, hb7⟩
  have H7 : Hid (B3 w w7 ax ay bx by' cx cy) := H6.out.later hb7
  clear u0 u1 u2 u3 u4 u5 H6
  clear hb7
  obtain ⟨u0, u1, u2, u3, u4, u5, _⟩ := H7.out
  go_wp2_with fail
  refine (awake_any _).mono ?_
  rintro e w8 ⟨rfl, hb8⟩
  have H8 : Hid (Below w.heap.size w w8) := below_step H7.out.bel hb8
  clear hb8 u0 u1 u2 u3 u4 u5
  go_wp2
  go_ret
  exact ⟨rfl, H8.out⟩

end Go.Proofs.Ytglcngjllfgdpab

/- OrientSigns: the law's walk. -/
namespace Go.Proofs.Ytglcngjllfgdpab
open Go.RowKit Go.Shelf

theorem refsign_is (ax ay bx by' cx cy : Nat) (w : World) (z : Int) (hw : W6 ax ay bx by' cx cy) (hz : sg3 ax ay bx by' cx cy = z) :
    Calls Try.prog 9 #[pv ax ay, pv bx by', pv cx cy] w fun e w' => e = .returned (.int .i64 z) ∧ Below w.heap.size w w' := by
  rw [← hz]
  exact ref4Sign ax ay bx by' cx cy w hw

set_option maxRecDepth 100000 in
set_option maxHeartbeats 4000000 in
theorem osigns_law (ax ay bx by' cx cy : Nat) (w : World) (hw : W6 ax ay bx by' cx cy) :
    Calls Try.prog 3 #[pv ax ay, pv bx by', pv cx cy] w fun e w' => e = .returned (.bool true) ∧ Below w.heap.size w w' := by
  have HW : Hid (W6 ax ay bx by' cx cy) := hw
  clear hw
  have HS : Hid (B3 w (((w.alloc (.cells #[.float .f64 ax, .float .f64 ay] 24)).alloc (.cells #[.float .f64 bx, .float .f64 by'] 24)).alloc (.cells #[.float .f64 cx, .float .f64 cy] 24)) ax ay bx by' cx cy) := B3.start w ax ay bx by' cx cy
  obtain ⟨z, hz⟩ : ∃ z, Hid (sg3 ax ay bx by' cx cy = z) := ⟨_, rfl⟩
  go_enter Try.func3, Try.ntmps3
  go_wp2_with fail
  refine (refsign_is ax ay bx by' cx cy _ z HW.out hz.out).mono ?_
  rintro e w1 ⟨rfl, hb⟩
  have H1 : Hid (B3 w w1 ax ay bx by' cx cy) := HS.out.later hb
  clear hb
  obtain ⟨x0, x1, x2, x3, x4, x5, _⟩ := H1.out
  go_wp2_with fail
  refine (fast_any ax ay bx by' cx cy _ HW.out).mono ?_
  rintro e w2 ⟨⟨s, t, rfl, hf⟩, hb⟩
  have HF : Hid (FastR ax ay bx by' cx cy s t) := hf
  clear hf
  have H2 : Hid (B3 w w2 ax ay bx by' cx cy) := H1.out.later hb
  clear hb x0 x1 x2 x3 x4 x5 H1
  obtain ⟨x0, x1, x2, x3, x4, x5, _⟩ := H2.out
  go_wp2_with fail
  refine (sign_is ax ay bx by' cx cy _ z HW.out hz.out).mono ?_
  rintro e w3 ⟨rfl, hb⟩
  have H3 : Hid (B3 w w3 ax ay bx by' cx cy) := H2.out.later hb
  clear hb x0 x1 x2 x3 x4 x5 H2
  obtain ⟨x0, x1, x2, x3, x4, x5, _⟩ := H3.out
  cases t
  · obtain rfl := HF.out.2.1 rfl
    go_wp2_with fail
    refine (awake_any _).mono ?_
    rintro e w4 ⟨rfl, hb⟩
    have H4 : Hid (Below w.heap.size w w4) := below_step H3.out.bel hb
    clear hb x0 x1 x2 x3 x4 x5
    go_wp2
    go_ret
    exact ⟨rfl, H4.out⟩
  · have HP : Hid (P3 ax ay bx by' cx cy) := (HF.out.1 rfl).1
    obtain rfl : s = z := by rw [(HF.out.1 rfl).2, ← hz.out, sg3_yes HP.out]
    go_wp2_with fail
    refine (may_any ax ay _ HW.out.1).mono ?_
    rintro e w4 ⟨⟨t, rfl, ht⟩, hb⟩
    obtain rfl := ht.2 HP.out.1
    clear ht
    have H4 : Hid (B3 w w4 ax ay bx by' cx cy) := H3.out.later hb
    clear hb x0 x1 x2 x3 x4 x5 H3
    obtain ⟨x0, x1, x2, x3, x4, x5, _⟩ := H4.out
    go_wp2_with fail
    refine (may_any bx by' _ HW.out.2.1).mono ?_
    rintro e w5 ⟨⟨t, rfl, ht⟩, hb⟩
    obtain rfl := ht.2 HP.out.2.1
    clear ht
    have H5 : Hid (B3 w w5 ax ay bx by' cx cy) := H4.out.later hb
    clear hb x0 x1 x2 x3 x4 x5 H4
    obtain ⟨x0, x1, x2, x3, x4, x5, _⟩ := H5.out
    go_wp2_with fail
    refine (may_any cx cy _ HW.out.2.2).mono ?_
    rintro e w6 ⟨⟨t, rfl, ht⟩, hb⟩
    obtain rfl := ht.2 HP.out.2.2
    clear ht
    have H6 : Hid (B3 w w6 ax ay bx by' cx cy) := H5.out.later hb
    clear hb x0 x1 x2 x3 x4 x5 H5
    obtain ⟨x0, x1, x2, x3, x4, x5, _⟩ := H6.out
    go_wp2_with fail
    refine (awake_any _).mono ?_
    rintro e w7 ⟨rfl, hb⟩
    have H7 : Hid (Below w.heap.size w w7) := below_step H6.out.bel hb
    clear hb x0 x1 x2 x3 x4 x5
    go_wp2
    go_ret
    exact ⟨rfl, H7.out⟩

end Go.Proofs.Ytglcngjllfgdpab
