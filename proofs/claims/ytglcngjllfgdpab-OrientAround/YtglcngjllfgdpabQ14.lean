/- Own texts, put together: Om. -/
import Derived.Test.YtglcngjllfgdpabQ13
/- OrientAround: the law's walk. -/
namespace Go.Proofs.Ytglcngjllfgdpab
open Go.RowKit Go.Shelf
attribute [local go_sem] run_store_float

theorem sgq_pos {q : Rat} : 0 < sgq q ↔ 0 < q := by
  unfold sgq
  constructor
  · intro h
    split at h
    · omega
    · split at h
      · omega
      · grind
  · intro h
    rw [if_neg (by grind), if_neg (by grind)]; omega
theorem sg3_pos {ax ay bx by' cx cy : Nat} : 0 < sg3 ax ay bx by' cx cy ↔ P3 ax ay bx by' cx cy ∧ 0 < S3 ax ay bx by' cx cy := by
  by_cases h : P3 ax ay bx by' cx cy
  · rw [sg3_yes h, sgq_pos]
    exact ⟨fun a => ⟨h, a⟩, fun a => a.2⟩
  · rw [sg3_no h]
    exact ⟨fun a => by omega, fun a => absurd a.1 h⟩
theorem left_is (ax ay bx by' cx cy : Nat) (w : World) (t : Bool) (hw : W6 ax ay bx by' cx cy) (ht : decide (0 < sg3 ax ay bx by' cx cy) = t) :
    Calls Try.prog 19 #[pv ax ay, pv bx by', pv cx cy] w fun e w' => e = .returned (.bool t) ∧ Below w.heap.size w w' := by
  rw [← ht]
  exact left_any ax ay bx by' cx cy w hw

theorem around1 {px py qx qy rx ry tx ty : Nat} (h1 : 0 < sg3 tx ty qx qy rx ry) (h2 : 0 < sg3 px py tx ty rx ry) (h3 : 0 < sg3 px py qx qy tx ty) : 0 < sg3 px py qx qy rx ry := by
  rw [sg3_pos] at h1 h2 h3 ⊢
  refine ⟨⟨h3.1.1, h3.1.2.1, h1.1.2.2⟩, ?_⟩
  have e : S3 px py qx qy rx ry = S3 tx ty qx qy rx ry + S3 px py tx ty rx ry + S3 px py qx qy tx ty := by unfold S3; grind
  have a := h1.2
  have b := h2.2
  have c := h3.2
  rw [e]
  grind
theorem around2 {px py qx qy rx ry sx sy tx ty : Nat} (h1 : 0 < sg3 tx ty sx sy px py) (h2 : 0 < sg3 tx ty sx sy qx qy) (h3 : 0 < sg3 tx ty sx sy rx ry) (h4 : 0 < sg3 tx ty px py qx qy) (h5 : 0 < sg3 tx ty qx qy rx ry) : 0 < sg3 tx ty px py rx ry := by
  rw [sg3_pos] at h1 h2 h3 h4 h5 ⊢
  refine ⟨⟨h1.1.1, h1.1.2.2, h3.1.2.2⟩, ?_⟩
  have e : S3 tx ty sx sy qx qy * S3 tx ty px py rx ry = S3 tx ty sx sy px py * S3 tx ty qx qy rx ry + S3 tx ty sx sy rx ry * S3 tx ty px py qx qy := by unfold S3; grind
  have a := Rat.mul_pos h1.2 h5.2
  have b := Rat.mul_pos h3.2 h4.2
  have c := h2.2
  apply Classical.byContradiction
  intro hn
  have d := Rat.mul_le_mul_of_nonneg_left (show S3 tx ty px py rx ry ≤ 0 by grind) (Rat.le_of_lt c)
  rw [e, Rat.mul_zero] at d
  grind

set_option maxRecDepth 100000 in
set_option maxHeartbeats 8000000 in
theorem around_law (px py qx qy rx ry sx sy tx ty : Nat) (w : World) (hw : ((px < 18446744073709551616 ∧ py < 18446744073709551616) ∧ (qx < 18446744073709551616 ∧ qy < 18446744073709551616) ∧ (rx < 18446744073709551616 ∧ ry < 18446744073709551616) ∧ (sx < 18446744073709551616 ∧ sy < 18446744073709551616) ∧ (tx < 18446744073709551616 ∧ ty < 18446744073709551616))) :
    Calls Try.prog 7 #[pv px py, pv qx qy, pv rx ry, pv sx sy, pv tx ty] w fun e w' => e = .returned (.bool true) ∧ Below w.heap.size w w' := by
  have HW : Hid ((px < 18446744073709551616 ∧ py < 18446744073709551616) ∧ (qx < 18446744073709551616 ∧ qy < 18446744073709551616) ∧ (rx < 18446744073709551616 ∧ ry < 18446744073709551616) ∧ (sx < 18446744073709551616 ∧ sy < 18446744073709551616) ∧ (tx < 18446744073709551616 ∧ ty < 18446744073709551616)) := hw
  clear hw
  obtain ⟨b1, eb1⟩ : ∃ t, Hid (decide (0 < sg3 tx ty qx qy rx ry) = t) := ⟨_, rfl⟩
  obtain ⟨b2, eb2⟩ : ∃ t, Hid (decide (0 < sg3 px py tx ty rx ry) = t) := ⟨_, rfl⟩
  obtain ⟨b3, eb3⟩ : ∃ t, Hid (decide (0 < sg3 px py qx qy tx ty) = t) := ⟨_, rfl⟩
  obtain ⟨b4, eb4⟩ : ∃ t, Hid (decide (0 < sg3 px py qx qy rx ry) = t) := ⟨_, rfl⟩
  obtain ⟨d1, ed1⟩ : ∃ t, Hid (decide (0 < sg3 tx ty sx sy px py) = t) := ⟨_, rfl⟩
  obtain ⟨d2, ed2⟩ : ∃ t, Hid (decide (0 < sg3 tx ty sx sy qx qy) = t) := ⟨_, rfl⟩
  obtain ⟨d3, ed3⟩ : ∃ t, Hid (decide (0 < sg3 tx ty sx sy rx ry) = t) := ⟨_, rfl⟩
  obtain ⟨d4, ed4⟩ : ∃ t, Hid (decide (0 < sg3 tx ty px py qx qy) = t) := ⟨_, rfl⟩
  obtain ⟨d5, ed5⟩ : ∃ t, Hid (decide (0 < sg3 tx ty qx qy rx ry) = t) := ⟨_, rfl⟩
  obtain ⟨d6, ed6⟩ : ∃ t, Hid (decide (0 < sg3 tx ty px py rx ry) = t) := ⟨_, rfl⟩
  have HF1 : Hid (b1 = true → b2 = true → b3 = true → b4 = true) := by
    rw [← eb1.out, ← eb2.out, ← eb3.out, ← eb4.out]
    intro h1 h2 h3
    exact decide_eq_true (around1 (of_decide_eq_true h1) (of_decide_eq_true h2) (of_decide_eq_true h3))
  have HF2 : Hid (d1 = true → d2 = true → d3 = true → d4 = true → d5 = true → d6 = true) := by
    rw [← ed1.out, ← ed2.out, ← ed3.out, ← ed4.out, ← ed5.out, ← ed6.out]
    intro h1 h2 h3 h4 h5
    exact decide_eq_true (around2 (of_decide_eq_true h1) (of_decide_eq_true h2) (of_decide_eq_true h3) (of_decide_eq_true h4) (of_decide_eq_true h5))
  go_enter Try.func7, Try.ntmps7
  go_wp2_with fail
  have HB : Hid (Below w.heap.size w (((((w.alloc (.cells #[.float .f64 px, .float .f64 py] 24)).alloc (.cells #[.float .f64 qx, .float .f64 qy] 24)).alloc (.cells #[.float .f64 rx, .float .f64 ry] 24)).alloc (.cells #[.float .f64 sx, .float .f64 sy] 24)).alloc (.cells #[.float .f64 tx, .float .f64 ty] 24))) := (((((Below.refl _ w).alloc (Nat.le_refl _) _).alloc (by simp) _).alloc (by simp; omega) _).alloc (by simp; omega) _).alloc (by simp; omega) _
  obtain ⟨W0, hW0⟩ : ∃ W0, W0 = (((((w.alloc (.cells #[.float .f64 px, .float .f64 py] 24)).alloc (.cells #[.float .f64 qx, .float .f64 qy] 24)).alloc (.cells #[.float .f64 rx, .float .f64 ry] 24)).alloc (.cells #[.float .f64 sx, .float .f64 sy] 24)).alloc (.cells #[.float .f64 tx, .float .f64 ty] 24)) := ⟨_, rfl⟩
  have zp0 : W0.cell? ⟨w.heap.size, 0, none⟩ = some (.float .f64 px) := by rw [hW0]; go_simp
  have zp1 : W0.cell? ⟨w.heap.size, 1, none⟩ = some (.float .f64 py) := by rw [hW0]; go_simp
  have zq0 : W0.cell? ⟨w.heap.size + 1, 0, none⟩ = some (.float .f64 qx) := by rw [hW0]; go_simp
  have zq1 : W0.cell? ⟨w.heap.size + 1, 1, none⟩ = some (.float .f64 qy) := by rw [hW0]; go_simp
  have zr0 : W0.cell? ⟨w.heap.size + 1 + 1, 0, none⟩ = some (.float .f64 rx) := by rw [hW0]; go_simp
  have zr1 : W0.cell? ⟨w.heap.size + 1 + 1, 1, none⟩ = some (.float .f64 ry) := by rw [hW0]; go_simp
  have zs0 : W0.cell? ⟨w.heap.size + 1 + 1 + 1, 0, none⟩ = some (.float .f64 sx) := by rw [hW0]; go_simp
  have zs1 : W0.cell? ⟨w.heap.size + 1 + 1 + 1, 1, none⟩ = some (.float .f64 sy) := by rw [hW0]; go_simp
  have zt0 : W0.cell? ⟨w.heap.size + 1 + 1 + 1 + 1, 0, none⟩ = some (.float .f64 tx) := by rw [hW0]; go_simp
  have zt1 : W0.cell? ⟨w.heap.size + 1 + 1 + 1 + 1, 1, none⟩ = some (.float .f64 ty) := by rw [hW0]; go_simp
  rw [← hW0] at HB ⊢
  clear hW0
  refine (left_is tx ty qx qy rx ry _ b1 ⟨HW.out.2.2.2.2, HW.out.2.1, HW.out.2.2.1⟩ eb1.out).mono ?_
  rintro e v1 ⟨rfl, hb⟩
  have HB : Hid (Below w.heap.size w v1) := below_step HB.out hb
  have zp0 : v1.cell? ⟨w.heap.size, 0, none⟩ = some (.float .f64 px) := box_cell hb zp0
  have zp1 : v1.cell? ⟨w.heap.size, 1, none⟩ = some (.float .f64 py) := box_cell hb zp1
  have zq0 : v1.cell? ⟨w.heap.size + 1, 0, none⟩ = some (.float .f64 qx) := box_cell hb zq0
  have zq1 : v1.cell? ⟨w.heap.size + 1, 1, none⟩ = some (.float .f64 qy) := box_cell hb zq1
  have zr0 : v1.cell? ⟨w.heap.size + 1 + 1, 0, none⟩ = some (.float .f64 rx) := box_cell hb zr0
  have zr1 : v1.cell? ⟨w.heap.size + 1 + 1, 1, none⟩ = some (.float .f64 ry) := box_cell hb zr1
  have zs0 : v1.cell? ⟨w.heap.size + 1 + 1 + 1, 0, none⟩ = some (.float .f64 sx) := box_cell hb zs0
  have zs1 : v1.cell? ⟨w.heap.size + 1 + 1 + 1, 1, none⟩ = some (.float .f64 sy) := box_cell hb zs1
  have zt0 : v1.cell? ⟨w.heap.size + 1 + 1 + 1 + 1, 0, none⟩ = some (.float .f64 tx) := box_cell hb zt0
  have zt1 : v1.cell? ⟨w.heap.size + 1 + 1 + 1 + 1, 1, none⟩ = some (.float .f64 ty) := box_cell hb zt1
  clear hb
  cases b1
  · go_wp2_with fail
    refine (left_is tx ty sx sy px py _ d1 ⟨HW.out.2.2.2.2, HW.out.2.2.2.1, HW.out.1⟩ ed1.out).mono ?_
    rintro e v2 ⟨rfl, hb⟩
    have HB : Hid (Below w.heap.size w v2) := below_step HB.out hb
    have zp0 : v2.cell? ⟨w.heap.size, 0, none⟩ = some (.float .f64 px) := box_cell hb zp0
    have zp1 : v2.cell? ⟨w.heap.size, 1, none⟩ = some (.float .f64 py) := box_cell hb zp1
    have zq0 : v2.cell? ⟨w.heap.size + 1, 0, none⟩ = some (.float .f64 qx) := box_cell hb zq0
    have zq1 : v2.cell? ⟨w.heap.size + 1, 1, none⟩ = some (.float .f64 qy) := box_cell hb zq1
    have zr0 : v2.cell? ⟨w.heap.size + 1 + 1, 0, none⟩ = some (.float .f64 rx) := box_cell hb zr0
    have zr1 : v2.cell? ⟨w.heap.size + 1 + 1, 1, none⟩ = some (.float .f64 ry) := box_cell hb zr1
    have zs0 : v2.cell? ⟨w.heap.size + 1 + 1 + 1, 0, none⟩ = some (.float .f64 sx) := box_cell hb zs0
    have zs1 : v2.cell? ⟨w.heap.size + 1 + 1 + 1, 1, none⟩ = some (.float .f64 sy) := box_cell hb zs1
    have zt0 : v2.cell? ⟨w.heap.size + 1 + 1 + 1 + 1, 0, none⟩ = some (.float .f64 tx) := box_cell hb zt0
    have zt1 : v2.cell? ⟨w.heap.size + 1 + 1 + 1 + 1, 1, none⟩ = some (.float .f64 ty) := box_cell hb zt1
    clear hb
    cases d1
    · go_wp2_with fail
      refine (awake_any _).mono ?_
      rintro e wz ⟨rfl, hb⟩
      have HB : Hid (Below w.heap.size w wz) := below_step HB.out hb
      clear hb
      go_wp2
      go_ret
      exact ⟨rfl, HB.out⟩
    · go_wp2_with fail
      refine (left_is tx ty sx sy qx qy _ d2 ⟨HW.out.2.2.2.2, HW.out.2.2.2.1, HW.out.2.1⟩ ed2.out).mono ?_
      rintro e v3 ⟨rfl, hb⟩
      have HB : Hid (Below w.heap.size w v3) := below_step HB.out hb
      have zp0 : v3.cell? ⟨w.heap.size, 0, none⟩ = some (.float .f64 px) := box_cell hb zp0
      have zp1 : v3.cell? ⟨w.heap.size, 1, none⟩ = some (.float .f64 py) := box_cell hb zp1
      have zq0 : v3.cell? ⟨w.heap.size + 1, 0, none⟩ = some (.float .f64 qx) := box_cell hb zq0
      have zq1 : v3.cell? ⟨w.heap.size + 1, 1, none⟩ = some (.float .f64 qy) := box_cell hb zq1
      have zr0 : v3.cell? ⟨w.heap.size + 1 + 1, 0, none⟩ = some (.float .f64 rx) := box_cell hb zr0
      have zr1 : v3.cell? ⟨w.heap.size + 1 + 1, 1, none⟩ = some (.float .f64 ry) := box_cell hb zr1
      have zs0 : v3.cell? ⟨w.heap.size + 1 + 1 + 1, 0, none⟩ = some (.float .f64 sx) := box_cell hb zs0
      have zs1 : v3.cell? ⟨w.heap.size + 1 + 1 + 1, 1, none⟩ = some (.float .f64 sy) := box_cell hb zs1
      have zt0 : v3.cell? ⟨w.heap.size + 1 + 1 + 1 + 1, 0, none⟩ = some (.float .f64 tx) := box_cell hb zt0
      have zt1 : v3.cell? ⟨w.heap.size + 1 + 1 + 1 + 1, 1, none⟩ = some (.float .f64 ty) := box_cell hb zt1
      clear hb
      cases d2
      · go_wp2_with fail
        refine (awake_any _).mono ?_
        rintro e wz ⟨rfl, hb⟩
        have HB : Hid (Below w.heap.size w wz) := below_step HB.out hb
        clear hb
        go_wp2
        go_ret
        exact ⟨rfl, HB.out⟩
      · go_wp2_with fail
        refine (left_is tx ty sx sy rx ry _ d3 ⟨HW.out.2.2.2.2, HW.out.2.2.2.1, HW.out.2.2.1⟩ ed3.out).mono ?_
        rintro e v4 ⟨rfl, hb⟩
        have HB : Hid (Below w.heap.size w v4) := below_step HB.out hb
        have zp0 : v4.cell? ⟨w.heap.size, 0, none⟩ = some (.float .f64 px) := box_cell hb zp0
        have zp1 : v4.cell? ⟨w.heap.size, 1, none⟩ = some (.float .f64 py) := box_cell hb zp1
        have zq0 : v4.cell? ⟨w.heap.size + 1, 0, none⟩ = some (.float .f64 qx) := box_cell hb zq0
        have zq1 : v4.cell? ⟨w.heap.size + 1, 1, none⟩ = some (.float .f64 qy) := box_cell hb zq1
        have zr0 : v4.cell? ⟨w.heap.size + 1 + 1, 0, none⟩ = some (.float .f64 rx) := box_cell hb zr0
        have zr1 : v4.cell? ⟨w.heap.size + 1 + 1, 1, none⟩ = some (.float .f64 ry) := box_cell hb zr1
        have zs0 : v4.cell? ⟨w.heap.size + 1 + 1 + 1, 0, none⟩ = some (.float .f64 sx) := box_cell hb zs0
        have zs1 : v4.cell? ⟨w.heap.size + 1 + 1 + 1, 1, none⟩ = some (.float .f64 sy) := box_cell hb zs1
        have zt0 : v4.cell? ⟨w.heap.size + 1 + 1 + 1 + 1, 0, none⟩ = some (.float .f64 tx) := box_cell hb zt0
        have zt1 : v4.cell? ⟨w.heap.size + 1 + 1 + 1 + 1, 1, none⟩ = some (.float .f64 ty) := box_cell hb zt1
        clear hb
        cases d3
        · go_wp2_with fail
          refine (awake_any _).mono ?_
          rintro e wz ⟨rfl, hb⟩
          have HB : Hid (Below w.heap.size w wz) := below_step HB.out hb
          clear hb
          go_wp2
          go_ret
          exact ⟨rfl, HB.out⟩
        · go_wp2_with fail
          refine (left_is tx ty px py qx qy _ d4 ⟨HW.out.2.2.2.2, HW.out.1, HW.out.2.1⟩ ed4.out).mono ?_
          rintro e v5 ⟨rfl, hb⟩
          have HB : Hid (Below w.heap.size w v5) := below_step HB.out hb
          have zp0 : v5.cell? ⟨w.heap.size, 0, none⟩ = some (.float .f64 px) := box_cell hb zp0
          have zp1 : v5.cell? ⟨w.heap.size, 1, none⟩ = some (.float .f64 py) := box_cell hb zp1
          have zq0 : v5.cell? ⟨w.heap.size + 1, 0, none⟩ = some (.float .f64 qx) := box_cell hb zq0
          have zq1 : v5.cell? ⟨w.heap.size + 1, 1, none⟩ = some (.float .f64 qy) := box_cell hb zq1
          have zr0 : v5.cell? ⟨w.heap.size + 1 + 1, 0, none⟩ = some (.float .f64 rx) := box_cell hb zr0
          have zr1 : v5.cell? ⟨w.heap.size + 1 + 1, 1, none⟩ = some (.float .f64 ry) := box_cell hb zr1
          have zs0 : v5.cell? ⟨w.heap.size + 1 + 1 + 1, 0, none⟩ = some (.float .f64 sx) := box_cell hb zs0
          have zs1 : v5.cell? ⟨w.heap.size + 1 + 1 + 1, 1, none⟩ = some (.float .f64 sy) := box_cell hb zs1
          have zt0 : v5.cell? ⟨w.heap.size + 1 + 1 + 1 + 1, 0, none⟩ = some (.float .f64 tx) := box_cell hb zt0
          have zt1 : v5.cell? ⟨w.heap.size + 1 + 1 + 1 + 1, 1, none⟩ = some (.float .f64 ty) := box_cell hb zt1
          clear hb
          cases d4
          · go_wp2_with fail
            refine (awake_any _).mono ?_
            rintro e wz ⟨rfl, hb⟩
            have HB : Hid (Below w.heap.size w wz) := below_step HB.out hb
            clear hb
            go_wp2
            go_ret
            exact ⟨rfl, HB.out⟩
          · go_wp2_with fail
            refine (left_is tx ty qx qy rx ry _ d5 ⟨HW.out.2.2.2.2, HW.out.2.1, HW.out.2.2.1⟩ ed5.out).mono ?_
            rintro e v6 ⟨rfl, hb⟩
            have HB : Hid (Below w.heap.size w v6) := below_step HB.out hb
            have zp0 : v6.cell? ⟨w.heap.size, 0, none⟩ = some (.float .f64 px) := box_cell hb zp0
            have zp1 : v6.cell? ⟨w.heap.size, 1, none⟩ = some (.float .f64 py) := box_cell hb zp1
            have zq0 : v6.cell? ⟨w.heap.size + 1, 0, none⟩ = some (.float .f64 qx) := box_cell hb zq0
            have zq1 : v6.cell? ⟨w.heap.size + 1, 1, none⟩ = some (.float .f64 qy) := box_cell hb zq1
            have zr0 : v6.cell? ⟨w.heap.size + 1 + 1, 0, none⟩ = some (.float .f64 rx) := box_cell hb zr0
            have zr1 : v6.cell? ⟨w.heap.size + 1 + 1, 1, none⟩ = some (.float .f64 ry) := box_cell hb zr1
            have zs0 : v6.cell? ⟨w.heap.size + 1 + 1 + 1, 0, none⟩ = some (.float .f64 sx) := box_cell hb zs0
            have zs1 : v6.cell? ⟨w.heap.size + 1 + 1 + 1, 1, none⟩ = some (.float .f64 sy) := box_cell hb zs1
            have zt0 : v6.cell? ⟨w.heap.size + 1 + 1 + 1 + 1, 0, none⟩ = some (.float .f64 tx) := box_cell hb zt0
            have zt1 : v6.cell? ⟨w.heap.size + 1 + 1 + 1 + 1, 1, none⟩ = some (.float .f64 ty) := box_cell hb zt1
            clear hb
            cases d5
            · go_wp2_with fail
              refine (awake_any _).mono ?_
              rintro e wz ⟨rfl, hb⟩
              have HB : Hid (Below w.heap.size w wz) := below_step HB.out hb
              clear hb
              go_wp2
              go_ret
              exact ⟨rfl, HB.out⟩
            · go_wp2_with fail
              refine (left_is tx ty px py rx ry _ d6 ⟨HW.out.2.2.2.2, HW.out.1, HW.out.2.2.1⟩ ed6.out).mono ?_
              rintro e v7 ⟨rfl, hb⟩
              have HB : Hid (Below w.heap.size w v7) := below_step HB.out hb
              have zp0 : v7.cell? ⟨w.heap.size, 0, none⟩ = some (.float .f64 px) := box_cell hb zp0
              have zp1 : v7.cell? ⟨w.heap.size, 1, none⟩ = some (.float .f64 py) := box_cell hb zp1
              have zq0 : v7.cell? ⟨w.heap.size + 1, 0, none⟩ = some (.float .f64 qx) := box_cell hb zq0
              have zq1 : v7.cell? ⟨w.heap.size + 1, 1, none⟩ = some (.float .f64 qy) := box_cell hb zq1
              have zr0 : v7.cell? ⟨w.heap.size + 1 + 1, 0, none⟩ = some (.float .f64 rx) := box_cell hb zr0
              have zr1 : v7.cell? ⟨w.heap.size + 1 + 1, 1, none⟩ = some (.float .f64 ry) := box_cell hb zr1
              have zs0 : v7.cell? ⟨w.heap.size + 1 + 1 + 1, 0, none⟩ = some (.float .f64 sx) := box_cell hb zs0
              have zs1 : v7.cell? ⟨w.heap.size + 1 + 1 + 1, 1, none⟩ = some (.float .f64 sy) := box_cell hb zs1
              have zt0 : v7.cell? ⟨w.heap.size + 1 + 1 + 1 + 1, 0, none⟩ = some (.float .f64 tx) := box_cell hb zt0
              have zt1 : v7.cell? ⟨w.heap.size + 1 + 1 + 1 + 1, 1, none⟩ = some (.float .f64 ty) := box_cell hb zt1
              clear hb
              obtain rfl : d6 = true := HF2.out (by simp) (by simp) (by simp) (by simp) (by simp)
              go_wp2_with fail
              refine (awake_any _).mono ?_
              rintro e wz ⟨rfl, hb⟩
              have HB : Hid (Below w.heap.size w wz) := below_step HB.out hb
              clear hb
              go_wp2
              go_ret
              exact ⟨rfl, HB.out⟩
  · go_wp2_with fail
    refine (left_is px py tx ty rx ry _ b2 ⟨HW.out.1, HW.out.2.2.2.2, HW.out.2.2.1⟩ eb2.out).mono ?_
    rintro e v8 ⟨rfl, hb⟩
    have HB : Hid (Below w.heap.size w v8) := below_step HB.out hb
    have zp0 : v8.cell? ⟨w.heap.size, 0, none⟩ = some (.float .f64 px) := box_cell hb zp0
    have zp1 : v8.cell? ⟨w.heap.size, 1, none⟩ = some (.float .f64 py) := box_cell hb zp1
    have zq0 : v8.cell? ⟨w.heap.size + 1, 0, none⟩ = some (.float .f64 qx) := box_cell hb zq0
    have zq1 : v8.cell? ⟨w.heap.size + 1, 1, none⟩ = some (.float .f64 qy) := box_cell hb zq1
    have zr0 : v8.cell? ⟨w.heap.size + 1 + 1, 0, none⟩ = some (.float .f64 rx) := box_cell hb zr0
    have zr1 : v8.cell? ⟨w.heap.size + 1 + 1, 1, none⟩ = some (.float .f64 ry) := box_cell hb zr1
    have zs0 : v8.cell? ⟨w.heap.size + 1 + 1 + 1, 0, none⟩ = some (.float .f64 sx) := box_cell hb zs0
    have zs1 : v8.cell? ⟨w.heap.size + 1 + 1 + 1, 1, none⟩ = some (.float .f64 sy) := box_cell hb zs1
    have zt0 : v8.cell? ⟨w.heap.size + 1 + 1 + 1 + 1, 0, none⟩ = some (.float .f64 tx) := box_cell hb zt0
    have zt1 : v8.cell? ⟨w.heap.size + 1 + 1 + 1 + 1, 1, none⟩ = some (.float .f64 ty) := box_cell hb zt1
    clear hb
    cases b2
    · go_wp2_with fail
      refine (left_is tx ty sx sy px py _ d1 ⟨HW.out.2.2.2.2, HW.out.2.2.2.1, HW.out.1⟩ ed1.out).mono ?_
      rintro e v9 ⟨rfl, hb⟩
      have HB : Hid (Below w.heap.size w v9) := below_step HB.out hb
      have zp0 : v9.cell? ⟨w.heap.size, 0, none⟩ = some (.float .f64 px) := box_cell hb zp0
      have zp1 : v9.cell? ⟨w.heap.size, 1, none⟩ = some (.float .f64 py) := box_cell hb zp1
      have zq0 : v9.cell? ⟨w.heap.size + 1, 0, none⟩ = some (.float .f64 qx) := box_cell hb zq0
      have zq1 : v9.cell? ⟨w.heap.size + 1, 1, none⟩ = some (.float .f64 qy) := box_cell hb zq1
      have zr0 : v9.cell? ⟨w.heap.size + 1 + 1, 0, none⟩ = some (.float .f64 rx) := box_cell hb zr0
      have zr1 : v9.cell? ⟨w.heap.size + 1 + 1, 1, none⟩ = some (.float .f64 ry) := box_cell hb zr1
      have zs0 : v9.cell? ⟨w.heap.size + 1 + 1 + 1, 0, none⟩ = some (.float .f64 sx) := box_cell hb zs0
      have zs1 : v9.cell? ⟨w.heap.size + 1 + 1 + 1, 1, none⟩ = some (.float .f64 sy) := box_cell hb zs1
      have zt0 : v9.cell? ⟨w.heap.size + 1 + 1 + 1 + 1, 0, none⟩ = some (.float .f64 tx) := box_cell hb zt0
      have zt1 : v9.cell? ⟨w.heap.size + 1 + 1 + 1 + 1, 1, none⟩ = some (.float .f64 ty) := box_cell hb zt1
      clear hb
      cases d1
      · go_wp2_with fail
        refine (awake_any _).mono ?_
        rintro e wz ⟨rfl, hb⟩
        have HB : Hid (Below w.heap.size w wz) := below_step HB.out hb
        clear hb
        go_wp2
        go_ret
        exact ⟨rfl, HB.out⟩
      · go_wp2_with fail
        refine (left_is tx ty sx sy qx qy _ d2 ⟨HW.out.2.2.2.2, HW.out.2.2.2.1, HW.out.2.1⟩ ed2.out).mono ?_
        rintro e v10 ⟨rfl, hb⟩
        have HB : Hid (Below w.heap.size w v10) := below_step HB.out hb
        have zp0 : v10.cell? ⟨w.heap.size, 0, none⟩ = some (.float .f64 px) := box_cell hb zp0
        have zp1 : v10.cell? ⟨w.heap.size, 1, none⟩ = some (.float .f64 py) := box_cell hb zp1
        have zq0 : v10.cell? ⟨w.heap.size + 1, 0, none⟩ = some (.float .f64 qx) := box_cell hb zq0
        have zq1 : v10.cell? ⟨w.heap.size + 1, 1, none⟩ = some (.float .f64 qy) := box_cell hb zq1
        have zr0 : v10.cell? ⟨w.heap.size + 1 + 1, 0, none⟩ = some (.float .f64 rx) := box_cell hb zr0
        have zr1 : v10.cell? ⟨w.heap.size + 1 + 1, 1, none⟩ = some (.float .f64 ry) := box_cell hb zr1
        have zs0 : v10.cell? ⟨w.heap.size + 1 + 1 + 1, 0, none⟩ = some (.float .f64 sx) := box_cell hb zs0
        have zs1 : v10.cell? ⟨w.heap.size + 1 + 1 + 1, 1, none⟩ = some (.float .f64 sy) := box_cell hb zs1
        have zt0 : v10.cell? ⟨w.heap.size + 1 + 1 + 1 + 1, 0, none⟩ = some (.float .f64 tx) := box_cell hb zt0
        have zt1 : v10.cell? ⟨w.heap.size + 1 + 1 + 1 + 1, 1, none⟩ = some (.float .f64 ty) := box_cell hb zt1
        clear hb
        cases d2
        · go_wp2_with fail
          refine (awake_any _).mono ?_
          rintro e wz ⟨rfl, hb⟩
          have HB : Hid (Below w.heap.size w wz) := below_step HB.out hb
          clear hb
          go_wp2
          go_ret
          exact ⟨rfl, HB.out⟩
        · go_wp2_with fail
          refine (left_is tx ty sx sy rx ry _ d3 ⟨HW.out.2.2.2.2, HW.out.2.2.2.1, HW.out.2.2.1⟩ ed3.out).mono ?_
          rintro e v11 ⟨rfl, hb⟩
          have HB : Hid (Below w.heap.size w v11) := below_step HB.out hb
          have zp0 : v11.cell? ⟨w.heap.size, 0, none⟩ = some (.float .f64 px) := box_cell hb zp0
          have zp1 : v11.cell? ⟨w.heap.size, 1, none⟩ = some (.float .f64 py) := box_cell hb zp1
          have zq0 : v11.cell? ⟨w.heap.size + 1, 0, none⟩ = some (.float .f64 qx) := box_cell hb zq0
          have zq1 : v11.cell? ⟨w.heap.size + 1, 1, none⟩ = some (.float .f64 qy) := box_cell hb zq1
          have zr0 : v11.cell? ⟨w.heap.size + 1 + 1, 0, none⟩ = some (.float .f64 rx) := box_cell hb zr0
          have zr1 : v11.cell? ⟨w.heap.size + 1 + 1, 1, none⟩ = some (.float .f64 ry) := box_cell hb zr1
          have zs0 : v11.cell? ⟨w.heap.size + 1 + 1 + 1, 0, none⟩ = some (.float .f64 sx) := box_cell hb zs0
          have zs1 : v11.cell? ⟨w.heap.size + 1 + 1 + 1, 1, none⟩ = some (.float .f64 sy) := box_cell hb zs1
          have zt0 : v11.cell? ⟨w.heap.size + 1 + 1 + 1 + 1, 0, none⟩ = some (.float .f64 tx) := box_cell hb zt0
          have zt1 : v11.cell? ⟨w.heap.size + 1 + 1 + 1 + 1, 1, none⟩ = some (.float .f64 ty) := box_cell hb zt1
          clear hb
          cases d3
          · go_wp2_with fail
            refine (awake_any _).mono ?_
            rintro e wz ⟨rfl, hb⟩
            have HB : Hid (Below w.heap.size w wz) := below_step HB.out hb
            clear hb
            go_wp2
            go_ret
            exact ⟨rfl, HB.out⟩
          · go_wp2_with fail
            refine (left_is tx ty px py qx qy _ d4 ⟨HW.out.2.2.2.2, HW.out.1, HW.out.2.1⟩ ed4.out).mono ?_
            rintro e v12 ⟨rfl, hb⟩
            have HB : Hid (Below w.heap.size w v12) := below_step HB.out hb
            have zp0 : v12.cell? ⟨w.heap.size, 0, none⟩ = some (.float .f64 px) := box_cell hb zp0
            have zp1 : v12.cell? ⟨w.heap.size, 1, none⟩ = some (.float .f64 py) := box_cell hb zp1
            have zq0 : v12.cell? ⟨w.heap.size + 1, 0, none⟩ = some (.float .f64 qx) := box_cell hb zq0
            have zq1 : v12.cell? ⟨w.heap.size + 1, 1, none⟩ = some (.float .f64 qy) := box_cell hb zq1
            have zr0 : v12.cell? ⟨w.heap.size + 1 + 1, 0, none⟩ = some (.float .f64 rx) := box_cell hb zr0
            have zr1 : v12.cell? ⟨w.heap.size + 1 + 1, 1, none⟩ = some (.float .f64 ry) := box_cell hb zr1
            have zs0 : v12.cell? ⟨w.heap.size + 1 + 1 + 1, 0, none⟩ = some (.float .f64 sx) := box_cell hb zs0
            have zs1 : v12.cell? ⟨w.heap.size + 1 + 1 + 1, 1, none⟩ = some (.float .f64 sy) := box_cell hb zs1
            have zt0 : v12.cell? ⟨w.heap.size + 1 + 1 + 1 + 1, 0, none⟩ = some (.float .f64 tx) := box_cell hb zt0
            have zt1 : v12.cell? ⟨w.heap.size + 1 + 1 + 1 + 1, 1, none⟩ = some (.float .f64 ty) := box_cell hb zt1
            clear hb
            cases d4
            · go_wp2_with fail
              refine (awake_any _).mono ?_
              rintro e wz ⟨rfl, hb⟩
              have HB : Hid (Below w.heap.size w wz) := below_step HB.out hb
              clear hb
              go_wp2
              go_ret
              exact ⟨rfl, HB.out⟩
            · go_wp2_with fail
              refine (left_is tx ty qx qy rx ry _ d5 ⟨HW.out.2.2.2.2, HW.out.2.1, HW.out.2.2.1⟩ ed5.out).mono ?_
              rintro e v13 ⟨rfl, hb⟩
              have HB : Hid (Below w.heap.size w v13) := below_step HB.out hb
              have zp0 : v13.cell? ⟨w.heap.size, 0, none⟩ = some (.float .f64 px) := box_cell hb zp0
              have zp1 : v13.cell? ⟨w.heap.size, 1, none⟩ = some (.float .f64 py) := box_cell hb zp1
              have zq0 : v13.cell? ⟨w.heap.size + 1, 0, none⟩ = some (.float .f64 qx) := box_cell hb zq0
              have zq1 : v13.cell? ⟨w.heap.size + 1, 1, none⟩ = some (.float .f64 qy) := box_cell hb zq1
              have zr0 : v13.cell? ⟨w.heap.size + 1 + 1, 0, none⟩ = some (.float .f64 rx) := box_cell hb zr0
              have zr1 : v13.cell? ⟨w.heap.size + 1 + 1, 1, none⟩ = some (.float .f64 ry) := box_cell hb zr1
              have zs0 : v13.cell? ⟨w.heap.size + 1 + 1 + 1, 0, none⟩ = some (.float .f64 sx) := box_cell hb zs0
              have zs1 : v13.cell? ⟨w.heap.size + 1 + 1 + 1, 1, none⟩ = some (.float .f64 sy) := box_cell hb zs1
              have zt0 : v13.cell? ⟨w.heap.size + 1 + 1 + 1 + 1, 0, none⟩ = some (.float .f64 tx) := box_cell hb zt0
              have zt1 : v13.cell? ⟨w.heap.size + 1 + 1 + 1 + 1, 1, none⟩ = some (.float .f64 ty) := box_cell hb zt1
              clear hb
              cases d5
              · go_wp2_with fail
                refine (awake_any _).mono ?_
                rintro e wz ⟨rfl, hb⟩
                have HB : Hid (Below w.heap.size w wz) := below_step HB.out hb
                clear hb
                go_wp2
                go_ret
                exact ⟨rfl, HB.out⟩
              · go_wp2_with fail
                refine (left_is tx ty px py rx ry _ d6 ⟨HW.out.2.2.2.2, HW.out.1, HW.out.2.2.1⟩ ed6.out).mono ?_
                rintro e v14 ⟨rfl, hb⟩
                have HB : Hid (Below w.heap.size w v14) := below_step HB.out hb
                have zp0 : v14.cell? ⟨w.heap.size, 0, none⟩ = some (.float .f64 px) := box_cell hb zp0
                have zp1 : v14.cell? ⟨w.heap.size, 1, none⟩ = some (.float .f64 py) := box_cell hb zp1
                have zq0 : v14.cell? ⟨w.heap.size + 1, 0, none⟩ = some (.float .f64 qx) := box_cell hb zq0
                have zq1 : v14.cell? ⟨w.heap.size + 1, 1, none⟩ = some (.float .f64 qy) := box_cell hb zq1
                have zr0 : v14.cell? ⟨w.heap.size + 1 + 1, 0, none⟩ = some (.float .f64 rx) := box_cell hb zr0
                have zr1 : v14.cell? ⟨w.heap.size + 1 + 1, 1, none⟩ = some (.float .f64 ry) := box_cell hb zr1
                have zs0 : v14.cell? ⟨w.heap.size + 1 + 1 + 1, 0, none⟩ = some (.float .f64 sx) := box_cell hb zs0
                have zs1 : v14.cell? ⟨w.heap.size + 1 + 1 + 1, 1, none⟩ = some (.float .f64 sy) := box_cell hb zs1
                have zt0 : v14.cell? ⟨w.heap.size + 1 + 1 + 1 + 1, 0, none⟩ = some (.float .f64 tx) := box_cell hb zt0
                have zt1 : v14.cell? ⟨w.heap.size + 1 + 1 + 1 + 1, 1, none⟩ = some (.float .f64 ty) := box_cell hb zt1
                clear hb
                obtain rfl : d6 = true := HF2.out (by simp) (by simp) (by simp) (by simp) (by simp)
                go_wp2_with fail
                refine (awake_any _).mono ?_
                rintro e wz ⟨rfl, hb⟩
                have HB : Hid (Below w.heap.size w wz) := below_step HB.out hb
                clear hb
                go_wp2
                go_ret
                exact ⟨rfl, HB.out⟩
    · go_wp2_with fail
      refine (left_is px py qx qy tx ty _ b3 ⟨HW.out.1, HW.out.2.1, HW.out.2.2.2.2⟩ eb3.out).mono ?_
      rintro e v15 ⟨rfl, hb⟩
      have HB : Hid (Below w.heap.size w v15) := below_step HB.out hb
      have zp0 : v15.cell? ⟨w.heap.size, 0, none⟩ = some (.float .f64 px) := box_cell hb zp0
      have zp1 : v15.cell? ⟨w.heap.size, 1, none⟩ = some (.float .f64 py) := box_cell hb zp1
      have zq0 : v15.cell? ⟨w.heap.size + 1, 0, none⟩ = some (.float .f64 qx) := box_cell hb zq0
      have zq1 : v15.cell? ⟨w.heap.size + 1, 1, none⟩ = some (.float .f64 qy) := box_cell hb zq1
      have zr0 : v15.cell? ⟨w.heap.size + 1 + 1, 0, none⟩ = some (.float .f64 rx) := box_cell hb zr0
      have zr1 : v15.cell? ⟨w.heap.size + 1 + 1, 1, none⟩ = some (.float .f64 ry) := box_cell hb zr1
      have zs0 : v15.cell? ⟨w.heap.size + 1 + 1 + 1, 0, none⟩ = some (.float .f64 sx) := box_cell hb zs0
      have zs1 : v15.cell? ⟨w.heap.size + 1 + 1 + 1, 1, none⟩ = some (.float .f64 sy) := box_cell hb zs1
      have zt0 : v15.cell? ⟨w.heap.size + 1 + 1 + 1 + 1, 0, none⟩ = some (.float .f64 tx) := box_cell hb zt0
      have zt1 : v15.cell? ⟨w.heap.size + 1 + 1 + 1 + 1, 1, none⟩ = some (.float .f64 ty) := box_cell hb zt1
      clear hb
      cases b3
      · go_wp2_with fail
        refine (left_is tx ty sx sy px py _ d1 ⟨HW.out.2.2.2.2, HW.out.2.2.2.1, HW.out.1⟩ ed1.out).mono ?_
        rintro e v16 ⟨rfl, hb⟩
        have HB : Hid (Below w.heap.size w v16) := below_step HB.out hb
        have zp0 : v16.cell? ⟨w.heap.size, 0, none⟩ = some (.float .f64 px) := box_cell hb zp0
        have zp1 : v16.cell? ⟨w.heap.size, 1, none⟩ = some (.float .f64 py) := box_cell hb zp1
        have zq0 : v16.cell? ⟨w.heap.size + 1, 0, none⟩ = some (.float .f64 qx) := box_cell hb zq0
        have zq1 : v16.cell? ⟨w.heap.size + 1, 1, none⟩ = some (.float .f64 qy) := box_cell hb zq1
        have zr0 : v16.cell? ⟨w.heap.size + 1 + 1, 0, none⟩ = some (.float .f64 rx) := box_cell hb zr0
        have zr1 : v16.cell? ⟨w.heap.size + 1 + 1, 1, none⟩ = some (.float .f64 ry) := box_cell hb zr1
        have zs0 : v16.cell? ⟨w.heap.size + 1 + 1 + 1, 0, none⟩ = some (.float .f64 sx) := box_cell hb zs0
        have zs1 : v16.cell? ⟨w.heap.size + 1 + 1 + 1, 1, none⟩ = some (.float .f64 sy) := box_cell hb zs1
        have zt0 : v16.cell? ⟨w.heap.size + 1 + 1 + 1 + 1, 0, none⟩ = some (.float .f64 tx) := box_cell hb zt0
        have zt1 : v16.cell? ⟨w.heap.size + 1 + 1 + 1 + 1, 1, none⟩ = some (.float .f64 ty) := box_cell hb zt1
        clear hb
        cases d1
        · go_wp2_with fail
          refine (awake_any _).mono ?_
          rintro e wz ⟨rfl, hb⟩
          have HB : Hid (Below w.heap.size w wz) := below_step HB.out hb
          clear hb
          go_wp2
          go_ret
          exact ⟨rfl, HB.out⟩
        · go_wp2_with fail
          refine (left_is tx ty sx sy qx qy _ d2 ⟨HW.out.2.2.2.2, HW.out.2.2.2.1, HW.out.2.1⟩ ed2.out).mono ?_
          rintro e v17 ⟨rfl, hb⟩
          have HB : Hid (Below w.heap.size w v17) := below_step HB.out hb
          have zp0 : v17.cell? ⟨w.heap.size, 0, none⟩ = some (.float .f64 px) := box_cell hb zp0
          have zp1 : v17.cell? ⟨w.heap.size, 1, none⟩ = some (.float .f64 py) := box_cell hb zp1
          have zq0 : v17.cell? ⟨w.heap.size + 1, 0, none⟩ = some (.float .f64 qx) := box_cell hb zq0
          have zq1 : v17.cell? ⟨w.heap.size + 1, 1, none⟩ = some (.float .f64 qy) := box_cell hb zq1
          have zr0 : v17.cell? ⟨w.heap.size + 1 + 1, 0, none⟩ = some (.float .f64 rx) := box_cell hb zr0
          have zr1 : v17.cell? ⟨w.heap.size + 1 + 1, 1, none⟩ = some (.float .f64 ry) := box_cell hb zr1
          have zs0 : v17.cell? ⟨w.heap.size + 1 + 1 + 1, 0, none⟩ = some (.float .f64 sx) := box_cell hb zs0
          have zs1 : v17.cell? ⟨w.heap.size + 1 + 1 + 1, 1, none⟩ = some (.float .f64 sy) := box_cell hb zs1
          have zt0 : v17.cell? ⟨w.heap.size + 1 + 1 + 1 + 1, 0, none⟩ = some (.float .f64 tx) := box_cell hb zt0
          have zt1 : v17.cell? ⟨w.heap.size + 1 + 1 + 1 + 1, 1, none⟩ = some (.float .f64 ty) := box_cell hb zt1
          clear hb
          cases d2
          · go_wp2_with fail
            refine (awake_any _).mono ?_
            rintro e wz ⟨rfl, hb⟩
            have HB : Hid (Below w.heap.size w wz) := below_step HB.out hb
            clear hb
            go_wp2
            go_ret
            exact ⟨rfl, HB.out⟩
          · go_wp2_with fail
            refine (left_is tx ty sx sy rx ry _ d3 ⟨HW.out.2.2.2.2, HW.out.2.2.2.1, HW.out.2.2.1⟩ ed3.out).mono ?_
            rintro e v18 ⟨rfl, hb⟩
            have HB : Hid (Below w.heap.size w v18) := below_step HB.out hb
            have zp0 : v18.cell? ⟨w.heap.size, 0, none⟩ = some (.float .f64 px) := box_cell hb zp0
            have zp1 : v18.cell? ⟨w.heap.size, 1, none⟩ = some (.float .f64 py) := box_cell hb zp1
            have zq0 : v18.cell? ⟨w.heap.size + 1, 0, none⟩ = some (.float .f64 qx) := box_cell hb zq0
            have zq1 : v18.cell? ⟨w.heap.size + 1, 1, none⟩ = some (.float .f64 qy) := box_cell hb zq1
            have zr0 : v18.cell? ⟨w.heap.size + 1 + 1, 0, none⟩ = some (.float .f64 rx) := box_cell hb zr0
            have zr1 : v18.cell? ⟨w.heap.size + 1 + 1, 1, none⟩ = some (.float .f64 ry) := box_cell hb zr1
            have zs0 : v18.cell? ⟨w.heap.size + 1 + 1 + 1, 0, none⟩ = some (.float .f64 sx) := box_cell hb zs0
            have zs1 : v18.cell? ⟨w.heap.size + 1 + 1 + 1, 1, none⟩ = some (.float .f64 sy) := box_cell hb zs1
            have zt0 : v18.cell? ⟨w.heap.size + 1 + 1 + 1 + 1, 0, none⟩ = some (.float .f64 tx) := box_cell hb zt0
            have zt1 : v18.cell? ⟨w.heap.size + 1 + 1 + 1 + 1, 1, none⟩ = some (.float .f64 ty) := box_cell hb zt1
            clear hb
            cases d3
            · go_wp2_with fail
              refine (awake_any _).mono ?_
              rintro e wz ⟨rfl, hb⟩
              have HB : Hid (Below w.heap.size w wz) := below_step HB.out hb
              clear hb
              go_wp2
              go_ret
              exact ⟨rfl, HB.out⟩
            · go_wp2_with fail
              refine (left_is tx ty px py qx qy _ d4 ⟨HW.out.2.2.2.2, HW.out.1, HW.out.2.1⟩ ed4.out).mono ?_
              rintro e v19 ⟨rfl, hb⟩
              have HB : Hid (Below w.heap.size w v19) := below_step HB.out hb
              have zp0 : v19.cell? ⟨w.heap.size, 0, none⟩ = some (.float .f64 px) := box_cell hb zp0
              have zp1 : v19.cell? ⟨w.heap.size, 1, none⟩ = some (.float .f64 py) := box_cell hb zp1
              have zq0 : v19.cell? ⟨w.heap.size + 1, 0, none⟩ = some (.float .f64 qx) := box_cell hb zq0
              have zq1 : v19.cell? ⟨w.heap.size + 1, 1, none⟩ = some (.float .f64 qy) := box_cell hb zq1
              have zr0 : v19.cell? ⟨w.heap.size + 1 + 1, 0, none⟩ = some (.float .f64 rx) := box_cell hb zr0
              have zr1 : v19.cell? ⟨w.heap.size + 1 + 1, 1, none⟩ = some (.float .f64 ry) := box_cell hb zr1
              have zs0 : v19.cell? ⟨w.heap.size + 1 + 1 + 1, 0, none⟩ = some (.float .f64 sx) := box_cell hb zs0
              have zs1 : v19.cell? ⟨w.heap.size + 1 + 1 + 1, 1, none⟩ = some (.float .f64 sy) := box_cell hb zs1
              have zt0 : v19.cell? ⟨w.heap.size + 1 + 1 + 1 + 1, 0, none⟩ = some (.float .f64 tx) := box_cell hb zt0
              have zt1 : v19.cell? ⟨w.heap.size + 1 + 1 + 1 + 1, 1, none⟩ = some (.float .f64 ty) := box_cell hb zt1
              clear hb
              cases d4
              · go_wp2_with fail
                refine (awake_any _).mono ?_
                rintro e wz ⟨rfl, hb⟩
                have HB : Hid (Below w.heap.size w wz) := below_step HB.out hb
                clear hb
                go_wp2
                go_ret
                exact ⟨rfl, HB.out⟩
              · go_wp2_with fail
                refine (left_is tx ty qx qy rx ry _ d5 ⟨HW.out.2.2.2.2, HW.out.2.1, HW.out.2.2.1⟩ ed5.out).mono ?_
                rintro e v20 ⟨rfl, hb⟩
                have HB : Hid (Below w.heap.size w v20) := below_step HB.out hb
                have zp0 : v20.cell? ⟨w.heap.size, 0, none⟩ = some (.float .f64 px) := box_cell hb zp0
                have zp1 : v20.cell? ⟨w.heap.size, 1, none⟩ = some (.float .f64 py) := box_cell hb zp1
                have zq0 : v20.cell? ⟨w.heap.size + 1, 0, none⟩ = some (.float .f64 qx) := box_cell hb zq0
                have zq1 : v20.cell? ⟨w.heap.size + 1, 1, none⟩ = some (.float .f64 qy) := box_cell hb zq1
                have zr0 : v20.cell? ⟨w.heap.size + 1 + 1, 0, none⟩ = some (.float .f64 rx) := box_cell hb zr0
                have zr1 : v20.cell? ⟨w.heap.size + 1 + 1, 1, none⟩ = some (.float .f64 ry) := box_cell hb zr1
                have zs0 : v20.cell? ⟨w.heap.size + 1 + 1 + 1, 0, none⟩ = some (.float .f64 sx) := box_cell hb zs0
                have zs1 : v20.cell? ⟨w.heap.size + 1 + 1 + 1, 1, none⟩ = some (.float .f64 sy) := box_cell hb zs1
                have zt0 : v20.cell? ⟨w.heap.size + 1 + 1 + 1 + 1, 0, none⟩ = some (.float .f64 tx) := box_cell hb zt0
                have zt1 : v20.cell? ⟨w.heap.size + 1 + 1 + 1 + 1, 1, none⟩ = some (.float .f64 ty) := box_cell hb zt1
                clear hb
                cases d5
                · go_wp2_with fail
                  refine (awake_any _).mono ?_
                  rintro e wz ⟨rfl, hb⟩
                  have HB : Hid (Below w.heap.size w wz) := below_step HB.out hb
                  clear hb
                  go_wp2
                  go_ret
                  exact ⟨rfl, HB.out⟩
                · go_wp2_with fail
                  refine (left_is tx ty px py rx ry _ d6 ⟨HW.out.2.2.2.2, HW.out.1, HW.out.2.2.1⟩ ed6.out).mono ?_
                  rintro e v21 ⟨rfl, hb⟩
                  have HB : Hid (Below w.heap.size w v21) := below_step HB.out hb
                  have zp0 : v21.cell? ⟨w.heap.size, 0, none⟩ = some (.float .f64 px) := box_cell hb zp0
                  have zp1 : v21.cell? ⟨w.heap.size, 1, none⟩ = some (.float .f64 py) := box_cell hb zp1
                  have zq0 : v21.cell? ⟨w.heap.size + 1, 0, none⟩ = some (.float .f64 qx) := box_cell hb zq0
                  have zq1 : v21.cell? ⟨w.heap.size + 1, 1, none⟩ = some (.float .f64 qy) := box_cell hb zq1
                  have zr0 : v21.cell? ⟨w.heap.size + 1 + 1, 0, none⟩ = some (.float .f64 rx) := box_cell hb zr0
                  have zr1 : v21.cell? ⟨w.heap.size + 1 + 1, 1, none⟩ = some (.float .f64 ry) := box_cell hb zr1
                  have zs0 : v21.cell? ⟨w.heap.size + 1 + 1 + 1, 0, none⟩ = some (.float .f64 sx) := box_cell hb zs0
                  have zs1 : v21.cell? ⟨w.heap.size + 1 + 1 + 1, 1, none⟩ = some (.float .f64 sy) := box_cell hb zs1
                  have zt0 : v21.cell? ⟨w.heap.size + 1 + 1 + 1 + 1, 0, none⟩ = some (.float .f64 tx) := box_cell hb zt0
                  have zt1 : v21.cell? ⟨w.heap.size + 1 + 1 + 1 + 1, 1, none⟩ = some (.float .f64 ty) := box_cell hb zt1
                  clear hb
                  obtain rfl : d6 = true := HF2.out (by simp) (by simp) (by simp) (by simp) (by simp)
                  go_wp2_with fail
                  refine (awake_any _).mono ?_
                  rintro e wz ⟨rfl, hb⟩
                  have HB : Hid (Below w.heap.size w wz) := below_step HB.out hb
                  clear hb
                  go_wp2
                  go_ret
                  exact ⟨rfl, HB.out⟩
      · go_wp2_with fail
        refine (left_is px py qx qy rx ry _ b4 ⟨HW.out.1, HW.out.2.1, HW.out.2.2.1⟩ eb4.out).mono ?_
        rintro e v22 ⟨rfl, hb⟩
        have HB : Hid (Below w.heap.size w v22) := below_step HB.out hb
        have zp0 : v22.cell? ⟨w.heap.size, 0, none⟩ = some (.float .f64 px) := box_cell hb zp0
        have zp1 : v22.cell? ⟨w.heap.size, 1, none⟩ = some (.float .f64 py) := box_cell hb zp1
        have zq0 : v22.cell? ⟨w.heap.size + 1, 0, none⟩ = some (.float .f64 qx) := box_cell hb zq0
        have zq1 : v22.cell? ⟨w.heap.size + 1, 1, none⟩ = some (.float .f64 qy) := box_cell hb zq1
        have zr0 : v22.cell? ⟨w.heap.size + 1 + 1, 0, none⟩ = some (.float .f64 rx) := box_cell hb zr0
        have zr1 : v22.cell? ⟨w.heap.size + 1 + 1, 1, none⟩ = some (.float .f64 ry) := box_cell hb zr1
        have zs0 : v22.cell? ⟨w.heap.size + 1 + 1 + 1, 0, none⟩ = some (.float .f64 sx) := box_cell hb zs0
        have zs1 : v22.cell? ⟨w.heap.size + 1 + 1 + 1, 1, none⟩ = some (.float .f64 sy) := box_cell hb zs1
        have zt0 : v22.cell? ⟨w.heap.size + 1 + 1 + 1 + 1, 0, none⟩ = some (.float .f64 tx) := box_cell hb zt0
        have zt1 : v22.cell? ⟨w.heap.size + 1 + 1 + 1 + 1, 1, none⟩ = some (.float .f64 ty) := box_cell hb zt1
        clear hb
        obtain rfl : b4 = true := HF1.out (by simp) (by simp) (by simp)
        go_wp2_with fail
        refine (left_is tx ty sx sy px py _ d1 ⟨HW.out.2.2.2.2, HW.out.2.2.2.1, HW.out.1⟩ ed1.out).mono ?_
        rintro e v23 ⟨rfl, hb⟩
        have HB : Hid (Below w.heap.size w v23) := below_step HB.out hb
        have zp0 : v23.cell? ⟨w.heap.size, 0, none⟩ = some (.float .f64 px) := box_cell hb zp0
        have zp1 : v23.cell? ⟨w.heap.size, 1, none⟩ = some (.float .f64 py) := box_cell hb zp1
        have zq0 : v23.cell? ⟨w.heap.size + 1, 0, none⟩ = some (.float .f64 qx) := box_cell hb zq0
        have zq1 : v23.cell? ⟨w.heap.size + 1, 1, none⟩ = some (.float .f64 qy) := box_cell hb zq1
        have zr0 : v23.cell? ⟨w.heap.size + 1 + 1, 0, none⟩ = some (.float .f64 rx) := box_cell hb zr0
        have zr1 : v23.cell? ⟨w.heap.size + 1 + 1, 1, none⟩ = some (.float .f64 ry) := box_cell hb zr1
        have zs0 : v23.cell? ⟨w.heap.size + 1 + 1 + 1, 0, none⟩ = some (.float .f64 sx) := box_cell hb zs0
        have zs1 : v23.cell? ⟨w.heap.size + 1 + 1 + 1, 1, none⟩ = some (.float .f64 sy) := box_cell hb zs1
        have zt0 : v23.cell? ⟨w.heap.size + 1 + 1 + 1 + 1, 0, none⟩ = some (.float .f64 tx) := box_cell hb zt0
        have zt1 : v23.cell? ⟨w.heap.size + 1 + 1 + 1 + 1, 1, none⟩ = some (.float .f64 ty) := box_cell hb zt1
        clear hb
        cases d1
        · go_wp2_with fail
          refine (awake_any _).mono ?_
          rintro e wz ⟨rfl, hb⟩
          have HB : Hid (Below w.heap.size w wz) := below_step HB.out hb
          clear hb
          go_wp2
          go_ret
          exact ⟨rfl, HB.out⟩
        · go_wp2_with fail
          refine (left_is tx ty sx sy qx qy _ d2 ⟨HW.out.2.2.2.2, HW.out.2.2.2.1, HW.out.2.1⟩ ed2.out).mono ?_
          rintro e v24 ⟨rfl, hb⟩
          have HB : Hid (Below w.heap.size w v24) := below_step HB.out hb
          have zp0 : v24.cell? ⟨w.heap.size, 0, none⟩ = some (.float .f64 px) := box_cell hb zp0
          have zp1 : v24.cell? ⟨w.heap.size, 1, none⟩ = some (.float .f64 py) := box_cell hb zp1
          have zq0 : v24.cell? ⟨w.heap.size + 1, 0, none⟩ = some (.float .f64 qx) := box_cell hb zq0
          have zq1 : v24.cell? ⟨w.heap.size + 1, 1, none⟩ = some (.float .f64 qy) := box_cell hb zq1
          have zr0 : v24.cell? ⟨w.heap.size + 1 + 1, 0, none⟩ = some (.float .f64 rx) := box_cell hb zr0
          have zr1 : v24.cell? ⟨w.heap.size + 1 + 1, 1, none⟩ = some (.float .f64 ry) := box_cell hb zr1
          have zs0 : v24.cell? ⟨w.heap.size + 1 + 1 + 1, 0, none⟩ = some (.float .f64 sx) := box_cell hb zs0
          have zs1 : v24.cell? ⟨w.heap.size + 1 + 1 + 1, 1, none⟩ = some (.float .f64 sy) := box_cell hb zs1
          have zt0 : v24.cell? ⟨w.heap.size + 1 + 1 + 1 + 1, 0, none⟩ = some (.float .f64 tx) := box_cell hb zt0
          have zt1 : v24.cell? ⟨w.heap.size + 1 + 1 + 1 + 1, 1, none⟩ = some (.float .f64 ty) := box_cell hb zt1
          clear hb
          cases d2
          · go_wp2_with fail
            refine (awake_any _).mono ?_
            rintro e wz ⟨rfl, hb⟩
            have HB : Hid (Below w.heap.size w wz) := below_step HB.out hb
            clear hb
            go_wp2
            go_ret
            exact ⟨rfl, HB.out⟩
          · go_wp2_with fail
            refine (left_is tx ty sx sy rx ry _ d3 ⟨HW.out.2.2.2.2, HW.out.2.2.2.1, HW.out.2.2.1⟩ ed3.out).mono ?_
            rintro e v25 ⟨rfl, hb⟩
            have HB : Hid (Below w.heap.size w v25) := below_step HB.out hb
            have zp0 : v25.cell? ⟨w.heap.size, 0, none⟩ = some (.float .f64 px) := box_cell hb zp0
            have zp1 : v25.cell? ⟨w.heap.size, 1, none⟩ = some (.float .f64 py) := box_cell hb zp1
            have zq0 : v25.cell? ⟨w.heap.size + 1, 0, none⟩ = some (.float .f64 qx) := box_cell hb zq0
            have zq1 : v25.cell? ⟨w.heap.size + 1, 1, none⟩ = some (.float .f64 qy) := box_cell hb zq1
            have zr0 : v25.cell? ⟨w.heap.size + 1 + 1, 0, none⟩ = some (.float .f64 rx) := box_cell hb zr0
            have zr1 : v25.cell? ⟨w.heap.size + 1 + 1, 1, none⟩ = some (.float .f64 ry) := box_cell hb zr1
            have zs0 : v25.cell? ⟨w.heap.size + 1 + 1 + 1, 0, none⟩ = some (.float .f64 sx) := box_cell hb zs0
            have zs1 : v25.cell? ⟨w.heap.size + 1 + 1 + 1, 1, none⟩ = some (.float .f64 sy) := box_cell hb zs1
            have zt0 : v25.cell? ⟨w.heap.size + 1 + 1 + 1 + 1, 0, none⟩ = some (.float .f64 tx) := box_cell hb zt0
            have zt1 : v25.cell? ⟨w.heap.size + 1 + 1 + 1 + 1, 1, none⟩ = some (.float .f64 ty) := box_cell hb zt1
            clear hb
            cases d3
            · go_wp2_with fail
              refine (awake_any _).mono ?_
              rintro e wz ⟨rfl, hb⟩
              have HB : Hid (Below w.heap.size w wz) := below_step HB.out hb
              clear hb
              go_wp2
              go_ret
              exact ⟨rfl, HB.out⟩
            · go_wp2_with fail
              refine (left_is tx ty px py qx qy _ d4 ⟨HW.out.2.2.2.2, HW.out.1, HW.out.2.1⟩ ed4.out).mono ?_
              rintro e v26 ⟨rfl, hb⟩
              have HB : Hid (Below w.heap.size w v26) := below_step HB.out hb
              have zp0 : v26.cell? ⟨w.heap.size, 0, none⟩ = some (.float .f64 px) := box_cell hb zp0
              have zp1 : v26.cell? ⟨w.heap.size, 1, none⟩ = some (.float .f64 py) := box_cell hb zp1
              have zq0 : v26.cell? ⟨w.heap.size + 1, 0, none⟩ = some (.float .f64 qx) := box_cell hb zq0
              have zq1 : v26.cell? ⟨w.heap.size + 1, 1, none⟩ = some (.float .f64 qy) := box_cell hb zq1
              have zr0 : v26.cell? ⟨w.heap.size + 1 + 1, 0, none⟩ = some (.float .f64 rx) := box_cell hb zr0
              have zr1 : v26.cell? ⟨w.heap.size + 1 + 1, 1, none⟩ = some (.float .f64 ry) := box_cell hb zr1
              have zs0 : v26.cell? ⟨w.heap.size + 1 + 1 + 1, 0, none⟩ = some (.float .f64 sx) := box_cell hb zs0
              have zs1 : v26.cell? ⟨w.heap.size + 1 + 1 + 1, 1, none⟩ = some (.float .f64 sy) := box_cell hb zs1
              have zt0 : v26.cell? ⟨w.heap.size + 1 + 1 + 1 + 1, 0, none⟩ = some (.float .f64 tx) := box_cell hb zt0
              have zt1 : v26.cell? ⟨w.heap.size + 1 + 1 + 1 + 1, 1, none⟩ = some (.float .f64 ty) := box_cell hb zt1
              clear hb
              cases d4
              · go_wp2_with fail
                refine (awake_any _).mono ?_
                rintro e wz ⟨rfl, hb⟩
                have HB : Hid (Below w.heap.size w wz) := below_step HB.out hb
                clear hb
                go_wp2
                go_ret
                exact ⟨rfl, HB.out⟩
              · go_wp2_with fail
                refine (left_is tx ty qx qy rx ry _ d5 ⟨HW.out.2.2.2.2, HW.out.2.1, HW.out.2.2.1⟩ ed5.out).mono ?_
                rintro e v27 ⟨rfl, hb⟩
                have HB : Hid (Below w.heap.size w v27) := below_step HB.out hb
                have zp0 : v27.cell? ⟨w.heap.size, 0, none⟩ = some (.float .f64 px) := box_cell hb zp0
                have zp1 : v27.cell? ⟨w.heap.size, 1, none⟩ = some (.float .f64 py) := box_cell hb zp1
                have zq0 : v27.cell? ⟨w.heap.size + 1, 0, none⟩ = some (.float .f64 qx) := box_cell hb zq0
                have zq1 : v27.cell? ⟨w.heap.size + 1, 1, none⟩ = some (.float .f64 qy) := box_cell hb zq1
                have zr0 : v27.cell? ⟨w.heap.size + 1 + 1, 0, none⟩ = some (.float .f64 rx) := box_cell hb zr0
                have zr1 : v27.cell? ⟨w.heap.size + 1 + 1, 1, none⟩ = some (.float .f64 ry) := box_cell hb zr1
                have zs0 : v27.cell? ⟨w.heap.size + 1 + 1 + 1, 0, none⟩ = some (.float .f64 sx) := box_cell hb zs0
                have zs1 : v27.cell? ⟨w.heap.size + 1 + 1 + 1, 1, none⟩ = some (.float .f64 sy) := box_cell hb zs1
                have zt0 : v27.cell? ⟨w.heap.size + 1 + 1 + 1 + 1, 0, none⟩ = some (.float .f64 tx) := box_cell hb zt0
                have zt1 : v27.cell? ⟨w.heap.size + 1 + 1 + 1 + 1, 1, none⟩ = some (.float .f64 ty) := box_cell hb zt1
                clear hb
                cases d5
                · go_wp2_with fail
                  refine (awake_any _).mono ?_
                  rintro e wz ⟨rfl, hb⟩
                  have HB : Hid (Below w.heap.size w wz) := below_step HB.out hb
                  clear hb
                  go_wp2
                  go_ret
                  exact ⟨rfl, HB.out⟩
                · go_wp2_with fail
                  refine (left_is tx ty px py rx ry _ d6 ⟨HW.out.2.2.2.2, HW.out.1, HW.out.2.2.1⟩ ed6.out).mono ?_
                  rintro e v28 ⟨rfl, hb⟩
                  have HB : Hid (Below w.heap.size w v28) := below_step HB.out hb
                  have zp0 : v28.cell? ⟨w.heap.size, 0, none⟩ = some (.float .f64 px) := box_cell hb zp0
                  have zp1 : v28.cell? ⟨w.heap.size, 1, none⟩ = some (.float .f64 py) := box_cell hb zp1
                  have zq0 : v28.cell? ⟨w.heap.size + 1, 0, none⟩ = some (.float .f64 qx) := box_cell hb zq0
                  have zq1 : v28.cell? ⟨w.heap.size + 1, 1, none⟩ = some (.float .f64 qy) := box_cell hb zq1
                  have zr0 : v28.cell? ⟨w.heap.size + 1 + 1, 0, none⟩ = some (.float .f64 rx) := box_cell hb zr0
                  have zr1 : v28.cell? ⟨w.heap.size + 1 + 1, 1, none⟩ = some (.float .f64 ry) := box_cell hb zr1
                  have zs0 : v28.cell? ⟨w.heap.size + 1 + 1 + 1, 0, none⟩ = some (.float .f64 sx) := box_cell hb zs0
                  have zs1 : v28.cell? ⟨w.heap.size + 1 + 1 + 1, 1, none⟩ = some (.float .f64 sy) := box_cell hb zs1
                  have zt0 : v28.cell? ⟨w.heap.size + 1 + 1 + 1 + 1, 0, none⟩ = some (.float .f64 tx) := box_cell hb zt0
                  have zt1 : v28.cell? ⟨w.heap.size + 1 + 1 + 1 + 1, 1, none⟩ = some (.float .f64 ty) := box_cell hb zt1
                  clear hb
                  obtain rfl : d6 = true := HF2.out (by simp) (by simp) (by simp) (by simp) (by simp)
                  go_wp2_with fail
                  refine (awake_any _).mono ?_
                  rintro e wz ⟨rfl, hb⟩
                  have HB : Hid (Below w.heap.size w wz) := below_step HB.out hb
                  clear hb
                  go_wp2
                  go_ret
                  exact ⟨rfl, HB.out⟩

end Go.Proofs.Ytglcngjllfgdpab
