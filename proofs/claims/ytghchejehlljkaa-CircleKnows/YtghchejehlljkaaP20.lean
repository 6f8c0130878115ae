/- Own texts, put together: Cq Cr. -/
import Derived.Test.YtghchejehlljkaaP18
import Derived.Test.YtghchejehlljkaaP19
import Derived.Deep.DeepCutAuto
/- The document's side of layer 5: Left, Sign, Within. -/
namespace Go.Proofs.Ytghchejehlljkaa
open Go.RowKit Go.Shelf
attribute [local go_sem] run_store_float

theorem Rf.sgnum {w : World} {v : Value} {q : Rat} (h : Rf w v q) : ∃ a n c E, v = .agg #[.int .i64 (sgq q), .slice a n c, .int .i64 E] := by
  obtain ⟨S, a, n, c, E, rfl, hs⟩ := h.sgn
  rw [sgq_of hs]
  exact ⟨a, n, c, E, rfl⟩

set_option maxRecDepth 100000 in
set_option maxHeartbeats 2000000 in
theorem left_any (ax ay bx by' cx cy : Nat) (w : World) (hw : W6 ax ay bx by' cx cy) :
    Calls Try.prog 34 #[pv ax ay, pv bx by', pv cx cy] w fun e w' => e = .returned (.int .i64 (sg3 ax ay bx by' cx cy)) ∧ Below w.heap.size w w' := by
  have HW : Hid (W6 ax ay bx by' cx cy) := hw
  clear hw
  have HS : Hid (B3 w (((w.alloc (.cells #[.float .f64 ax, .float .f64 ay] 24)).alloc (.cells #[.float .f64 bx, .float .f64 by'] 24)).alloc (.cells #[.float .f64 cx, .float .f64 cy] 24)) ax ay bx by' cx cy) := B3.start w ax ay bx by' cx cy
  go_enter Try.func34, Try.ntmps34
  go_wp2_with fail
  refine (may_any ax ay _ HW.out.1).mono ?_
  rintro e w1 ⟨⟨t, rfl, ht⟩, hb⟩
  have H1 : Hid (B3 w w1 ax ay bx by' cx cy) := HS.out.later hb
  have HT1 : Hid (t = true ↔ Pt ax ay) := ht
  clear ht hb
  obtain ⟨x0, x1, x2, x3, x4, x5, _⟩ := H1.out
  cases t
  · go_wp2
    go_ret
    exact ⟨by rw [sg3_no (fun h => Bool.noConfusion (HT1.out.2 h.1))]; rfl, H1.out.bel⟩
  have HA1 : Hid (Pt ax ay) := HT1.out.1 rfl
  go_wp2_with fail
  refine (may_any bx by' _ HW.out.2.1).mono ?_
  rintro e w2 ⟨⟨t, rfl, ht⟩, hb⟩
  have H2 : Hid (B3 w w2 ax ay bx by' cx cy) := H1.out.later hb
  have HT2 : Hid (t = true ↔ Pt bx by') := ht
  clear ht hb x0 x1 x2 x3 x4 x5
  obtain ⟨x0, x1, x2, x3, x4, x5, _⟩ := H2.out
  cases t
  · go_wp2
    go_ret
    exact ⟨by rw [sg3_no (fun h => Bool.noConfusion (HT2.out.2 h.2.1))]; rfl, H2.out.bel⟩
  have HA2 : Hid (Pt bx by') := HT2.out.1 rfl
  go_wp2_with fail
  refine (may_any cx cy _ HW.out.2.2).mono ?_
  rintro e w3 ⟨⟨t, rfl, ht⟩, hb⟩
  have H3 : Hid (B3 w w3 ax ay bx by' cx cy) := H2.out.later hb
  have HT3 : Hid (t = true ↔ Pt cx cy) := ht
  clear ht hb x0 x1 x2 x3 x4 x5
  obtain ⟨x0, x1, x2, x3, x4, x5, _⟩ := H3.out
  cases t
  · go_wp2
    go_ret
    exact ⟨by rw [sg3_no (fun h => Bool.noConfusion (HT3.out.2 h.2.2))]; rfl, H3.out.bel⟩
  have HA3 : Hid (Pt cx cy) := HT3.out.1 rfl
  have HP : Hid (P3 ax ay bx by' cx cy) := ⟨HA1.out, HA2.out, HA3.out⟩
  go_wp2_with fail
  refine (turn_rf ax ay bx by' cx cy _ HW.out HP.out).mono ?_
  rintro e w4 ⟨v4, rfl, hr4, hb4⟩
  obtain ⟨S4, a4, n4, c4, E4, rfl, hs⟩ := hr4.sgn
  have HSG : Hid (S4 = sgq (S3 ax ay bx by' cx cy)) := sgq_of hs
  have fd : ∀ w, (Instr.field 56 (.agg #[.int .i64 S4, .slice a4 n4 c4, .int .i64 E4]) 0).run Try.prog w = .ok (.int .i64 S4) w := fun _ => by kernel_rfl
  clear hs
  have HB4 : Hid (Below w.heap.size w w4) := below_step H3.out.bel hb4
  clear hr4 hb4 x0 x1 x2 x3 x4 x5
  go_wp2
  go_ret
  exact ⟨by rw [sg3_yes HP.out, ← HSG.out]; rfl, HB4.out⟩

set_option maxRecDepth 100000 in
set_option maxHeartbeats 2000000 in
theorem ref5Sign (ax ay bx by' cx cy dx dy : Nat) (w : World) (hw : W8 ax ay bx by' cx cy dx dy) :
    Calls Try.prog 16 #[pv ax ay, pv bx by', pv cx cy, pv dx dy] w fun e w' => e = .returned (.int .i64 (sg4 ax ay bx by' cx cy dx dy)) ∧ Below w.heap.size w w' := by
  have HW : Hid (W8 ax ay bx by' cx cy dx dy) := hw
  clear hw
  have HS : Hid (B4 w ((((w.alloc (.cells #[.float .f64 ax, .float .f64 ay] 24)).alloc (.cells #[.float .f64 bx, .float .f64 by'] 24)).alloc (.cells #[.float .f64 cx, .float .f64 cy] 24)).alloc (.cells #[.float .f64 dx, .float .f64 dy] 24)) ax ay bx by' cx cy dx dy) := B4.start w ax ay bx by' cx cy dx dy
  go_enter Try.func16, Try.ntmps16
  go_wp2_with fail
  refine (may_any ax ay _ HW.out.1.1).mono ?_
  rintro e w1 ⟨⟨t, rfl, ht⟩, hb⟩
  have H1 : Hid (B4 w w1 ax ay bx by' cx cy dx dy) := HS.out.later hb
  have HT1 : Hid (t = true ↔ Pt ax ay) := ht
  clear ht hb
  obtain ⟨x0, x1, x2, x3, x4, x5, x6, x7, _⟩ := H1.out
  cases t
  · go_wp2
    go_ret
    exact ⟨by rw [sg4_no (fun h => Bool.noConfusion (HT1.out.2 h.1.1))]; rfl, H1.out.bel⟩
  have HA1 : Hid (Pt ax ay) := HT1.out.1 rfl
  go_wp2_with fail
  refine (may_any bx by' _ HW.out.1.2.1).mono ?_
  rintro e w2 ⟨⟨t, rfl, ht⟩, hb⟩
  have H2 : Hid (B4 w w2 ax ay bx by' cx cy dx dy) := H1.out.later hb
  have HT2 : Hid (t = true ↔ Pt bx by') := ht
  clear ht hb x0 x1 x2 x3 x4 x5 x6 x7
  obtain ⟨x0, x1, x2, x3, x4, x5, x6, x7, _⟩ := H2.out
  cases t
  · go_wp2
    go_ret
    exact ⟨by rw [sg4_no (fun h => Bool.noConfusion (HT2.out.2 h.1.2.1))]; rfl, H2.out.bel⟩
  have HA2 : Hid (Pt bx by') := HT2.out.1 rfl
  go_wp2_with fail
  refine (may_any cx cy _ HW.out.1.2.2).mono ?_
  rintro e w3 ⟨⟨t, rfl, ht⟩, hb⟩
  have H3 : Hid (B4 w w3 ax ay bx by' cx cy dx dy) := H2.out.later hb
  have HT3 : Hid (t = true ↔ Pt cx cy) := ht
  clear ht hb x0 x1 x2 x3 x4 x5 x6 x7
  obtain ⟨x0, x1, x2, x3, x4, x5, x6, x7, _⟩ := H3.out
  cases t
  · go_wp2
    go_ret
    exact ⟨by rw [sg4_no (fun h => Bool.noConfusion (HT3.out.2 h.1.2.2))]; rfl, H3.out.bel⟩
  have HA3 : Hid (Pt cx cy) := HT3.out.1 rfl
  go_wp2_with fail
  refine (may_any dx dy _ HW.out.2).mono ?_
  rintro e w4 ⟨⟨t, rfl, ht⟩, hb⟩
  have H4 : Hid (B4 w w4 ax ay bx by' cx cy dx dy) := H3.out.later hb
  have HT4 : Hid (t = true ↔ Pt dx dy) := ht
  clear ht hb x0 x1 x2 x3 x4 x5 x6 x7
  obtain ⟨x0, x1, x2, x3, x4, x5, x6, x7, _⟩ := H4.out
  cases t
  · go_wp2
    go_ret
    exact ⟨by rw [sg4_no (fun h => Bool.noConfusion (HT4.out.2 h.2))]; rfl, H4.out.bel⟩
  have HA4 : Hid (Pt dx dy) := HT4.out.1 rfl
  have HP : Hid (P4 ax ay bx by' cx cy dx dy) := ⟨⟨HA1.out, HA2.out, HA3.out⟩, HA4.out⟩
  go_wp2_with fail
  refine (sum4_rf ax ay bx by' cx cy dx dy _ HW.out HP.out).mono ?_
  rintro e w5 ⟨v5, rfl, hr5, hb5⟩
  obtain ⟨S5, a5, n5, c5, E5, rfl, hs⟩ := hr5.sgn
  have HSG : Hid (S5 = sgq (S4 ax ay bx by' cx cy dx dy)) := sgq_of hs
  have fd : ∀ w, (Instr.field 56 (.agg #[.int .i64 S5, .slice a5 n5 c5, .int .i64 E5]) 0).run Try.prog w = .ok (.int .i64 S5) w := fun _ => by kernel_rfl
  clear hs
  have HB5 : Hid (Below w.heap.size w w5) := below_step H4.out.bel hb5
  clear hr5 hb5 x0 x1 x2 x3 x4 x5 x6 x7
  go_wp2
  go_ret
  exact ⟨by rw [sg4_yes HP.out, ← HSG.out]; rfl, HB5.out⟩

theorem ref5sign_is (ax ay bx by' cx cy dx dy : Nat) (w : World) (z : Int) (hw : W8 ax ay bx by' cx cy dx dy) (hz : sg4 ax ay bx by' cx cy dx dy = z) :
    Calls Try.prog 16 #[pv ax ay, pv bx by', pv cx cy, pv dx dy] w fun e w' => e = .returned (.int .i64 z) ∧ Below w.heap.size w w' := by
  rw [← hz]
  exact ref5Sign ax ay bx by' cx cy dx dy w hw
theorem left_is (ax ay bx by' cx cy : Nat) (w : World) (z : Int) (hw : W6 ax ay bx by' cx cy) (hz : sg3 ax ay bx by' cx cy = z) :
    Calls Try.prog 34 #[pv ax ay, pv bx by', pv cx cy] w fun e w' => e = .returned (.int .i64 z) ∧ Below w.heap.size w w' := by
  rw [← hz]
  exact left_any ax ay bx by' cx cy w hw

set_option maxRecDepth 100000 in
set_option maxHeartbeats 4000000 in
theorem ref5Within (ax ay bx by' cx cy dx dy : Nat) (w : World) (t : Bool) (hw : W8 ax ay bx by' cx cy dx dy) (ht : decide (0 < sg3 ax ay bx by' cx cy * sg4 ax ay bx by' cx cy dx dy) = t) :
    Calls Try.prog 17 #[pv ax ay, pv bx by', pv cx cy, pv dx dy] w fun e w' => e = .returned (.bool t) ∧ Below w.heap.size w w' := by
  have HW : Hid (W8 ax ay bx by' cx cy dx dy) := hw
  clear hw
  have HS : Hid (B4 w ((((w.alloc (.cells #[.float .f64 ax, .float .f64 ay] 24)).alloc (.cells #[.float .f64 bx, .float .f64 by'] 24)).alloc (.cells #[.float .f64 cx, .float .f64 cy] 24)).alloc (.cells #[.float .f64 dx, .float .f64 dy] 24)) ax ay bx by' cx cy dx dy) := B4.start w ax ay bx by' cx cy dx dy
  obtain ⟨z, hz⟩ : ∃ z, Hid (sg4 ax ay bx by' cx cy dx dy = z) := ⟨_, rfl⟩
  obtain ⟨y, hy⟩ : ∃ z, Hid (sg3 ax ay bx by' cx cy = z) := ⟨_, rfl⟩
  obtain ⟨h1, h2⟩ := sg4_range ax ay bx by' cx cy dx dy
  rw [hz.out] at h1 h2
  obtain ⟨h3, h4⟩ := sg3_range' ax ay bx by' cx cy
  rw [hy.out] at h3 h4
  rw [hz.out, hy.out] at ht
  have hzz : z = -1 ∨ z = 0 ∨ z = 1 := by omega
  have hyy : y = -1 ∨ y = 0 ∨ y = 1 := by omega
  clear h1 h2 h3 h4
  go_enter Try.func17, Try.ntmps17
  go_wp2_with fail
  refine (ref5sign_is ax ay bx by' cx cy dx dy _ z HW.out hz.out).mono ?_
  rintro e w1 ⟨rfl, hb⟩
  have H1 : Hid (B4 w w1 ax ay bx by' cx cy dx dy) := HS.out.later hb
  clear hb 
  obtain ⟨u0, u1, u2, u3, u4, u5, u6, u7, _⟩ := H1.out
  go_wp2_with fail
  refine (left_is ax ay bx by' cx cy _ y HW.out.1 hy.out).mono ?_
  rintro e w2 ⟨rfl, hb⟩
  have H2 : Hid (B4 w w2 ax ay bx by' cx cy dx dy) := H1.out.later hb
  clear hb u0 u1 u2 u3 u4 u5 u6 u7 H1
  obtain ⟨u0, u1, u2, u3, u4, u5, u6, u7, _⟩ := H2.out
  clear u0 u1 u2 u3 u4 u5 u6 u7
  rcases hzz with rfl | rfl | rfl <;> rcases hyy with rfl | rfl | rfl
  · obtain rfl : t = true := by rw [← ht]; decide
    go_wp2
    go_ret
    exact ⟨rfl, H2.out.bel⟩
  · obtain rfl : t = false := by rw [← ht]; decide
    go_wp2
    go_ret
    exact ⟨rfl, H2.out.bel⟩
  · obtain rfl : t = false := by rw [← ht]; decide
    go_wp2
    go_ret
    exact ⟨rfl, H2.out.bel⟩
  · obtain rfl : t = false := by rw [← ht]; decide
    go_wp2
    go_ret
    exact ⟨rfl, H2.out.bel⟩
  · obtain rfl : t = false := by rw [← ht]; decide
    go_wp2
    go_ret
    exact ⟨rfl, H2.out.bel⟩
  · obtain rfl : t = false := by rw [← ht]; decide
    go_wp2
    go_ret
    exact ⟨rfl, H2.out.bel⟩
  · obtain rfl : t = false := by rw [← ht]; decide
    go_wp2
    go_ret
    exact ⟨rfl, H2.out.bel⟩
  · obtain rfl : t = false := by rw [← ht]; decide
    go_wp2
    go_ret
    exact ⟨rfl, H2.out.bel⟩
  · obtain rfl : t = true := by rw [← ht]; decide
    go_wp2
    go_ret
    exact ⟨rfl, H2.out.bel⟩

set_option maxRecDepth 100000 in
set_option maxHeartbeats 4000000 in
theorem csign_law (ax ay bx by' cx cy dx dy : Nat) (w : World) (hw : W8 ax ay bx by' cx cy dx dy) :
    Calls Try.prog 4 #[pv ax ay, pv bx by', pv cx cy, pv dx dy] w fun e w' => e = .returned (.bool true) ∧ Below w.heap.size w w' := by
  have HW : Hid (W8 ax ay bx by' cx cy dx dy) := hw
  clear hw
  have HS : Hid (B4 w ((((w.alloc (.cells #[.float .f64 ax, .float .f64 ay] 24)).alloc (.cells #[.float .f64 bx, .float .f64 by'] 24)).alloc (.cells #[.float .f64 cx, .float .f64 cy] 24)).alloc (.cells #[.float .f64 dx, .float .f64 dy] 24)) ax ay bx by' cx cy dx dy) := B4.start w ax ay bx by' cx cy dx dy
  obtain ⟨z, hz⟩ : ∃ z, Hid (sg4 ax ay bx by' cx cy dx dy = z) := ⟨_, rfl⟩
  obtain ⟨t, ht⟩ : ∃ t, Hid (decide (0 < sg3 ax ay bx by' cx cy * sg4 ax ay bx by' cx cy dx dy) = t) := ⟨_, rfl⟩
  go_enter Try.func4, Try.ntmps4
  go_wp2_with fail
  refine (ref5sign_is ax ay bx by' cx cy dx dy _ z HW.out hz.out).mono ?_
  rintro e w1 ⟨rfl, hb⟩
  have H1 : Hid (B4 w w1 ax ay bx by' cx cy dx dy) := HS.out.later hb
  clear hb 
  obtain ⟨u0, u1, u2, u3, u4, u5, u6, u7, _⟩ := H1.out
  go_wp2_with fail
  refine (cfast_any ax ay bx by' cx cy dx dy _ HW.out).mono ?_
  rintro e w2 ⟨⟨s, ok, rfl, hf⟩, hb⟩
  have HF : Hid (CFastR ax ay bx by' cx cy dx dy s ok) := hf
  have H2 : Hid (B4 w w2 ax ay bx by' cx cy dx dy) := H1.out.later hb
  clear hb hf u0 u1 u2 u3 u4 u5 u6 u7 H1
  obtain ⟨u0, u1, u2, u3, u4, u5, u6, u7, _⟩ := H2.out
  cases ok
  · obtain rfl := HF.out.2.1 rfl
    go_wp2_with fail
    refine wp_region_held_drew (S := (fun W => W.cell? ⟨w.heap.size, 0, none⟩ = some (.float .f64 ax) ∧ W.cell? ⟨w.heap.size, 1, none⟩ = some (.float .f64 ay) ∧ W.cell? ⟨w.heap.size + 1, 0, none⟩ = some (.float .f64 bx) ∧ W.cell? ⟨w.heap.size + 1, 1, none⟩ = some (.float .f64 by') ∧ W.cell? ⟨w.heap.size + 1 + 1, 0, none⟩ = some (.float .f64 cx) ∧ W.cell? ⟨w.heap.size + 1 + 1, 1, none⟩ = some (.float .f64 cy) ∧ W.cell? ⟨w.heap.size + 1 + 1 + 1, 0, none⟩ = some (.float .f64 dx) ∧ W.cell? ⟨w.heap.size + 1 + 1 + 1, 1, none⟩ = some (.float .f64 dy) ∧ Below w.heap.size w W)) (by kernel_rfl) ⟨u0, u1, u2, u3, u4, u5, u6, u7, H2.out.bel.drew⟩ (fun hS => ?_)
    refine take_at (i := 0) (d := some 25) (v := .agg #[.float .f64 ax, .float .f64 ay]) (by kernel_rfl) (by kernel_rfl) (by kernel_rfl) (by kernel_rfl) (fun _ _ _ h => h) ?_ hS ?_
    · intro o ho
      simp only [List.getElem?_toArray, List.getElem?_cons_zero, Option.some.injEq] at ho
      subst ho
      refine Or.inl ⟨by rfl, ?_⟩
      intro w hSw
      (try dsimp only at hSw)
      go_simp
    simp only [Act.put, List.setIfInBounds_toArray, List.set_cons_zero, List.set_cons_succ]
    refine take_at (i := 1) (d := some 26) (v := .agg #[.float .f64 bx, .float .f64 by']) (by kernel_rfl) (by kernel_rfl) (by kernel_rfl) (by kernel_rfl) (fun _ _ _ h => h) ?_ hS ?_
    · intro o ho
      simp only [List.getElem?_toArray, List.getElem?_cons_succ, List.getElem?_cons_zero, Option.some.injEq] at ho
      subst ho
      refine Or.inl ⟨by rfl, ?_⟩
      intro w hSw
      (try dsimp only at hSw)
      go_simp
    simp only [Act.put, List.setIfInBounds_toArray, List.set_cons_zero, List.set_cons_succ]
    refine take_at (i := 2) (d := some 27) (v := .agg #[.float .f64 cx, .float .f64 cy]) (by kernel_rfl) (by kernel_rfl) (by kernel_rfl) (by kernel_rfl) (fun _ _ _ h => h) ?_ hS ?_
    · intro o ho
      simp only [List.getElem?_toArray, List.getElem?_cons_succ, List.getElem?_cons_zero, Option.some.injEq] at ho
      subst ho
      refine Or.inl ⟨by rfl, ?_⟩
      intro w hSw
      (try dsimp only at hSw)
      go_simp
    simp only [Act.put, List.setIfInBounds_toArray, List.set_cons_zero, List.set_cons_succ]
    refine take_at (i := 3) (d := some 28) (v := .agg #[.float .f64 dx, .float .f64 dy]) (by kernel_rfl) (by kernel_rfl) (by kernel_rfl) (by kernel_rfl) (fun _ _ _ h => h) ?_ hS ?_
    · intro o ho
      simp only [List.getElem?_toArray, List.getElem?_cons_succ, List.getElem?_cons_zero, Option.some.injEq] at ho
      subst ho
      refine Or.inl ⟨by rfl, ?_⟩
      intro w hSw
      (try dsimp only at hSw)
      go_simp
    simp only [Act.put, List.setIfInBounds_toArray, List.set_cons_zero, List.set_cons_succ]
    refine take_at (i := 5) (d := some 30) (v := .int .i64 z) (by kernel_rfl) (by kernel_rfl) (by kernel_rfl) (by kernel_rfl) (fun _ _ _ h => h) ?_ hS ?_
    · intro o ho
      simp only [List.getElem?_toArray, List.getElem?_cons_succ, List.getElem?_cons_zero, Option.some.injEq] at ho
      subst ho
      refine Or.inl ⟨by rfl, ?_⟩
      intro w hSw
      (try dsimp only at hSw)
      go_simp
    simp only [Act.put, List.setIfInBounds_toArray, List.set_cons_zero, List.set_cons_succ]
    refine call_at 4 (by kernel_rfl) (by kernel_rfl) ?_
    intro o ho
    simp only [List.getElem?_toArray, List.getElem?_cons_succ, List.getElem?_cons_zero, Option.some.injEq] at ho
    subst ho
    intro KF hK
    go_simp
    refine (sign4_is ax ay bx by' cx cy dx dy _ z HW.out hz.out).mono ?_
    rintro e wx ⟨rfl, hbx⟩
    go_wp2_with fail
    refine hK.out _ _ ⟨box_cell hbx hS.1, box_cell hbx hS.2.1, box_cell hbx hS.2.2.1, box_cell hbx hS.2.2.2.1, box_cell hbx hS.2.2.2.2.1, box_cell hbx hS.2.2.2.2.2.1, box_cell hbx hS.2.2.2.2.2.2.1, box_cell hbx hS.2.2.2.2.2.2.2.1, below_step hS.2.2.2.2.2.2.2.2 hbx⟩ ?_
    clear hS hbx
    intro hS
    clear hK KF
    try simp only [Act.put, List.setIfInBounds_toArray, List.set_cons_zero, List.set_cons_succ]
    refine take_at (i := 6) (d := some 31) (v := .bool true) (by kernel_rfl) (by kernel_rfl) (by kernel_rfl) (by kernel_rfl) (fun _ _ _ h => h) ?_ hS ?_
    · intro o ho
      simp only [List.getElem?_toArray, List.getElem?_cons_succ, List.getElem?_cons_zero, Option.some.injEq] at ho
      subst ho
      refine Or.inl ⟨by rfl, ?_⟩
      intro w hSw
      (try dsimp only at hSw)
      go_simp
    simp only [Act.put, List.setIfInBounds_toArray, List.set_cons_zero, List.set_cons_succ]
    refine take_at (i := 7) (d := some 32) (v := .bool true) (by kernel_rfl) (by kernel_rfl) (by kernel_rfl) (by kernel_rfl) (fun _ _ _ h => h) ?_ hS ?_
    · intro o ho
      simp only [List.getElem?_toArray, List.getElem?_cons_succ, List.getElem?_cons_zero, Option.some.injEq] at ho
      subst ho
      refine Or.inl ⟨by rfl, ?_⟩
      intro w hSw
      (try dsimp only at hSw)
      go_simp
    simp only [Act.put, List.setIfInBounds_toArray, List.set_cons_zero, List.set_cons_succ]
    refine take_at (i := 8) (d := some 33) (v := .bool false) (by kernel_rfl) (by kernel_rfl) (by kernel_rfl) (by kernel_rfl) (fun _ _ _ h => h) ?_ hS ?_
    · intro o ho
      simp only [List.getElem?_toArray, List.getElem?_cons_succ, List.getElem?_cons_zero, Option.some.injEq] at ho
      subst ho
      refine Or.inl ⟨by rfl, ?_⟩
      intro w hSw
      (try dsimp only at hSw)
      go_simp
    simp only [Act.put, List.setIfInBounds_toArray, List.set_cons_zero, List.set_cons_succ]
    refine take_at (i := 9) (d := some 34) (v := .bool false) (by kernel_rfl) (by kernel_rfl) (by kernel_rfl) (by kernel_rfl) (fun _ _ _ h => h) ?_ hS ?_
    · intro o ho
      simp only [List.getElem?_toArray, List.getElem?_cons_succ, List.getElem?_cons_zero, Option.some.injEq] at ho
      subst ho
      refine Or.inl ⟨by rfl, ?_⟩
      intro w hSw
      (try dsimp only at hSw)
      go_simp
    simp only [Act.put, List.setIfInBounds_toArray, List.set_cons_zero, List.set_cons_succ]
    refine skip_at 10 (d := some 35) (by kernel_rfl) (by kernel_rfl) (by kernel_rfl) (by kernel_rfl) (fun _ _ _ h => h) (by rfl) hS ?_
    simp only [Act.put, List.setIfInBounds_toArray, List.set_cons_zero, List.set_cons_succ]
    refine skip_at 11 (d := some 36) (by kernel_rfl) (by kernel_rfl) (by kernel_rfl) (by kernel_rfl) (fun _ _ _ h => h) (by rfl) hS ?_
    simp only [Act.put, List.setIfInBounds_toArray, List.set_cons_zero, List.set_cons_succ]
    refine skip_at 12 (d := some 37) (by kernel_rfl) (by kernel_rfl) (by kernel_rfl) (by kernel_rfl) (fun _ _ _ h => h) (by rfl) hS ?_
    simp only [Act.put, List.setIfInBounds_toArray, List.set_cons_zero, List.set_cons_succ]
    refine take_at (i := 13) (d := some 38) (v := .bool false) (by kernel_rfl) (by kernel_rfl) (by kernel_rfl) (by kernel_rfl) (fun _ _ _ h => h) ?_ hS ?_
    · intro o ho
      simp only [List.getElem?_toArray, List.getElem?_cons_succ, List.getElem?_cons_zero, Option.some.injEq] at ho
      subst ho
      refine Or.inl ⟨by rfl, ?_⟩
      intro w hSw
      (try dsimp only at hSw)
      go_simp
    simp only [Act.put, List.setIfInBounds_toArray, List.set_cons_zero, List.set_cons_succ]
    refine take_at (i := 14) (d := some 39) (v := .bool false) (by kernel_rfl) (by kernel_rfl) (by kernel_rfl) (by kernel_rfl) (fun _ _ _ h => h) ?_ hS ?_
    · intro o ho
      simp only [List.getElem?_toArray, List.getElem?_cons_succ, List.getElem?_cons_zero, Option.some.injEq] at ho
      subst ho
      refine Or.inl ⟨by rfl, ?_⟩
      intro w hSw
      (try dsimp only at hSw)
      go_simp
    simp only [Act.put, List.setIfInBounds_toArray, List.set_cons_zero, List.set_cons_succ]
    refine take_at (i := 15) (d := some 40) (v := .bool false) (by kernel_rfl) (by kernel_rfl) (by kernel_rfl) (by kernel_rfl) (fun _ _ _ h => h) ?_ hS ?_
    · intro o ho
      simp only [List.getElem?_toArray, List.getElem?_cons_succ, List.getElem?_cons_zero, Option.some.injEq] at ho
      subst ho
      refine Or.inl ⟨by rfl, ?_⟩
      intro w hSw
      (try dsimp only at hSw)
      go_simp
    simp only [Act.put, List.setIfInBounds_toArray, List.set_cons_zero, List.set_cons_succ]
    refine take_at (i := 16) (d := some 41) (v := .bool true) (by kernel_rfl) (by kernel_rfl) (by kernel_rfl) (by kernel_rfl) (fun _ _ _ h => h) ?_ hS ?_
    · intro o ho
      simp only [List.getElem?_toArray, List.getElem?_cons_succ, List.getElem?_cons_zero, Option.some.injEq] at ho
      subst ho
      refine Or.inl ⟨by rfl, ?_⟩
      intro w hSw
      (try dsimp only at hSw)
      go_simp
    simp only [Act.put, List.setIfInBounds_toArray, List.set_cons_zero, List.set_cons_succ]
    refine take_at (i := 17) (d := some 42) (v := .bool true) (by kernel_rfl) (by kernel_rfl) (by kernel_rfl) (by kernel_rfl) (fun _ _ _ h => h) ?_ hS ?_
    · intro o ho
      simp only [List.getElem?_toArray, List.getElem?_cons_succ, List.getElem?_cons_zero, Option.some.injEq] at ho
      subst ho
      refine Or.inl ⟨by rfl, ?_⟩
      intro w hSw
      (try dsimp only at hSw)
      go_simp
    simp only [Act.put, List.setIfInBounds_toArray, List.set_cons_zero, List.set_cons_succ]
    refine take_at (i := 18) (d := some 43) (v := .int .i64 0) (by kernel_rfl) (by kernel_rfl) (by kernel_rfl) (by kernel_rfl) (fun _ _ _ h => h) ?_ hS ?_
    · intro o ho
      simp only [List.getElem?_toArray, List.getElem?_cons_succ, List.getElem?_cons_zero, Option.some.injEq] at ho
      subst ho
      refine Or.inl ⟨by rfl, ?_⟩
      intro w hSw
      (try dsimp only at hSw)
      go_simp
    simp only [Act.put, List.setIfInBounds_toArray, List.set_cons_zero, List.set_cons_succ]
    refine take_at (i := 19) (d := some 44) (v := .bool true) (by kernel_rfl) (by kernel_rfl) (by kernel_rfl) (by kernel_rfl) (fun _ _ _ h => h) ?_ hS ?_
    · intro o ho
      simp only [List.getElem?_toArray, List.getElem?_cons_succ, List.getElem?_cons_zero, Option.some.injEq] at ho
      subst ho
      refine Or.inl ⟨by rfl, ?_⟩
      intro w hSw
      (try dsimp only at hSw)
      go_simp
    simp only [Act.put, List.setIfInBounds_toArray, List.set_cons_zero, List.set_cons_succ]
    refine take_at (i := 20) (d := some 45) (v := .bool true) (by kernel_rfl) (by kernel_rfl) (by kernel_rfl) (by kernel_rfl) (fun _ _ _ h => h) ?_ hS ?_
    · intro o ho
      simp only [List.getElem?_toArray, List.getElem?_cons_succ, List.getElem?_cons_zero, Option.some.injEq] at ho
      subst ho
      refine Or.inl ⟨by rfl, ?_⟩
      intro w hSw
      (try dsimp only at hSw)
      go_simp
    simp only [Act.put, List.setIfInBounds_toArray, List.set_cons_zero, List.set_cons_succ]
    refine take_at (i := 21) (d := some 46) (v := .bool true) (by kernel_rfl) (by kernel_rfl) (by kernel_rfl) (by kernel_rfl) (fun _ _ _ h => h) ?_ hS ?_
    · intro o ho
      simp only [List.getElem?_toArray, List.getElem?_cons_succ, List.getElem?_cons_zero, Option.some.injEq] at ho
      subst ho
      refine Or.inl ⟨by rfl, ?_⟩
      intro w hSw
      (try dsimp only at hSw)
      go_simp
    simp only [Act.put, List.setIfInBounds_toArray, List.set_cons_zero, List.set_cons_succ]
    refine take_at (i := 22) (d := some 47) (v := .bool true) (by kernel_rfl) (by kernel_rfl) (by kernel_rfl) (by kernel_rfl) (fun _ _ _ h => h) ?_ hS ?_
    · intro o ho
      simp only [List.getElem?_toArray, List.getElem?_cons_succ, List.getElem?_cons_zero, Option.some.injEq] at ho
      subst ho
      refine Or.inl ⟨by rfl, ?_⟩
      intro w hSw
      (try dsimp only at hSw)
      go_simp
    simp only [Act.put, List.setIfInBounds_toArray, List.set_cons_zero, List.set_cons_succ]
    refine take_at (i := 23) (d := some 48) (v := .bool true) (by kernel_rfl) (by kernel_rfl) (by kernel_rfl) (by kernel_rfl) (fun _ _ _ h => h) ?_ hS ?_
    · intro o ho
      simp only [List.getElem?_toArray, List.getElem?_cons_succ, List.getElem?_cons_zero, Option.some.injEq] at ho
      subst ho
      refine Or.inl ⟨by rfl, ?_⟩
      intro w hSw
      (try dsimp only at hSw)
      go_simp
    simp only [Act.put, List.setIfInBounds_toArray, List.set_cons_zero, List.set_cons_succ]
    refine take_at (i := 24) (d := some 49) (v := .agg #[.float .f64 ax, .float .f64 ay]) (by kernel_rfl) (by kernel_rfl) (by kernel_rfl) (by kernel_rfl) (fun _ _ _ h => h) ?_ hS ?_
    · intro o ho
      simp only [List.getElem?_toArray, List.getElem?_cons_succ, List.getElem?_cons_zero, Option.some.injEq] at ho
      subst ho
      refine Or.inl ⟨by rfl, ?_⟩
      intro w hSw
      (try dsimp only at hSw)
      go_simp
    simp only [Act.put, List.setIfInBounds_toArray, List.set_cons_zero, List.set_cons_succ]
    refine take_at (i := 25) (d := some 50) (v := .agg #[.float .f64 bx, .float .f64 by']) (by kernel_rfl) (by kernel_rfl) (by kernel_rfl) (by kernel_rfl) (fun _ _ _ h => h) ?_ hS ?_
    · intro o ho
      simp only [List.getElem?_toArray, List.getElem?_cons_succ, List.getElem?_cons_zero, Option.some.injEq] at ho
      subst ho
      refine Or.inl ⟨by rfl, ?_⟩
      intro w hSw
      (try dsimp only at hSw)
      go_simp
    simp only [Act.put, List.setIfInBounds_toArray, List.set_cons_zero, List.set_cons_succ]
    refine take_at (i := 26) (d := some 51) (v := .agg #[.float .f64 cx, .float .f64 cy]) (by kernel_rfl) (by kernel_rfl) (by kernel_rfl) (by kernel_rfl) (fun _ _ _ h => h) ?_ hS ?_
    · intro o ho
      simp only [List.getElem?_toArray, List.getElem?_cons_succ, List.getElem?_cons_zero, Option.some.injEq] at ho
      subst ho
      refine Or.inl ⟨by rfl, ?_⟩
      intro w hSw
      (try dsimp only at hSw)
      go_simp
    simp only [Act.put, List.setIfInBounds_toArray, List.set_cons_zero, List.set_cons_succ]
    refine take_at (i := 27) (d := some 52) (v := .agg #[.float .f64 dx, .float .f64 dy]) (by kernel_rfl) (by kernel_rfl) (by kernel_rfl) (by kernel_rfl) (fun _ _ _ h => h) ?_ hS ?_
    · intro o ho
      simp only [List.getElem?_toArray, List.getElem?_cons_succ, List.getElem?_cons_zero, Option.some.injEq] at ho
      subst ho
      refine Or.inl ⟨by rfl, ?_⟩
      intro w hSw
      (try dsimp only at hSw)
      go_simp
    simp only [Act.put, List.setIfInBounds_toArray, List.set_cons_zero, List.set_cons_succ]
    refine take_at (i := 29) (d := some 54) (v := .agg #[.float .f64 ax, .float .f64 ay]) (by kernel_rfl) (by kernel_rfl) (by kernel_rfl) (by kernel_rfl) (fun _ _ _ h => h) ?_ hS ?_
    · intro o ho
      simp only [List.getElem?_toArray, List.getElem?_cons_succ, List.getElem?_cons_zero, Option.some.injEq] at ho
      subst ho
      refine Or.inl ⟨by rfl, ?_⟩
      intro w hSw
      (try dsimp only at hSw)
      go_simp
    simp only [Act.put, List.setIfInBounds_toArray, List.set_cons_zero, List.set_cons_succ]
    refine take_at (i := 30) (d := some 55) (v := .agg #[.float .f64 bx, .float .f64 by']) (by kernel_rfl) (by kernel_rfl) (by kernel_rfl) (by kernel_rfl) (fun _ _ _ h => h) ?_ hS ?_
    · intro o ho
      simp only [List.getElem?_toArray, List.getElem?_cons_succ, List.getElem?_cons_zero, Option.some.injEq] at ho
      subst ho
      refine Or.inl ⟨by rfl, ?_⟩
      intro w hSw
      (try dsimp only at hSw)
      go_simp
    simp only [Act.put, List.setIfInBounds_toArray, List.set_cons_zero, List.set_cons_succ]
    refine take_at (i := 31) (d := some 56) (v := .agg #[.float .f64 cx, .float .f64 cy]) (by kernel_rfl) (by kernel_rfl) (by kernel_rfl) (by kernel_rfl) (fun _ _ _ h => h) ?_ hS ?_
    · intro o ho
      simp only [List.getElem?_toArray, List.getElem?_cons_succ, List.getElem?_cons_zero, Option.some.injEq] at ho
      subst ho
      refine Or.inl ⟨by rfl, ?_⟩
      intro w hSw
      (try dsimp only at hSw)
      go_simp
    simp only [Act.put, List.setIfInBounds_toArray, List.set_cons_zero, List.set_cons_succ]
    refine take_at (i := 32) (d := some 57) (v := .agg #[.float .f64 dx, .float .f64 dy]) (by kernel_rfl) (by kernel_rfl) (by kernel_rfl) (by kernel_rfl) (fun _ _ _ h => h) ?_ hS ?_
    · intro o ho
      simp only [List.getElem?_toArray, List.getElem?_cons_succ, List.getElem?_cons_zero, Option.some.injEq] at ho
      subst ho
      refine Or.inl ⟨by rfl, ?_⟩
      intro w hSw
      (try dsimp only at hSw)
      go_simp
    simp only [Act.put, List.setIfInBounds_toArray, List.set_cons_zero, List.set_cons_succ]
    refine call_at 28 (by kernel_rfl) (by kernel_rfl) ?_
    intro o ho
    simp only [List.getElem?_toArray, List.getElem?_cons_succ, List.getElem?_cons_zero, Option.some.injEq] at ho
    subst ho
    intro KF hK
    go_simp
    refine (within_is ax ay bx by' cx cy dx dy _ t HW.out ht.out).mono ?_
    rintro e wx ⟨rfl, hbx⟩
    go_wp2_with fail
    refine hK.out _ _ ⟨box_cell hbx hS.1, box_cell hbx hS.2.1, box_cell hbx hS.2.2.1, box_cell hbx hS.2.2.2.1, box_cell hbx hS.2.2.2.2.1, box_cell hbx hS.2.2.2.2.2.1, box_cell hbx hS.2.2.2.2.2.2.1, box_cell hbx hS.2.2.2.2.2.2.2.1, below_step hS.2.2.2.2.2.2.2.2 hbx⟩ ?_
    clear hS hbx
    intro hS
    clear hK KF
    try simp only [Act.put, List.setIfInBounds_toArray, List.set_cons_zero, List.set_cons_succ]
    refine call_at 33 (by kernel_rfl) (by kernel_rfl) ?_
    intro o ho
    simp only [List.getElem?_toArray, List.getElem?_cons_succ, List.getElem?_cons_zero, Option.some.injEq] at ho
    subst ho
    intro KF hK
    go_simp
    refine (ref5Within ax ay bx by' cx cy dx dy _ t HW.out ht.out).mono ?_
    rintro e wx ⟨rfl, hbx⟩
    go_wp2_with fail
    refine hK.out _ _ ⟨box_cell hbx hS.1, box_cell hbx hS.2.1, box_cell hbx hS.2.2.1, box_cell hbx hS.2.2.2.1, box_cell hbx hS.2.2.2.2.1, box_cell hbx hS.2.2.2.2.2.1, box_cell hbx hS.2.2.2.2.2.2.1, box_cell hbx hS.2.2.2.2.2.2.2.1, below_step hS.2.2.2.2.2.2.2.2 hbx⟩ ?_
    clear hS hbx
    intro hS
    clear hK KF
    try simp only [Act.put, List.setIfInBounds_toArray, List.set_cons_zero, List.set_cons_succ]
    refine take_at (i := 34) (d := some 59) (v := .bool true) (by kernel_rfl) (by kernel_rfl) (by kernel_rfl) (by kernel_rfl) (fun _ _ _ h => h) ?_ hS ?_
    · intro o ho
      simp only [List.getElem?_toArray, List.getElem?_cons_succ, List.getElem?_cons_zero, Option.some.injEq] at ho
      subst ho
      refine Or.inl ⟨by rfl, ?_⟩
      intro w hSw
      (try dsimp only at hSw)
      go_simp
    simp only [Act.put, List.setIfInBounds_toArray, List.set_cons_zero, List.set_cons_succ]
    refine take_at (i := 35) (d := some 60) (v := .bool true) (by kernel_rfl) (by kernel_rfl) (by kernel_rfl) (by kernel_rfl) (fun _ _ _ h => h) ?_ hS ?_
    · intro o ho
      simp only [List.getElem?_toArray, List.getElem?_cons_succ, List.getElem?_cons_zero, Option.some.injEq] at ho
      subst ho
      refine Or.inl ⟨by rfl, ?_⟩
      intro w hSw
      (try dsimp only at hSw)
      go_simp
    simp only [Act.put, List.setIfInBounds_toArray, List.set_cons_zero, List.set_cons_succ]
    refine take_at (i := 36) (d := some 8) (v := .bool true) (by kernel_rfl) (by kernel_rfl) (by kernel_rfl) (by kernel_rfl) (fun _ _ _ h => h) ?_ hS ?_
    · intro o ho
      simp only [List.getElem?_toArray, List.getElem?_cons_succ, List.getElem?_cons_zero, Option.some.injEq] at ho
      subst ho
      refine Or.inl ⟨by rfl, ?_⟩
      intro w hSw
      (try dsimp only at hSw)
      go_simp
    simp only [Act.put, List.setIfInBounds_toArray, List.set_cons_zero, List.set_cons_succ]
    refine wpAnyH_done (by kernel_rfl) ?_ _
    have HE : Hid (Below w.heap.size w _) := hS.2.2.2.2.2.2.2.2
    clear hS
    go_wp2
    go_ret
    exact ⟨rfl, HE.out⟩
  · obtain rfl : s = z := by rw [(HF.out.1 rfl).2, ← hz.out, sg4_yes (HF.out.1 rfl).1]
    go_wp2_with fail
    refine wp_region_held_drew (S := (fun W => W.cell? ⟨w.heap.size, 0, none⟩ = some (.float .f64 ax) ∧ W.cell? ⟨w.heap.size, 1, none⟩ = some (.float .f64 ay) ∧ W.cell? ⟨w.heap.size + 1, 0, none⟩ = some (.float .f64 bx) ∧ W.cell? ⟨w.heap.size + 1, 1, none⟩ = some (.float .f64 by') ∧ W.cell? ⟨w.heap.size + 1 + 1, 0, none⟩ = some (.float .f64 cx) ∧ W.cell? ⟨w.heap.size + 1 + 1, 1, none⟩ = some (.float .f64 cy) ∧ W.cell? ⟨w.heap.size + 1 + 1 + 1, 0, none⟩ = some (.float .f64 dx) ∧ W.cell? ⟨w.heap.size + 1 + 1 + 1, 1, none⟩ = some (.float .f64 dy) ∧ Below w.heap.size w W)) (by kernel_rfl) ⟨u0, u1, u2, u3, u4, u5, u6, u7, H2.out.bel.drew⟩ (fun hS => ?_)
    refine take_at (i := 0) (d := some 25) (v := .agg #[.float .f64 ax, .float .f64 ay]) (by kernel_rfl) (by kernel_rfl) (by kernel_rfl) (by kernel_rfl) (fun _ _ _ h => h) ?_ hS ?_
    · intro o ho
      simp only [List.getElem?_toArray, List.getElem?_cons_zero, Option.some.injEq] at ho
      subst ho
      refine Or.inl ⟨by rfl, ?_⟩
      intro w hSw
      (try dsimp only at hSw)
      go_simp
    simp only [Act.put, List.setIfInBounds_toArray, List.set_cons_zero, List.set_cons_succ]
    refine take_at (i := 1) (d := some 26) (v := .agg #[.float .f64 bx, .float .f64 by']) (by kernel_rfl) (by kernel_rfl) (by kernel_rfl) (by kernel_rfl) (fun _ _ _ h => h) ?_ hS ?_
    · intro o ho
      simp only [List.getElem?_toArray, List.getElem?_cons_succ, List.getElem?_cons_zero, Option.some.injEq] at ho
      subst ho
      refine Or.inl ⟨by rfl, ?_⟩
      intro w hSw
      (try dsimp only at hSw)
      go_simp
    simp only [Act.put, List.setIfInBounds_toArray, List.set_cons_zero, List.set_cons_succ]
    refine take_at (i := 2) (d := some 27) (v := .agg #[.float .f64 cx, .float .f64 cy]) (by kernel_rfl) (by kernel_rfl) (by kernel_rfl) (by kernel_rfl) (fun _ _ _ h => h) ?_ hS ?_
    · intro o ho
      simp only [List.getElem?_toArray, List.getElem?_cons_succ, List.getElem?_cons_zero, Option.some.injEq] at ho
      subst ho
      refine Or.inl ⟨by rfl, ?_⟩
      intro w hSw
      (try dsimp only at hSw)
      go_simp
    simp only [Act.put, List.setIfInBounds_toArray, List.set_cons_zero, List.set_cons_succ]
    refine take_at (i := 3) (d := some 28) (v := .agg #[.float .f64 dx, .float .f64 dy]) (by kernel_rfl) (by kernel_rfl) (by kernel_rfl) (by kernel_rfl) (fun _ _ _ h => h) ?_ hS ?_
    · intro o ho
      simp only [List.getElem?_toArray, List.getElem?_cons_succ, List.getElem?_cons_zero, Option.some.injEq] at ho
      subst ho
      refine Or.inl ⟨by rfl, ?_⟩
      intro w hSw
      (try dsimp only at hSw)
      go_simp
    simp only [Act.put, List.setIfInBounds_toArray, List.set_cons_zero, List.set_cons_succ]
    refine take_at (i := 5) (d := some 30) (v := .int .i64 s) (by kernel_rfl) (by kernel_rfl) (by kernel_rfl) (by kernel_rfl) (fun _ _ _ h => h) ?_ hS ?_
    · intro o ho
      simp only [List.getElem?_toArray, List.getElem?_cons_succ, List.getElem?_cons_zero, Option.some.injEq] at ho
      subst ho
      refine Or.inl ⟨by rfl, ?_⟩
      intro w hSw
      (try dsimp only at hSw)
      go_simp
    simp only [Act.put, List.setIfInBounds_toArray, List.set_cons_zero, List.set_cons_succ]
    refine call_at 4 (by kernel_rfl) (by kernel_rfl) ?_
    intro o ho
    simp only [List.getElem?_toArray, List.getElem?_cons_succ, List.getElem?_cons_zero, Option.some.injEq] at ho
    subst ho
    intro KF hK
    go_simp
    refine (sign4_is ax ay bx by' cx cy dx dy _ s HW.out hz.out).mono ?_
    rintro e wx ⟨rfl, hbx⟩
    go_wp2_with fail
    refine hK.out _ _ ⟨box_cell hbx hS.1, box_cell hbx hS.2.1, box_cell hbx hS.2.2.1, box_cell hbx hS.2.2.2.1, box_cell hbx hS.2.2.2.2.1, box_cell hbx hS.2.2.2.2.2.1, box_cell hbx hS.2.2.2.2.2.2.1, box_cell hbx hS.2.2.2.2.2.2.2.1, below_step hS.2.2.2.2.2.2.2.2 hbx⟩ ?_
    clear hS hbx
    intro hS
    clear hK KF
    try simp only [Act.put, List.setIfInBounds_toArray, List.set_cons_zero, List.set_cons_succ]
    refine take_at (i := 6) (d := some 31) (v := .bool true) (by kernel_rfl) (by kernel_rfl) (by kernel_rfl) (by kernel_rfl) (fun _ _ _ h => h) ?_ hS ?_
    · intro o ho
      simp only [List.getElem?_toArray, List.getElem?_cons_succ, List.getElem?_cons_zero, Option.some.injEq] at ho
      subst ho
      refine Or.inl ⟨by rfl, ?_⟩
      intro w hSw
      (try dsimp only at hSw)
      go_simp
    simp only [Act.put, List.setIfInBounds_toArray, List.set_cons_zero, List.set_cons_succ]
    refine take_at (i := 7) (d := some 32) (v := .bool true) (by kernel_rfl) (by kernel_rfl) (by kernel_rfl) (by kernel_rfl) (fun _ _ _ h => h) ?_ hS ?_
    · intro o ho
      simp only [List.getElem?_toArray, List.getElem?_cons_succ, List.getElem?_cons_zero, Option.some.injEq] at ho
      subst ho
      refine Or.inl ⟨by rfl, ?_⟩
      intro w hSw
      (try dsimp only at hSw)
      go_simp
    simp only [Act.put, List.setIfInBounds_toArray, List.set_cons_zero, List.set_cons_succ]
    refine take_at (i := 8) (d := some 33) (v := .bool true) (by kernel_rfl) (by kernel_rfl) (by kernel_rfl) (by kernel_rfl) (fun _ _ _ h => h) ?_ hS ?_
    · intro o ho
      simp only [List.getElem?_toArray, List.getElem?_cons_succ, List.getElem?_cons_zero, Option.some.injEq] at ho
      subst ho
      refine Or.inl ⟨by rfl, ?_⟩
      intro w hSw
      (try dsimp only at hSw)
      go_simp
    simp only [Act.put, List.setIfInBounds_toArray, List.set_cons_zero, List.set_cons_succ]
    refine take_at (i := 9) (d := some 34) (v := .bool true) (by kernel_rfl) (by kernel_rfl) (by kernel_rfl) (by kernel_rfl) (fun _ _ _ h => h) ?_ hS ?_
    · intro o ho
      simp only [List.getElem?_toArray, List.getElem?_cons_succ, List.getElem?_cons_zero, Option.some.injEq] at ho
      subst ho
      refine Or.inl ⟨by rfl, ?_⟩
      intro w hSw
      (try dsimp only at hSw)
      go_simp
    simp only [Act.put, List.setIfInBounds_toArray, List.set_cons_zero, List.set_cons_succ]
    refine take_at (i := 10) (d := some 35) (v := .int .i64 s) (by kernel_rfl) (by kernel_rfl) (by kernel_rfl) (by kernel_rfl) (fun _ _ _ h => h) ?_ hS ?_
    · intro o ho
      simp only [List.getElem?_toArray, List.getElem?_cons_succ, List.getElem?_cons_zero, Option.some.injEq] at ho
      subst ho
      refine Or.inl ⟨by rfl, ?_⟩
      intro w hSw
      (try dsimp only at hSw)
      go_simp
    simp only [Act.put, List.setIfInBounds_toArray, List.set_cons_zero, List.set_cons_succ]
    refine take_at (i := 11) (d := some 36) (v := .int .i64 s) (by kernel_rfl) (by kernel_rfl) (by kernel_rfl) (by kernel_rfl) (fun _ _ _ h => h) ?_ hS ?_
    · intro o ho
      simp only [List.getElem?_toArray, List.getElem?_cons_succ, List.getElem?_cons_zero, Option.some.injEq] at ho
      subst ho
      refine Or.inl ⟨by rfl, ?_⟩
      intro w hSw
      (try dsimp only at hSw)
      go_simp
    simp only [Act.put, List.setIfInBounds_toArray, List.set_cons_zero, List.set_cons_succ]
    refine take_at (i := 12) (d := some 37) (v := .bool true) (by kernel_rfl) (by kernel_rfl) (by kernel_rfl) (by kernel_rfl) (fun _ _ _ h => h) ?_ hS ?_
    · intro o ho
      simp only [List.getElem?_toArray, List.getElem?_cons_succ, List.getElem?_cons_zero, Option.some.injEq] at ho
      subst ho
      refine Or.inl ⟨by rfl, ?_⟩
      intro w hSw
      (try dsimp only at hSw)
      go_simp
    simp only [Act.put, List.setIfInBounds_toArray, List.set_cons_zero, List.set_cons_succ]
    refine take_at (i := 13) (d := some 38) (v := .bool true) (by kernel_rfl) (by kernel_rfl) (by kernel_rfl) (by kernel_rfl) (fun _ _ _ h => h) ?_ hS ?_
    · intro o ho
      simp only [List.getElem?_toArray, List.getElem?_cons_succ, List.getElem?_cons_zero, Option.some.injEq] at ho
      subst ho
      refine Or.inl ⟨by rfl, ?_⟩
      intro w hSw
      (try dsimp only at hSw)
      go_simp
    simp only [Act.put, List.setIfInBounds_toArray, List.set_cons_zero, List.set_cons_succ]
    refine take_at (i := 14) (d := some 39) (v := .bool true) (by kernel_rfl) (by kernel_rfl) (by kernel_rfl) (by kernel_rfl) (fun _ _ _ h => h) ?_ hS ?_
    · intro o ho
      simp only [List.getElem?_toArray, List.getElem?_cons_succ, List.getElem?_cons_zero, Option.some.injEq] at ho
      subst ho
      refine Or.inl ⟨by rfl, ?_⟩
      intro w hSw
      (try dsimp only at hSw)
      go_simp
    simp only [Act.put, List.setIfInBounds_toArray, List.set_cons_zero, List.set_cons_succ]
    refine skip_at 15 (d := some 40) (by kernel_rfl) (by kernel_rfl) (by kernel_rfl) (by kernel_rfl) (fun _ _ _ h => h) (by rfl) hS ?_
    simp only [Act.put, List.setIfInBounds_toArray, List.set_cons_zero, List.set_cons_succ]
    refine skip_at 16 (d := some 41) (by kernel_rfl) (by kernel_rfl) (by kernel_rfl) (by kernel_rfl) (fun _ _ _ h => h) (by rfl) hS ?_
    simp only [Act.put, List.setIfInBounds_toArray, List.set_cons_zero, List.set_cons_succ]
    refine skip_at 17 (d := some 42) (by kernel_rfl) (by kernel_rfl) (by kernel_rfl) (by kernel_rfl) (fun _ _ _ h => h) (by rfl) hS ?_
    simp only [Act.put, List.setIfInBounds_toArray, List.set_cons_zero, List.set_cons_succ]
    refine skip_at 18 (d := some 43) (by kernel_rfl) (by kernel_rfl) (by kernel_rfl) (by kernel_rfl) (fun _ _ _ h => h) (by rfl) hS ?_
    simp only [Act.put, List.setIfInBounds_toArray, List.set_cons_zero, List.set_cons_succ]
    refine skip_at 19 (d := some 44) (by kernel_rfl) (by kernel_rfl) (by kernel_rfl) (by kernel_rfl) (fun _ _ _ h => h) (by rfl) hS ?_
    simp only [Act.put, List.setIfInBounds_toArray, List.set_cons_zero, List.set_cons_succ]
    refine skip_at 20 (d := some 45) (by kernel_rfl) (by kernel_rfl) (by kernel_rfl) (by kernel_rfl) (fun _ _ _ h => h) (by rfl) hS ?_
    simp only [Act.put, List.setIfInBounds_toArray, List.set_cons_zero, List.set_cons_succ]
    refine take_at (i := 21) (d := some 46) (v := .bool true) (by kernel_rfl) (by kernel_rfl) (by kernel_rfl) (by kernel_rfl) (fun _ _ _ h => h) ?_ hS ?_
    · intro o ho
      simp only [List.getElem?_toArray, List.getElem?_cons_succ, List.getElem?_cons_zero, Option.some.injEq] at ho
      subst ho
      refine Or.inl ⟨by rfl, ?_⟩
      intro w hSw
      (try dsimp only at hSw)
      go_simp
    simp only [Act.put, List.setIfInBounds_toArray, List.set_cons_zero, List.set_cons_succ]
    refine take_at (i := 22) (d := some 47) (v := .bool true) (by kernel_rfl) (by kernel_rfl) (by kernel_rfl) (by kernel_rfl) (fun _ _ _ h => h) ?_ hS ?_
    · intro o ho
      simp only [List.getElem?_toArray, List.getElem?_cons_succ, List.getElem?_cons_zero, Option.some.injEq] at ho
      subst ho
      refine Or.inl ⟨by rfl, ?_⟩
      intro w hSw
      (try dsimp only at hSw)
      go_simp
    simp only [Act.put, List.setIfInBounds_toArray, List.set_cons_zero, List.set_cons_succ]
    refine take_at (i := 23) (d := some 48) (v := .bool true) (by kernel_rfl) (by kernel_rfl) (by kernel_rfl) (by kernel_rfl) (fun _ _ _ h => h) ?_ hS ?_
    · intro o ho
      simp only [List.getElem?_toArray, List.getElem?_cons_succ, List.getElem?_cons_zero, Option.some.injEq] at ho
      subst ho
      refine Or.inl ⟨by rfl, ?_⟩
      intro w hSw
      (try dsimp only at hSw)
      go_simp
    simp only [Act.put, List.setIfInBounds_toArray, List.set_cons_zero, List.set_cons_succ]
    refine take_at (i := 24) (d := some 49) (v := .agg #[.float .f64 ax, .float .f64 ay]) (by kernel_rfl) (by kernel_rfl) (by kernel_rfl) (by kernel_rfl) (fun _ _ _ h => h) ?_ hS ?_
    · intro o ho
      simp only [List.getElem?_toArray, List.getElem?_cons_succ, List.getElem?_cons_zero, Option.some.injEq] at ho
      subst ho
      refine Or.inl ⟨by rfl, ?_⟩
      intro w hSw
      (try dsimp only at hSw)
      go_simp
    simp only [Act.put, List.setIfInBounds_toArray, List.set_cons_zero, List.set_cons_succ]
    refine take_at (i := 25) (d := some 50) (v := .agg #[.float .f64 bx, .float .f64 by']) (by kernel_rfl) (by kernel_rfl) (by kernel_rfl) (by kernel_rfl) (fun _ _ _ h => h) ?_ hS ?_
    · intro o ho
      simp only [List.getElem?_toArray, List.getElem?_cons_succ, List.getElem?_cons_zero, Option.some.injEq] at ho
      subst ho
      refine Or.inl ⟨by rfl, ?_⟩
      intro w hSw
      (try dsimp only at hSw)
      go_simp
    simp only [Act.put, List.setIfInBounds_toArray, List.set_cons_zero, List.set_cons_succ]
    refine take_at (i := 26) (d := some 51) (v := .agg #[.float .f64 cx, .float .f64 cy]) (by kernel_rfl) (by kernel_rfl) (by kernel_rfl) (by kernel_rfl) (fun _ _ _ h => h) ?_ hS ?_
    · intro o ho
      simp only [List.getElem?_toArray, List.getElem?_cons_succ, List.getElem?_cons_zero, Option.some.injEq] at ho
      subst ho
      refine Or.inl ⟨by rfl, ?_⟩
      intro w hSw
      (try dsimp only at hSw)
      go_simp
    simp only [Act.put, List.setIfInBounds_toArray, List.set_cons_zero, List.set_cons_succ]
    refine take_at (i := 27) (d := some 52) (v := .agg #[.float .f64 dx, .float .f64 dy]) (by kernel_rfl) (by kernel_rfl) (by kernel_rfl) (by kernel_rfl) (fun _ _ _ h => h) ?_ hS ?_
    · intro o ho
      simp only [List.getElem?_toArray, List.getElem?_cons_succ, List.getElem?_cons_zero, Option.some.injEq] at ho
      subst ho
      refine Or.inl ⟨by rfl, ?_⟩
      intro w hSw
      (try dsimp only at hSw)
      go_simp
    simp only [Act.put, List.setIfInBounds_toArray, List.set_cons_zero, List.set_cons_succ]
    refine take_at (i := 29) (d := some 54) (v := .agg #[.float .f64 ax, .float .f64 ay]) (by kernel_rfl) (by kernel_rfl) (by kernel_rfl) (by kernel_rfl) (fun _ _ _ h => h) ?_ hS ?_
    · intro o ho
      simp only [List.getElem?_toArray, List.getElem?_cons_succ, List.getElem?_cons_zero, Option.some.injEq] at ho
      subst ho
      refine Or.inl ⟨by rfl, ?_⟩
      intro w hSw
      (try dsimp only at hSw)
      go_simp
    simp only [Act.put, List.setIfInBounds_toArray, List.set_cons_zero, List.set_cons_succ]
    refine take_at (i := 30) (d := some 55) (v := .agg #[.float .f64 bx, .float .f64 by']) (by kernel_rfl) (by kernel_rfl) (by kernel_rfl) (by kernel_rfl) (fun _ _ _ h => h) ?_ hS ?_
    · intro o ho
      simp only [List.getElem?_toArray, List.getElem?_cons_succ, List.getElem?_cons_zero, Option.some.injEq] at ho
      subst ho
      refine Or.inl ⟨by rfl, ?_⟩
      intro w hSw
      (try dsimp only at hSw)
      go_simp
    simp only [Act.put, List.setIfInBounds_toArray, List.set_cons_zero, List.set_cons_succ]
    refine take_at (i := 31) (d := some 56) (v := .agg #[.float .f64 cx, .float .f64 cy]) (by kernel_rfl) (by kernel_rfl) (by kernel_rfl) (by kernel_rfl) (fun _ _ _ h => h) ?_ hS ?_
    · intro o ho
      simp only [List.getElem?_toArray, List.getElem?_cons_succ, List.getElem?_cons_zero, Option.some.injEq] at ho
      subst ho
      refine Or.inl ⟨by rfl, ?_⟩
      intro w hSw
      (try dsimp only at hSw)
      go_simp
    simp only [Act.put, List.setIfInBounds_toArray, List.set_cons_zero, List.set_cons_succ]
    refine take_at (i := 32) (d := some 57) (v := .agg #[.float .f64 dx, .float .f64 dy]) (by kernel_rfl) (by kernel_rfl) (by kernel_rfl) (by kernel_rfl) (fun _ _ _ h => h) ?_ hS ?_
    · intro o ho
      simp only [List.getElem?_toArray, List.getElem?_cons_succ, List.getElem?_cons_zero, Option.some.injEq] at ho
      subst ho
      refine Or.inl ⟨by rfl, ?_⟩
      intro w hSw
      (try dsimp only at hSw)
      go_simp
    simp only [Act.put, List.setIfInBounds_toArray, List.set_cons_zero, List.set_cons_succ]
    refine call_at 28 (by kernel_rfl) (by kernel_rfl) ?_
    intro o ho
    simp only [List.getElem?_toArray, List.getElem?_cons_succ, List.getElem?_cons_zero, Option.some.injEq] at ho
    subst ho
    intro KF hK
    go_simp
    refine (within_is ax ay bx by' cx cy dx dy _ t HW.out ht.out).mono ?_
    rintro e wx ⟨rfl, hbx⟩
    go_wp2_with fail
    refine hK.out _ _ ⟨box_cell hbx hS.1, box_cell hbx hS.2.1, box_cell hbx hS.2.2.1, box_cell hbx hS.2.2.2.1, box_cell hbx hS.2.2.2.2.1, box_cell hbx hS.2.2.2.2.2.1, box_cell hbx hS.2.2.2.2.2.2.1, box_cell hbx hS.2.2.2.2.2.2.2.1, below_step hS.2.2.2.2.2.2.2.2 hbx⟩ ?_
    clear hS hbx
    intro hS
    clear hK KF
    try simp only [Act.put, List.setIfInBounds_toArray, List.set_cons_zero, List.set_cons_succ]
    refine call_at 33 (by kernel_rfl) (by kernel_rfl) ?_
    intro o ho
    simp only [List.getElem?_toArray, List.getElem?_cons_succ, List.getElem?_cons_zero, Option.some.injEq] at ho
    subst ho
    intro KF hK
    go_simp
    refine (ref5Within ax ay bx by' cx cy dx dy _ t HW.out ht.out).mono ?_
    rintro e wx ⟨rfl, hbx⟩
    go_wp2_with fail
    refine hK.out _ _ ⟨box_cell hbx hS.1, box_cell hbx hS.2.1, box_cell hbx hS.2.2.1, box_cell hbx hS.2.2.2.1, box_cell hbx hS.2.2.2.2.1, box_cell hbx hS.2.2.2.2.2.1, box_cell hbx hS.2.2.2.2.2.2.1, box_cell hbx hS.2.2.2.2.2.2.2.1, below_step hS.2.2.2.2.2.2.2.2 hbx⟩ ?_
    clear hS hbx
    intro hS
    clear hK KF
    try simp only [Act.put, List.setIfInBounds_toArray, List.set_cons_zero, List.set_cons_succ]
    refine take_at (i := 34) (d := some 59) (v := .bool true) (by kernel_rfl) (by kernel_rfl) (by kernel_rfl) (by kernel_rfl) (fun _ _ _ h => h) ?_ hS ?_
    · intro o ho
      simp only [List.getElem?_toArray, List.getElem?_cons_succ, List.getElem?_cons_zero, Option.some.injEq] at ho
      subst ho
      refine Or.inl ⟨by rfl, ?_⟩
      intro w hSw
      (try dsimp only at hSw)
      go_simp
    simp only [Act.put, List.setIfInBounds_toArray, List.set_cons_zero, List.set_cons_succ]
    refine take_at (i := 35) (d := some 60) (v := .bool true) (by kernel_rfl) (by kernel_rfl) (by kernel_rfl) (by kernel_rfl) (fun _ _ _ h => h) ?_ hS ?_
    · intro o ho
      simp only [List.getElem?_toArray, List.getElem?_cons_succ, List.getElem?_cons_zero, Option.some.injEq] at ho
      subst ho
      refine Or.inl ⟨by rfl, ?_⟩
      intro w hSw
      (try dsimp only at hSw)
      go_simp
    simp only [Act.put, List.setIfInBounds_toArray, List.set_cons_zero, List.set_cons_succ]
    refine take_at (i := 36) (d := some 8) (v := .bool true) (by kernel_rfl) (by kernel_rfl) (by kernel_rfl) (by kernel_rfl) (fun _ _ _ h => h) ?_ hS ?_
    · intro o ho
      simp only [List.getElem?_toArray, List.getElem?_cons_succ, List.getElem?_cons_zero, Option.some.injEq] at ho
      subst ho
      refine Or.inl ⟨by rfl, ?_⟩
      intro w hSw
      (try dsimp only at hSw)
      go_simp
    simp only [Act.put, List.setIfInBounds_toArray, List.set_cons_zero, List.set_cons_succ]
    refine wpAnyH_done (by kernel_rfl) ?_ _
    have HE : Hid (Below w.heap.size w _) := hS.2.2.2.2.2.2.2.2
    clear hS
    go_wp2
    go_ret
    exact ⟨rfl, HE.out⟩

end Go.Proofs.Ytghchejehlljkaa

/- CircleKnows: the law's walk. -/
namespace Go.Proofs.Ytghchejehlljkaa
open Go.RowKit Go.Shelf
attribute [local go_sem] run_store_float

def fw (n : Int) : Nat := floatOfInt .f64 n
theorem fw_val {n : Int} (h1 : -9007199254740992 ≤ n) (h2 : n ≤ 9007199254740992) : Fin64 (fw n) ∧ fw n < 18446744073709551616 ∧ fval (fw n) = (n : Rat) := by
  have hq : ((n.natAbs : Nat) : Rat) * p2 0 < p2 1023 := by
    rw [p2_zero, Rat.mul_one]
    have a : ((n.natAbs : Nat) : Rat) ≤ ((9007199254740992 : Nat) : Rat) := Rat.natCast_le_natCast.2 (by omega)
    have b : ((9007199254740992 : Nat) : Rat) = p2 53 := by rw [show (53 : Int) = ((53 : Nat) : Int) from rfl, p2_nat]
    have c : p2 53 < p2 1023 := p2_lt (by omega)
    rw [b] at a
    grind
  obtain ⟨r, er, fr, lr, hr⟩ := write_rv (decide (n < 0)) n.natAbs 0 hq
  have e : fw n = r := er
  have hv : sgn1 (decide (n < 0)) * (((n.natAbs : Nat) : Rat) * p2 0) = (n : Rat) := by
    rw [p2_zero, Rat.mul_one]
    unfold sgn1
    by_cases h : n < 0
    · rw [decide_eq_true h, if_pos rfl]
      have : ((n.natAbs : Nat) : Rat) = ((-n : Int) : Rat) := by
        rw [show ((n.natAbs : Nat) : Rat) = ((n.natAbs : Int) : Rat) from rfl, show (n.natAbs : Int) = -n by omega]
      rw [this, Rat.intCast_neg]; grind
    · rw [decide_eq_false h, if_neg (by decide), Rat.one_mul]
      rw [show ((n.natAbs : Nat) : Rat) = ((n.natAbs : Int) : Rat) from rfl, show (n.natAbs : Int) = n by omega]
  rw [hv] at hr
  rw [e]
  exact ⟨fr, lr, hr.rn.int n rfl h1 h2⟩
theorem tmod_small (x : Int) : -1025 < x.tmod 1025 ∧ x.tmod 1025 < 1025 := by
  have a := Int.tmod_lt_of_pos x (show (0 : Int) < 1025 by omega)
  have b := Int.tmod_lt_of_pos (-x) (show (0 : Int) < 1025 by omega)
  rw [Int.neg_tmod] at b
  omega
theorem fw_sm {n : Int} (h1 : -1025 < n) (h2 : n < 1025) : Sm (fw n) ∧ Crd (fw n) ∧ fw n < 18446744073709551616 ∧ fval (fw n) = (n : Rat) := by
  obtain ⟨f, l, v⟩ := fw_val (n := n) (by omega) (by omega)
  refine ⟨⟨n, v, by omega, by omega⟩, ⟨?_, ?_⟩, l, v⟩
  · rw [crd_top f, v]
    have a := ab_int (n := n) (k := 1024) (by omega) (by omega)
    have b : ((1024 : Nat) : Rat) ≤ U 1174 := by
      have h := U_add 1074 10
      rw [show U 1074 = 1 from by unfold U; exact p2_zero, Rat.mul_one] at h
      have h2 := U_mono (show 1084 ≤ 1174 by omega)
      rw [show (1084 : Nat) = 1074 + 10 from rfl, h] at h2
      exact h2
    grind
  · rw [v]
    refine ⟨n * ((2 ^ 100 : Nat) : Int), ?_⟩
    have h := U_add 974 100
    rw [show 974 + 100 = 1074 from rfl, show U 1074 = 1 from by unfold U; exact p2_zero] at h
    rw [Rat.intCast_mul, show (((2 ^ 100 : Nat) : Int) : Rat) = ((2 ^ 100 : Nat) : Rat) from rfl, Rat.mul_assoc, ← h, Rat.mul_one]

set_option maxRecDepth 100000 in
theorem point_any (x y : Int) (w : World) : Calls Try.prog 18 #[.int .i64 x, .int .i64 y] w fun e w' => e = .returned (pv (fw (x.tmod 1025)) (fw (y.tmod 1025))) ∧ Below w.heap.size w w' := by
  go_enter Try.func18, Try.ntmps18
  go_wp2
  refine bodyPost_ret (v := pv (fw (x.tmod 1025)) (fw (y.tmod 1025))) (by simp [results, Try.results18, go_sem, fw]) rfl ?_
  exact ⟨rfl, (Below.refl _ _).alloc (Nat.le_refl _) _⟩
theorem point_is (x y : Int) (w : World) {a b : Nat} (ha : fw (x.tmod 1025) = a) (hb : fw (y.tmod 1025) = b) : Calls Try.prog 18 #[.int .i64 x, .int .i64 y] w fun e w' => e = .returned (pv a b) ∧ Below w.heap.size w w' := by
  rw [← ha, ← hb]
  exact point_any x y w
theorem ints8 {W : World} {b t : Nat} {u0 u1 u2 u3 u4 u5 u6 u7 : Value} (h : CB W b #[u0, u1, u2, u3, u4, u5, u6, u7] t) : W.cell? ⟨b, 0, none⟩ = some u0 ∧ W.cell? ⟨b, 1, none⟩ = some u1 ∧ W.cell? ⟨b, 2, none⟩ = some u2 ∧ W.cell? ⟨b, 3, none⟩ = some u3 ∧ W.cell? ⟨b, 4, none⟩ = some u4 ∧ W.cell? ⟨b, 5, none⟩ = some u5 ∧ W.cell? ⟨b, 6, none⟩ = some u6 ∧ W.cell? ⟨b, 7, none⟩ = some u7 := ⟨h.cell 0 (by simp), h.cell 1 (by simp), h.cell 2 (by simp), h.cell 3 (by simp), h.cell 4 (by simp), h.cell 5 (by simp), h.cell 6 (by simp), h.cell 7 (by simp)⟩
theorem cells2 {W : World} {b t : Nat} {u0 u1 : Value} (h : CB W b #[u0, u1] t) : W.cell? ⟨b, 0, none⟩ = some u0 ∧ W.cell? ⟨b, 1, none⟩ = some u1 := ⟨h.cell 0 (by simp), h.cell 1 (by simp)⟩
theorem FW (n : Int) : Sm (fw (n.tmod 1025)) ∧ Crd (fw (n.tmod 1025)) ∧ fw (n.tmod 1025) < 18446744073709551616 := by
  have h := fw_sm (tmod_small n).1 (tmod_small n).2
  exact ⟨h.1, h.2.1, h.2.2.1⟩
theorem FW' {n : Int} {a : Nat} (h : fw (n.tmod 1025) = a) : Sm a ∧ Crd a ∧ a < 18446744073709551616 := h ▸ FW n

set_option maxRecDepth 100000 in
set_option maxHeartbeats 8000000 in
theorem cknows_law (n0 n1 n2 n3 n4 n5 n6 n7 : Int) (w : World) :
    Calls Try.prog 5 #[.agg #[.int .i64 n0, .int .i64 n1, .int .i64 n2, .int .i64 n3, .int .i64 n4, .int .i64 n5, .int .i64 n6, .int .i64 n7]] w fun e w' => e = .returned (.bool true) ∧ Below w.heap.size w w' := by
  obtain ⟨ax, E0⟩ : ∃ a, Hid (fw (n0.tmod 1025) = a) := ⟨_, rfl⟩
  obtain ⟨ay, E1⟩ : ∃ a, Hid (fw (n1.tmod 1025) = a) := ⟨_, rfl⟩
  obtain ⟨bx, E2⟩ : ∃ a, Hid (fw (n2.tmod 1025) = a) := ⟨_, rfl⟩
  obtain ⟨by', E3⟩ : ∃ a, Hid (fw (n3.tmod 1025) = a) := ⟨_, rfl⟩
  obtain ⟨cx, E4⟩ : ∃ a, Hid (fw (n4.tmod 1025) = a) := ⟨_, rfl⟩
  obtain ⟨cy, E5⟩ : ∃ a, Hid (fw (n5.tmod 1025) = a) := ⟨_, rfl⟩
  obtain ⟨dx, E6⟩ : ∃ a, Hid (fw (n6.tmod 1025) = a) := ⟨_, rfl⟩
  obtain ⟨dy, E7⟩ : ∃ a, Hid (fw (n7.tmod 1025) = a) := ⟨_, rfl⟩
  have F0 := FW' E0.out
  have F1 := FW' E1.out
  have F2 := FW' E2.out
  have F3 := FW' E3.out
  have F4 := FW' E4.out
  have F5 := FW' E5.out
  have F6 := FW' E6.out
  have F7 := FW' E7.out
  have HW : Hid (W8 ax ay bx by' cx cy dx dy) := ⟨⟨⟨F0.2.2, F1.2.2⟩, ⟨F2.2.2, F3.2.2⟩, F4.2.2, F5.2.2⟩, F6.2.2, F7.2.2⟩
  have HP : Hid (P4 ax ay bx by' cx cy dx dy) := ⟨⟨⟨F0.2.1, F1.2.1⟩, ⟨F2.2.1, F3.2.1⟩, F4.2.1, F5.2.1⟩, F6.2.1, F7.2.1⟩
  have HSM : Hid (Sm8 ax ay bx by' cx cy dx dy) := ⟨⟨F0.1, F1.1⟩, ⟨F2.1, F3.1⟩, ⟨F4.1, F5.1⟩, F6.1, F7.1⟩
  clear F0 F1 F2 F3 F4 F5 F6 F7
  obtain ⟨z, hz⟩ : ∃ z, Hid (sg4 ax ay bx by' cx cy dx dy = z) := ⟨_, rfl⟩
  obtain ⟨W0, hW0⟩ : ∃ W0, W0 = w.alloc (.cells #[.int .i64 n0, .int .i64 n1, .int .i64 n2, .int .i64 n3, .int .i64 n4, .int .i64 n5, .int .i64 n6, .int .i64 n7] 34) := ⟨_, rfl⟩
  have hN0 := CB.new w #[.int .i64 n0, .int .i64 n1, .int .i64 n2, .int .i64 n3, .int .i64 n4, .int .i64 n5, .int .i64 n6, .int .i64 n7] 34
  have hb0 : Below w.heap.size w W0 := by rw [hW0]; exact (Below.refl _ w).alloc (Nat.le_refl _) _
  rw [← hW0] at hN0
  go_enter Try.func5, Try.ntmps5
  obtain ⟨i0, i1, i2, i3, i4, i5, i6, i7⟩ := ints8 hN0
  rw [hW0] at i0 i1 i2 i3 i4 i5 i6 i7
  go_wp2_with fail
  rw [← hW0]
  refine (point_is n0 n1 _ E0.out E1.out).mono ?_
  rintro e V0 ⟨rfl, hb⟩
  have hN0' := hN0.later hb
  have hB0' : Below w.heap.size w V0 := below_step hb0 hb
  clear hb i0 i1 i2 i3 i4 i5 i6 i7
  have hA : Below V0.heap.size V0 (V0.alloc (.cells #[.float .f64 ax, .float .f64 ay] 24)) := (Below.refl _ _).alloc (Nat.le_refl _) _
  have hN1 := hN0'.later hA
  have hP0_0 := CB.new V0 #[.float .f64 ax, .float .f64 ay] 24
  have hb1 : Below w.heap.size w _ := below_step hB0' hA
  obtain ⟨g0, hg0⟩ : ∃ g, V0.heap.size = g := ⟨_, rfl⟩
  rw [hg0] at hP0_0
  clear hA hN0' hB0'
  go_upto_region 2 with fail
  try rw [hg0]
  generalize V0.alloc (.cells #[.float .f64 ax, .float .f64 ay] 24) = W1 at *
  clear hg0
  obtain ⟨i0, i1, i2, i3, i4, i5, i6, i7⟩ := ints8 hN1
  go_wp2_with fail
  refine (point_is n2 n3 _ E2.out E3.out).mono ?_
  rintro e V1 ⟨rfl, hb⟩
  have hN1' := hN1.later hb
  have hP0_1 := hP0_0.later hb
  have hB1' : Below w.heap.size w V1 := below_step hb1 hb
  clear hb i0 i1 i2 i3 i4 i5 i6 i7
  have hA : Below V1.heap.size V1 (V1.alloc (.cells #[.float .f64 bx, .float .f64 by'] 24)) := (Below.refl _ _).alloc (Nat.le_refl _) _
  have hN2 := hN1'.later hA
  have hP1_1 := CB.new V1 #[.float .f64 bx, .float .f64 by'] 24
  have hP0_1 := hP0_1.later hA
  have hb2 : Below w.heap.size w _ := below_step hB1' hA
  obtain ⟨g1, hg1⟩ : ∃ g, V1.heap.size = g := ⟨_, rfl⟩
  rw [hg1] at hP1_1
  clear hA hN1' hB1'
  go_upto_region 3 with fail
  try rw [hg1]
  generalize V1.alloc (.cells #[.float .f64 bx, .float .f64 by'] 24) = W2 at *
  clear hg1
  obtain ⟨i0, i1, i2, i3, i4, i5, i6, i7⟩ := ints8 hN2
  go_wp2_with fail
  refine (point_is n4 n5 _ E4.out E5.out).mono ?_
  rintro e V2 ⟨rfl, hb⟩
  have hN2' := hN2.later hb
  have hP0_2 := hP0_1.later hb
  have hP1_2 := hP1_1.later hb
  have hB2' : Below w.heap.size w V2 := below_step hb2 hb
  clear hb i0 i1 i2 i3 i4 i5 i6 i7
  have hA : Below V2.heap.size V2 (V2.alloc (.cells #[.float .f64 cx, .float .f64 cy] 24)) := (Below.refl _ _).alloc (Nat.le_refl _) _
  have hN3 := hN2'.later hA
  have hP2_2 := CB.new V2 #[.float .f64 cx, .float .f64 cy] 24
  have hP0_2 := hP0_2.later hA
  have hP1_2 := hP1_2.later hA
  have hb3 : Below w.heap.size w _ := below_step hB2' hA
  obtain ⟨g2, hg2⟩ : ∃ g, V2.heap.size = g := ⟨_, rfl⟩
  rw [hg2] at hP2_2
  clear hA hN2' hB2'
  go_upto_region 4 with fail
  try rw [hg2]
  generalize V2.alloc (.cells #[.float .f64 cx, .float .f64 cy] 24) = W3 at *
  clear hg2
  obtain ⟨i0, i1, i2, i3, i4, i5, i6, i7⟩ := ints8 hN3
  go_wp2_with fail
  refine (point_is n6 n7 _ E6.out E7.out).mono ?_
  rintro e V3 ⟨rfl, hb⟩
  have hN3' := hN3.later hb
  have hP0_3 := hP0_2.later hb
  have hP1_3 := hP1_2.later hb
  have hP2_3 := hP2_2.later hb
  have hB3' : Below w.heap.size w V3 := below_step hb3 hb
  clear hb i0 i1 i2 i3 i4 i5 i6 i7
  have hA : Below V3.heap.size V3 (V3.alloc (.cells #[.float .f64 dx, .float .f64 dy] 24)) := (Below.refl _ _).alloc (Nat.le_refl _) _
  have hN4 := hN3'.later hA
  have hP3_3 := CB.new V3 #[.float .f64 dx, .float .f64 dy] 24
  have hP0_3 := hP0_3.later hA
  have hP1_3 := hP1_3.later hA
  have hP2_3 := hP2_3.later hA
  have hb4 : Below w.heap.size w _ := below_step hB3' hA
  obtain ⟨g3, hg3⟩ : ∃ g, V3.heap.size = g := ⟨_, rfl⟩
  rw [hg3] at hP3_3
  clear hA hN3' hB3'
  go_upto_region 5 with fail
  try rw [hg3]
  generalize V3.alloc (.cells #[.float .f64 dx, .float .f64 dy] 24) = W4 at *
  clear hg3
  have hQ0 := hP0_3
  have hQ1 := hP1_3
  have hQ2 := hP2_3
  have hQ3 := hP3_3
  have HB : Hid (Below w.heap.size w W4) := hb4
  obtain ⟨y0, y0'⟩ := cells2 hQ0
  obtain ⟨y1, y1'⟩ := cells2 hQ1
  obtain ⟨y2, y2'⟩ := cells2 hQ2
  obtain ⟨y3, y3'⟩ := cells2 hQ3
  clear hN4 hb4
  go_wp2_with fail
  refine (ref5sign_is ax ay bx by' cx cy dx dy _ z HW.out hz.out).mono ?_
  rintro e V5 ⟨rfl, hb⟩
  have HB5 : Hid (Below w.heap.size w V5) := below_step HB.out hb
  have hQ0 := hQ0.later hb
  have hQ1 := hQ1.later hb
  have hQ2 := hQ2.later hb
  have hQ3 := hQ3.later hb
  clear hb y0 y0' y1 y1' y2 y2' y3 y3'
  obtain ⟨y0, y0'⟩ := cells2 hQ0
  obtain ⟨y1, y1'⟩ := cells2 hQ1
  obtain ⟨y2, y2'⟩ := cells2 hQ2
  obtain ⟨y3, y3'⟩ := cells2 hQ3
  go_wp2_with fail
  refine (cfast_any ax ay bx by' cx cy dx dy _ HW.out).mono ?_
  rintro e V6 ⟨⟨s, ok, rfl, hf⟩, hb⟩
  have HB6 : Hid (Below w.heap.size w V6) := below_step HB5.out hb
  obtain rfl : ok = true := hf.2.2 HP.out HSM.out
  obtain rfl : s = z := by rw [(hf.1 rfl).2, ← hz.out, sg4_yes HP.out]
  clear hb hf y0 y0' y1 y1' y2 y2' y3 y3'
  by_cases h0 : s = 0
  · subst h0
    go_wp2
    go_ret
    exact ⟨rfl, HB6.out⟩
  · have hzb : (s == 0) = false := by rw [beq_eq_false_iff_ne]; exact h0
    have hzn : (s != 0) = true := by rw [bne, hzb]; rfl
    clear h0
    go_wp2
    go_ret
    exact ⟨rfl, HB6.out⟩

end Go.Proofs.Ytghchejehlljkaa
