import Derived.Test.YtgfloegaoofbbaaDoorEl1a
/- reads11_law: part El1c of a long walk. (capt.py) -/
/- The law ElefileReads. -/
namespace Go.Proofs.YtgfloegaoofbbaaDoor
set_option maxRecDepth 100000
open Go.RowKit Go.Shelf Go.Lib
attribute [local go_sem] run_store_float
set_option maxHeartbeats 32000000 in
theorem el1c_t : el1a_c.P2 := by
  intro p
  unhygienic intros
  obtain ⟨mz, hmz⟩ : ∃ q, m + 1 = q := ⟨_, rfl⟩
  rw [hmz] at HQz
  try rw [hmz]
  have hmz17 : mz ≤ 17 := by omega
  clear hmz
  clear hS
  go_wp2_with fail
  refine wp_region_held_drew (S := (fun W => ∃ vs', vs'.length = n1 ∧ Spo w1 W B3 g 17 c3 (f : Nat) (c : Nat) (k : Nat) vs')) (by kernel_rfl) ⟨vz, HVz.out, HSz.out.later (Below.drew (Below.refl _ _))⟩ (fun hS => ?_)
  refine take_at (i := 0) (d := some 105) (v := .pointer (some ⟨B3, 3, none⟩)) (by kernel_rfl) (by kernel_rfl) (by kernel_rfl) (by kernel_rfl) (fun _ _ _ h => h) ?_ hS ?_
  · intro o ho
    replace ho := Option.some.inj (Eq.trans (Eq.symm ho) rfl)
    subst ho
    refine Or.inl ⟨by rfl, ?_⟩
    intro w hSw
    (try dsimp only at hSw)
    go_simp
  simp only [Act.put, List.setIfInBounds_toArray, List.set_cons_zero, List.set_cons_succ]
  refine take_at (i := 1) (d := some 106) (v := .slice (some ⟨g, 0, none⟩) n1 c3) (by kernel_rfl) (by kernel_rfl) (by kernel_rfl) (by kernel_rfl) (fun _ _ _ h => h) ?_ hS ?_
  · intro o ho
    replace ho := Option.some.inj (Eq.trans (Eq.symm ho) rfl)
    subst ho
    refine Or.inl ⟨by rfl, ?_⟩
    intro w hSw
    (try dsimp only at hSw)
    obtain ⟨vs', hl', hs'⟩ := hSw
    obtain ⟨_, _, _, y3⟩ := hs'.box.cells4E
    rw [hl'] at y3
    go_simp
  simp only [Act.put, List.setIfInBounds_toArray, List.set_cons_zero, List.set_cons_succ]
  refine take_at (i := 2) (d := some 107) (v := .int .i64 (j : Nat)) (by kernel_rfl) (by kernel_rfl) (by kernel_rfl) (by kernel_rfl) (fun _ _ _ h => h) ?_ hS ?_
  · intro o ho
    replace ho := Option.some.inj (Eq.trans (Eq.symm ho) rfl)
    subst ho
    refine Or.inl ⟨by rfl, ?_⟩
    intro w hSw
    (try dsimp only at hSw)
    go_simp
  simp only [Act.put, List.setIfInBounds_toArray, List.set_cons_zero, List.set_cons_succ]
  refine take_at (i := 3) (d := some 108) (v := .pointer (some ⟨B3, 3, none⟩)) (by kernel_rfl) (by kernel_rfl) (by kernel_rfl) (by kernel_rfl) (fun _ _ _ h => h) ?_ hS ?_
  · intro o ho
    replace ho := Option.some.inj (Eq.trans (Eq.symm ho) rfl)
    subst ho
    refine Or.inl ⟨by rfl, ?_⟩
    intro w hSw
    (try dsimp only at hSw)
    go_simp
  simp only [Act.put, List.setIfInBounds_toArray, List.set_cons_zero, List.set_cons_succ]
  refine take_at (i := 4) (d := some 109) (v := .slice (some ⟨g, 0, none⟩) n1 c3) (by kernel_rfl) (by kernel_rfl) (by kernel_rfl) (by kernel_rfl) (fun _ _ _ h => h) ?_ hS ?_
  · intro o ho
    replace ho := Option.some.inj (Eq.trans (Eq.symm ho) rfl)
    subst ho
    refine Or.inl ⟨by rfl, ?_⟩
    intro w hSw
    (try dsimp only at hSw)
    obtain ⟨vs', hl', hs'⟩ := hSw
    obtain ⟨_, _, _, y3⟩ := hs'.box.cells4E
    rw [hl'] at y3
    go_simp
  simp only [Act.put, List.setIfInBounds_toArray, List.set_cons_zero, List.set_cons_succ]
  refine take_at (i := 5) (d := some 110) (v := .int .i64 (j : Nat)) (by kernel_rfl) (by kernel_rfl) (by kernel_rfl) (by kernel_rfl) (fun _ _ _ h => h) ?_ hS ?_
  · intro o ho
    replace ho := Option.some.inj (Eq.trans (Eq.symm ho) rfl)
    subst ho
    refine Or.inl ⟨by rfl, ?_⟩
    intro w hSw
    (try dsimp only at hSw)
    go_simp
  simp only [Act.put, List.setIfInBounds_toArray, List.set_cons_zero, List.set_cons_succ]
  refine take_at (i := 6) (d := some 111) (v := .pointer (some ⟨g, j * 2, none⟩)) (by kernel_rfl) (by kernel_rfl) (by kernel_rfl) (by kernel_rfl) (fun _ _ _ h => h) ?_ hS ?_
  · intro o ho
    replace ho := Option.some.inj (Eq.trans (Eq.symm ho) rfl)
    subst ho
    refine Or.inl ⟨by rfl, ?_⟩
    intro w hSw
    (try dsimp only at hSw)
    go_simp
  simp only [Act.put, List.setIfInBounds_toArray, List.set_cons_zero, List.set_cons_succ]
  refine take_at (i := 7) (d := some 112) (v := .pointer (some ⟨g, j * 2 + 1, none⟩)) (by kernel_rfl) (by kernel_rfl) (by kernel_rfl) (by kernel_rfl) (fun _ _ _ h => h) ?_ hS ?_
  · intro o ho
    replace ho := Option.some.inj (Eq.trans (Eq.symm ho) rfl)
    subst ho
    refine Or.inl ⟨by rfl, ?_⟩
    intro w hSw
    (try dsimp only at hSw)
    go_simp
  simp only [Act.put, List.setIfInBounds_toArray, List.set_cons_zero, List.set_cons_succ]
  have HX0' : Hid (Spo w1 Y.drew B3 g 17 c3 (f : Nat) (c : Nat) (k : Nat) vz) := Lib.hid (HSz.out.later (Below.drew (Below.refl _ _)))
  obtain ⟨X0, hX0⟩ : ∃ X, Y.drew = X := ⟨_, rfl⟩
  try rw [hX0]
  rw [hX0] at hS
  have HX0 : Hid (Spo w1 X0 B3 g 17 c3 (f : Nat) (c : Nat) (k : Nat) vz) := by rw [← hX0]; exact HX0'
  clear HX0' hX0
  refine two_at 8 9 (by kernel_rfl) (by kernel_rfl) (by kernel_rfl) ?_ ?_
  · intro o ho
    simp only [List.getElem?_toArray, List.getElem?_cons_succ, List.getElem?_cons_zero, Option.some.injEq] at ho
    subst ho
    intro KF hK
    rw [if_pos (by rfl)]
    refine oof_ldA rfl rfl (HX0.out.ga HQz.out).1.2 ?_
    refine hK.out _ _ hS ?_
    clear hS
    intro hS
    clear hK KF
    try simp only [Act.put, List.setIfInBounds_toArray]
    refine call_at 9 (by kernel_rfl) (by kernel_rfl) ?_
    intro o ho
    simp only [List.getElem?_toArray, List.getElem?_cons_succ, List.getElem?_cons_zero, Option.some.injEq] at ho
    subst ho
    intro KF hK
    rw [if_pos (by rfl)]
    refine ok_cF rfl ?_
    obtain ⟨X1, hX1⟩ : ∃ X, X0.alloc (.cells #[.float .f64 4607182418800017408] 39) = X := ⟨_, rfl⟩
    try rw [hX1]
    have HX1 : Hid (Spo w1 X1 B3 g 17 c3 (f : Nat) (c : Nat) (k : Nat) vz ∧ X1.cell? ⟨X0.heap.size, 0, none⟩ = some (.float .f64 4607182418800017408)) := Lib.hid ⟨by rw [← hX1]; exact HX0.out.later ((Below.refl _ _).alloc (Nat.le_refl _) _), by rw [← hX1]; exact (CB.new X0 _ _).cell 0 (by simp)⟩
    clear hX1
    refine hK.out _ _ ⟨vz, HVz.out, HX1.out.1⟩ ?_
    clear hS
    intro hS
    clear hK KF
    try simp only [Act.put]
    refine call_at 10 (by kernel_rfl) (by kernel_rfl) ?_
    intro o ho
    simp only [List.getElem?_toArray, List.getElem?_cons_succ, List.getElem?_cons_zero, Option.some.injEq] at ho
    subst ho
    intro KF hK
    rw [if_pos (by rfl)]
    refine wp_append_wt _ _ _ rfl 39 j0 (.float .f64 0) 8 Tryd.underlying36 hj0 jz0 jz1 jz2 rfl (.slice aa l ac) l w1.heap.size rfl (HX1.out.1.sub _ (List.mem_of_getElem? HQz.out)).2.1 HX1.out.1.bel.size X0.heap.size 1 (.float .f64 4607182418800017408) rfl HX1.out.2 rfl (by unfold maxLen; omega) (by omega) ?_
    intro v9 X2 hw9 hT9
    have HW9 := Lib.hid (And.intro hw9 (HX1.out.1.tch hT9 (by decide) (by decide)))
    clear hw9 hT9
    refine hK.out _ _ ⟨vz, HVz.out, HW9.out.2⟩ ?_
    clear hS
    intro hS
    clear hK KF
    try simp only [Act.put]
    refine take_at (i := 11) (d := some 116) (v := .pointer (some ⟨g, j * 2, none⟩)) (by kernel_rfl) (by kernel_rfl) (by kernel_rfl) (by kernel_rfl) (fun _ _ _ h => h) ?_ hS ?_
    · intro o ho
      replace ho := Option.some.inj (Eq.trans (Eq.symm ho) rfl)
      subst ho
      refine Or.inl ⟨by rfl, ?_⟩
      intro w hSw
      (try dsimp only at hSw)
      go_simp
    simp only [Act.put]
    refine take_at (i := 12) (d := some 117) (v := .pointer (some ⟨g, j * 2 + 1, none⟩)) (by kernel_rfl) (by kernel_rfl) (by kernel_rfl) (by kernel_rfl) (fun _ _ _ h => h) ?_ hS ?_
    · intro o ho
      replace ho := Option.some.inj (Eq.trans (Eq.symm ho) rfl)
      subst ho
      refine Or.inl ⟨by rfl, ?_⟩
      intro w hSw
      (try dsimp only at hSw)
      go_simp
    simp only [Act.put]
    obtain ⟨vb, vd, hv9, _⟩ := HW9.out.1.at
    subst hv9
    have HG9 := Lib.hid (HW9.out.2.ga HQz.out)
    refine call_at 13 (by kernel_rfl) (by kernel_rfl) ?_
    intro o ho
    simp only [List.getElem?_toArray, List.getElem?_cons_succ, List.getElem?_cons_zero, Option.some.injEq] at ho
    subst ho
    intro KF hK
    rw [if_pos (by rfl)]
    refine ok_stFl rfl rfl rfl HG9.out.1.2 HG9.out.2.2 ?_
    have HS9 : Hid (Spo w1 (X2.setCell ⟨g, j * 2 + 1, none⟩ (.slice vb (l + 1) vd)) B3 g 17 c3 (f : Nat) (c : Nat) (k : Nat) (vz.set j (.slice va mz vc, mz, .slice vb (l + 1) vd, l + 1))) := Lib.hid (HW9.out.2.setA HQz.out HW9.out.1 (by omega))
    refine hK.out _ _ ⟨_, by rw [List.length_set]; exact HVz.out, HS9.out⟩ ?_
    clear hS
    intro hS
    clear hK KF
    try simp only [Act.put]
    refine wpAnyH_done (by kernel_rfl) ?_ _
    have HEnd : Hid ((vz.set j (.slice va mz vc, mz, .slice vb (l + 1) vd, l + 1)).length = n1 ∧ ∀ (i : Nat) (q : Tq), j + 1 ≤ i → (vz.set j (.slice va mz vc, mz, .slice vb (l + 1) vd, l + 1))[i]? = some q → q.2.1 ≤ 16 ∧ q.2.2.2 ≤ 16) := Lib.hid ⟨by rw [List.length_set]; exact HVz.out, fun i q hi hq => by rw [List.getElem?_set_ne (by omega)] at hq; exact HLz.out i q hi hq⟩
    go_wp2_with fail
    go_roundw
    case rel => exact ⟨j + 1, _, by go_num, by omega, HEnd.out.1, HS9.out, HEnd.out.2⟩
    case measure => simp [RowKit.intOf]; omega
  · intro o ho
    simp only [List.getElem?_toArray, List.getElem?_cons_succ, List.getElem?_cons_zero, Option.some.injEq] at ho
    subst ho
    intro KF hK
    rw [if_pos (by rfl)]
    refine ok_cF rfl ?_
    obtain ⟨X1, hX1⟩ : ∃ X, X0.alloc (.cells #[.float .f64 4607182418800017408] 39) = X := ⟨_, rfl⟩
    try rw [hX1]
    have HX1 : Hid (Spo w1 X1 B3 g 17 c3 (f : Nat) (c : Nat) (k : Nat) vz ∧ X1.cell? ⟨X0.heap.size, 0, none⟩ = some (.float .f64 4607182418800017408)) := Lib.hid ⟨by rw [← hX1]; exact HX0.out.later ((Below.refl _ _).alloc (Nat.le_refl _) _), by rw [← hX1]; exact (CB.new X0 _ _).cell 0 (by simp)⟩
    clear hX1
    refine hK.out _ _ ⟨vz, HVz.out, HX1.out.1⟩ ?_
    clear hS
    intro hS
    clear hK KF
    try simp only [Act.put, List.setIfInBounds_toArray]
    refine call_at 8 (by kernel_rfl) (by kernel_rfl) ?_
    intro o ho
    simp only [List.getElem?_toArray, List.getElem?_cons_succ, List.getElem?_cons_zero, Option.some.injEq] at ho
    subst ho
    intro KF hK
    rw [if_pos (by rfl)]
    refine oof_ldA rfl rfl (HX1.out.1.ga HQz.out).1.2 ?_
    refine hK.out _ _ ⟨vz, HVz.out, HX1.out.1⟩ ?_
    clear hS
    intro hS
    clear hK KF
    try simp only [Act.put]
    refine call_at 10 (by kernel_rfl) (by kernel_rfl) ?_
    intro o ho
    simp only [List.getElem?_toArray, List.getElem?_cons_succ, List.getElem?_cons_zero, Option.some.injEq] at ho
    subst ho
    intro KF hK
    rw [if_pos (by rfl)]
    refine wp_append_wt _ _ _ rfl 39 j0 (.float .f64 0) 8 Tryd.underlying36 hj0 jz0 jz1 jz2 rfl (.slice aa l ac) l w1.heap.size rfl (HX1.out.1.sub _ (List.mem_of_getElem? HQz.out)).2.1 HX1.out.1.bel.size X0.heap.size 1 (.float .f64 4607182418800017408) rfl HX1.out.2 rfl (by unfold maxLen; omega) (by omega) ?_
    intro v9 X2 hw9 hT9
    have HW9 := Lib.hid (And.intro hw9 (HX1.out.1.tch hT9 (by decide) (by decide)))
    clear hw9 hT9
    refine hK.out _ _ ⟨vz, HVz.out, HW9.out.2⟩ ?_
    clear hS
    intro hS
    clear hK KF
    try simp only [Act.put]
    refine take_at (i := 11) (d := some 116) (v := .pointer (some ⟨g, j * 2, none⟩)) (by kernel_rfl) (by kernel_rfl) (by kernel_rfl) (by kernel_rfl) (fun _ _ _ h => h) ?_ hS ?_
    · intro o ho
      replace ho := Option.some.inj (Eq.trans (Eq.symm ho) rfl)
      subst ho
      refine Or.inl ⟨by rfl, ?_⟩
      intro w hSw
      (try dsimp only at hSw)
      go_simp
    simp only [Act.put]
    refine take_at (i := 12) (d := some 117) (v := .pointer (some ⟨g, j * 2 + 1, none⟩)) (by kernel_rfl) (by kernel_rfl) (by kernel_rfl) (by kernel_rfl) (fun _ _ _ h => h) ?_ hS ?_
    · intro o ho
      replace ho := Option.some.inj (Eq.trans (Eq.symm ho) rfl)
      subst ho
      refine Or.inl ⟨by rfl, ?_⟩
      intro w hSw
      (try dsimp only at hSw)
      go_simp
    simp only [Act.put]
    obtain ⟨vb, vd, hv9, _⟩ := HW9.out.1.at
    subst hv9
    have HG9 := Lib.hid (HW9.out.2.ga HQz.out)
    refine call_at 13 (by kernel_rfl) (by kernel_rfl) ?_
    intro o ho
    simp only [List.getElem?_toArray, List.getElem?_cons_succ, List.getElem?_cons_zero, Option.some.injEq] at ho
    subst ho
    intro KF hK
    rw [if_pos (by rfl)]
    refine ok_stFl rfl rfl rfl HG9.out.1.2 HG9.out.2.2 ?_
    have HS9 : Hid (Spo w1 (X2.setCell ⟨g, j * 2 + 1, none⟩ (.slice vb (l + 1) vd)) B3 g 17 c3 (f : Nat) (c : Nat) (k : Nat) (vz.set j (.slice va mz vc, mz, .slice vb (l + 1) vd, l + 1))) := Lib.hid (HW9.out.2.setA HQz.out HW9.out.1 (by omega))
    refine hK.out _ _ ⟨_, by rw [List.length_set]; exact HVz.out, HS9.out⟩ ?_
    clear hS
    intro hS
    clear hK KF
    try simp only [Act.put]
    refine wpAnyH_done (by kernel_rfl) ?_ _
    have HEnd : Hid ((vz.set j (.slice va mz vc, mz, .slice vb (l + 1) vd, l + 1)).length = n1 ∧ ∀ (i : Nat) (q : Tq), j + 1 ≤ i → (vz.set j (.slice va mz vc, mz, .slice vb (l + 1) vd, l + 1))[i]? = some q → q.2.1 ≤ 16 ∧ q.2.2.2 ≤ 16) := Lib.hid ⟨by rw [List.length_set]; exact HVz.out, fun i q hi hq => by rw [List.getElem?_set_ne (by omega)] at hq; exact HLz.out i q hi hq⟩
    go_wp2_with fail
    go_roundw
    case rel => exact ⟨j + 1, _, by go_num, by omega, HEnd.out.1, HS9.out, HEnd.out.2⟩
    case measure => simp [RowKit.intOf]; omega
end Go.Proofs.YtgfloegaoofbbaaDoor
