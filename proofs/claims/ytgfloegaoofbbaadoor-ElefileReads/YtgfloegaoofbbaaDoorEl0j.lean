import Derived.Test.YtgfloegaoofbbaaDoorEl0i
/- refRead11_any: part El0j of a long walk. (capt.py) -/
/- The document's side of layer 11: Read. (gen_ekb.py) -/
namespace Go.Proofs.YtgfloegaoofbbaaDoor
set_option maxRecDepth 100000
open Go.RowKit Go.Shelf Go.Lib
attribute [local go_sem] run_store_str run_store_float
set_option maxHeartbeats 64000000 in
theorem el0j_t : el0i_c.P1 := by
  intro p
  unhygienic intros
  have hqc' : (q : Int) < ((cc + 1 : Nat) : Int) := by omega
  have hqc2 : (q : Int) < (cc : Int) + 1 := by omega
  obtain ⟨mv, hmv⟩ : ∃ mv, Hid (nt[m]? = some mv) := ⟨_, Lib.hid (List.getElem?_eq_getElem (by rw [HNt.out]; exact hqc))⟩
  have HInm : Hid (InR mv) := Lib.hid (HIr.out mv (List.mem_cons_of_mem _ (List.mem_of_getElem? hmv.out)))
  have HCm : Hid (∀ W, Below V5.heap.size V5 W → W.cell? ⟨gn, q, none⟩ = some (.int .i64 mv) ∧ W.cell? ⟨Bf, 0, none⟩ = some (.int .i64 (f' : Nat))) := Lib.hid (fun W h => ⟨by rw [show q = m + 1 by omega]; exact HC5.out W h m mv hmv.out, (HZ5.out.later h).fb.cell 0 (by simp)⟩)
  obtain ⟨c1', c2'⟩ := HCm.out wr.drew (Below.drew HRr.out.bel)
  have hfi : (f' : Int) ≤ 1 := by omega
  have hfi0 : (0 : Int) ≤ (f' : Int) := by omega
  by_cases g1 : mv < ((f' : Nat) : Int)
  · have e1 : decide (mv < ((f' : Nat) : Int)) = true := by simpa using g1
    have HBad : Hid (corE f' mv ≠ 0 ∧ corE f' mv = 11) := Lib.hid (by have := corE_no (f := f') (n := mv) (Or.inl g1); rw [this]; exact ⟨by decide, rfl⟩)
    as_aux_lemma =>
    obtain ⟨We, hWe⟩ : ∃ X, (wr).drew = X := ⟨_, rfl⟩
    have HR : Hid (CB We w.heap.size fe4 24 ∧ Below w.heap.size w We) := Lib.hid (by rw [← hWe]; exact ⟨(HR1.out _ (Below.drew HBw.out)).1, Below.drew (HR1.out wr HBw.out).2⟩)
    have l2 : We.cell? ⟨gL, oL + i * 2, none⟩ = some (.int .i64 (nq : Nat)) := by rw [← hWe]; exact (HKn.out _ HBw.out).1
    obtain ⟨k20, k21, k22, k23⟩ := HR.out.1.cells4E
    have f20 := HR.out.1.frozen 0
    have f21 := HR.out.1.frozen 1
    have f22 := HR.out.1.frozen 2
    have f23 := HR.out.1.frozen 3
    have HTV := Lib.hid (show reV p t = (fe0, nq, (11 : Int)) by rw [HRe.out]; exact fl_bad hQ.out (by omega) HGo.out (cor_bad HIe.out hnws.out hlen HMm.out.1 hf'.out hmv.out HCo.out HBad.out.2) (by decide))
    have hgn : gL ≠ w.heap.size := HgL.out.1
    have hgn2 : w.heap.size ≠ gL := HgL.out.2
    try (have c1w := c1'; rw [hWe] at c1w)
    try (have c2w := c2'; rw [hWe] at c2w)
    go_wp2_with fail
    go_region
    go_wp2_with fail
    go_region
    all_goals
      go_wp2
      refine bodyPost_ret (res_ref11 _ w.heap.size _ _ _ _ _ _ _ (set4E HR.out.1 _ _ _ _) rfl rfl rfl) rfl ?_
      first | exact R11.bad (set4_bel HR.out.2 _ _ _ _) HTV.out | exact R11.bad (Below.drew (set4_bel HR.out.2 _ _ _ _)) HTV.out
  have e1 : decide (mv < ((f' : Nat) : Int)) = false := by simpa using g1
  by_cases g2 : ((f' : Nat) : Int) + 1048576 - 1 < mv
  · have e2 : decide (((f' : Nat) : Int) + 1048576 - 1 < mv) = true := by simpa using g2
    have HBad : Hid (corE f' mv ≠ 0 ∧ corE f' mv = 11) := Lib.hid (by have := corE_no (f := f') (n := mv) (Or.inr (by omega)); rw [this]; exact ⟨by decide, rfl⟩)
    as_aux_lemma =>
    obtain ⟨We, hWe⟩ : ∃ X, (wr).drew = X := ⟨_, rfl⟩
    have HR : Hid (CB We w.heap.size fe4 24 ∧ Below w.heap.size w We) := Lib.hid (by rw [← hWe]; exact ⟨(HR1.out _ (Below.drew HBw.out)).1, Below.drew (HR1.out wr HBw.out).2⟩)
    have l2 : We.cell? ⟨gL, oL + i * 2, none⟩ = some (.int .i64 (nq : Nat)) := by rw [← hWe]; exact (HKn.out _ HBw.out).1
    obtain ⟨k20, k21, k22, k23⟩ := HR.out.1.cells4E
    have f20 := HR.out.1.frozen 0
    have f21 := HR.out.1.frozen 1
    have f22 := HR.out.1.frozen 2
    have f23 := HR.out.1.frozen 3
    have HTV := Lib.hid (show reV p t = (fe0, nq, (11 : Int)) by rw [HRe.out]; exact fl_bad hQ.out (by omega) HGo.out (cor_bad HIe.out hnws.out hlen HMm.out.1 hf'.out hmv.out HCo.out HBad.out.2) (by decide))
    have hgn : gL ≠ w.heap.size := HgL.out.1
    have hgn2 : w.heap.size ≠ gL := HgL.out.2
    try (have c1w := c1'; rw [hWe] at c1w)
    try (have c2w := c2'; rw [hWe] at c2w)
    go_wp2_with fail
    go_region
    go_wp2_with fail
    go_region
    all_goals
      go_wp2
      refine bodyPost_ret (res_ref11 _ w.heap.size _ _ _ _ _ _ _ (set4E HR.out.1 _ _ _ _) rfl rfl rfl) rfl ?_
      first | exact R11.bad (set4_bel HR.out.2 _ _ _ _) HTV.out | exact R11.bad (Below.drew (set4_bel HR.out.2 _ _ _ _)) HTV.out
  have e2 : decide (((f' : Nat) : Int) + 1048576 - 1 < mv) = false := by simpa using g2
  have HOk : Hid (corE f' mv = 0) := Lib.hid (corE_ok (by omega) (by omega))
  have hsub : IntKind.i64.wrap (mv - ((f' : Nat) : Int)) = mv - ((f' : Nat) : Int) := by rw [IntKind.wrap_i64]; have := HInm.out; unfold InR at this; omega
  obtain ⟨ts, hts⟩ : ∃ l, Hid ((nt.take m).map (· - ((f' : Nat) : Int)) = l) := ⟨_, Lib.hid rfl⟩
  rw [hts.out] at HRr
  have HTl : Hid (ts.length = m) := Lib.hid (by rw [← hts.out, List.length_map, List.length_take, HNt.out]; omega)
  have HNx : Hid ((nt.take (m + 1)).map (· - ((f' : Nat) : Int)) = ts ++ [mv - ((f' : Nat) : Int)] ∧ ∀ x ∈ nt.take (m + 1), corE f' x = 0) := Lib.hid (by
    obtain ⟨h1, h2⟩ := List.getElem?_eq_some_iff.1 hmv.out
    rw [List.take_succ_eq_append_getElem h1, h2, List.map_append, hts.out]
    refine ⟨rfl, fun x hx => ?_⟩
    rcases List.mem_append.1 hx with hx | hx
    · exact HCo.out x hx
    · rw [List.mem_singleton.1 hx]; exact HOk.out)
  obtain ⟨ta, tc, htv⟩ := own_sliceE HRr.out.ot
  rw [HTl.out] at htv
  subst htv
  go_wp2_with fail
  go_region
  go_wp2_with fail
  clear c1' c2' e1 e2 g1 g2
  refine wp_region_held_drew (S := (fun W => Below V5.heap.size V5 W)) (by kernel_rfl) (Below.drew (Below.drew HRr.out.bel)) (fun hS => ?_)
  refine take_at (i := 0) (d := some 252) (v := .pointer (some ⟨Br, 0, none⟩)) (by kernel_rfl) (by kernel_rfl) (by kernel_rfl) (by kernel_rfl) (fun _ _ _ h => h) ?_ hS ?_
  · intro o ho
    replace ho := Option.some.inj (Eq.trans (Eq.symm ho) rfl)
    subst ho
    refine Or.inl ⟨by rfl, ?_⟩
    intro w hSw
    (try dsimp only at hSw)
    go_simp
  simp only [Act.put, List.setIfInBounds_toArray, List.set_cons_zero, List.set_cons_succ]
  refine take_at (i := 2) (d := some 254) (v := .slice (some ⟨gn, 0, none⟩) (cc + 1) cn) (by kernel_rfl) (by kernel_rfl) (by kernel_rfl) (by kernel_rfl) (fun _ _ _ h => h) ?_ hS ?_
  · intro o ho
    replace ho := Option.some.inj (Eq.trans (Eq.symm ho) rfl)
    subst ho
    refine Or.inl ⟨by rfl, ?_⟩
    intro w hSw
    (try dsimp only at hSw)
    go_simp
  simp only [Act.put, List.setIfInBounds_toArray, List.set_cons_zero, List.set_cons_succ]
  refine take_at (i := 3) (d := some 255) (v := .int .i64 (q : Nat)) (by kernel_rfl) (by kernel_rfl) (by kernel_rfl) (by kernel_rfl) (fun _ _ _ h => h) ?_ hS ?_
  · intro o ho
    replace ho := Option.some.inj (Eq.trans (Eq.symm ho) rfl)
    subst ho
    refine Or.inl ⟨by rfl, ?_⟩
    intro w hSw
    (try dsimp only at hSw)
    go_simp
  simp only [Act.put, List.setIfInBounds_toArray, List.set_cons_zero, List.set_cons_succ]
  refine take_at (i := 4) (d := some 256) (v := .pointer (some ⟨gn, q, none⟩)) (by kernel_rfl) (by kernel_rfl) (by kernel_rfl) (by kernel_rfl) (fun _ _ _ h => h) ?_ hS ?_
  · intro o ho
    replace ho := Option.some.inj (Eq.trans (Eq.symm ho) rfl)
    subst ho
    refine Or.inl ⟨by rfl, ?_⟩
    intro w hSw
    (try dsimp only at hSw)
    go_simp
  simp only [Act.put, List.setIfInBounds_toArray, List.set_cons_zero, List.set_cons_succ]
  refine take_at (i := 5) (d := some 257) (v := .int .i64 mv) (by kernel_rfl) (by kernel_rfl) (by kernel_rfl) (by kernel_rfl) (fun _ _ _ h => h) ?_ hS ?_
  · intro o ho
    replace ho := Option.some.inj (Eq.trans (Eq.symm ho) rfl)
    subst ho
    refine Or.inl ⟨by rfl, ?_⟩
    intro w hSw
    (try dsimp only at hSw)
    have y1 := (HCm.out _ hSw).1
    go_simp
  simp only [Act.put, List.setIfInBounds_toArray, List.set_cons_zero, List.set_cons_succ]
  refine take_at (i := 6) (d := some 258) (v := .pointer (some ⟨Bf, 0, none⟩)) (by kernel_rfl) (by kernel_rfl) (by kernel_rfl) (by kernel_rfl) (fun _ _ _ h => h) ?_ hS ?_
  · intro o ho
    replace ho := Option.some.inj (Eq.trans (Eq.symm ho) rfl)
    subst ho
    refine Or.inl ⟨by rfl, ?_⟩
    intro w hSw
    (try dsimp only at hSw)
    go_simp
  simp only [Act.put, List.setIfInBounds_toArray, List.set_cons_zero, List.set_cons_succ]
  refine take_at (i := 7) (d := some 259) (v := .int .i64 (f' : Nat)) (by kernel_rfl) (by kernel_rfl) (by kernel_rfl) (by kernel_rfl) (fun _ _ _ h => h) ?_ hS ?_
  · intro o ho
    replace ho := Option.some.inj (Eq.trans (Eq.symm ho) rfl)
    subst ho
    refine Or.inl ⟨by rfl, ?_⟩
    intro w hSw
    (try dsimp only at hSw)
    have y1 := (HCm.out _ hSw).2
    go_simp
  simp only [Act.put, List.setIfInBounds_toArray, List.set_cons_zero, List.set_cons_succ]
  refine take_at (i := 8) (d := some 260) (v := .int .i64 (mv - ((f' : Nat) : Int))) (by kernel_rfl) (by kernel_rfl) (by kernel_rfl) (by kernel_rfl) (fun _ _ _ h => h) ?_ hS ?_
  · intro o ho
    replace ho := Option.some.inj (Eq.trans (Eq.symm ho) rfl)
    subst ho
    refine Or.inl ⟨by rfl, ?_⟩
    intro w hSw
    (try dsimp only at hSw)
    go_simp
  simp only [Act.put, List.setIfInBounds_toArray, List.set_cons_zero, List.set_cons_succ]
  obtain ⟨X0, hX0⟩ : ∃ X, wr.drew.drew = X := ⟨_, rfl⟩
  have HX0 : Hid (Rr V5 X0 Br (.slice ta m tc) (.slice none 0 0) ts []) := Lib.hid (by rw [← hX0]; exact HRr.out.later (Below.drew (Below.drew (Below.refl _ _))))
  try rw [hX0]
  rw [hX0] at hS
  have HX1 : Hid (∀ X, X0.alloc (.cells #[.int .i64 (mv - ((f' : Nat) : Int))] 3) = X → Rr V5 X Br (.slice ta m tc) (.slice none 0 0) ts [] ∧ Below V5.heap.size V5 X ∧ X0.heap.size < X.heap.size) := Lib.hid (fun X e => by
    have hb : Below X0.heap.size X0 X := by rw [← e]; exact (Below.refl _ _).alloc (Nat.le_refl _) _
    exact ⟨HX0.out.later hb, HX0.out.bel.trans (hb.mono HX0.out.bel.size), by rw [← e]; simp⟩)
  clear hX0
  refine two_at 1 9 (by kernel_rfl) (by kernel_rfl) (by kernel_rfl) ?_ ?_
  · intro o ho
    replace ho := Option.some.inj (Eq.trans (Eq.symm ho) rfl)
    subst ho
    intro KF hK
    rw [if_pos (by rfl)]
    refine oof_ldT rfl rfl (HX0.out.rb.cell 0 (by simp)) ?_
    refine hK.out _ _ hS ?_
    clear hS
    intro hS
    clear hK KF
    try simp only [Act.put, List.setIfInBounds_toArray]
    refine call_at 9 (by kernel_rfl) (by kernel_rfl) ?_
    intro o ho
    replace ho := Option.some.inj (Eq.trans (Eq.symm ho) rfl)
    subst ho
    intro KF hK
    rw [if_pos (by rfl)]
    refine ok_oneI rfl rfl ?_
    obtain ⟨X1, hX1⟩ : ∃ X, X0.alloc (.cells #[.int .i64 (mv - ((f' : Nat) : Int))] 3) = X := ⟨_, rfl⟩
    try rw [hX1]
    refine hK.out _ _ (HX1.out _ hX1).2.1 ?_
    clear hS
    intro hS
    clear hK KF
    try simp only [Act.put]
    refine call_at 10 (by kernel_rfl) (by kernel_rfl) ?_
    intro o ho
    replace ho := Option.some.inj (Eq.trans (Eq.symm ho) rfl)
    subst ho
    intro KF hK
    rw [if_pos (by rfl)]
    refine wp_append_own _ _ _ rfl (Br + 1) 3 i0 (.int .i64 0) 1 8 Tryd.underlying35 hi0 hz0 hz1 hz2 rfl (by omega) (.slice ta m tc) ts.length (isV ts) rfl (HX1.out _ hX1).1.ot ⟨X0.heap.size, 0, none⟩ 1 1 [.int .i64 (mv - ((f' : Nat) : Int))] rfl rfl (by rw [← hX1]; exact cell_one_new _ _ _) (by simp [Value.oneCell']) (by rw [HTl.out]; unfold maxLen; omega) (by rw [HTl.out]; omega) (by have := (HX1.out _ hX1).1.rb.lt; omega) ?_
    intro v9 X2 hown hgrow
    obtain ⟨va, vc, hv9⟩ := own_sliceE hown
    subst hv9
    obtain ⟨⟨p1, p2⟩, hR9⟩ := (HX1.out _ hX1).1.growT hown hgrow
    have HR9 := Lib.hid hR9
    have HP9 := Lib.hid (And.intro p1 p2)
    have HS9 : Hid (Below V5.heap.size V5 X2) := Lib.hid ((HX1.out _ hX1).2.1.grown hgrow (HX1.out _ hX1).2.1.size (fun q hq => by have := (World.ownsRow.lt (HX1.out _ hX1).1.ot q hq).1; have := (HX1.out _ hX1).1.hB; omega))
    clear hown hgrow p1 p2 hR9
    refine hK.out _ _ HS9.out ?_
    clear hS
    intro hS
    clear hK KF
    try simp only [Act.put]
    refine take_at (i := 11) (d := some 263) (v := .pointer (some ⟨Br, 0, none⟩)) (by kernel_rfl) (by kernel_rfl) (by kernel_rfl) (by kernel_rfl) (fun _ _ _ h => h) ?_ hS ?_
    · intro o ho
      replace ho := Option.some.inj (Eq.trans (Eq.symm ho) rfl)
      subst ho
      refine Or.inl ⟨by rfl, ?_⟩
      intro w hSw
      (try dsimp only at hSw)
      go_simp
    simp only [Act.put]
    refine call_at 12 (by kernel_rfl) (by kernel_rfl) ?_
    intro o ho
    replace ho := Option.some.inj (Eq.trans (Eq.symm ho) rfl)
    subst ho
    intro KF hK
    rw [if_pos (by rfl)]
    refine ok_stI rfl rfl rfl HP9.out.1 HP9.out.2 ?_
    refine hK.out _ _ HR9.out.bel ?_
    clear hS
    intro hS
    clear hK KF
    try simp only [Act.put]
    refine wpAnyH_done (by kernel_rfl) ?_ _
    rw [HTl.out] at HR9
    have HRz : Hid (Rr V5 (X2.setCell ⟨Br, 0, none⟩ (.slice va (m + 1) vc)) Br (.slice va (m + 1) vc) (.slice none 0 0) ((nt.take (m + 1)).map (· - ((f' : Nat) : Int))) []) := Lib.hid (by rw [HNx.out.1]; exact HR9.out)
    try rw [HTl.out]
    clear HR9 HP9 HS9
    go_wp2_with fail
    go_roundw
    case rel => exact ⟨q + 1, m + 1, _, by go_num, by omega, by omega, by omega, HRz.out, HNx.out.2⟩
    case measure => simp [RowKit.intOf]; omega
  · intro o ho
    replace ho := Option.some.inj (Eq.trans (Eq.symm ho) rfl)
    subst ho
    intro KF hK
    rw [if_pos (by rfl)]
    refine ok_oneI rfl rfl ?_
    obtain ⟨X1, hX1⟩ : ∃ X, X0.alloc (.cells #[.int .i64 (mv - ((f' : Nat) : Int))] 3) = X := ⟨_, rfl⟩
    try rw [hX1]
    refine hK.out _ _ (HX1.out _ hX1).2.1 ?_
    clear hS
    intro hS
    clear hK KF
    try simp only [Act.put, List.setIfInBounds_toArray]
    refine call_at 1 (by kernel_rfl) (by kernel_rfl) ?_
    intro o ho
    replace ho := Option.some.inj (Eq.trans (Eq.symm ho) rfl)
    subst ho
    intro KF hK
    rw [if_pos (by rfl)]
    refine oof_ldT rfl rfl ((HX1.out _ hX1).1.rb.cell 0 (by simp)) ?_
    refine hK.out _ _ (HX1.out _ hX1).2.1 ?_
    clear hS
    intro hS
    clear hK KF
    try simp only [Act.put]
    refine call_at 10 (by kernel_rfl) (by kernel_rfl) ?_
    intro o ho
    replace ho := Option.some.inj (Eq.trans (Eq.symm ho) rfl)
    subst ho
    intro KF hK
    rw [if_pos (by rfl)]
    refine wp_append_own _ _ _ rfl (Br + 1) 3 i0 (.int .i64 0) 1 8 Tryd.underlying35 hi0 hz0 hz1 hz2 rfl (by omega) (.slice ta m tc) ts.length (isV ts) rfl (HX1.out _ hX1).1.ot ⟨X0.heap.size, 0, none⟩ 1 1 [.int .i64 (mv - ((f' : Nat) : Int))] rfl rfl (by rw [← hX1]; exact cell_one_new _ _ _) (by simp [Value.oneCell']) (by rw [HTl.out]; unfold maxLen; omega) (by rw [HTl.out]; omega) (by have := (HX1.out _ hX1).1.rb.lt; omega) ?_
    intro v9 X2 hown hgrow
    obtain ⟨va, vc, hv9⟩ := own_sliceE hown
    subst hv9
    obtain ⟨⟨p1, p2⟩, hR9⟩ := (HX1.out _ hX1).1.growT hown hgrow
    have HR9 := Lib.hid hR9
    have HP9 := Lib.hid (And.intro p1 p2)
    have HS9 : Hid (Below V5.heap.size V5 X2) := Lib.hid ((HX1.out _ hX1).2.1.grown hgrow (HX1.out _ hX1).2.1.size (fun q hq => by have := (World.ownsRow.lt (HX1.out _ hX1).1.ot q hq).1; have := (HX1.out _ hX1).1.hB; omega))
    clear hown hgrow p1 p2 hR9
    refine hK.out _ _ HS9.out ?_
    clear hS
    intro hS
    clear hK KF
    try simp only [Act.put]
    refine take_at (i := 11) (d := some 263) (v := .pointer (some ⟨Br, 0, none⟩)) (by kernel_rfl) (by kernel_rfl) (by kernel_rfl) (by kernel_rfl) (fun _ _ _ h => h) ?_ hS ?_
    · intro o ho
      replace ho := Option.some.inj (Eq.trans (Eq.symm ho) rfl)
      subst ho
      refine Or.inl ⟨by rfl, ?_⟩
      intro w hSw
      (try dsimp only at hSw)
      go_simp
    simp only [Act.put]
    refine call_at 12 (by kernel_rfl) (by kernel_rfl) ?_
    intro o ho
    replace ho := Option.some.inj (Eq.trans (Eq.symm ho) rfl)
    subst ho
    intro KF hK
    rw [if_pos (by rfl)]
    refine ok_stI rfl rfl rfl HP9.out.1 HP9.out.2 ?_
    refine hK.out _ _ HR9.out.bel ?_
    clear hS
    intro hS
    clear hK KF
    try simp only [Act.put]
    refine wpAnyH_done (by kernel_rfl) ?_ _
    rw [HTl.out] at HR9
    have HRz : Hid (Rr V5 (X2.setCell ⟨Br, 0, none⟩ (.slice va (m + 1) vc)) Br (.slice va (m + 1) vc) (.slice none 0 0) ((nt.take (m + 1)).map (· - ((f' : Nat) : Int))) []) := Lib.hid (by rw [HNx.out.1]; exact HR9.out)
    try rw [HTl.out]
    clear HR9 HP9 HS9
    go_wp2_with fail
    go_roundw
    case rel => exact ⟨q + 1, m + 1, _, by go_num, by omega, by omega, by omega, HRz.out, HNx.out.2⟩
    case measure => simp [RowKit.intOf]; omega
end Go.Proofs.YtgfloegaoofbbaaDoor
