import Derived.Test.YtgfloegaoofbbaaDoorEl0b
/- refRead11_any: part El0c of a long walk. (capt.py) -/
/- The document's side of layer 11: Read. (gen_ekb.py) -/
namespace Go.Proofs.YtgfloegaoofbbaaDoor
set_option maxRecDepth 100000
open Go.RowKit Go.Shelf Go.Lib
attribute [local go_sem] run_store_str run_store_float
set_option maxHeartbeats 64000000 in
def el0c_c : Cut1 (el0b_c.P1) := by
  apply Cut1.mk
  focus
    intro cUt1
    intro p
    unhygienic intros
    obtain ⟨rfl, hVc⟩ := hcut
    obtain rfl := hVc.symm
    clear hn0 hk0 hc36 g1 g2 z1
    by_cases hfull : nn ≤ 1048576 ∧ kk ≤ 16
    rotate_left
    · have HBad : Hid (heE ws0 = 3) := Lib.hid (by unfold heE; rw [HHP.out]; exact if_neg hfull)
      by_cases q1 : (1048576 : Int) < (nn : Int)
      · clear hfull
        as_aux_lemma =>
        obtain ⟨We, hWe⟩ : ∃ X, (V).drew = X := ⟨_, rfl⟩
        have HR : Hid (CB We w.heap.size fe4 24 ∧ Below w.heap.size w We) := Lib.hid (by rw [← hWe]; exact ⟨(HR1.out _ (Below.drew (Below.refl _ V))).1, Below.drew (HR1.out V (Below.refl _ _)).2⟩)
        have l2 : We.cell? ⟨gL, oL, none⟩ = some (.int .i64 (no0 : Nat)) := by rw [← hWe]; exact (HK0.out V (Below.refl _ _)).1
        obtain ⟨k20, k21, k22, k23⟩ := HR.out.1.cells4E
        have f20 := HR.out.1.frozen 0
        have f21 := HR.out.1.frozen 1
        have f22 := HR.out.1.frozen 2
        have f23 := HR.out.1.frozen 3
        have HTV := Lib.hid (show reV p t = (fe0, no0, (3 : Int)) by rw [re_head her.out HL0.out (by rw [HBad.out]; decide), HBad.out]; rfl)
        have hgn : gL ≠ w.heap.size := HgL.out.1
        have hgn2 : w.heap.size ≠ gL := HgL.out.2
        go_wp2_with fail
        go_region
        all_goals
          go_wp2
          refine bodyPost_ret (res_ref11 _ w.heap.size _ _ _ _ _ _ _ (set4E HR.out.1 _ _ _ _) rfl rfl rfl) rfl ?_
          exact R11.bad (set4_bel HR.out.2 _ _ _ _) HTV.out
      · have q2 : (16 : Int) < (kk : Int) := by omega
        clear hfull
        as_aux_lemma =>
        obtain ⟨We, hWe⟩ : ∃ X, (V).drew = X := ⟨_, rfl⟩
        have HR : Hid (CB We w.heap.size fe4 24 ∧ Below w.heap.size w We) := Lib.hid (by rw [← hWe]; exact ⟨(HR1.out _ (Below.drew (Below.refl _ V))).1, Below.drew (HR1.out V (Below.refl _ _)).2⟩)
        have l2 : We.cell? ⟨gL, oL, none⟩ = some (.int .i64 (no0 : Nat)) := by rw [← hWe]; exact (HK0.out V (Below.refl _ _)).1
        obtain ⟨k20, k21, k22, k23⟩ := HR.out.1.cells4E
        have f20 := HR.out.1.frozen 0
        have f21 := HR.out.1.frozen 1
        have f22 := HR.out.1.frozen 2
        have f23 := HR.out.1.frozen 3
        have HTV := Lib.hid (show reV p t = (fe0, no0, (3 : Int)) by rw [re_head her.out HL0.out (by rw [HBad.out]; decide), HBad.out]; rfl)
        have hgn : gL ≠ w.heap.size := HgL.out.1
        have hgn2 : w.heap.size ≠ gL := HgL.out.2
        go_wp2_with fail
        go_region
        all_goals
          go_wp2
          refine bodyPost_ret (res_ref11 _ w.heap.size _ _ _ _ _ _ _ (set4E HR.out.1 _ _ _ _) rfl rfl rfl) rfl ?_
          exact R11.bad (set4_bel HR.out.2 _ _ _ _) HTV.out
    have q1 : ¬ ((1048576 : Int) < (nn : Int)) := by omega
    have q2 : ¬ ((16 : Int) < (kk : Int)) := by omega
    have HRe : Hid (reV p t = flV p nn cc kk (tell qs)) := Lib.hid (re_rows her.out HL0.out (by unfold heE; rw [HHP.out]; exact if_pos hfull) HHP.out)
    obtain ⟨hnn, hkk⟩ := hfull
    go_upto_region 18 with fail
    clear q1 q2 y0 y1 y2
    refine wp_region_held_drew (S := (fun W => Below V.heap.size V W)) (by kernel_rfl) ((Below.refl _ _).drew) (fun hS => ?_)
    refine take_at (i := 0) (d := some 121) (v := .slice (some ⟨gh, 0, none⟩) 3 hc) (by kernel_rfl) (by kernel_rfl) (by kernel_rfl) (by kernel_rfl) (fun _ _ _ h => h) ?_ hS ?_
    · intro o ho
      replace ho := Option.some.inj (Eq.trans (Eq.symm ho) rfl)
      subst ho
      refine Or.inl ⟨by rfl, ?_⟩
      intro w hSw
      (try dsimp only at hSw)
      go_simp
    simp only [Act.put, List.setIfInBounds_toArray, List.set_cons_zero, List.set_cons_succ]
    refine take_at (i := 1) (d := some 122) (v := .pointer (some ⟨gh, 1, none⟩)) (by kernel_rfl) (by kernel_rfl) (by kernel_rfl) (by kernel_rfl) (fun _ _ _ h => h) ?_ hS ?_
    · intro o ho
      replace ho := Option.some.inj (Eq.trans (Eq.symm ho) rfl)
      subst ho
      refine Or.inl ⟨by rfl, ?_⟩
      intro w hSw
      (try dsimp only at hSw)
      go_simp
    simp only [Act.put, List.setIfInBounds_toArray, List.set_cons_zero, List.set_cons_succ]
    refine take_at (i := 2) (d := some 123) (v := .int .i64 (cc : Nat)) (by kernel_rfl) (by kernel_rfl) (by kernel_rfl) (by kernel_rfl) (fun _ _ _ h => h) ?_ hS ?_
    · intro o ho
      replace ho := Option.some.inj (Eq.trans (Eq.symm ho) rfl)
      subst ho
      refine Or.inl ⟨by rfl, ?_⟩
      intro w hSw
      (try dsimp only at hSw)
      have y1 := (HCh.out _ hSw).2.1
      go_simp
    simp only [Act.put, List.setIfInBounds_toArray, List.set_cons_zero, List.set_cons_succ]
    refine take_at (i := 3) (d := some 124) (v := .slice (some ⟨gh, 0, none⟩) 3 hc) (by kernel_rfl) (by kernel_rfl) (by kernel_rfl) (by kernel_rfl) (fun _ _ _ h => h) ?_ hS ?_
    · intro o ho
      replace ho := Option.some.inj (Eq.trans (Eq.symm ho) rfl)
      subst ho
      refine Or.inl ⟨by rfl, ?_⟩
      intro w hSw
      (try dsimp only at hSw)
      go_simp
    simp only [Act.put, List.setIfInBounds_toArray, List.set_cons_zero, List.set_cons_succ]
    refine take_at (i := 4) (d := some 125) (v := .pointer (some ⟨gh, 2, none⟩)) (by kernel_rfl) (by kernel_rfl) (by kernel_rfl) (by kernel_rfl) (fun _ _ _ h => h) ?_ hS ?_
    · intro o ho
      replace ho := Option.some.inj (Eq.trans (Eq.symm ho) rfl)
      subst ho
      refine Or.inl ⟨by rfl, ?_⟩
      intro w hSw
      (try dsimp only at hSw)
      go_simp
    simp only [Act.put, List.setIfInBounds_toArray, List.set_cons_zero, List.set_cons_succ]
    refine take_at (i := 5) (d := some 126) (v := .int .i64 (kk : Nat)) (by kernel_rfl) (by kernel_rfl) (by kernel_rfl) (by kernel_rfl) (fun _ _ _ h => h) ?_ hS ?_
    · intro o ho
      replace ho := Option.some.inj (Eq.trans (Eq.symm ho) rfl)
      subst ho
      refine Or.inl ⟨by rfl, ?_⟩
      intro w hSw
      (try dsimp only at hSw)
      have y2 := (HCh.out _ hSw).2.2
      go_simp
    simp only [Act.put, List.setIfInBounds_toArray, List.set_cons_zero, List.set_cons_succ]
    refine take_at (i := 6) (d := some 127) (v := .agg #[.int .i64 0, .int .i64 (cc : Nat), .int .i64 (kk : Nat), .slice none 0 0]) (by kernel_rfl) (by kernel_rfl) (by kernel_rfl) (by kernel_rfl) (fun _ _ _ h => h) ?_ hS ?_
    · intro o ho
      replace ho := Option.some.inj (Eq.trans (Eq.symm ho) rfl)
      subst ho
      refine Or.inl ⟨by rfl, ?_⟩
      intro w hSw
      (try dsimp only at hSw)
      go_simp
    simp only [Act.put, List.setIfInBounds_toArray, List.set_cons_zero, List.set_cons_succ]
    refine call_at 7 (by kernel_rfl) (by kernel_rfl) ?_
    intro o ho
    replace ho := Option.some.inj (Eq.trans (Eq.symm ho) rfl)
    subst ho
    intro KF hK
    rw [if_pos (by rfl)]
    refine ok_allocF rfl ?_
    obtain ⟨V1, hV1⟩ : ∃ X, V.drew.alloc (.cells fe4 24) = X := ⟨_, rfl⟩
    obtain ⟨Bf, hBf⟩ : ∃ b, V.drew.heap.size = b := ⟨_, rfl⟩
    have HV1 : Hid (Below V.heap.size V V1 ∧ CB V1 Bf fe4 24 ∧ V.heap.size ≤ Bf) := Lib.hid (by rw [← hV1, ← hBf]; exact ⟨((Below.refl _ V).drew).alloc (Nat.le_refl _) _, CB.new _ _ _, Nat.le_refl _⟩)
    rw [hV1, hBf]
    refine hK.out _ _ HV1.out.1 ?_
    clear hS
    intro hS
    clear hK KF
    try simp only [Act.put, List.setIfInBounds_toArray]
    clear hV1 hBf
    refine call_at 8 (by kernel_rfl) (by kernel_rfl) ?_
    intro o ho
    replace ho := Option.some.inj (Eq.trans (Eq.symm ho) rfl)
    subst ho
    intro KF hK
    rw [if_pos (by rfl)]
    refine ok_storeF rfl rfl rfl HV1.out.2.1 (by simp [Value.oneCell']) ?_
    intro V2 hcb hob
    have HV2 : Hid (Rz w V V2 Bf 0 cc kk (.slice none 0 0) []) := Lib.hid ⟨⟨hob.os.trans HV1.out.1.os, hob.tape.trans HV1.out.1.tape, hob.output.trans HV1.out.1.output, Nat.le_trans HV1.out.1.size hob.size, fun b hb => (hob.block b (Nat.lt_of_lt_of_le hb HV1.out.1.size) (by have := HV1.out.2.2; omega)).trans (HV1.out.1.block b hb)⟩, hcb, HV1.out.2.2, Eo.nil _ _ _⟩
    clear hcb hob
    refine hK.out _ _ HV2.out.bel ?_
    clear hS
    intro hS
    clear hK KF
    try simp only [Act.put]
    refine wpAnyH_done (by kernel_rfl) ?_ _
    clear hS HV1
    obtain ⟨L, hL⟩ : ∃ L, Hid (tell qs = L) := ⟨_, Lib.hid rfl⟩
    rw [hL.out] at HRe
    have HLl : Hid (L.length + 1 = nl) := Lib.hid (by rw [← hL.out, ← HLe.out, hps.out]; simp [tell])
    have HF1 : Hid (fst1 L ≤ 1) := Lib.hid (by unfold fst1; split <;> (try split) <;> omega)
    go_wp2_with fail
    go_loopw [13] (fun s13 wr => ∃ (jj i f : Nat) (lv : Value) (rs : List Rt), s13 = .int .i64 (i : Nat) ∧ i = jj + 1 ∧ i ≤ nl ∧ jj ≤ nn ∧ f ≤ 1 ∧ Hid (Rz w V wr Bf ((f : Nat) : Int) cc kk lv rs ∧ rs.length = jj ∧ f = (if jj = 0 then 0 else fst1 L) ∧ goE p (fst1 L) cc kk 0 (L.take jj) = .inr (rs.map (·.1)))) (fun s13 _ => nl - (RowKit.intOf s13).toNat)
    case atStart => exact ⟨0, 1, 0, _, [], rfl, rfl, by omega, by omega, by omega, HV2.out, rfl, rfl, rfl⟩
    case round =>
     focus
      (repeat (rename_i xqEl0c; revert xqEl0c))
      (repeat (revert xqEl0b))
      try revert xqEl0b_1
      try revert xqEl0b_2
      try revert xqEl0b_3
      try revert xqEl0b_4
      try revert xqEl0b_5
      try revert xqEl0b_6
      try revert xqEl0b_7
      try revert xqEl0b_8
      try revert xqEl0b_9
      try revert xqEl0b_10
      try revert xqEl0b_11
      try revert xqEl0b_12
      try revert xqEl0b_13
      try revert xqEl0b_14
      try revert xqEl0b_15
      try revert xqEl0b_16
      try revert xqEl0b_17
      try revert xqEl0b_18
      try revert xqEl0b_19
      try revert xqEl0b_20
      try revert xqEl0b_21
      try revert xqEl0b_22
      try revert xqEl0b_23
      try revert xqEl0b_24
      try revert xqEl0b_25
      try revert xqEl0b_26
      try revert xqEl0b_27
      try revert xqEl0b_28
      try revert xqEl0b_29
      try revert xqEl0b_30
      try revert xqEl0b_31
      try revert xqEl0b_32
      try revert xqEl0b_33
      try revert xqEl0b_34
      try revert xqEl0b_35
      try revert xqEl0b_36
      try revert xqEl0b_37
      try revert xqEl0b_38
      try revert xqEl0b_39
      try revert xqEl0b_40
      try revert xqEl0b_41
      try revert xqEl0b_42
      try revert xqEl0b_43
      try revert xqEl0b_44
      try revert xqEl0b_45
      try revert xqEl0b_46
      try revert xqEl0b_47
      try revert xqEl0b_48
      try revert xqEl0b_49
      try revert xqEl0b_50
      try revert xqEl0b_51
      try revert xqEl0b_52
      try revert xqEl0b_53
      try revert xqEl0b_54
      try revert xqEl0b_55
      try revert xqEl0b_56
      try revert xqEl0b_57
      try revert xqEl0b_58
      try revert xqEl0b_59
      try revert xqEl0b_60
      try revert xqEl0b_61
      try revert xqEl0b_62
      try revert xqEl0b_63
      try revert xqEl0b_64
      try revert xqEl0b_65
      try revert xqEl0b_66
      try revert xqEl0b_67
      try revert xqEl0b_68
      try revert xqEl0b_69
      try revert xqEl0b_70
      try revert xqEl0b_71
      try revert xqEl0b_72
      try revert xqEl0b_73
      try revert xqEl0b_74
      try revert xqEl0b_75
      try revert xqEl0b_76
      try revert xqEl0b_77
      try revert xqEl0b_78
      try revert xqEl0b_79
      try revert xqEl0b_80
      try revert xqEl0b_81
      try revert xqEl0b_82
      try revert xqEl0b_83
      try revert xqEl0b_84
      try revert xqEl0b_85
      try revert xqEl0b_86
      try revert xqEl0b_87
      try revert xqEl0b_88
      try revert xqEl0b_89
      (repeat (revert xqEl00))
      try revert xqEl00_1
      try revert xqEl00_2
      try revert xqEl00_3
      try revert xqEl00_4
      try revert xqEl00_5
      try revert xqEl00_6
      try revert xqEl00_7
      try revert xqEl00_8
      try revert xqEl00_9
      try revert xqEl00_10
      try revert xqEl00_11
      try revert xqEl00_12
      try revert xqEl00_13
      try revert xqEl00_14
      try revert xqEl00_15
      try revert xqEl00_16
      try revert xqEl00_17
      try revert xqEl00_18
      try revert xqEl00_19
      try revert xqEl00_20
      try revert xqEl00_21
      try revert xqEl00_22
      try revert xqEl00_23
      try revert xqEl00_24
      try revert xqEl00_25
      try revert xqEl00_26
      try revert xqEl00_27
      try revert xqEl00_28
      try revert xqEl00_29
      try revert xqEl00_30
      try revert xqEl00_31
      try revert xqEl00_32
      try revert xqEl00_33
      try revert xqEl00_34
      try revert xqEl00_35
      try revert xqEl00_36
      try revert xqEl00_37
      try revert xqEl00_38
      try revert xqEl00_39
      try revert xqEl00_40
      try revert xqEl00_41
      try revert xqEl00_42
      try revert xqEl00_43
      try revert xqEl00_44
      try revert xqEl00_45
      try revert xqEl00_46
      try revert xqEl00_47
      try revert xqEl00_48
      try revert xqEl00_49
      try revert xqEl00_50
      try revert xqEl00_51
      try revert xqEl00_52
      try revert xqEl00_53
      try revert xqEl00_54
      try revert xqEl00_55
      try revert xqEl00_56
      try revert xqEl00_57
      try revert xqEl00_58
      try revert xqEl00_59
      try revert xqEl00_60
      try revert xqEl00_61
      try revert xqEl00_62
      try revert xqEl00_63
      try revert xqEl00_64
      try revert xqEl00_65
      try revert xqEl00_66
      try revert xqEl00_67
      try revert xqEl00_68
      try revert xqEl00_69
      try revert xqEl00_70
      try revert xqEl00_71
      try revert xqEl00_72
      try revert xqEl00_73
      try revert xqEl00_74
      try revert xqEl00_75
      try revert xqEl00_76
      try revert xqEl00_77
      try revert xqEl00_78
      try revert xqEl00_79
      try revert xqEl00_80
      try revert xqEl00_81
      try revert xqEl00_82
      try revert xqEl00_83
      try revert xqEl00_84
      try revert xqEl00_85
      try revert xqEl00_86
      try revert xqEl00_87
      try revert xqEl00_88
      try revert xqEl00_89
      (repeat (revert s3))
      (repeat (revert goE))
      (repeat (revert Rt))
      (repeat (revert rs))
      (repeat (revert lv))
      (repeat (revert f))
      (repeat (revert jj))
      (repeat (revert s13))
      (repeat (revert split))
      (repeat (revert fst1))
      (repeat (revert HF1))
      (repeat (revert HLl))
      (repeat (revert hL))
      (repeat (revert L))
      (repeat (revert bel))
      (repeat (revert Eo))
      (repeat (revert block))
      (repeat (revert output))
      (repeat (revert tape))
      (repeat (revert os))
      (repeat (revert Rz))
      (repeat (revert HV2))
      (repeat (revert hob))
      (repeat (revert hcb))
      (repeat (revert V2))
      (repeat (revert HV1))
      (repeat (revert hBf))
      (repeat (revert Bf))
      (repeat (revert hV1))
      (repeat (revert V1))
      (repeat (revert hK))
      (repeat (revert KF))
      (repeat (revert agg))
      (repeat (revert put))
      (repeat (revert Act))
      (repeat (revert hSw))
      (repeat (revert Eq))
      (repeat (revert inj))
      (repeat (revert Option))
      (repeat (revert ho))
      (repeat (revert o))
      (repeat (revert v))
      (repeat (revert d))
      (repeat (revert hS))
      (repeat (revert S))
      (repeat (revert hkk))
      (repeat (revert hnn))
      (repeat (revert flV))
      (repeat (revert HRe))
      (repeat (revert decide))
      (repeat (revert unfold))
      (repeat (revert heE))
      (repeat (revert hfull))
      (repeat (revert hcut))
      (repeat (revert hVc))
      (repeat (revert s2r))
      (repeat (revert rest))
      (repeat (revert bool))
      (repeat (revert wx))
      (repeat (revert b))
      (repeat (revert go_cut))
      (repeat (revert g2))
      (repeat (revert g1))
      (repeat (revert hcc))
      (repeat (revert if_pos))
      (repeat (revert HHP))
      (repeat (revert kk))
      (repeat (revert cc))
      (repeat (revert m))
      (repeat (revert nn))
      (repeat (revert hc36))
      (repeat (revert hk0))
      (repeat (revert hn0))
      (repeat (revert inr))
      (repeat (revert d2))
      (repeat (revert q2))
      (repeat (revert q1))
      (repeat (revert if_neg))
      (repeat (revert hok))
      (repeat (revert y2))
      (repeat (revert y1))
      (repeat (revert y0))
      (repeat (revert HHe))
      (repeat (revert heP_is))
      (repeat (revert hHe))
      (repeat (revert HCh))
      (repeat (revert hcl))
      (repeat (revert hghl))
      (repeat (revert hgh))
      (repeat (revert gh))
      (repeat (revert ws))
      (repeat (revert ints3))
      (repeat (revert hns))
      (repeat (revert hgn2))
      (repeat (revert hgn))
      (repeat (revert hd_bad))
      (repeat (revert l2))
      (repeat (revert drew))
      (repeat (revert hWe))
      (repeat (revert We))
      (repeat (revert inl))
      (repeat (revert Or))
      (repeat (revert heP_no))
      (repeat (revert heP))
      (repeat (revert HBad))
      (repeat (revert d1))
      (repeat (revert hu8))
      (repeat (revert HK0))
      (repeat (revert h))
      (repeat (revert HR1))
      (repeat (revert X))
      (repeat (revert hV))
      (repeat (revert V))
      (repeat (revert s2))
      (repeat (revert hlt'))
      (repeat (revert lp1))
      (repeat (revert hlt))
      (repeat (revert z1))
      (repeat (revert z0))
      (repeat (revert And))
      (repeat (revert HN))
      (repeat (revert HO))
      (repeat (revert HB))
      (repeat (revert hrel))
      (repeat (revert hI))
      (repeat (revert hj3))
      (repeat (revert hj1))
      (repeat (revert round))
      (repeat (revert toNat))
      (repeat (revert intOf))
      (repeat (revert RowKit))
      (repeat (revert InR))
      (repeat (revert n))
      (repeat (revert take))
      (repeat (revert intsE))
      (repeat (revert isV))
      (repeat (revert ns))
      (repeat (revert j))
      (repeat (revert wr))
      (repeat (revert s9))
      (repeat (revert s8))
      (repeat (revert bytes))
      (repeat (revert zero))
      (repeat (revert map))
      (repeat (revert info))
      (repeat (revert prog))
      (repeat (revert hz2))
      (repeat (revert hz1))
      (repeat (revert hz0))
      (repeat (revert hi0))
      (repeat (revert i0))
      (repeat (revert hb))
      (repeat (revert W))
      (repeat (revert H00))
      (repeat (revert HS0))
      (repeat (revert HWm))
      (repeat (revert tell))
      (repeat (revert HL0))
      (repeat (revert hnw))
      (repeat (revert nw))
      (repeat (revert dsimp))
      (repeat (revert wv0))
      (repeat (revert ws0))
      (repeat (revert no0))
      (repeat (revert hsh0))
      (repeat (revert hc))
      (repeat (revert hg))
      (repeat (revert sub))
      (repeat (revert h3))
      (repeat (revert sv))
      (repeat (revert Bs))
      (repeat (revert i))
      (repeat (revert hwm0))
      (repeat (revert hw0))
      (repeat (revert wc0))
      (repeat (revert wa0))
      (repeat (revert hq0))
      (repeat (revert h00))
      (repeat (revert hnz3))
      (repeat (revert hnz2))
      (repeat (revert hnz))
      (repeat (revert HCL))
      (repeat (revert HgL))
      (repeat (revert form))
      (repeat (revert h4))
      (repeat (revert c))
      (repeat (revert i64))
      (repeat (revert int))
      (repeat (revert cell))
      (repeat (revert k))
      (repeat (revert hcL))
      (repeat (revert hgL))
      (repeat (revert hga))
      (repeat (revert oL))
      (repeat (revert gL))
      (repeat (revert r))
      (repeat (revert a))
      (repeat (revert cons))
      (repeat (revert symm))
      (repeat (revert absurd))
      (repeat (revert nil))
      (repeat (revert hps))
      (repeat (revert qs))
      (repeat (revert q0))
      (repeat (revert re_nil))
      (repeat (revert hz))
      (repeat (revert own))
      (repeat (revert lt))
      (repeat (revert h1))
      (repeat (revert hn))
      (repeat (revert ha))
      (repeat (revert off))
      (repeat (revert g))
      (repeat (revert HgB))
      (repeat (revert hW0s))
      (repeat (revert HLe))
      (repeat (revert HTl))
      (repeat (revert HSh))
      (repeat (revert hx))
      (repeat (revert x))
      (repeat (revert lf))
      (repeat (revert Lr))
      (repeat (revert slice))
      (repeat (revert Lf))
      (repeat (revert HLf))
      (repeat (revert hq))
      (repeat (revert q))
      (repeat (revert hmm))
      (repeat (revert bad))
      (repeat (revert R11))
      (repeat (revert set4E))
      (repeat (revert go_wp2))
      (repeat (revert re_no))
      (repeat (revert fe0))
      (repeat (revert reV))
      (repeat (revert HTV))
      (repeat (revert f23))
      (repeat (revert f22))
      (repeat (revert f21))
      (repeat (revert frozen))
      (repeat (revert f20))
      (repeat (revert k23))
      (repeat (revert k22))
      (repeat (revert k21))
      (repeat (revert k20))
      (repeat (revert HR))
      (repeat (revert true))
      (repeat (revert h0n))
      (repeat (revert false))
      (repeat (revert h0'))
      (repeat (revert h0))
      (repeat (revert hnl2))
      (repeat (revert length))
      (repeat (revert hnl))
      (repeat (revert nl))
      (repeat (revert hal))
      (repeat (revert al))
      (repeat (revert rdV))
      (repeat (revert her))
      (repeat (revert er))
      (repeat (revert trans))
      (repeat (revert later))
      (repeat (revert H1))
      (repeat (revert hb1))
      (repeat (revert hlen))
      (repeat (revert htell))
      (repeat (revert hLr))
      (repeat (revert ps))
      (repeat (revert c1))
      (repeat (revert a1))
      (repeat (revert W1))
      (repeat (revert e))
      (repeat (revert mono))
      (repeat (revert ntmps))
      (repeat (revert Read))
      (repeat (revert F))
      (repeat (revert func))
      (repeat (revert A))
      (repeat (revert H0))
      (repeat (revert readDE))
      (repeat (revert HRd))
      (repeat (revert HP))
      (repeat (revert new))
      (repeat (revert CB))
      (repeat (revert c0))
      (repeat (revert refl))
      (repeat (revert size))
      (repeat (revert heap))
      (repeat (revert b0))
      (repeat (revert _))
      (repeat (revert File))
      (repeat (revert T))
      (repeat (revert fe4))
      (repeat (revert cells))
      (repeat (revert alloc))
      (repeat (revert hW0))
      (repeat (revert W0))
      (repeat (revert hl))
      (repeat (revert ht))
      (repeat (revert w))
      (repeat (revert t))
      (repeat (revert s))
      (repeat (revert hp))
      (repeat (revert w0))
      (repeat (revert hrel))
      (repeat (revert hwc))
      (repeat (revert wo))
      (repeat (revert wl))
      (repeat (revert wr))
      (repeat (revert wc))
      (repeat (revert u339))
      (repeat (revert u338))
      (repeat (revert u337))
      (repeat (revert u336))
      (repeat (revert u335))
      (repeat (revert u334))
      (repeat (revert u333))
      (repeat (revert u332))
      (repeat (revert u331))
      (repeat (revert u330))
      (repeat (revert u329))
      (repeat (revert u328))
      (repeat (revert u327))
      (repeat (revert u326))
      (repeat (revert u325))
      (repeat (revert u324))
      (repeat (revert u323))
      (repeat (revert u322))
      (repeat (revert u321))
      (repeat (revert u320))
      (repeat (revert u319))
      (repeat (revert u318))
      (repeat (revert u317))
      (repeat (revert u316))
      (repeat (revert u315))
      (repeat (revert u314))
      (repeat (revert u313))
      (repeat (revert u312))
      (repeat (revert u311))
      (repeat (revert u310))
      (repeat (revert u309))
      (repeat (revert u308))
      (repeat (revert u307))
      (repeat (revert u306))
      (repeat (revert u305))
      (repeat (revert u304))
      (repeat (revert u303))
      (repeat (revert u302))
      (repeat (revert u301))
      (repeat (revert u300))
      (repeat (revert u299))
      (repeat (revert u298))
      (repeat (revert u297))
      (repeat (revert u296))
      (repeat (revert u295))
      (repeat (revert u294))
      (repeat (revert u293))
      (repeat (revert u292))
      (repeat (revert u291))
      (repeat (revert u290))
      (repeat (revert u289))
      (repeat (revert u288))
      (repeat (revert u287))
      (repeat (revert u286))
      (repeat (revert u285))
      (repeat (revert u284))
      (repeat (revert u283))
      (repeat (revert u282))
      (repeat (revert u281))
      (repeat (revert u280))
      (repeat (revert u279))
      (repeat (revert u278))
      (repeat (revert u277))
      (repeat (revert u276))
      (repeat (revert u275))
      (repeat (revert u274))
      (repeat (revert u273))
      (repeat (revert u272))
      (repeat (revert u271))
      (repeat (revert u270))
      (repeat (revert u269))
      (repeat (revert u268))
      (repeat (revert u267))
      (repeat (revert u266))
      (repeat (revert u265))
      (repeat (revert u264))
      (repeat (revert u263))
      (repeat (revert u262))
      (repeat (revert u261))
      (repeat (revert u260))
      (repeat (revert u259))
      (repeat (revert u258))
      (repeat (revert u257))
      (repeat (revert u256))
      (repeat (revert u255))
      (repeat (revert u254))
      (repeat (revert u253))
      (repeat (revert u252))
      (repeat (revert u251))
      (repeat (revert u250))
      (repeat (revert u249))
      (repeat (revert u248))
      (repeat (revert u247))
      (repeat (revert u246))
      (repeat (revert u245))
      (repeat (revert u244))
      (repeat (revert u243))
      (repeat (revert u242))
      (repeat (revert u241))
      (repeat (revert u240))
      (repeat (revert u239))
      (repeat (revert u238))
      (repeat (revert u237))
      (repeat (revert u236))
      (repeat (revert u235))
      (repeat (revert u234))
      (repeat (revert u233))
      (repeat (revert u232))
      (repeat (revert u231))
      (repeat (revert u230))
      (repeat (revert u229))
      (repeat (revert u228))
      (repeat (revert u227))
      (repeat (revert u226))
      (repeat (revert u225))
      (repeat (revert u224))
      (repeat (revert u223))
      (repeat (revert u222))
      (repeat (revert u221))
      (repeat (revert u220))
      (repeat (revert u219))
      (repeat (revert u218))
      (repeat (revert u217))
      (repeat (revert u216))
      (repeat (revert u215))
      (repeat (revert u214))
      (repeat (revert u213))
      (repeat (revert u212))
      (repeat (revert u211))
      (repeat (revert u210))
      (repeat (revert u209))
      (repeat (revert u208))
      (repeat (revert u207))
      (repeat (revert u206))
      (repeat (revert u205))
      (repeat (revert u204))
      (repeat (revert u203))
      (repeat (revert u202))
      (repeat (revert u201))
      (repeat (revert u200))
      (repeat (revert u199))
      (repeat (revert u198))
      (repeat (revert u197))
      (repeat (revert u196))
      (repeat (revert u195))
      (repeat (revert u194))
      (repeat (revert u193))
      (repeat (revert u192))
      (repeat (revert u191))
      (repeat (revert u190))
      (repeat (revert u189))
      (repeat (revert u188))
      (repeat (revert u187))
      (repeat (revert u186))
      (repeat (revert u185))
      (repeat (revert u184))
      (repeat (revert u183))
      (repeat (revert u182))
      (repeat (revert u181))
      (repeat (revert u180))
      (repeat (revert u179))
      (repeat (revert u178))
      (repeat (revert u177))
      (repeat (revert u176))
      (repeat (revert u175))
      (repeat (revert u174))
      (repeat (revert u173))
      (repeat (revert u172))
      (repeat (revert u171))
      (repeat (revert u170))
      (repeat (revert u169))
      (repeat (revert u168))
      (repeat (revert u167))
      (repeat (revert u166))
      (repeat (revert u165))
      (repeat (revert u164))
      (repeat (revert u163))
      (repeat (revert u162))
      (repeat (revert u161))
      (repeat (revert u160))
      (repeat (revert u159))
      (repeat (revert u158))
      (repeat (revert u157))
      (repeat (revert u156))
      (repeat (revert u155))
      (repeat (revert u154))
      (repeat (revert u153))
      (repeat (revert u152))
      (repeat (revert u151))
      (repeat (revert u150))
      (repeat (revert u149))
      (repeat (revert u148))
      (repeat (revert u147))
      (repeat (revert u146))
      (repeat (revert u145))
      (repeat (revert u144))
      (repeat (revert u143))
      (repeat (revert u142))
      (repeat (revert u141))
      (repeat (revert u140))
      (repeat (revert u139))
      (repeat (revert u138))
      (repeat (revert u137))
      (repeat (revert u136))
      (repeat (revert u135))
      (repeat (revert u134))
      (repeat (revert u133))
      (repeat (revert u132))
      (repeat (revert u131))
      (repeat (revert u130))
      (repeat (revert u129))
      (repeat (revert u128))
      (repeat (revert u127))
      (repeat (revert u126))
      (repeat (revert u125))
      (repeat (revert u124))
      (repeat (revert u123))
      (repeat (revert u122))
      (repeat (revert u121))
      (repeat (revert u120))
      (repeat (revert u119))
      (repeat (revert u118))
      (repeat (revert u117))
      (repeat (revert u116))
      (repeat (revert u115))
      (repeat (revert u114))
      (repeat (revert u113))
      (repeat (revert u112))
      (repeat (revert u111))
      (repeat (revert u110))
      (repeat (revert u109))
      (repeat (revert u108))
      (repeat (revert u107))
      (repeat (revert u106))
      (repeat (revert u105))
      (repeat (revert u104))
      (repeat (revert u103))
      (repeat (revert u102))
      (repeat (revert u101))
      (repeat (revert u100))
      (repeat (revert u99))
      (repeat (revert u98))
      (repeat (revert u97))
      (repeat (revert u96))
      (repeat (revert u95))
      (repeat (revert u94))
      (repeat (revert u93))
      (repeat (revert u92))
      (repeat (revert u91))
      (repeat (revert u90))
      (repeat (revert u89))
      (repeat (revert u88))
      (repeat (revert u87))
      (repeat (revert u86))
      (repeat (revert u85))
      (repeat (revert u84))
      (repeat (revert u83))
      (repeat (revert u82))
      (repeat (revert u81))
      (repeat (revert u80))
      (repeat (revert u79))
      (repeat (revert u78))
      (repeat (revert u77))
      (repeat (revert u76))
      (repeat (revert u75))
      (repeat (revert u74))
      (repeat (revert u73))
      (repeat (revert u72))
      (repeat (revert u71))
      (repeat (revert u70))
      (repeat (revert u69))
      (repeat (revert u68))
      (repeat (revert u67))
      (repeat (revert u66))
      (repeat (revert u65))
      (repeat (revert u64))
      (repeat (revert u63))
      (repeat (revert u62))
      (repeat (revert u61))
      (repeat (revert u60))
      (repeat (revert u59))
      (repeat (revert u58))
      (repeat (revert u57))
      (repeat (revert u56))
      (repeat (revert u55))
      (repeat (revert u54))
      (repeat (revert u53))
      (repeat (revert u52))
      (repeat (revert u51))
      (repeat (revert u50))
      (repeat (revert u49))
      (repeat (revert u48))
      (repeat (revert u47))
      (repeat (revert u46))
      (repeat (revert u45))
      (repeat (revert u44))
      (repeat (revert u43))
      (repeat (revert u42))
      (repeat (revert u41))
      (repeat (revert u40))
      (repeat (revert u39))
      (repeat (revert u38))
      (repeat (revert u37))
      (repeat (revert u36))
      (repeat (revert u35))
      (repeat (revert u34))
      (repeat (revert u33))
      (repeat (revert u32))
      (repeat (revert u31))
      (repeat (revert u30))
      (repeat (revert u29))
      (repeat (revert u28))
      (repeat (revert u27))
      (repeat (revert u26))
      (repeat (revert u25))
      (repeat (revert u24))
      (repeat (revert u23))
      (repeat (revert u22))
      (repeat (revert u21))
      (repeat (revert u20))
      (repeat (revert u19))
      (repeat (revert u18))
      (repeat (revert u17))
      (repeat (revert u16))
      (repeat (revert u15))
      (repeat (revert u14))
      (repeat (revert u13))
      (repeat (revert u12))
      (repeat (revert u11))
      (repeat (revert u10))
      (repeat (revert u9))
      (repeat (revert u8))
      (repeat (revert u7))
      (repeat (revert u6))
      (repeat (revert u5))
      (repeat (revert u4))
      (repeat (revert u3))
      (repeat (revert u2))
      (repeat (revert u1))
      (repeat (revert u0))
      (repeat (revert p))
      exact @Cap.get _ cUt1
end Go.Proofs.YtgfloegaoofbbaaDoor
