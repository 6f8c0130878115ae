import Derived.Test.YtgfloegaoofbbaaDoorEl00
/- refRead11_any: part El0a of a long walk. (capt.py) -/
/- The document's side of layer 11: Read. (gen_ekb.py) -/
namespace Go.Proofs.YtgfloegaoofbbaaDoor
set_option maxRecDepth 100000
open Go.RowKit Go.Shelf Go.Lib
attribute [local go_sem] run_store_str run_store_float
set_option maxHeartbeats 64000000 in
theorem el0a_t : el00_c.P1 := by
  intro p
  unhygienic intros
  have hlt' : (j : Int) < (nw : Int) := by omega
  have hj0 : (0 : Int) ≤ (j : Int) := by omega
  obtain ⟨x, hx⟩ : ∃ x, ws0[j]? = some x := ⟨_, List.getElem?_eq_getElem (by rw [hnw.out]; exact hlt)⟩
  obtain ⟨gw, ow, rfl, hgw, hcw⟩ := HWm.out j x hx
  have z2 : wr.cell? ⟨gw, ow + j, none⟩ = some (sv x) := cell_later HB.out hgw hcw
  obtain ⟨ox, hox⟩ : ∃ ox, Hid (rdInt x = ox) := ⟨_, Lib.hid rfl⟩
  have HInt : Hid (Calls Tryd.prog 9 #[sv x] wr fun e w' => e = .returned (intR ox) ∧ Below wr.heap.size wr w') := Lib.hid (by rw [← hox.out]; exact refIntE x wr (HS0.out.1 x (List.mem_of_getElem? hx)))
  have HX := Lib.hid hx
  clear hx hcw
  cases ox with
  | none =>
    have HBad : Hid (heP ws0 = none) := Lib.hid (heP_no (by
      by_cases h3 : ws0.length = 3
      · exact Or.inr (intsE_none HX.out hox.out (by rw [← h3, hnw.out]; exact hlt))
      · exact Or.inl h3))
    unfold intR at HInt
    try dsimp only at HInt
    go_wp2_with fail
    refine HInt.out.mono ?_
    rintro e W2 ⟨rfl, hb2⟩
    have hB2 : Below W1.heap.size W1 W2 := HB.out.trans (hb2.mono HB.out.size)
    have HB2 := Lib.hid hB2
    clear hB2 hb2 z0 z1 z2 HO
    as_aux_lemma =>
    obtain ⟨We, hWe⟩ : ∃ X, (W2).drew = X := ⟨_, rfl⟩
    have HR : Hid (CB We w.heap.size fe4 24 ∧ Below w.heap.size w We) := Lib.hid (by rw [← hWe]; exact ⟨(H1.out.1.later (Below.drew HB2.out)), Below.drew (H1.out.2.1.trans (HB2.out.mono (Nat.le_of_lt H1.out.2.2)))⟩)
    have l2 : We.cell? ⟨gL, oL, none⟩ = some (.int .i64 (no0 : Nat)) := by rw [← hWe]; exact (H00.out W2 HB2.out).1
    obtain ⟨k20, k21, k22, k23⟩ := HR.out.1.cells4E
    have f20 := HR.out.1.frozen 0
    have f21 := HR.out.1.frozen 1
    have f22 := HR.out.1.frozen 2
    have f23 := HR.out.1.frozen 3
    have HTV := Lib.hid (show reV p t = (fe0, no0, (4 : Int)) from hd_bad her.out HL0.out HBad.out)
    have hgn : gL ≠ w.heap.size := HgL.out.1
    have hgn2 : w.heap.size ≠ gL := HgL.out.2
    go_wp2_with fail
    go_region
    all_goals
      go_wp2
      refine bodyPost_ret (res_ref11 _ w.heap.size _ _ _ _ _ _ _ (set4E HR.out.1 _ _ _ _) rfl rfl rfl) rfl ?_
      exact R11.bad (set4_bel HR.out.2 _ _ _ _) HTV.out
  | some n =>
    unfold intR at HInt
    try dsimp only at HInt
    have HInR : Hid (InR n) := Lib.hid (rd_iff.1 hox.out).1
    by_cases h2 : 2 < j
    · have h2' : (2 : Int) < (j : Int) := by omega
      have HBad : Hid (heP ws0 = none) := Lib.hid (heP_no (Or.inl (by rw [hnw.out]; omega)))
      go_wp2_with fail
      refine HInt.out.mono ?_
      rintro e W2 ⟨rfl, hb2⟩
      have hB2 : Below W1.heap.size W1 W2 := HB.out.trans (hb2.mono HB.out.size)
      have HB2 := Lib.hid hB2
      clear hB2 hb2 z0 z1 z2 HO
      as_aux_lemma =>
      obtain ⟨We, hWe⟩ : ∃ X, (W2).drew = X := ⟨_, rfl⟩
      have HR : Hid (CB We w.heap.size fe4 24 ∧ Below w.heap.size w We) := Lib.hid (by rw [← hWe]; exact ⟨(H1.out.1.later (Below.drew HB2.out)), Below.drew (H1.out.2.1.trans (HB2.out.mono (Nat.le_of_lt H1.out.2.2)))⟩)
      have l2 : We.cell? ⟨gL, oL, none⟩ = some (.int .i64 (no0 : Nat)) := by rw [← hWe]; exact (H00.out W2 HB2.out).1
      obtain ⟨k20, k21, k22, k23⟩ := HR.out.1.cells4E
      have f20 := HR.out.1.frozen 0
      have f21 := HR.out.1.frozen 1
      have f22 := HR.out.1.frozen 2
      have f23 := HR.out.1.frozen 3
      have HTV := Lib.hid (show reV p t = (fe0, no0, (4 : Int)) from hd_bad her.out HL0.out HBad.out)
      have hgn : gL ≠ w.heap.size := HgL.out.1
      have hgn2 : w.heap.size ≠ gL := HgL.out.2
      go_wp2_with fail
      go_region
      all_goals
        go_wp2
        refine bodyPost_ret (res_ref11 _ w.heap.size _ _ _ _ _ _ _ (set4E HR.out.1 _ _ _ _) rfl rfl rfl) rfl ?_
        exact R11.bad (set4_bel HR.out.2 _ _ _ _) HTV.out
    · have h2' : ¬ ((2 : Int) < (j : Int)) := by omega
      have HNl := HN.out.1
      go_wp2_with (first
        | (go_at_call 9; refine HInt.out.mono ?_; rintro e W2 ⟨rfl, hb2⟩; have HB2 := Lib.hid (HB.out.trans (hb2.mono HB.out.size)); have HO2 := Lib.hid (own_later HO.out hb2); clear hb2)
        | (at_builtin; refine wpList_append_own _ rfl _ _ 35 rfl W1.heap.size 3 i0 (.int .i64 0) 1 8 Tryd.underlying35 hi0 hz0 hz1 hz2 rfl (by decide) u8 ns.length (isV ns) rfl (World.ownsRow.alloc HO2.out _) ⟨W2.heap.size, 0, none⟩ 1 1 [.int .i64 n] rfl rfl (cell_one_new _ _ _) (by simp [Value.oneCell']) (by rw [HNl]; unfold maxLen; omega) (by rw [HNl]; omega) (by have := HB2.out.size; simp; omega) ?_; intro v' W4 hown hgrow _; have HO4 := Lib.hid hown; have HB4 := Lib.hid ((HB2.out.alloc HB2.out.size _).grown hgrow (by have := HB2.out.size; simp; omega) (fun q hq => (World.ownsRow.lt HO2.out q hq).1)); clear hown hgrow))
      go_roundw
      case rel => exact ⟨j + 1, ns ++ [n], by go_num, by omega, by omega, HB4.out, by rw [List.length_append, isV_app]; exact HO4.out, by rw [List.length_append, HNl]; rfl, intsE_snocR HN.out.2.1 HX.out hox.out, fun m hm => by
        rcases List.mem_append.1 hm with hm | hm
        · exact HN.out.2.2 m hm
        · rw [List.mem_singleton.1 hm]; exact HInR.out⟩
      case measure => simp [RowKit.intOf]; omega
end Go.Proofs.YtgfloegaoofbbaaDoor
