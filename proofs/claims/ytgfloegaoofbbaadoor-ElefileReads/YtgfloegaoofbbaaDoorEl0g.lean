import Derived.Test.YtgfloegaoofbbaaDoorEl0f
/- refRead11_any: part El0g of a long walk. (capt.py) -/
/- The document's side of layer 11: Read. (gen_ekb.py) -/
namespace Go.Proofs.YtgfloegaoofbbaaDoor
set_option maxRecDepth 100000
open Go.RowKit Go.Shelf Go.Lib
attribute [local go_sem] run_store_str run_store_float
set_option maxHeartbeats 64000000 in
theorem el0g_t : el0f_c.P1 := by
  intro p
  unhygienic intros
  have hjc' : (j : Int) ≤ (cc : Int) := by omega
  have hj0 : (0 : Int) ≤ (j : Int) := by omega
  have hjn : (j : Int) < (nws : Int) := by omega
  obtain ⟨x, hx⟩ : ∃ x, ws[j]? = some x := ⟨_, List.getElem?_eq_getElem (by rw [hnws.out]; omega)⟩
  obtain ⟨hxl, gw, ow, rfl, hcw⟩ := HWd.out j x hx
  have z2 := hcw wr HBv.out
  obtain ⟨ox, hox⟩ : ∃ ox, Hid (rdInt x = ox) := ⟨_, Lib.hid rfl⟩
  have HInt : Hid (Calls Tryd.prog 9 #[sv x] wr fun e w' => e = .returned (intR ox) ∧ Below wr.heap.size wr w') := Lib.hid (by rw [← hox.out]; exact refIntE x wr hxl)
  have HX := Lib.hid hx
  clear hx hcw hxl
  cases ox with
  | none =>
    unfold intR at HInt
    try dsimp only at HInt
    have HBad : Hid (intsE (ws.take (1 + cc)) = none) := Lib.hid (intsE_none HX.out hox.out (by omega))
    go_wp2_with fail
    refine HInt.out.mono ?_
    rintro e W2 ⟨rfl, hb2⟩
    have hB2 : Below V.heap.size V W2 := HBv.out.trans (hb2.mono HBv.out.size)
    have HB2 := Lib.hid hB2
    clear hB2 hb2 z2 HO v0 v1 v2 v3
    as_aux_lemma =>
    obtain ⟨We, hWe⟩ : ∃ X, (W2).drew = X := ⟨_, rfl⟩
    have HR : Hid (CB We w.heap.size fe4 24 ∧ Below w.heap.size w We) := Lib.hid (by rw [← hWe]; exact ⟨(HR1.out _ (Below.drew HB2.out)).1, Below.drew (HR1.out W2 HB2.out).2⟩)
    have l2 : We.cell? ⟨gL, oL + i * 2, none⟩ = some (.int .i64 (nq : Nat)) := by rw [← hWe]; exact (HKn.out _ HB2.out).1
    obtain ⟨k20, k21, k22, k23⟩ := HR.out.1.cells4E
    have f20 := HR.out.1.frozen 0
    have f21 := HR.out.1.frozen 1
    have f22 := HR.out.1.frozen 2
    have f23 := HR.out.1.frozen 3
    have HTV := Lib.hid (show reV p t = (fe0, nq, (4 : Int)) by rw [HRe.out]; exact fl_bad hQ.out (by omega) HGo.out (rwE_no (Or.inr HBad.out)) (by decide))
    have hgn : gL ≠ w.heap.size := HgL.out.1
    have hgn2 : w.heap.size ≠ gL := HgL.out.2
    go_wp2_with fail
    go_region
    all_goals
      go_wp2
      refine bodyPost_ret (res_ref11 _ w.heap.size _ _ _ _ _ _ _ (set4E HR.out.1 _ _ _ _) rfl rfl rfl) rfl ?_
      exact R11.bad (set4_bel HR.out.2 _ _ _ _) HTV.out
  | some n =>
    unfold intR at HInt
    try dsimp only at HInt
    have HInR : Hid (InR n) := Lib.hid (rd_iff.1 hox.out).1
    have HNl := HN2.out.1
    obtain ⟨na, nc', hnv⟩ := own_sliceE HO.out
    rw [HNl] at hnv
    subst hnv
    clear v0 v2 v3
    go_wp2_with (first
      | (go_at_call 9; refine HInt.out.mono ?_; rintro e W2 ⟨rfl, hb2⟩; have HB2 := Lib.hid (HBi.out.trans (hb2.mono HBi.out.size)); have HO2 := Lib.hid (own_later HO.out hb2); clear hb2)
      | (at_builtin; refine wpList_append_own _ rfl _ _ 35 rfl Wi.heap.size 3 i0 (.int .i64 0) 1 8 Tryd.underlying35 hi0 hz0 hz1 hz2 rfl (by decide) (.slice na j nc') ns.length (isV ns) rfl (World.ownsRow.alloc HO2.out _) ⟨W2.heap.size, 0, none⟩ 1 1 [.int .i64 n] rfl rfl (cell_one_new _ _ _) (by simp [Value.oneCell']) (by rw [HNl]; unfold maxLen; omega) (by rw [HNl]; omega) (by have := HB2.out.size; simp; omega) ?_; intro v' W4 hown hgrow _; have HO4 := Lib.hid hown; have HB4 := Lib.hid ((HB2.out.alloc HB2.out.size _).grown hgrow (by have := HB2.out.size; simp; omega) (fun q hq => (World.ownsRow.lt HO2.out q hq).1)); clear hown hgrow))
    have HRl2 : Hid (∃ (j' : Nat) (ns' : List Int), ((j : Int) + 1) = ((j' : Nat) : Int) ∧ j' ≤ cc + 1 ∧ Hid (Below Wi.heap.size Wi W4 ∧ W4.ownsRow Wi.heap.size 3 1 v' ns'.length (isV ns') ∧ ns'.length = j' ∧ intsE (ws.take j') = some ns' ∧ ∀ n ∈ ns', InR n) ∧ j' = j + 1) := Lib.hid ⟨j + 1, ns ++ [n], by omega, by omega, Lib.hid ⟨HB4.out, by rw [List.length_append, isV_app]; exact HO4.out, by rw [List.length_append, HNl]; rfl, intsE_snocR HN2.out.2.1 HX.out hox.out, fun m hm => by
      rcases List.mem_append.1 hm with hm | hm
      · exact HN2.out.2.2 m hm
      · rw [List.mem_singleton.1 hm]; exact HInR.out⟩, rfl⟩
    go_roundw
    case rel =>
      obtain ⟨j', ns', e1, e2, e3, _⟩ := HRl2.out
      exact ⟨j', ns', by rw [← e1], e2, e3⟩
    case measure => simp [RowKit.intOf]; omega
end Go.Proofs.YtgfloegaoofbbaaDoor
