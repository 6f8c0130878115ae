import Derived.Test.YtgfloegaoofbbaaDoorEl0k
/- refRead11_any: part El0l of a long walk. (capt.py) -/
/- The document's side of layer 11: Read. (gen_ekb.py) -/
namespace Go.Proofs.YtgfloegaoofbbaaDoor
set_option maxRecDepth 100000
open Go.RowKit Go.Shelf Go.Lib
attribute [local go_sem] run_store_str run_store_float
set_option maxHeartbeats 64000000 in
theorem el0l_t : el0k_c.P1 := by
  intro p
  unhygienic intros
  have hgk' : (g : Int) < (nws : Int) := by omega
  obtain ⟨x, hx⟩ : ∃ x, ws[g]? = some x := ⟨_, List.getElem?_eq_getElem (by rw [hnws.out]; omega)⟩
  have HXd : Hid ((ws.drop (1 + m))[h]? = some x) := Lib.hid (by rw [List.getElem?_drop, show 1 + m + h = g by omega]; exact hx)
  obtain ⟨hxl, gw, ow, rfl, hcw⟩ := HWd.out g x hx
  have z2 := hcw wr HBw.out
  obtain ⟨fx, hfx⟩ : ∃ v, Hid ((p.rf x).1 = v) := ⟨_, Lib.hid rfl⟩
  obtain ⟨ex, hex⟩ : ∃ v, Hid ((p.rf x).2 = v) := ⟨_, Lib.hid rfl⟩
  have HFl : Hid (Calls Tryd.prog 10 #[sv x] wr fun e w' => e = .returned (.tuple #[.float .f64 fx, .int .i64 ex]) ∧ Below wr.heap.size wr w') := Lib.hid (by rw [← hfx.out, ← hex.out]; exact refFloatE HP.out x wr hxl)
  clear hx hcw hxl
  by_cases he : ex = 0
  rotate_left
  · have he1 : (ex == 0) = false := by rw [beq_eq_false_iff_ne]; exact he
    have he2 : (ex != 0) = true := by rw [bne_iff_ne]; exact he
    have HEx := Lib.hid he
    clear he
    go_wp2_with fail
    refine HFl.out.mono ?_
    rintro e W2 ⟨rfl, hb2⟩
    have hB2 : Below V.heap.size V W2 := HBw.out.trans (hb2.mono HBw.out.size)
    have HB2 := Lib.hid hB2
    clear hB2 hb2 z2
    as_aux_lemma =>
    obtain ⟨We, hWe⟩ : ∃ X, (W2).drew = X := ⟨_, rfl⟩
    have HR : Hid (CB We w.heap.size fe4 24 ∧ Below w.heap.size w We) := Lib.hid (by rw [← hWe]; exact ⟨(HR1.out _ (Below.drew HB2.out)).1, Below.drew (HR1.out W2 HB2.out).2⟩)
    have l2 : We.cell? ⟨gL, oL + i * 2, none⟩ = some (.int .i64 (nq : Nat)) := by rw [← hWe]; exact (HKn.out _ HB2.out).1
    obtain ⟨k20, k21, k22, k23⟩ := HR.out.1.cells4E
    have f20 := HR.out.1.frozen 0
    have f21 := HR.out.1.frozen 1
    have f22 := HR.out.1.frozen 2
    have f23 := HR.out.1.frozen 3
    have HTV := Lib.hid (show reV p t = (fe0, nq, (ex : Int)) by rw [HRe.out]; exact fl_bad hQ.out (by omega) HGo.out (flt_bad HIe.out hnws.out hlen HMm.out.1 hf'.out HRt.out.2 HXd.out HFz.out hex.out HEx.out) HEx.out)
    have hgn : gL ≠ w.heap.size := HgL.out.1
    have hgn2 : w.heap.size ≠ gL := HgL.out.2
    go_wp2_with fail
    go_region
    all_goals
      go_wp2
      refine bodyPost_ret (res_ref11 _ w.heap.size _ _ _ _ _ _ _ (set4E HR.out.1 _ _ _ _) rfl rfl rfl) rfl ?_
      exact R11.bad (set4_bel HR.out.2 _ _ _ _) HTV.out
  subst he
  have HNx : Hid (((ws.drop (1 + m)).take (h + 1)).map (fun w => (p.rf w).1) = fs ++ [fx] ∧ ∀ y ∈ (ws.drop (1 + m)).take (h + 1), (p.rf y).2 = 0) := Lib.hid (by
    obtain ⟨h1, h2⟩ := List.getElem?_eq_some_iff.1 HXd.out
    rw [List.take_succ_eq_append_getElem h1, h2, List.map_append, ← HFs.out, List.map_cons, hfx.out]
    refine ⟨rfl, fun y hy => ?_⟩
    rcases List.mem_append.1 hy with hy | hy
    · exact HFz.out y hy
    · rw [List.mem_singleton.1 hy]; exact hex.out)
  have HFl2 : Hid (fs.length = h) := Lib.hid (by rw [HFs.out, List.length_map, List.length_take, List.length_drop, hnws.out]; omega)
  obtain ⟨aa, ac, hav⟩ := own_sliceE HRr.out.oa
  rw [HFl2.out] at hav
  subst hav
  have hkk2 : h ≤ 16 := by omega
  have HR2 : Hid (∀ W, Below wr.heap.size wr W → Rr V5 W Br tv (.slice aa h ac) ts fs ∧ W.cell? ⟨Br, 1, none⟩ = some (.slice aa h ac)) := Lib.hid (fun W hb => ⟨HRr.out.later hb, (HRr.out.later hb).rb.cell 1 (by simp)⟩)
  go_wp2_with (first
    | (go_at_call 10; refine HFl.out.mono ?_; rintro e W2 ⟨rfl, hb2⟩; have HRx := Lib.hid (HR2.out W2 hb2).1; have hcx := (HR2.out W2 hb2).2; clear hb2)
    | (at_builtin; refine wpList_append_own _ rfl _ _ 36 rfl (Br + 1) 39 j0 (.float .f64 0) 1 8 Tryd.underlying36 hj0 jz0 jz1 jz2 rfl (by decide) (.slice aa h ac) fs.length (f64s fs) rfl (World.ownsRow.alloc HRx.out.oa _) ⟨W2.heap.size, 0, none⟩ 1 1 [.float .f64 fx] rfl rfl (cell_one_new _ _ _) (by simp [Value.oneCell']) (by rw [HFl2.out]; unfold maxLen; omega) (by rw [HFl2.out]; omega) (by have := HRx.out.rb.lt; simp; omega) ?_; intro v9 W4 hown hgrow _; obtain ⟨na, nc, hv9⟩ := own_sliceE hown; subst hv9; obtain ⟨⟨p1, p2⟩, hR9⟩ := (HRx.out.later ((Below.refl _ W2).alloc (Nat.le_refl _) (.cells #[.float .f64 fx] 39))).growA hown hgrow; have HR9 := Lib.hid hR9; clear hown hgrow hR9 hcx))
  go_roundw
  case rel => exact ⟨g + 1, h + 1, _, fs ++ [fx], by go_num, by omega, by omega, by omega, HR9.out, HNx.out.1.symm, HNx.out.2⟩
  case measure => simp [RowKit.intOf]; omega
end Go.Proofs.YtgfloegaoofbbaaDoor
