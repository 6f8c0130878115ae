import Derived.Test.YtgfloegaoofbbaaDoorEl0k
/- refRead11_any: part El0m of a long walk. (capt.py) -/
/- The document's side of layer 11: Read. (gen_ekb.py) -/
namespace Go.Proofs.YtgfloegaoofbbaaDoor
set_option maxRecDepth 100000
open Go.RowKit Go.Shelf Go.Lib
attribute [local go_sem] run_store_str run_store_float
set_option maxHeartbeats 64000000 in
theorem el0m_t : el0k_c.P2 := by
  intro p
  unhygienic intros
  have hgk' : ¬ ((g : Int) < (nws : Int)) := by omega
  obtain rfl : h = kk := by omega
  have HRw : Hid (rwE p (fst1 L) m h jj ws = 0 ∧ rwV p (fst1 L) m ws = ⟨ts, fs⟩) := Lib.hid (by
    have hd : (ws.drop (1 + m)).take h = ws.drop (1 + m) := List.take_of_length_le (by rw [List.length_drop, hnws.out]; omega)
    have h1 := HFs.out
    have h2 := HFz.out
    rw [hd] at h1 h2
    have := row_ok (p := p) (k := h) HIe.out hnws.out hlen HMm.out.1 hf'.out HRt.out.2 h2
    rw [hts.out, ← h1] at this
    exact this)
  obtain ⟨ta, tc, htv⟩ := own_sliceE HRr.out.ot
  obtain ⟨aa, ac, hav⟩ := own_sliceE HRr.out.oa
  obtain ⟨tl, htl⟩ : ∃ l, Hid (ts.length = l) := ⟨_, Lib.hid rfl⟩
  obtain ⟨al', hal'⟩ : ∃ l, Hid (fs.length = l) := ⟨_, Lib.hid rfl⟩
  rw [htl.out] at htv
  rw [hal'.out] at hav
  subst htv hav
  have HZw : Hid (Rz w V wr Bf ((f' : Nat) : Int) m h (.slice la jj lc) rs) := Lib.hid (HZ5.out.later HRr.out.bel)
  have HCo2 := Lib.hid (And.intro (Co.own HRr.out.ot) (Co.own HRr.out.oa))
  obtain ⟨wf0, wf1, wf2, wf3⟩ := HZw.out.fb.cells4E
  obtain ⟨r0, r1⟩ := HRr.out.rb.cells2E
  have HBr : Hid (Bf < Br) := Lib.hid (by have := HZ5.out.fb.lt; have := HRr.out.hB; omega)
  obtain ⟨y0', hy0', yz0, yz1, yz2⟩ := info_parts (show (Tryd.prog.info? 49).map (fun i => (i.zero, i.size, i.bytes)) = some (some (.agg rw2), 2, 48) by kernel_rfl)
  clear wf0 wf1 wf2
  go_wp2_with (at_builtin; refine wpList_append_own _ rfl _ _ 22 rfl (Bf + 1) 49 y0' (.agg rw2) 2 48 Tryd.underlying22 hy0' yz0 yz1 yz2 rfl (by decide) (.slice la jj lc) rs.length (rcs rs) rfl (World.ownsRow.alloc HZw.out.eo.own _) ⟨wr.heap.size, 0, none⟩ 1 1 [.slice ta tl tc, .slice aa al' ac] rfl rfl (World.news_of_block (cs := #[.slice ta tl tc, .slice aa al' ac]) (t := 49) (fr := (0, 0)) (heap_alloc_new wr _)) (by simp [Value.oneCell']) (by rw [HRl.out]; unfold maxLen; omega) (by rw [HRl.out]; omega) (by have := HZw.out.fb.lt; simp; omega) ?_; intro v9 W9 hown hgrow _; obtain ⟨na, nc, hv9⟩ := own_sliceE hown; subst hv9; obtain ⟨⟨s1, s2⟩, h9⟩ := (HZw.out.later ((Below.refl _ wr).alloc (Nat.le_refl _) (.cells #[.slice ta tl tc, .slice aa al' ac] 49))).append (q := (⟨ts, fs⟩, .slice ta tl tc, .slice aa al' ac)) ⟨(HCo2.out.1.base (by have := HBr.out; omega)).later ((Below.refl _ wr).alloc (Nat.le_refl _) _), (HCo2.out.2.base (by have := HBr.out; omega)).later ((Below.refl _ wr).alloc (Nat.le_refl _) _)⟩ hown hgrow; have H9 := Lib.hid h9; clear hown hgrow h9)
  have HGn : Hid (goE p (fst1 L) m h 0 (L.take (jj + 1)) = .inr ((rs ++ [((⟨ts, fs⟩ : Rw), Value.slice ta tl tc, Value.slice aa al' ac)]).map (·.1))) := Lib.hid (by
    have h1 := fl_step hQ.out HGo.out HRw.out.1
    rw [h1, HRw.out.2]
    simp)
  go_roundw
  case rel => exact ⟨jj + 1, i + 1, f', _, rs ++ [((⟨ts, fs⟩ : Rw), Value.slice ta tl tc, Value.slice aa al' ac)], by go_num, by omega, by omega, by omega, by omega, H9.out, by rw [List.length_append, HRl.out]; rfl, by rw [if_neg (by omega)]; exact hf'.out.symm, HGn.out⟩
  case measure => simp [RowKit.intOf]; omega
end Go.Proofs.YtgfloegaoofbbaaDoor
