/- Own texts, put together: Yw. -/
import Derived.Test.YtifjfgafpfefpaaDoorV4
import Derived.Test.YtifjfgafpfefpaaDoorV33
/- The law SwitchesPrint. (gen_yw.py) -/
namespace Go.Proofs.YtifjfgafpfefpaaDoor
set_option maxRecDepth 100000
open Go.RowKit Go.Shelf Go.Lib
attribute [local go_sem] run_store_float
section
variable {ops : Array Oper} {rest : List Oper} {o : Oper} {a : Act} {w : World} {Q : Exit → Act → World → Prop}
theorem wpl_wv {v : Value} (hw : Region.wanted o (yielded ops a.tmps) = true) (hr : (execOp a.eval o).run Tryd.prog w = .ok (.value v) w) (h : wpList Tryd.prog ops Q rest (a.put o.dst v) w) : wpList Tryd.prog ops Q (o :: rest) a w :=
 BigFrame.wpList_want hw fun K hK => by
   have h' := hK _ _ h
   clear hK h
   unfold Oper.wp
   rw [hr]
   exact h'
theorem wpl_check {t : Nat} {v : Value} {R : Ending → World → Prop} (hw : Region.wanted o (yielded ops a.tmps) = true) (ho : o.op = .call { callee := .value (.func 9), args := #[.tmp t], argTypes := #[24] }) (hv : a.eval (.tmp t) = v) (hC : Calls Tryd.prog 9 #[v] w R) (h : ∀ e w', R e w' → ∃ r, e = .returned r ∧ wpList Tryd.prog ops Q rest (a.put o.dst r) w') : wpList Tryd.prog ops Q (o :: rest) a w :=
 BigFrame.wpList_want hw fun K hK => by
   have hv' : (a.tmps[t]?).getD undef = v := by rw [← Array.getD_eq_getD_getElem?]; exact hv
   have hK' : Hid (∀ a w, wpList Tryd.prog ops Q rest a w → K a w) := Lib.hid hK
   have h' := Lib.hid h
   clear hK h hw
   unfold Oper.wp execOp
   rw [ho]
   go_simp
   refine hC.mono ?_
   intro e w' hR
   obtain ⟨r, rfl, h2⟩ := h'.out e w' hR
   exact hK'.out _ _ h2
theorem wpl_rcheck {t : Nat} {v : Value} {R : Ending → World → Prop} (hw : Region.wanted o (yielded ops a.tmps) = true) (ho : o.op = .call { callee := .value (.func 10), args := #[.tmp t], argTypes := #[24] }) (hv : a.eval (.tmp t) = v) (hC : Calls Tryd.prog 10 #[v] w R) (h : ∀ e w', R e w' → ∃ r, e = .returned r ∧ wpList Tryd.prog ops Q rest (a.put o.dst r) w') : wpList Tryd.prog ops Q (o :: rest) a w :=
 BigFrame.wpList_want hw fun K hK => by
   have hv' : (a.tmps[t]?).getD undef = v := by rw [← Array.getD_eq_getD_getElem?]; exact hv
   have hK' : Hid (∀ a w, wpList Tryd.prog ops Q rest a w → K a w) := Lib.hid hK
   have h' := Lib.hid h
   clear hK h hw
   unfold Oper.wp execOp
   rw [ho]
   go_simp
   refine hC.mono ?_
   intro e w' hR
   obtain ⟨r, rfl, h2⟩ := h'.out e w' hR
   exact hK'.out _ _ h2
theorem wpl_rprint {t : Nat} {v : Value} {R : Ending → World → Prop} (hw : Region.wanted o (yielded ops a.tmps) = true) (ho : o.op = .call { callee := .value (.func 8), args := #[.tmp t], argTypes := #[24] }) (hv : a.eval (.tmp t) = v) (hC : Calls Tryd.prog 8 #[v] w R) (h : ∀ e w', R e w' → ∃ r, e = .returned r ∧ wpList Tryd.prog ops Q rest (a.put o.dst r) w') : wpList Tryd.prog ops Q (o :: rest) a w :=
 BigFrame.wpList_want hw fun K hK => by
   have hv' : (a.tmps[t]?).getD undef = v := by rw [← Array.getD_eq_getD_getElem?]; exact hv
   have hK' : Hid (∀ a w, wpList Tryd.prog ops Q rest a w → K a w) := Lib.hid hK
   have h' := Lib.hid h
   clear hK h hw
   unfold Oper.wp execOp
   rw [ho]
   go_simp
   refine hC.mono ?_
   intro e w' hR
   obtain ⟨r, rfl, h2⟩ := h'.out e w' hR
   exact hK'.out _ _ h2
theorem wpl_awake {R : Ending → World → Prop} (hw : Region.wanted o (yielded ops a.tmps) = true) (ho : o.op = .call { callee := .value (.func 11), args := #[], argTypes := #[] }) (hC : Calls Tryd.prog 11 #[] w R) (h : ∀ e w', R e w' → ∃ r, e = .returned r ∧ wpList Tryd.prog ops Q rest (a.put o.dst r) w') : wpList Tryd.prog ops Q (o :: rest) a w :=
 BigFrame.wpList_want hw fun K hK => by
   have hK' : Hid (∀ a w, wpList Tryd.prog ops Q rest a w → K a w) := Lib.hid hK
   have h' := Lib.hid h
   clear hK h hw
   unfold Oper.wp execOp
   rw [ho]
   go_simp
   refine hC.mono ?_
   intro e w' hR
   obtain ⟨r, rfl, h2⟩ := h'.out e w' hR
   exact hK'.out _ _ h2
end
theorem region19 {P : Program} {Q : Exit → Act → World → Prop} {id : Nat} {o0 o1 o2 o3 o4 o5 o6 o7 o8 o9 o10 o11 o12 o13 o14 o15 o16 o17 o18 : Oper} {a : Act} {w : World} (hm : P.follows .mixedOrders = true)
   (hos : lin .any [o0, o1, o2, o3, o4, o5, o6, o7, o8, o9, o10, o11, o12, o13, o14, o15, o16, o17, o18].toArray 19 (Array.replicate 19 false) = [[0, 1, 2, 3, 4, 5, 6, 7, 8, 9, 10, 11, 12, 13, 14, 15, 16, 17, 18], [0, 1, 2, 3, 4, 5, 6, 7, 8, 9, 11, 10, 12, 13, 14, 15, 16, 17, 18], [0, 1, 2, 3, 4, 5, 6, 7, 8, 11, 9, 10, 12, 13, 14, 15, 16, 17, 18], [0, 1, 2, 3, 5, 4, 6, 7, 8, 9, 10, 11, 12, 13, 14, 15, 16, 17, 18], [0, 1, 2, 3, 5, 4, 6, 7, 8, 9, 11, 10, 12, 13, 14, 15, 16, 17, 18], [0, 1, 2, 3, 5, 4, 6, 7, 8, 11, 9, 10, 12, 13, 14, 15, 16, 17, 18], [1, 0, 2, 3, 4, 5, 6, 7, 8, 9, 10, 11, 12, 13, 14, 15, 16, 17, 18], [1, 0, 2, 3, 4, 5, 6, 7, 8, 9, 11, 10, 12, 13, 14, 15, 16, 17, 18], [1, 0, 2, 3, 4, 5, 6, 7, 8, 11, 9, 10, 12, 13, 14, 15, 16, 17, 18], [1, 0, 2, 3, 5, 4, 6, 7, 8, 9, 10, 11, 12, 13, 14, 15, 16, 17, 18], [1, 0, 2, 3, 5, 4, 6, 7, 8, 9, 11, 10, 12, 13, 14, 15, 16, 17, 18], [1, 0, 2, 3, 5, 4, 6, 7, 8, 11, 9, 10, 12, 13, 14, 15, 16, 17, 18]])
   (h0 : wpList P [o0, o1, o2, o3, o4, o5, o6, o7, o8, o9, o10, o11, o12, o13, o14, o15, o16, o17, o18].toArray Q [o0, o1, o2, o3, o4, o5, o6, o7, o8, o9, o10, o11, o12, o13, o14, o15, o16, o17, o18] a w.drew)
   (h1 : wpList P [o0, o1, o2, o3, o4, o5, o6, o7, o8, o9, o10, o11, o12, o13, o14, o15, o16, o17, o18].toArray Q [o0, o1, o2, o3, o4, o5, o6, o7, o8, o9, o11, o10, o12, o13, o14, o15, o16, o17, o18] a w.drew)
   (h2 : wpList P [o0, o1, o2, o3, o4, o5, o6, o7, o8, o9, o10, o11, o12, o13, o14, o15, o16, o17, o18].toArray Q [o0, o1, o2, o3, o4, o5, o6, o7, o8, o11, o9, o10, o12, o13, o14, o15, o16, o17, o18] a w.drew)
   (h3 : wpList P [o0, o1, o2, o3, o4, o5, o6, o7, o8, o9, o10, o11, o12, o13, o14, o15, o16, o17, o18].toArray Q [o0, o1, o2, o3, o5, o4, o6, o7, o8, o9, o10, o11, o12, o13, o14, o15, o16, o17, o18] a w.drew)
   (h4 : wpList P [o0, o1, o2, o3, o4, o5, o6, o7, o8, o9, o10, o11, o12, o13, o14, o15, o16, o17, o18].toArray Q [o0, o1, o2, o3, o5, o4, o6, o7, o8, o9, o11, o10, o12, o13, o14, o15, o16, o17, o18] a w.drew)
   (h5 : wpList P [o0, o1, o2, o3, o4, o5, o6, o7, o8, o9, o10, o11, o12, o13, o14, o15, o16, o17, o18].toArray Q [o0, o1, o2, o3, o5, o4, o6, o7, o8, o11, o9, o10, o12, o13, o14, o15, o16, o17, o18] a w.drew)
   (h6 : wpList P [o0, o1, o2, o3, o4, o5, o6, o7, o8, o9, o10, o11, o12, o13, o14, o15, o16, o17, o18].toArray Q [o1, o0, o2, o3, o4, o5, o6, o7, o8, o9, o10, o11, o12, o13, o14, o15, o16, o17, o18] a w.drew)
   (h7 : wpList P [o0, o1, o2, o3, o4, o5, o6, o7, o8, o9, o10, o11, o12, o13, o14, o15, o16, o17, o18].toArray Q [o1, o0, o2, o3, o4, o5, o6, o7, o8, o9, o11, o10, o12, o13, o14, o15, o16, o17, o18] a w.drew)
   (h8 : wpList P [o0, o1, o2, o3, o4, o5, o6, o7, o8, o9, o10, o11, o12, o13, o14, o15, o16, o17, o18].toArray Q [o1, o0, o2, o3, o4, o5, o6, o7, o8, o11, o9, o10, o12, o13, o14, o15, o16, o17, o18] a w.drew)
   (h9 : wpList P [o0, o1, o2, o3, o4, o5, o6, o7, o8, o9, o10, o11, o12, o13, o14, o15, o16, o17, o18].toArray Q [o1, o0, o2, o3, o5, o4, o6, o7, o8, o9, o10, o11, o12, o13, o14, o15, o16, o17, o18] a w.drew)
   (h10 : wpList P [o0, o1, o2, o3, o4, o5, o6, o7, o8, o9, o10, o11, o12, o13, o14, o15, o16, o17, o18].toArray Q [o1, o0, o2, o3, o5, o4, o6, o7, o8, o9, o11, o10, o12, o13, o14, o15, o16, o17, o18] a w.drew)
   (h11 : wpList P [o0, o1, o2, o3, o4, o5, o6, o7, o8, o9, o10, o11, o12, o13, o14, o15, o16, o17, o18].toArray Q [o1, o0, o2, o3, o5, o4, o6, o7, o8, o11, o9, o10, o12, o13, o14, o15, o16, o17, o18] a w.drew) : (Code.region id [o0, o1, o2, o3, o4, o5, o6, o7, o8, o9, o10, o11, o12, o13, o14, o15, o16, o17, o18].toArray true).wp P Q a w := by
 refine wp_region_orders hm _ hos ?_
 intro o ho
 simp only [List.mem_cons, List.not_mem_nil, or_false] at ho
 rcases ho with rfl | rfl | rfl | rfl | rfl | rfl | rfl | rfl | rfl | rfl | rfl | rfl
 · exact h0
 · exact h1
 · exact h2
 · exact h3
 · exact h4
 · exact h5
 · exact h6
 · exact h7
 · exact h8
 · exact h9
 · exact h10
 · exact h11
set_option maxHeartbeats 16000000 in
theorem print14 (p : Pn) (w : World) (hT : T8 w) (ha : p.ang < 18446744073709551616) (hr : p.area < 18446744073709551616) (hs : InR p.st) :
   Calls Tryd.prog 3 #[.agg (pls p).toArray] w fun e w' => e = .returned (.bool true) ∧ Below w.heap.size w w' := by
 obtain ⟨f, hf⟩ := fp_ex
 have hp1 := fun W (h : T8 W) => print_any hf p W h ha hr hs
 have hp2 := fun W => refPrint_any hf p W ha hr hs
 obtain ⟨er, her⟩ : ∃ er, (prtS f p).2 = er := ⟨_, rfl⟩
 obtain ⟨s, hsx⟩ : ∃ s : ByteArray, (⟨(prtS f p).1.toArray⟩ : ByteArray) = s := ⟨_, rfl⟩
 rw [her, show sv (prtS f p).1 = .string s from congrArg Value.string hsx] at hp1 hp2
 have H1 := Lib.hid hp1
 have H2 := Lib.hid hp2
 obtain ⟨ce, hce⟩ : ∃ ce, chkS p = ce := ⟨_, rfl⟩
 have hc := fun W => checkS_any p W
 have hr2 := fun W => refCheck_any p W
 rw [chkR_is] at hr2
 rw [hce] at hc hr2
 have HC := Lib.hid hc
 have HR := Lib.hid hr2
 have HA := Lib.hid (fun W h => awake14 W h)
 have HT := Lib.hid hT
 obtain ⟨W, hW⟩ : ∃ W, w.alloc (.cells (pls p).toArray 24) = W := ⟨_, rfl⟩
 obtain ⟨B, hB⟩ : ∃ B, w.heap.size = B := ⟨_, rfl⟩
 have HW : Hid (Pl W B p ∧ Below w.heap.size w W) := Lib.hid ⟨by rw [← hW, ← hB]; exact CB.new w _ _, by rw [← hW]; exact (Below.refl _ w).alloc (Nat.le_refl _) _⟩
 clear hp1 hp2 hc hr2 hT ha hr hs her hsx hce hf
 go_enter Tryd.func3, Tryd.ntmps3
 go_upto_region 1 with fail
 try rw [hW]
 try rw [hB]
 clear hW hB
 refine wp_region_lit ?_
 refine wpl_loadG (p := p) rfl rfl rfl HW.out.1 ?_
 simp only [Act.put, List.setIfInBounds_toArray, List.set_cons_succ, List.set_cons_zero]
 refine wpl_printT rfl rfl rfl (H1.out W (HT.out.later HW.out.2)) ?_
 rintro e W2 ⟨rfl, hb2⟩
 refine ⟨_, rfl, ?_⟩
 have HX : Hid (Pl W2 B p ∧ Below w.heap.size w W2) := Lib.hid ⟨CB.later HW.out.1 hb2, HW.out.2.trans (hb2.mono HW.out.2.size)⟩
 clear hb2 HW
 simp only [Act.put, List.setIfInBounds_toArray, List.set_cons_succ, List.set_cons_zero]
 refine wpList_moveY rfl 9 _ rfl rfl ?_
 simp only [Act.put, List.setIfInBounds_toArray, List.set_cons_succ, List.set_cons_zero]
 refine wpl_extr (i := 0) rfl rfl rfl rfl ?_
 simp only [Act.put, List.setIfInBounds_toArray, List.set_cons_succ, List.set_cons_zero]
 refine wpl_extr (i := 1) rfl rfl rfl rfl ?_
 simp only [Act.put, List.setIfInBounds_toArray, List.set_cons_succ, List.set_cons_zero]
 refine wpl_assign rfl rfl rfl ?_
 simp only [Act.put, List.setIfInBounds_toArray, List.set_cons_succ, List.set_cons_zero]
 refine wpl_assign rfl rfl rfl ?_
 go_upto_region 2 with fail
 refine wp_region_lit ?_
 refine wpl_loadG (p := p) rfl rfl rfl HX.out.1 ?_
 simp only [Act.put, List.setIfInBounds_toArray, List.set_cons_succ, List.set_cons_zero]
 refine wpl_rprint rfl rfl rfl (H2.out W2) ?_
 rintro e W4 ⟨rfl, hb4⟩
 refine ⟨_, rfl, ?_⟩
 have HY : Hid (Pl W4 B p ∧ Below w.heap.size w W4) := Lib.hid ⟨CB.later HX.out.1 hb4, HX.out.2.trans (hb4.mono HX.out.2.size)⟩
 clear hb4 HX
 simp only [Act.put, List.setIfInBounds_toArray, List.set_cons_succ, List.set_cons_zero]
 refine wpList_moveY rfl 14 _ rfl rfl ?_
 simp only [Act.put, List.setIfInBounds_toArray, List.set_cons_succ, List.set_cons_zero]
 refine wpl_extr (i := 0) rfl rfl rfl rfl ?_
 simp only [Act.put, List.setIfInBounds_toArray, List.set_cons_succ, List.set_cons_zero]
 refine wpl_extr (i := 1) rfl rfl rfl rfl ?_
 simp only [Act.put, List.setIfInBounds_toArray, List.set_cons_succ, List.set_cons_zero]
 refine wpl_assign rfl rfl rfl ?_
 simp only [Act.put, List.setIfInBounds_toArray, List.set_cons_succ, List.set_cons_zero]
 refine wpl_assign rfl rfl rfl ?_
 go_upto_region 3 with fail
 have HG : Hid (Pl W4.drew B p ∧ Below w.heap.size w W4.drew) := Lib.hid ⟨CB.later HY.out.1 (Below.refl _ _).drew, HY.out.2.drew⟩
 clear HY H1 H2
 refine region19 (by kernel_rfl) (by kernel_rfl) ?_ ?_ ?_ ?_ ?_ ?_ ?_ ?_ ?_ ?_ ?_ ?_
 · as_aux_lemma =>
   have hP0 := HG.out.1
   have hB0 := HG.out.2
   refine wpl_wv rfl (v := .string s) (by unfold execOp; go_simp) ?_
   simp only [Act.put, List.setIfInBounds_toArray, List.set_cons_succ, List.set_cons_zero]
   refine wpl_wv rfl (v := .string s) (by unfold execOp; go_simp) ?_
   simp only [Act.put, List.setIfInBounds_toArray, List.set_cons_succ, List.set_cons_zero]
   refine wpl_wv rfl (v := .bool true) (by unfold execOp; go_simp) ?_
   simp only [Act.put, List.setIfInBounds_toArray, List.set_cons_succ, List.set_cons_zero]
   refine wpl_wv rfl (v := .bool true) (by unfold execOp; go_simp) ?_
   simp only [Act.put, List.setIfInBounds_toArray, List.set_cons_succ, List.set_cons_zero]
   refine wpl_wv rfl (v := .int .i64 er) (by unfold execOp; go_simp) ?_
   simp only [Act.put, List.setIfInBounds_toArray, List.set_cons_succ, List.set_cons_zero]
   refine wpl_wv rfl (v := .int .i64 er) (by unfold execOp; go_simp) ?_
   simp only [Act.put, List.setIfInBounds_toArray, List.set_cons_succ, List.set_cons_zero]
   refine wpl_wv rfl (v := .bool true) (by unfold execOp; go_simp) ?_
   simp only [Act.put, List.setIfInBounds_toArray, List.set_cons_succ, List.set_cons_zero]
   refine wpl_wv rfl (v := .bool true) (by unfold execOp; go_simp) ?_
   simp only [Act.put, List.setIfInBounds_toArray, List.set_cons_succ, List.set_cons_zero]
   refine wpl_wv rfl (v := .bool true) (by unfold execOp; go_simp) ?_
   simp only [Act.put, List.setIfInBounds_toArray, List.set_cons_succ, List.set_cons_zero]
   refine wpl_loadG rfl rfl rfl hP0 ?_
   simp only [Act.put, List.setIfInBounds_toArray, List.set_cons_succ, List.set_cons_zero]
   refine wpl_check rfl rfl rfl (HC.out _) ?_
   rintro e V1 ⟨rfl, hb1⟩
   refine ⟨_, rfl, ?_⟩
   have hP1 := CB.later hP0 hb1
   have hB1 := hB0.trans (hb1.mono hB0.size)
   simp only [Act.put, List.setIfInBounds_toArray, List.set_cons_succ, List.set_cons_zero]
   refine wpl_loadG rfl rfl rfl hP1 ?_
   simp only [Act.put, List.setIfInBounds_toArray, List.set_cons_succ, List.set_cons_zero]
   refine wpl_rcheck rfl rfl rfl (HR.out _) ?_
   rintro e V2 ⟨rfl, hb2⟩
   refine ⟨_, rfl, ?_⟩
   have hP2 := CB.later hP1 hb2
   have hB2 := hB1.trans (hb2.mono hB1.size)
   simp only [Act.put, List.setIfInBounds_toArray, List.set_cons_succ, List.set_cons_zero]
   refine wpl_wv rfl (v := .bool true) (by unfold execOp; go_simp) ?_
   simp only [Act.put, List.setIfInBounds_toArray, List.set_cons_succ, List.set_cons_zero]
   refine wpl_wv rfl (v := .bool true) (by unfold execOp; go_simp) ?_
   simp only [Act.put, List.setIfInBounds_toArray, List.set_cons_succ, List.set_cons_zero]
   refine wpl_wv rfl (v := .bool true) (by unfold execOp; go_simp) ?_
   simp only [Act.put, List.setIfInBounds_toArray, List.set_cons_succ, List.set_cons_zero]
   refine wpl_awake rfl rfl (HA.out _ (HT.out.later hB2)) ?_
   rintro e V3 ⟨rfl, hb3⟩
   refine ⟨_, rfl, ?_⟩
   have hB3 := hB2.trans (hb3.mono hB2.size)
   simp only [Act.put, List.setIfInBounds_toArray, List.set_cons_succ, List.set_cons_zero]
   refine wpl_wv rfl (v := .bool true) (by unfold execOp; go_simp) ?_
   simp only [Act.put, List.setIfInBounds_toArray, List.set_cons_succ, List.set_cons_zero]
   refine wpl_wv rfl (v := .bool true) (by unfold execOp; go_simp) ?_
   simp only [Act.put, List.setIfInBounds_toArray, List.set_cons_succ, List.set_cons_zero]
   have HE := Lib.hid hB3
   clear hP0 hP1 hP2 hB0 hB1 hB2 hB3 hb1 hb2 hb3
   refine wpList_nil ?_
   go_wp2
   go_ret
   exact ⟨rfl, HE.out⟩
 · as_aux_lemma =>
   have hP0 := HG.out.1
   have hB0 := HG.out.2
   refine wpl_wv rfl (v := .string s) (by unfold execOp; go_simp) ?_
   simp only [Act.put, List.setIfInBounds_toArray, List.set_cons_succ, List.set_cons_zero]
   refine wpl_wv rfl (v := .string s) (by unfold execOp; go_simp) ?_
   simp only [Act.put, List.setIfInBounds_toArray, List.set_cons_succ, List.set_cons_zero]
   refine wpl_wv rfl (v := .bool true) (by unfold execOp; go_simp) ?_
   simp only [Act.put, List.setIfInBounds_toArray, List.set_cons_succ, List.set_cons_zero]
   refine wpl_wv rfl (v := .bool true) (by unfold execOp; go_simp) ?_
   simp only [Act.put, List.setIfInBounds_toArray, List.set_cons_succ, List.set_cons_zero]
   refine wpl_wv rfl (v := .int .i64 er) (by unfold execOp; go_simp) ?_
   simp only [Act.put, List.setIfInBounds_toArray, List.set_cons_succ, List.set_cons_zero]
   refine wpl_wv rfl (v := .int .i64 er) (by unfold execOp; go_simp) ?_
   simp only [Act.put, List.setIfInBounds_toArray, List.set_cons_succ, List.set_cons_zero]
   refine wpl_wv rfl (v := .bool true) (by unfold execOp; go_simp) ?_
   simp only [Act.put, List.setIfInBounds_toArray, List.set_cons_succ, List.set_cons_zero]
   refine wpl_wv rfl (v := .bool true) (by unfold execOp; go_simp) ?_
   simp only [Act.put, List.setIfInBounds_toArray, List.set_cons_succ, List.set_cons_zero]
   refine wpl_wv rfl (v := .bool true) (by unfold execOp; go_simp) ?_
   simp only [Act.put, List.setIfInBounds_toArray, List.set_cons_succ, List.set_cons_zero]
   refine wpl_loadG rfl rfl rfl hP0 ?_
   simp only [Act.put, List.setIfInBounds_toArray, List.set_cons_succ, List.set_cons_zero]
   refine wpl_loadG rfl rfl rfl hP0 ?_
   simp only [Act.put, List.setIfInBounds_toArray, List.set_cons_succ, List.set_cons_zero]
   refine wpl_check rfl rfl rfl (HC.out _) ?_
   rintro e V1 ⟨rfl, hb1⟩
   refine ⟨_, rfl, ?_⟩
   have hP1 := CB.later hP0 hb1
   have hB1 := hB0.trans (hb1.mono hB0.size)
   simp only [Act.put, List.setIfInBounds_toArray, List.set_cons_succ, List.set_cons_zero]
   refine wpl_rcheck rfl rfl rfl (HR.out _) ?_
   rintro e V2 ⟨rfl, hb2⟩
   refine ⟨_, rfl, ?_⟩
   have hP2 := CB.later hP1 hb2
   have hB2 := hB1.trans (hb2.mono hB1.size)
   simp only [Act.put, List.setIfInBounds_toArray, List.set_cons_succ, List.set_cons_zero]
   refine wpl_wv rfl (v := .bool true) (by unfold execOp; go_simp) ?_
   simp only [Act.put, List.setIfInBounds_toArray, List.set_cons_succ, List.set_cons_zero]
   refine wpl_wv rfl (v := .bool true) (by unfold execOp; go_simp) ?_
   simp only [Act.put, List.setIfInBounds_toArray, List.set_cons_succ, List.set_cons_zero]
   refine wpl_wv rfl (v := .bool true) (by unfold execOp; go_simp) ?_
   simp only [Act.put, List.setIfInBounds_toArray, List.set_cons_succ, List.set_cons_zero]
   refine wpl_awake rfl rfl (HA.out _ (HT.out.later hB2)) ?_
   rintro e V3 ⟨rfl, hb3⟩
   refine ⟨_, rfl, ?_⟩
   have hB3 := hB2.trans (hb3.mono hB2.size)
   simp only [Act.put, List.setIfInBounds_toArray, List.set_cons_succ, List.set_cons_zero]
   refine wpl_wv rfl (v := .bool true) (by unfold execOp; go_simp) ?_
   simp only [Act.put, List.setIfInBounds_toArray, List.set_cons_succ, List.set_cons_zero]
   refine wpl_wv rfl (v := .bool true) (by unfold execOp; go_simp) ?_
   simp only [Act.put, List.setIfInBounds_toArray, List.set_cons_succ, List.set_cons_zero]
   have HE := Lib.hid hB3
   clear hP0 hP1 hP2 hB0 hB1 hB2 hB3 hb1 hb2 hb3
   refine wpList_nil ?_
   go_wp2
   go_ret
   exact ⟨rfl, HE.out⟩
 · as_aux_lemma =>
   have hP0 := HG.out.1
   have hB0 := HG.out.2
   refine wpl_wv rfl (v := .string s) (by unfold execOp; go_simp) ?_
   simp only [Act.put, List.setIfInBounds_toArray, List.set_cons_succ, List.set_cons_zero]
   refine wpl_wv rfl (v := .string s) (by unfold execOp; go_simp) ?_
   simp only [Act.put, List.setIfInBounds_toArray, List.set_cons_succ, List.set_cons_zero]
   refine wpl_wv rfl (v := .bool true) (by unfold execOp; go_simp) ?_
   simp only [Act.put, List.setIfInBounds_toArray, List.set_cons_succ, List.set_cons_zero]
   refine wpl_wv rfl (v := .bool true) (by unfold execOp; go_simp) ?_
   simp only [Act.put, List.setIfInBounds_toArray, List.set_cons_succ, List.set_cons_zero]
   refine wpl_wv rfl (v := .int .i64 er) (by unfold execOp; go_simp) ?_
   simp only [Act.put, List.setIfInBounds_toArray, List.set_cons_succ, List.set_cons_zero]
   refine wpl_wv rfl (v := .int .i64 er) (by unfold execOp; go_simp) ?_
   simp only [Act.put, List.setIfInBounds_toArray, List.set_cons_succ, List.set_cons_zero]
   refine wpl_wv rfl (v := .bool true) (by unfold execOp; go_simp) ?_
   simp only [Act.put, List.setIfInBounds_toArray, List.set_cons_succ, List.set_cons_zero]
   refine wpl_wv rfl (v := .bool true) (by unfold execOp; go_simp) ?_
   simp only [Act.put, List.setIfInBounds_toArray, List.set_cons_succ, List.set_cons_zero]
   refine wpl_wv rfl (v := .bool true) (by unfold execOp; go_simp) ?_
   simp only [Act.put, List.setIfInBounds_toArray, List.set_cons_succ, List.set_cons_zero]
   refine wpl_loadG rfl rfl rfl hP0 ?_
   simp only [Act.put, List.setIfInBounds_toArray, List.set_cons_succ, List.set_cons_zero]
   refine wpl_loadG rfl rfl rfl hP0 ?_
   simp only [Act.put, List.setIfInBounds_toArray, List.set_cons_succ, List.set_cons_zero]
   refine wpl_check rfl rfl rfl (HC.out _) ?_
   rintro e V1 ⟨rfl, hb1⟩
   refine ⟨_, rfl, ?_⟩
   have hP1 := CB.later hP0 hb1
   have hB1 := hB0.trans (hb1.mono hB0.size)
   simp only [Act.put, List.setIfInBounds_toArray, List.set_cons_succ, List.set_cons_zero]
   refine wpl_rcheck rfl rfl rfl (HR.out _) ?_
   rintro e V2 ⟨rfl, hb2⟩
   refine ⟨_, rfl, ?_⟩
   have hP2 := CB.later hP1 hb2
   have hB2 := hB1.trans (hb2.mono hB1.size)
   simp only [Act.put, List.setIfInBounds_toArray, List.set_cons_succ, List.set_cons_zero]
   refine wpl_wv rfl (v := .bool true) (by unfold execOp; go_simp) ?_
   simp only [Act.put, List.setIfInBounds_toArray, List.set_cons_succ, List.set_cons_zero]
   refine wpl_wv rfl (v := .bool true) (by unfold execOp; go_simp) ?_
   simp only [Act.put, List.setIfInBounds_toArray, List.set_cons_succ, List.set_cons_zero]
   refine wpl_wv rfl (v := .bool true) (by unfold execOp; go_simp) ?_
   simp only [Act.put, List.setIfInBounds_toArray, List.set_cons_succ, List.set_cons_zero]
   refine wpl_awake rfl rfl (HA.out _ (HT.out.later hB2)) ?_
   rintro e V3 ⟨rfl, hb3⟩
   refine ⟨_, rfl, ?_⟩
   have hB3 := hB2.trans (hb3.mono hB2.size)
   simp only [Act.put, List.setIfInBounds_toArray, List.set_cons_succ, List.set_cons_zero]
   refine wpl_wv rfl (v := .bool true) (by unfold execOp; go_simp) ?_
   simp only [Act.put, List.setIfInBounds_toArray, List.set_cons_succ, List.set_cons_zero]
   refine wpl_wv rfl (v := .bool true) (by unfold execOp; go_simp) ?_
   simp only [Act.put, List.setIfInBounds_toArray, List.set_cons_succ, List.set_cons_zero]
   have HE := Lib.hid hB3
   clear hP0 hP1 hP2 hB0 hB1 hB2 hB3 hb1 hb2 hb3
   refine wpList_nil ?_
   go_wp2
   go_ret
   exact ⟨rfl, HE.out⟩
 · as_aux_lemma =>
   have hP0 := HG.out.1
   have hB0 := HG.out.2
   refine wpl_wv rfl (v := .string s) (by unfold execOp; go_simp) ?_
   simp only [Act.put, List.setIfInBounds_toArray, List.set_cons_succ, List.set_cons_zero]
   refine wpl_wv rfl (v := .string s) (by unfold execOp; go_simp) ?_
   simp only [Act.put, List.setIfInBounds_toArray, List.set_cons_succ, List.set_cons_zero]
   refine wpl_wv rfl (v := .bool true) (by unfold execOp; go_simp) ?_
   simp only [Act.put, List.setIfInBounds_toArray, List.set_cons_succ, List.set_cons_zero]
   refine wpl_wv rfl (v := .bool true) (by unfold execOp; go_simp) ?_
   simp only [Act.put, List.setIfInBounds_toArray, List.set_cons_succ, List.set_cons_zero]
   refine wpl_wv rfl (v := .int .i64 er) (by unfold execOp; go_simp) ?_
   simp only [Act.put, List.setIfInBounds_toArray, List.set_cons_succ, List.set_cons_zero]
   refine wpl_wv rfl (v := .int .i64 er) (by unfold execOp; go_simp) ?_
   simp only [Act.put, List.setIfInBounds_toArray, List.set_cons_succ, List.set_cons_zero]
   refine wpl_wv rfl (v := .bool true) (by unfold execOp; go_simp) ?_
   simp only [Act.put, List.setIfInBounds_toArray, List.set_cons_succ, List.set_cons_zero]
   refine wpl_wv rfl (v := .bool true) (by unfold execOp; go_simp) ?_
   simp only [Act.put, List.setIfInBounds_toArray, List.set_cons_succ, List.set_cons_zero]
   refine wpl_wv rfl (v := .bool true) (by unfold execOp; go_simp) ?_
   simp only [Act.put, List.setIfInBounds_toArray, List.set_cons_succ, List.set_cons_zero]
   refine wpl_loadG rfl rfl rfl hP0 ?_
   simp only [Act.put, List.setIfInBounds_toArray, List.set_cons_succ, List.set_cons_zero]
   refine wpl_check rfl rfl rfl (HC.out _) ?_
   rintro e V1 ⟨rfl, hb1⟩
   refine ⟨_, rfl, ?_⟩
   have hP1 := CB.later hP0 hb1
   have hB1 := hB0.trans (hb1.mono hB0.size)
   simp only [Act.put, List.setIfInBounds_toArray, List.set_cons_succ, List.set_cons_zero]
   refine wpl_loadG rfl rfl rfl hP1 ?_
   simp only [Act.put, List.setIfInBounds_toArray, List.set_cons_succ, List.set_cons_zero]
   refine wpl_rcheck rfl rfl rfl (HR.out _) ?_
   rintro e V2 ⟨rfl, hb2⟩
   refine ⟨_, rfl, ?_⟩
   have hP2 := CB.later hP1 hb2
   have hB2 := hB1.trans (hb2.mono hB1.size)
   simp only [Act.put, List.setIfInBounds_toArray, List.set_cons_succ, List.set_cons_zero]
   refine wpl_wv rfl (v := .bool true) (by unfold execOp; go_simp) ?_
   simp only [Act.put, List.setIfInBounds_toArray, List.set_cons_succ, List.set_cons_zero]
   refine wpl_wv rfl (v := .bool true) (by unfold execOp; go_simp) ?_
   simp only [Act.put, List.setIfInBounds_toArray, List.set_cons_succ, List.set_cons_zero]
   refine wpl_wv rfl (v := .bool true) (by unfold execOp; go_simp) ?_
   simp only [Act.put, List.setIfInBounds_toArray, List.set_cons_succ, List.set_cons_zero]
   refine wpl_awake rfl rfl (HA.out _ (HT.out.later hB2)) ?_
   rintro e V3 ⟨rfl, hb3⟩
   refine ⟨_, rfl, ?_⟩
   have hB3 := hB2.trans (hb3.mono hB2.size)
   simp only [Act.put, List.setIfInBounds_toArray, List.set_cons_succ, List.set_cons_zero]
   refine wpl_wv rfl (v := .bool true) (by unfold execOp; go_simp) ?_
   simp only [Act.put, List.setIfInBounds_toArray, List.set_cons_succ, List.set_cons_zero]
   refine wpl_wv rfl (v := .bool true) (by unfold execOp; go_simp) ?_
   simp only [Act.put, List.setIfInBounds_toArray, List.set_cons_succ, List.set_cons_zero]
   have HE := Lib.hid hB3
   clear hP0 hP1 hP2 hB0 hB1 hB2 hB3 hb1 hb2 hb3
   refine wpList_nil ?_
   go_wp2
   go_ret
   exact ⟨rfl, HE.out⟩
 · as_aux_lemma =>
   have hP0 := HG.out.1
   have hB0 := HG.out.2
   refine wpl_wv rfl (v := .string s) (by unfold execOp; go_simp) ?_
   simp only [Act.put, List.setIfInBounds_toArray, List.set_cons_succ, List.set_cons_zero]
   refine wpl_wv rfl (v := .string s) (by unfold execOp; go_simp) ?_
   simp only [Act.put, List.setIfInBounds_toArray, List.set_cons_succ, List.set_cons_zero]
   refine wpl_wv rfl (v := .bool true) (by unfold execOp; go_simp) ?_
   simp only [Act.put, List.setIfInBounds_toArray, List.set_cons_succ, List.set_cons_zero]
   refine wpl_wv rfl (v := .bool true) (by unfold execOp; go_simp) ?_
   simp only [Act.put, List.setIfInBounds_toArray, List.set_cons_succ, List.set_cons_zero]
   refine wpl_wv rfl (v := .int .i64 er) (by unfold execOp; go_simp) ?_
   simp only [Act.put, List.setIfInBounds_toArray, List.set_cons_succ, List.set_cons_zero]
   refine wpl_wv rfl (v := .int .i64 er) (by unfold execOp; go_simp) ?_
   simp only [Act.put, List.setIfInBounds_toArray, List.set_cons_succ, List.set_cons_zero]
   refine wpl_wv rfl (v := .bool true) (by unfold execOp; go_simp) ?_
   simp only [Act.put, List.setIfInBounds_toArray, List.set_cons_succ, List.set_cons_zero]
   refine wpl_wv rfl (v := .bool true) (by unfold execOp; go_simp) ?_
   simp only [Act.put, List.setIfInBounds_toArray, List.set_cons_succ, List.set_cons_zero]
   refine wpl_wv rfl (v := .bool true) (by unfold execOp; go_simp) ?_
   simp only [Act.put, List.setIfInBounds_toArray, List.set_cons_succ, List.set_cons_zero]
   refine wpl_loadG rfl rfl rfl hP0 ?_
   simp only [Act.put, List.setIfInBounds_toArray, List.set_cons_succ, List.set_cons_zero]
   refine wpl_loadG rfl rfl rfl hP0 ?_
   simp only [Act.put, List.setIfInBounds_toArray, List.set_cons_succ, List.set_cons_zero]
   refine wpl_check rfl rfl rfl (HC.out _) ?_
   rintro e V1 ⟨rfl, hb1⟩
   refine ⟨_, rfl, ?_⟩
   have hP1 := CB.later hP0 hb1
   have hB1 := hB0.trans (hb1.mono hB0.size)
   simp only [Act.put, List.setIfInBounds_toArray, List.set_cons_succ, List.set_cons_zero]
   refine wpl_rcheck rfl rfl rfl (HR.out _) ?_
   rintro e V2 ⟨rfl, hb2⟩
   refine ⟨_, rfl, ?_⟩
   have hP2 := CB.later hP1 hb2
   have hB2 := hB1.trans (hb2.mono hB1.size)
   simp only [Act.put, List.setIfInBounds_toArray, List.set_cons_succ, List.set_cons_zero]
   refine wpl_wv rfl (v := .bool true) (by unfold execOp; go_simp) ?_
   simp only [Act.put, List.setIfInBounds_toArray, List.set_cons_succ, List.set_cons_zero]
   refine wpl_wv rfl (v := .bool true) (by unfold execOp; go_simp) ?_
   simp only [Act.put, List.setIfInBounds_toArray, List.set_cons_succ, List.set_cons_zero]
   refine wpl_wv rfl (v := .bool true) (by unfold execOp; go_simp) ?_
   simp only [Act.put, List.setIfInBounds_toArray, List.set_cons_succ, List.set_cons_zero]
   refine wpl_awake rfl rfl (HA.out _ (HT.out.later hB2)) ?_
   rintro e V3 ⟨rfl, hb3⟩
   refine ⟨_, rfl, ?_⟩
   have hB3 := hB2.trans (hb3.mono hB2.size)
   simp only [Act.put, List.setIfInBounds_toArray, List.set_cons_succ, List.set_cons_zero]
   refine wpl_wv rfl (v := .bool true) (by unfold execOp; go_simp) ?_
   simp only [Act.put, List.setIfInBounds_toArray, List.set_cons_succ, List.set_cons_zero]
   refine wpl_wv rfl (v := .bool true) (by unfold execOp; go_simp) ?_
   simp only [Act.put, List.setIfInBounds_toArray, List.set_cons_succ, List.set_cons_zero]
   have HE := Lib.hid hB3
   clear hP0 hP1 hP2 hB0 hB1 hB2 hB3 hb1 hb2 hb3
   refine wpList_nil ?_
   go_wp2
   go_ret
   exact ⟨rfl, HE.out⟩
 · as_aux_lemma =>
   have hP0 := HG.out.1
   have hB0 := HG.out.2
   refine wpl_wv rfl (v := .string s) (by unfold execOp; go_simp) ?_
   simp only [Act.put, List.setIfInBounds_toArray, List.set_cons_succ, List.set_cons_zero]
   refine wpl_wv rfl (v := .string s) (by unfold execOp; go_simp) ?_
   simp only [Act.put, List.setIfInBounds_toArray, List.set_cons_succ, List.set_cons_zero]
   refine wpl_wv rfl (v := .bool true) (by unfold execOp; go_simp) ?_
   simp only [Act.put, List.setIfInBounds_toArray, List.set_cons_succ, List.set_cons_zero]
   refine wpl_wv rfl (v := .bool true) (by unfold execOp; go_simp) ?_
   simp only [Act.put, List.setIfInBounds_toArray, List.set_cons_succ, List.set_cons_zero]
   refine wpl_wv rfl (v := .int .i64 er) (by unfold execOp; go_simp) ?_
   simp only [Act.put, List.setIfInBounds_toArray, List.set_cons_succ, List.set_cons_zero]
   refine wpl_wv rfl (v := .int .i64 er) (by unfold execOp; go_simp) ?_
   simp only [Act.put, List.setIfInBounds_toArray, List.set_cons_succ, List.set_cons_zero]
   refine wpl_wv rfl (v := .bool true) (by unfold execOp; go_simp) ?_
   simp only [Act.put, List.setIfInBounds_toArray, List.set_cons_succ, List.set_cons_zero]
   refine wpl_wv rfl (v := .bool true) (by unfold execOp; go_simp) ?_
   simp only [Act.put, List.setIfInBounds_toArray, List.set_cons_succ, List.set_cons_zero]
   refine wpl_wv rfl (v := .bool true) (by unfold execOp; go_simp) ?_
   simp only [Act.put, List.setIfInBounds_toArray, List.set_cons_succ, List.set_cons_zero]
   refine wpl_loadG rfl rfl rfl hP0 ?_
   simp only [Act.put, List.setIfInBounds_toArray, List.set_cons_succ, List.set_cons_zero]
   refine wpl_loadG rfl rfl rfl hP0 ?_
   simp only [Act.put, List.setIfInBounds_toArray, List.set_cons_succ, List.set_cons_zero]
   refine wpl_check rfl rfl rfl (HC.out _) ?_
   rintro e V1 ⟨rfl, hb1⟩
   refine ⟨_, rfl, ?_⟩
   have hP1 := CB.later hP0 hb1
   have hB1 := hB0.trans (hb1.mono hB0.size)
   simp only [Act.put, List.setIfInBounds_toArray, List.set_cons_succ, List.set_cons_zero]
   refine wpl_rcheck rfl rfl rfl (HR.out _) ?_
   rintro e V2 ⟨rfl, hb2⟩
   refine ⟨_, rfl, ?_⟩
   have hP2 := CB.later hP1 hb2
   have hB2 := hB1.trans (hb2.mono hB1.size)
   simp only [Act.put, List.setIfInBounds_toArray, List.set_cons_succ, List.set_cons_zero]
   refine wpl_wv rfl (v := .bool true) (by unfold execOp; go_simp) ?_
   simp only [Act.put, List.setIfInBounds_toArray, List.set_cons_succ, List.set_cons_zero]
   refine wpl_wv rfl (v := .bool true) (by unfold execOp; go_simp) ?_
   simp only [Act.put, List.setIfInBounds_toArray, List.set_cons_succ, List.set_cons_zero]
   refine wpl_wv rfl (v := .bool true) (by unfold execOp; go_simp) ?_
   simp only [Act.put, List.setIfInBounds_toArray, List.set_cons_succ, List.set_cons_zero]
   refine wpl_awake rfl rfl (HA.out _ (HT.out.later hB2)) ?_
   rintro e V3 ⟨rfl, hb3⟩
   refine ⟨_, rfl, ?_⟩
   have hB3 := hB2.trans (hb3.mono hB2.size)
   simp only [Act.put, List.setIfInBounds_toArray, List.set_cons_succ, List.set_cons_zero]
   refine wpl_wv rfl (v := .bool true) (by unfold execOp; go_simp) ?_
   simp only [Act.put, List.setIfInBounds_toArray, List.set_cons_succ, List.set_cons_zero]
   refine wpl_wv rfl (v := .bool true) (by unfold execOp; go_simp) ?_
   simp only [Act.put, List.setIfInBounds_toArray, List.set_cons_succ, List.set_cons_zero]
   have HE := Lib.hid hB3
   clear hP0 hP1 hP2 hB0 hB1 hB2 hB3 hb1 hb2 hb3
   refine wpList_nil ?_
   go_wp2
   go_ret
   exact ⟨rfl, HE.out⟩
 · as_aux_lemma =>
   have hP0 := HG.out.1
   have hB0 := HG.out.2
   refine wpl_wv rfl (v := .string s) (by unfold execOp; go_simp) ?_
   simp only [Act.put, List.setIfInBounds_toArray, List.set_cons_succ, List.set_cons_zero]
   refine wpl_wv rfl (v := .string s) (by unfold execOp; go_simp) ?_
   simp only [Act.put, List.setIfInBounds_toArray, List.set_cons_succ, List.set_cons_zero]
   refine wpl_wv rfl (v := .bool true) (by unfold execOp; go_simp) ?_
   simp only [Act.put, List.setIfInBounds_toArray, List.set_cons_succ, List.set_cons_zero]
   refine wpl_wv rfl (v := .bool true) (by unfold execOp; go_simp) ?_
   simp only [Act.put, List.setIfInBounds_toArray, List.set_cons_succ, List.set_cons_zero]
   refine wpl_wv rfl (v := .int .i64 er) (by unfold execOp; go_simp) ?_
   simp only [Act.put, List.setIfInBounds_toArray, List.set_cons_succ, List.set_cons_zero]
   refine wpl_wv rfl (v := .int .i64 er) (by unfold execOp; go_simp) ?_
   simp only [Act.put, List.setIfInBounds_toArray, List.set_cons_succ, List.set_cons_zero]
   refine wpl_wv rfl (v := .bool true) (by unfold execOp; go_simp) ?_
   simp only [Act.put, List.setIfInBounds_toArray, List.set_cons_succ, List.set_cons_zero]
   refine wpl_wv rfl (v := .bool true) (by unfold execOp; go_simp) ?_
   simp only [Act.put, List.setIfInBounds_toArray, List.set_cons_succ, List.set_cons_zero]
   refine wpl_wv rfl (v := .bool true) (by unfold execOp; go_simp) ?_
   simp only [Act.put, List.setIfInBounds_toArray, List.set_cons_succ, List.set_cons_zero]
   refine wpl_loadG rfl rfl rfl hP0 ?_
   simp only [Act.put, List.setIfInBounds_toArray, List.set_cons_succ, List.set_cons_zero]
   refine wpl_check rfl rfl rfl (HC.out _) ?_
   rintro e V1 ⟨rfl, hb1⟩
   refine ⟨_, rfl, ?_⟩
   have hP1 := CB.later hP0 hb1
   have hB1 := hB0.trans (hb1.mono hB0.size)
   simp only [Act.put, List.setIfInBounds_toArray, List.set_cons_succ, List.set_cons_zero]
   refine wpl_loadG rfl rfl rfl hP1 ?_
   simp only [Act.put, List.setIfInBounds_toArray, List.set_cons_succ, List.set_cons_zero]
   refine wpl_rcheck rfl rfl rfl (HR.out _) ?_
   rintro e V2 ⟨rfl, hb2⟩
   refine ⟨_, rfl, ?_⟩
   have hP2 := CB.later hP1 hb2
   have hB2 := hB1.trans (hb2.mono hB1.size)
   simp only [Act.put, List.setIfInBounds_toArray, List.set_cons_succ, List.set_cons_zero]
   refine wpl_wv rfl (v := .bool true) (by unfold execOp; go_simp) ?_
   simp only [Act.put, List.setIfInBounds_toArray, List.set_cons_succ, List.set_cons_zero]
   refine wpl_wv rfl (v := .bool true) (by unfold execOp; go_simp) ?_
   simp only [Act.put, List.setIfInBounds_toArray, List.set_cons_succ, List.set_cons_zero]
   refine wpl_wv rfl (v := .bool true) (by unfold execOp; go_simp) ?_
   simp only [Act.put, List.setIfInBounds_toArray, List.set_cons_succ, List.set_cons_zero]
   refine wpl_awake rfl rfl (HA.out _ (HT.out.later hB2)) ?_
   rintro e V3 ⟨rfl, hb3⟩
   refine ⟨_, rfl, ?_⟩
   have hB3 := hB2.trans (hb3.mono hB2.size)
   simp only [Act.put, List.setIfInBounds_toArray, List.set_cons_succ, List.set_cons_zero]
   refine wpl_wv rfl (v := .bool true) (by unfold execOp; go_simp) ?_
   simp only [Act.put, List.setIfInBounds_toArray, List.set_cons_succ, List.set_cons_zero]
   refine wpl_wv rfl (v := .bool true) (by unfold execOp; go_simp) ?_
   simp only [Act.put, List.setIfInBounds_toArray, List.set_cons_succ, List.set_cons_zero]
   have HE := Lib.hid hB3
   clear hP0 hP1 hP2 hB0 hB1 hB2 hB3 hb1 hb2 hb3
   refine wpList_nil ?_
   go_wp2
   go_ret
   exact ⟨rfl, HE.out⟩
 · as_aux_lemma =>
   have hP0 := HG.out.1
   have hB0 := HG.out.2
   refine wpl_wv rfl (v := .string s) (by unfold execOp; go_simp) ?_
   simp only [Act.put, List.setIfInBounds_toArray, List.set_cons_succ, List.set_cons_zero]
   refine wpl_wv rfl (v := .string s) (by unfold execOp; go_simp) ?_
   simp only [Act.put, List.setIfInBounds_toArray, List.set_cons_succ, List.set_cons_zero]
   refine wpl_wv rfl (v := .bool true) (by unfold execOp; go_simp) ?_
   simp only [Act.put, List.setIfInBounds_toArray, List.set_cons_succ, List.set_cons_zero]
   refine wpl_wv rfl (v := .bool true) (by unfold execOp; go_simp) ?_
   simp only [Act.put, List.setIfInBounds_toArray, List.set_cons_succ, List.set_cons_zero]
   refine wpl_wv rfl (v := .int .i64 er) (by unfold execOp; go_simp) ?_
   simp only [Act.put, List.setIfInBounds_toArray, List.set_cons_succ, List.set_cons_zero]
   refine wpl_wv rfl (v := .int .i64 er) (by unfold execOp; go_simp) ?_
   simp only [Act.put, List.setIfInBounds_toArray, List.set_cons_succ, List.set_cons_zero]
   refine wpl_wv rfl (v := .bool true) (by unfold execOp; go_simp) ?_
   simp only [Act.put, List.setIfInBounds_toArray, List.set_cons_succ, List.set_cons_zero]
   refine wpl_wv rfl (v := .bool true) (by unfold execOp; go_simp) ?_
   simp only [Act.put, List.setIfInBounds_toArray, List.set_cons_succ, List.set_cons_zero]
   refine wpl_wv rfl (v := .bool true) (by unfold execOp; go_simp) ?_
   simp only [Act.put, List.setIfInBounds_toArray, List.set_cons_succ, List.set_cons_zero]
   refine wpl_loadG rfl rfl rfl hP0 ?_
   simp only [Act.put, List.setIfInBounds_toArray, List.set_cons_succ, List.set_cons_zero]
   refine wpl_loadG rfl rfl rfl hP0 ?_
   simp only [Act.put, List.setIfInBounds_toArray, List.set_cons_succ, List.set_cons_zero]
   refine wpl_check rfl rfl rfl (HC.out _) ?_
   rintro e V1 ⟨rfl, hb1⟩
   refine ⟨_, rfl, ?_⟩
   have hP1 := CB.later hP0 hb1
   have hB1 := hB0.trans (hb1.mono hB0.size)
   simp only [Act.put, List.setIfInBounds_toArray, List.set_cons_succ, List.set_cons_zero]
   refine wpl_rcheck rfl rfl rfl (HR.out _) ?_
   rintro e V2 ⟨rfl, hb2⟩
   refine ⟨_, rfl, ?_⟩
   have hP2 := CB.later hP1 hb2
   have hB2 := hB1.trans (hb2.mono hB1.size)
   simp only [Act.put, List.setIfInBounds_toArray, List.set_cons_succ, List.set_cons_zero]
   refine wpl_wv rfl (v := .bool true) (by unfold execOp; go_simp) ?_
   simp only [Act.put, List.setIfInBounds_toArray, List.set_cons_succ, List.set_cons_zero]
   refine wpl_wv rfl (v := .bool true) (by unfold execOp; go_simp) ?_
   simp only [Act.put, List.setIfInBounds_toArray, List.set_cons_succ, List.set_cons_zero]
   refine wpl_wv rfl (v := .bool true) (by unfold execOp; go_simp) ?_
   simp only [Act.put, List.setIfInBounds_toArray, List.set_cons_succ, List.set_cons_zero]
   refine wpl_awake rfl rfl (HA.out _ (HT.out.later hB2)) ?_
   rintro e V3 ⟨rfl, hb3⟩
   refine ⟨_, rfl, ?_⟩
   have hB3 := hB2.trans (hb3.mono hB2.size)
   simp only [Act.put, List.setIfInBounds_toArray, List.set_cons_succ, List.set_cons_zero]
   refine wpl_wv rfl (v := .bool true) (by unfold execOp; go_simp) ?_
   simp only [Act.put, List.setIfInBounds_toArray, List.set_cons_succ, List.set_cons_zero]
   refine wpl_wv rfl (v := .bool true) (by unfold execOp; go_simp) ?_
   simp only [Act.put, List.setIfInBounds_toArray, List.set_cons_succ, List.set_cons_zero]
   have HE := Lib.hid hB3
   clear hP0 hP1 hP2 hB0 hB1 hB2 hB3 hb1 hb2 hb3
   refine wpList_nil ?_
   go_wp2
   go_ret
   exact ⟨rfl, HE.out⟩
 · as_aux_lemma =>
   have hP0 := HG.out.1
   have hB0 := HG.out.2
   refine wpl_wv rfl (v := .string s) (by unfold execOp; go_simp) ?_
   simp only [Act.put, List.setIfInBounds_toArray, List.set_cons_succ, List.set_cons_zero]
   refine wpl_wv rfl (v := .string s) (by unfold execOp; go_simp) ?_
   simp only [Act.put, List.setIfInBounds_toArray, List.set_cons_succ, List.set_cons_zero]
   refine wpl_wv rfl (v := .bool true) (by unfold execOp; go_simp) ?_
   simp only [Act.put, List.setIfInBounds_toArray, List.set_cons_succ, List.set_cons_zero]
   refine wpl_wv rfl (v := .bool true) (by unfold execOp; go_simp) ?_
   simp only [Act.put, List.setIfInBounds_toArray, List.set_cons_succ, List.set_cons_zero]
   refine wpl_wv rfl (v := .int .i64 er) (by unfold execOp; go_simp) ?_
   simp only [Act.put, List.setIfInBounds_toArray, List.set_cons_succ, List.set_cons_zero]
   refine wpl_wv rfl (v := .int .i64 er) (by unfold execOp; go_simp) ?_
   simp only [Act.put, List.setIfInBounds_toArray, List.set_cons_succ, List.set_cons_zero]
   refine wpl_wv rfl (v := .bool true) (by unfold execOp; go_simp) ?_
   simp only [Act.put, List.setIfInBounds_toArray, List.set_cons_succ, List.set_cons_zero]
   refine wpl_wv rfl (v := .bool true) (by unfold execOp; go_simp) ?_
   simp only [Act.put, List.setIfInBounds_toArray, List.set_cons_succ, List.set_cons_zero]
   refine wpl_wv rfl (v := .bool true) (by unfold execOp; go_simp) ?_
   simp only [Act.put, List.setIfInBounds_toArray, List.set_cons_succ, List.set_cons_zero]
   refine wpl_loadG rfl rfl rfl hP0 ?_
   simp only [Act.put, List.setIfInBounds_toArray, List.set_cons_succ, List.set_cons_zero]
   refine wpl_loadG rfl rfl rfl hP0 ?_
   simp only [Act.put, List.setIfInBounds_toArray, List.set_cons_succ, List.set_cons_zero]
   refine wpl_check rfl rfl rfl (HC.out _) ?_
   rintro e V1 ⟨rfl, hb1⟩
   refine ⟨_, rfl, ?_⟩
   have hP1 := CB.later hP0 hb1
   have hB1 := hB0.trans (hb1.mono hB0.size)
   simp only [Act.put, List.setIfInBounds_toArray, List.set_cons_succ, List.set_cons_zero]
   refine wpl_rcheck rfl rfl rfl (HR.out _) ?_
   rintro e V2 ⟨rfl, hb2⟩
   refine ⟨_, rfl, ?_⟩
   have hP2 := CB.later hP1 hb2
   have hB2 := hB1.trans (hb2.mono hB1.size)
   simp only [Act.put, List.setIfInBounds_toArray, List.set_cons_succ, List.set_cons_zero]
   refine wpl_wv rfl (v := .bool true) (by unfold execOp; go_simp) ?_
   simp only [Act.put, List.setIfInBounds_toArray, List.set_cons_succ, List.set_cons_zero]
   refine wpl_wv rfl (v := .bool true) (by unfold execOp; go_simp) ?_
   simp only [Act.put, List.setIfInBounds_toArray, List.set_cons_succ, List.set_cons_zero]
   refine wpl_wv rfl (v := .bool true) (by unfold execOp; go_simp) ?_
   simp only [Act.put, List.setIfInBounds_toArray, List.set_cons_succ, List.set_cons_zero]
   refine wpl_awake rfl rfl (HA.out _ (HT.out.later hB2)) ?_
   rintro e V3 ⟨rfl, hb3⟩
   refine ⟨_, rfl, ?_⟩
   have hB3 := hB2.trans (hb3.mono hB2.size)
   simp only [Act.put, List.setIfInBounds_toArray, List.set_cons_succ, List.set_cons_zero]
   refine wpl_wv rfl (v := .bool true) (by unfold execOp; go_simp) ?_
   simp only [Act.put, List.setIfInBounds_toArray, List.set_cons_succ, List.set_cons_zero]
   refine wpl_wv rfl (v := .bool true) (by unfold execOp; go_simp) ?_
   simp only [Act.put, List.setIfInBounds_toArray, List.set_cons_succ, List.set_cons_zero]
   have HE := Lib.hid hB3
   clear hP0 hP1 hP2 hB0 hB1 hB2 hB3 hb1 hb2 hb3
   refine wpList_nil ?_
   go_wp2
   go_ret
   exact ⟨rfl, HE.out⟩
 · as_aux_lemma =>
   have hP0 := HG.out.1
   have hB0 := HG.out.2
   refine wpl_wv rfl (v := .string s) (by unfold execOp; go_simp) ?_
   simp only [Act.put, List.setIfInBounds_toArray, List.set_cons_succ, List.set_cons_zero]
   refine wpl_wv rfl (v := .string s) (by unfold execOp; go_simp) ?_
   simp only [Act.put, List.setIfInBounds_toArray, List.set_cons_succ, List.set_cons_zero]
   refine wpl_wv rfl (v := .bool true) (by unfold execOp; go_simp) ?_
   simp only [Act.put, List.setIfInBounds_toArray, List.set_cons_succ, List.set_cons_zero]
   refine wpl_wv rfl (v := .bool true) (by unfold execOp; go_simp) ?_
   simp only [Act.put, List.setIfInBounds_toArray, List.set_cons_succ, List.set_cons_zero]
   refine wpl_wv rfl (v := .int .i64 er) (by unfold execOp; go_simp) ?_
   simp only [Act.put, List.setIfInBounds_toArray, List.set_cons_succ, List.set_cons_zero]
   refine wpl_wv rfl (v := .int .i64 er) (by unfold execOp; go_simp) ?_
   simp only [Act.put, List.setIfInBounds_toArray, List.set_cons_succ, List.set_cons_zero]
   refine wpl_wv rfl (v := .bool true) (by unfold execOp; go_simp) ?_
   simp only [Act.put, List.setIfInBounds_toArray, List.set_cons_succ, List.set_cons_zero]
   refine wpl_wv rfl (v := .bool true) (by unfold execOp; go_simp) ?_
   simp only [Act.put, List.setIfInBounds_toArray, List.set_cons_succ, List.set_cons_zero]
   refine wpl_wv rfl (v := .bool true) (by unfold execOp; go_simp) ?_
   simp only [Act.put, List.setIfInBounds_toArray, List.set_cons_succ, List.set_cons_zero]
   refine wpl_loadG rfl rfl rfl hP0 ?_
   simp only [Act.put, List.setIfInBounds_toArray, List.set_cons_succ, List.set_cons_zero]
   refine wpl_check rfl rfl rfl (HC.out _) ?_
   rintro e V1 ⟨rfl, hb1⟩
   refine ⟨_, rfl, ?_⟩
   have hP1 := CB.later hP0 hb1
   have hB1 := hB0.trans (hb1.mono hB0.size)
   simp only [Act.put, List.setIfInBounds_toArray, List.set_cons_succ, List.set_cons_zero]
   refine wpl_loadG rfl rfl rfl hP1 ?_
   simp only [Act.put, List.setIfInBounds_toArray, List.set_cons_succ, List.set_cons_zero]
   refine wpl_rcheck rfl rfl rfl (HR.out _) ?_
   rintro e V2 ⟨rfl, hb2⟩
   refine ⟨_, rfl, ?_⟩
   have hP2 := CB.later hP1 hb2
   have hB2 := hB1.trans (hb2.mono hB1.size)
   simp only [Act.put, List.setIfInBounds_toArray, List.set_cons_succ, List.set_cons_zero]
   refine wpl_wv rfl (v := .bool true) (by unfold execOp; go_simp) ?_
   simp only [Act.put, List.setIfInBounds_toArray, List.set_cons_succ, List.set_cons_zero]
   refine wpl_wv rfl (v := .bool true) (by unfold execOp; go_simp) ?_
   simp only [Act.put, List.setIfInBounds_toArray, List.set_cons_succ, List.set_cons_zero]
   refine wpl_wv rfl (v := .bool true) (by unfold execOp; go_simp) ?_
   simp only [Act.put, List.setIfInBounds_toArray, List.set_cons_succ, List.set_cons_zero]
   refine wpl_awake rfl rfl (HA.out _ (HT.out.later hB2)) ?_
   rintro e V3 ⟨rfl, hb3⟩
   refine ⟨_, rfl, ?_⟩
   have hB3 := hB2.trans (hb3.mono hB2.size)
   simp only [Act.put, List.setIfInBounds_toArray, List.set_cons_succ, List.set_cons_zero]
   refine wpl_wv rfl (v := .bool true) (by unfold execOp; go_simp) ?_
   simp only [Act.put, List.setIfInBounds_toArray, List.set_cons_succ, List.set_cons_zero]
   refine wpl_wv rfl (v := .bool true) (by unfold execOp; go_simp) ?_
   simp only [Act.put, List.setIfInBounds_toArray, List.set_cons_succ, List.set_cons_zero]
   have HE := Lib.hid hB3
   clear hP0 hP1 hP2 hB0 hB1 hB2 hB3 hb1 hb2 hb3
   refine wpList_nil ?_
   go_wp2
   go_ret
   exact ⟨rfl, HE.out⟩
 · as_aux_lemma =>
   have hP0 := HG.out.1
   have hB0 := HG.out.2
   refine wpl_wv rfl (v := .string s) (by unfold execOp; go_simp) ?_
   simp only [Act.put, List.setIfInBounds_toArray, List.set_cons_succ, List.set_cons_zero]
   refine wpl_wv rfl (v := .string s) (by unfold execOp; go_simp) ?_
   simp only [Act.put, List.setIfInBounds_toArray, List.set_cons_succ, List.set_cons_zero]
   refine wpl_wv rfl (v := .bool true) (by unfold execOp; go_simp) ?_
   simp only [Act.put, List.setIfInBounds_toArray, List.set_cons_succ, List.set_cons_zero]
   refine wpl_wv rfl (v := .bool true) (by unfold execOp; go_simp) ?_
   simp only [Act.put, List.setIfInBounds_toArray, List.set_cons_succ, List.set_cons_zero]
   refine wpl_wv rfl (v := .int .i64 er) (by unfold execOp; go_simp) ?_
   simp only [Act.put, List.setIfInBounds_toArray, List.set_cons_succ, List.set_cons_zero]
   refine wpl_wv rfl (v := .int .i64 er) (by unfold execOp; go_simp) ?_
   simp only [Act.put, List.setIfInBounds_toArray, List.set_cons_succ, List.set_cons_zero]
   refine wpl_wv rfl (v := .bool true) (by unfold execOp; go_simp) ?_
   simp only [Act.put, List.setIfInBounds_toArray, List.set_cons_succ, List.set_cons_zero]
   refine wpl_wv rfl (v := .bool true) (by unfold execOp; go_simp) ?_
   simp only [Act.put, List.setIfInBounds_toArray, List.set_cons_succ, List.set_cons_zero]
   refine wpl_wv rfl (v := .bool true) (by unfold execOp; go_simp) ?_
   simp only [Act.put, List.setIfInBounds_toArray, List.set_cons_succ, List.set_cons_zero]
   refine wpl_loadG rfl rfl rfl hP0 ?_
   simp only [Act.put, List.setIfInBounds_toArray, List.set_cons_succ, List.set_cons_zero]
   refine wpl_loadG rfl rfl rfl hP0 ?_
   simp only [Act.put, List.setIfInBounds_toArray, List.set_cons_succ, List.set_cons_zero]
   refine wpl_check rfl rfl rfl (HC.out _) ?_
   rintro e V1 ⟨rfl, hb1⟩
   refine ⟨_, rfl, ?_⟩
   have hP1 := CB.later hP0 hb1
   have hB1 := hB0.trans (hb1.mono hB0.size)
   simp only [Act.put, List.setIfInBounds_toArray, List.set_cons_succ, List.set_cons_zero]
   refine wpl_rcheck rfl rfl rfl (HR.out _) ?_
   rintro e V2 ⟨rfl, hb2⟩
   refine ⟨_, rfl, ?_⟩
   have hP2 := CB.later hP1 hb2
   have hB2 := hB1.trans (hb2.mono hB1.size)
   simp only [Act.put, List.setIfInBounds_toArray, List.set_cons_succ, List.set_cons_zero]
   refine wpl_wv rfl (v := .bool true) (by unfold execOp; go_simp) ?_
   simp only [Act.put, List.setIfInBounds_toArray, List.set_cons_succ, List.set_cons_zero]
   refine wpl_wv rfl (v := .bool true) (by unfold execOp; go_simp) ?_
   simp only [Act.put, List.setIfInBounds_toArray, List.set_cons_succ, List.set_cons_zero]
   refine wpl_wv rfl (v := .bool true) (by unfold execOp; go_simp) ?_
   simp only [Act.put, List.setIfInBounds_toArray, List.set_cons_succ, List.set_cons_zero]
   refine wpl_awake rfl rfl (HA.out _ (HT.out.later hB2)) ?_
   rintro e V3 ⟨rfl, hb3⟩
   refine ⟨_, rfl, ?_⟩
   have hB3 := hB2.trans (hb3.mono hB2.size)
   simp only [Act.put, List.setIfInBounds_toArray, List.set_cons_succ, List.set_cons_zero]
   refine wpl_wv rfl (v := .bool true) (by unfold execOp; go_simp) ?_
   simp only [Act.put, List.setIfInBounds_toArray, List.set_cons_succ, List.set_cons_zero]
   refine wpl_wv rfl (v := .bool true) (by unfold execOp; go_simp) ?_
   simp only [Act.put, List.setIfInBounds_toArray, List.set_cons_succ, List.set_cons_zero]
   have HE := Lib.hid hB3
   clear hP0 hP1 hP2 hB0 hB1 hB2 hB3 hb1 hb2 hb3
   refine wpList_nil ?_
   go_wp2
   go_ret
   exact ⟨rfl, HE.out⟩
 · as_aux_lemma =>
   have hP0 := HG.out.1
   have hB0 := HG.out.2
   refine wpl_wv rfl (v := .string s) (by unfold execOp; go_simp) ?_
   simp only [Act.put, List.setIfInBounds_toArray, List.set_cons_succ, List.set_cons_zero]
   refine wpl_wv rfl (v := .string s) (by unfold execOp; go_simp) ?_
   simp only [Act.put, List.setIfInBounds_toArray, List.set_cons_succ, List.set_cons_zero]
   refine wpl_wv rfl (v := .bool true) (by unfold execOp; go_simp) ?_
   simp only [Act.put, List.setIfInBounds_toArray, List.set_cons_succ, List.set_cons_zero]
   refine wpl_wv rfl (v := .bool true) (by unfold execOp; go_simp) ?_
   simp only [Act.put, List.setIfInBounds_toArray, List.set_cons_succ, List.set_cons_zero]
   refine wpl_wv rfl (v := .int .i64 er) (by unfold execOp; go_simp) ?_
   simp only [Act.put, List.setIfInBounds_toArray, List.set_cons_succ, List.set_cons_zero]
   refine wpl_wv rfl (v := .int .i64 er) (by unfold execOp; go_simp) ?_
   simp only [Act.put, List.setIfInBounds_toArray, List.set_cons_succ, List.set_cons_zero]
   refine wpl_wv rfl (v := .bool true) (by unfold execOp; go_simp) ?_
   simp only [Act.put, List.setIfInBounds_toArray, List.set_cons_succ, List.set_cons_zero]
   refine wpl_wv rfl (v := .bool true) (by unfold execOp; go_simp) ?_
   simp only [Act.put, List.setIfInBounds_toArray, List.set_cons_succ, List.set_cons_zero]
   refine wpl_wv rfl (v := .bool true) (by unfold execOp; go_simp) ?_
   simp only [Act.put, List.setIfInBounds_toArray, List.set_cons_succ, List.set_cons_zero]
   refine wpl_loadG rfl rfl rfl hP0 ?_
   simp only [Act.put, List.setIfInBounds_toArray, List.set_cons_succ, List.set_cons_zero]
   refine wpl_loadG rfl rfl rfl hP0 ?_
   simp only [Act.put, List.setIfInBounds_toArray, List.set_cons_succ, List.set_cons_zero]
   refine wpl_check rfl rfl rfl (HC.out _) ?_
   rintro e V1 ⟨rfl, hb1⟩
   refine ⟨_, rfl, ?_⟩
   have hP1 := CB.later hP0 hb1
   have hB1 := hB0.trans (hb1.mono hB0.size)
   simp only [Act.put, List.setIfInBounds_toArray, List.set_cons_succ, List.set_cons_zero]
   refine wpl_rcheck rfl rfl rfl (HR.out _) ?_
   rintro e V2 ⟨rfl, hb2⟩
   refine ⟨_, rfl, ?_⟩
   have hP2 := CB.later hP1 hb2
   have hB2 := hB1.trans (hb2.mono hB1.size)
   simp only [Act.put, List.setIfInBounds_toArray, List.set_cons_succ, List.set_cons_zero]
   refine wpl_wv rfl (v := .bool true) (by unfold execOp; go_simp) ?_
   simp only [Act.put, List.setIfInBounds_toArray, List.set_cons_succ, List.set_cons_zero]
   refine wpl_wv rfl (v := .bool true) (by unfold execOp; go_simp) ?_
   simp only [Act.put, List.setIfInBounds_toArray, List.set_cons_succ, List.set_cons_zero]
   refine wpl_wv rfl (v := .bool true) (by unfold execOp; go_simp) ?_
   simp only [Act.put, List.setIfInBounds_toArray, List.set_cons_succ, List.set_cons_zero]
   refine wpl_awake rfl rfl (HA.out _ (HT.out.later hB2)) ?_
   rintro e V3 ⟨rfl, hb3⟩
   refine ⟨_, rfl, ?_⟩
   have hB3 := hB2.trans (hb3.mono hB2.size)
   simp only [Act.put, List.setIfInBounds_toArray, List.set_cons_succ, List.set_cons_zero]
   refine wpl_wv rfl (v := .bool true) (by unfold execOp; go_simp) ?_
   simp only [Act.put, List.setIfInBounds_toArray, List.set_cons_succ, List.set_cons_zero]
   refine wpl_wv rfl (v := .bool true) (by unfold execOp; go_simp) ?_
   simp only [Act.put, List.setIfInBounds_toArray, List.set_cons_succ, List.set_cons_zero]
   have HE := Lib.hid hB3
   clear hP0 hP1 hP2 hB0 hB1 hB2 hB3 hb1 hb2 hb3
   refine wpList_nil ?_
   go_wp2
   go_ret
   exact ⟨rfl, HE.out⟩
end Go.Proofs.YtifjfgafpfefpaaDoor
