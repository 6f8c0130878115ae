/- Own texts, put together: Ys Yt. -/
import Derived.Test.YtkgnlobakicnjaaDoorQ31
import Derived.Test.YtkgnlobakicnjaaDoorQ37
import Derived.Test.YtkgnlobakicnjaaDoorQ38
import Derived.BigFrame
namespace Go.Proofs.YtkgnlobakicnjaaDoor
/- Package switches: the statements' helper awake. -/
section
set_option maxRecDepth 100000
open Go.RowKit Go.Shelf Go.Lib
attribute [local go_sem] run_store_float
theorem prsA {f : Fp} (hf : f.Ok) (w : World) (hT : T8 w) : Calls Tryd.prog 13 #[.string ⟨#[112, 113, 51, 48, 97, 49, 98, 45, 51]⟩] w fun e w' => e = .returned (.tuple #[.agg (pls pA).toArray, .int .i64 0]) ∧ Below w.heap.size w w' := by
 have h := parse_any hf ⟨#[112, 113, 51, 48, 97, 49, 98, 45, 51]⟩ _ w hT rfl (by simp)
 rw [(exA_is hf).1, (exA_is hf).2, ← pA_is] at h
 exact h
theorem prsB {f : Fp} (hf : f.Ok) (w : World) (hT : T8 w) : Calls Tryd.prog 13 #[.string ⟨#[45, 112, 97, 49, 98, 45, 49, 97, 113]⟩] w fun e w' => e = .returned (.tuple #[.agg (pls pB).toArray, .int .i64 0]) ∧ Below w.heap.size w w' := by
 have h := parse_any hf ⟨#[45, 112, 97, 49, 98, 45, 49, 97, 113]⟩ _ w hT rfl (by simp)
 rw [(exB_is hf).1, (exB_is hf).2, ← pB_is] at h
 exact h
theorem prtB {f : Fp} (hf : f.Ok) (w : World) (hT : T8 w) : Calls Tryd.prog 11 #[.agg (pls pB).toArray] w fun e w' => e = .returned (.tuple #[.string ⟨#[112, 113, 50, 48, 97, 49, 98, 45, 49, 97]⟩, .int .i64 0]) ∧ Below w.heap.size w w' := by
 have h := print_any hf pB w hT (by decide) (by decide) ⟨by decide, by decide⟩
 rw [exB_pr hf] at h
 exact h
theorem eqA (w : World) : (binOp .eql 42 (.agg (pls pA).toArray) (.agg exPA)).run Tryd.prog w = .ok (.bool true) w := by
 kernel_rfl
section
variable {ops : Array Oper} {rest : List Oper} {o : Oper} {a : Act} {w : World} {Q : Exit → Act → World → Prop}
theorem wpl_parseT {t : Nat} {ty : TypeId} {v : Value} {R : Ending → World → Prop} (hg : o.guard = none) (ho : o.op = .call { callee := .value (.func 13), args := #[.tmp t], argTypes := #[ty] }) (hv : a.eval (.tmp t) = v) (hC : Calls Tryd.prog 13 #[v] w R) (h : ∀ e w', R e w' → ∃ r, e = .returned r ∧ wpList Tryd.prog ops Q rest (a.put o.dst r) w') : wpList Tryd.prog ops Q (o :: rest) a w :=
 wpList_plain hg fun K hK => by
   have hv' : (a.tmps[t]?).getD undef = v := by rw [← Array.getD_eq_getD_getElem?]; exact hv
   have hK' : Hid (∀ a w, wpList Tryd.prog ops Q rest a w → K a w) := Lib.hid hK
   have h' := Lib.hid h
   clear hK h
   unfold Oper.wp execOp
   rw [ho]
   go_simp
   refine hC.mono ?_
   intro e w' hR
   obtain ⟨r, rfl, h2⟩ := h'.out e w' hR
   exact hK'.out _ _ h2
theorem wpl_parseC {ty : TypeId} {v : Value} {R : Ending → World → Prop} (hg : o.guard = none) (ho : o.op = .call { callee := .value (.func 13), args := #[.const v], argTypes := #[ty] }) (hC : Calls Tryd.prog 13 #[v] w R) (h : ∀ e w', R e w' → ∃ r, e = .returned r ∧ wpList Tryd.prog ops Q rest (a.put o.dst r) w') : wpList Tryd.prog ops Q (o :: rest) a w :=
 wpList_plain hg fun K hK => by
   have hK' : Hid (∀ a w, wpList Tryd.prog ops Q rest a w → K a w) := Lib.hid hK
   have h' := Lib.hid h
   clear hK h
   unfold Oper.wp execOp
   rw [ho]
   go_simp
   refine hC.mono ?_
   intro e w' hR
   obtain ⟨r, rfl, h2⟩ := h'.out e w' hR
   exact hK'.out _ _ h2
theorem wpl_printT {t : Nat} {ty : TypeId} {v : Value} {R : Ending → World → Prop} (hg : o.guard = none) (ho : o.op = .call { callee := .value (.func 11), args := #[.tmp t], argTypes := #[ty] }) (hv : a.eval (.tmp t) = v) (hC : Calls Tryd.prog 11 #[v] w R) (h : ∀ e w', R e w' → ∃ r, e = .returned r ∧ wpList Tryd.prog ops Q rest (a.put o.dst r) w') : wpList Tryd.prog ops Q (o :: rest) a w :=
 wpList_plain hg fun K hK => by
   have hv' : (a.tmps[t]?).getD undef = v := by rw [← Array.getD_eq_getD_getElem?]; exact hv
   have hK' : Hid (∀ a w, wpList Tryd.prog ops Q rest a w → K a w) := Lib.hid hK
   have h' := Lib.hid h
   clear hK h
   unfold Oper.wp execOp
   rw [ho]
   go_simp
   refine hC.mono ?_
   intro e w' hR
   obtain ⟨r, rfl, h2⟩ := h'.out e w' hR
   exact hK'.out _ _ h2
theorem wpl_extr {t i : Nat} {vs : Array Value} {v : Value} (hg : o.guard = none) (ho : o.op = .extract (.tmp t) i) (hv : a.eval (.tmp t) = .tuple vs) (hi : vs[i]? = some v) (h : wpList Tryd.prog ops Q rest (a.put o.dst v) w) : wpList Tryd.prog ops Q (o :: rest) a w :=
 wpList_plain hg fun K hK => by
   have h' := hK _ _ h
   clear hK h
   unfold Oper.wp execOp
   rw [ho]
   simp only [hv]
   go_simp
   exact h'
theorem wpl_eqI {t : Nat} {n m : Int} (hg : o.guard = none) (ho : o.op = .binOp .eql 25 (.tmp t) (.const (.int .i64 m)) 25) (hv : a.eval (.tmp t) = .int .i64 n) (h : wpList Tryd.prog ops Q rest (a.put o.dst (.bool (n == m))) w) : wpList Tryd.prog ops Q (o :: rest) a w :=
 wpList_plain hg fun K hK => by
   have h' := hK _ _ h
   clear hK h
   unfold Oper.wp execOp
   rw [ho]
   simp only [hv]
   go_simp
   exact h'
theorem wpl_buildG (hw : Region.wanted o (yielded ops a.tmps) = true) (ty : TypeId) (xs : Array (Nat × Operand)) (ho : o.op = .build ty xs) (cs : Array Value) (hb : Tryd.prog.built ty (xs.map fun (i, x) => (i, a.eval x)).toList = some cs)
   (h : wpList Tryd.prog ops Q rest (a.put o.dst (.agg cs)) w) : wpList Tryd.prog ops Q (o :: rest) a w :=
 BigFrame.wpList_want hw fun _ hK => wp_build ty xs ho (by rw [hb]; rfl) (by rw [hb]; exact hK _ _ h)
theorem wpl_loadG (hw : Region.wanted o (yielded ops a.tmps) = true) {p : Pn} {x : Operand} {B : Nat} (ho : o.op = .load 42 x) (hx : a.eval x = .pointer (some ⟨B, 0, none⟩)) (hP : Pl w B p)
   (h : wpList Tryd.prog ops Q rest (a.put o.dst (.agg (pls p).toArray)) w) : wpList Tryd.prog ops Q (o :: rest) a w :=
 BigFrame.wpList_want hw fun _ hK => wp_load_mid 42 x ho B 0 hx (pls p) _ hP.range Tryd.underlying42 rfl (by rw [pls_len]; kernel_rfl) (hK _ _ h)
end
set_option maxHeartbeats 8000000 in
theorem awake14 (w : World) (hT : T8 w) : Calls Tryd.prog 10 #[] w fun e w' => e = .returned (.bool true) ∧ Below w.heap.size w w' := by
 obtain ⟨f, hf⟩ := fp_ex
 have HA := Lib.hid (fun W h => prsA hf W h)
 have HB := Lib.hid (fun W h => prsB hf W h)
 have HP := Lib.hid (fun W h => prtB hf W h)
 have HT := Lib.hid hT
 have q1 := eqA
 clear hT hf
 go_enter Tryd.func10, Tryd.ntmps10
 go_upto_region 1 with fail
 refine wp_region_lit ?_
 refine wpl_parseC rfl rfl (HA.out w HT.out) ?_
 rintro e W1 ⟨rfl, hb1⟩
 refine ⟨_, rfl, ?_⟩
 refine wpList_moveY rfl 8 _ rfl rfl ?_
 refine wpl_extr (i := 0) rfl rfl rfl rfl ?_
 refine wpl_extr (i := 1) rfl rfl rfl rfl ?_
 refine wpList_allocP rfl rfl ?_
 intro W2 hp2 hb2 hs2
 refine wpList_storeP rfl _ _ rfl W1.heap.size pz pA rfl rfl hp2 ?_
 intro W3 hp3 ho3 hs3
 have hb3 : Below w.heap.size w W3 := (hb1.trans (hb2.mono hb1.size)).trans (ho3.below hb1.size (Nat.le_trans hb1.size hb2.size))
 obtain ⟨BA, hBA⟩ : ∃ b, W1.heap.size = b := ⟨_, rfl⟩
 rw [hBA] at hp3 ⊢
 have H3 : Hid (Below w.heap.size w W3 ∧ Pl W3 BA pA ∧ w.heap.size ≤ BA) := Lib.hid ⟨hb3, hp3, by rw [← hBA]; exact hb1.size⟩
 clear hp2 hb2 hs2 hp3 ho3 hs3 hb1 hb3 hBA
 go_upto_region 2 with fail
 refine wp_region_lit ?_
 refine wpl_parseC rfl rfl (HB.out W3 (HT.out.later H3.out.1)) ?_
 rintro e W4 ⟨rfl, hb4⟩
 refine ⟨_, rfl, ?_⟩
 refine wpList_moveY rfl 12 _ rfl rfl ?_
 refine wpl_extr (i := 0) rfl rfl rfl rfl ?_
 refine wpl_extr (i := 1) rfl rfl rfl rfl ?_
 refine wpList_allocP rfl rfl ?_
 intro W5 hp5 hb5 hs5
 refine wpList_storeP rfl _ _ rfl W4.heap.size pz pB rfl rfl hp5 ?_
 intro W6 hp6 ho6 hs6
 obtain ⟨BB, hBB⟩ : ∃ b, W4.heap.size = b := ⟨_, rfl⟩
 have H6 : Hid (Below w.heap.size w W6 ∧ Pl W6 BA pA ∧ Pl W6 BB pB) := Lib.hid (by
   obtain ⟨g1, g2, g3⟩ := H3.out
   have b36 : Below W3.heap.size W3 W6 := (hb4.trans (hb5.mono hb4.size)).trans (ho6.below hb4.size (Nat.le_trans hb4.size hb5.size))
   exact ⟨g1.trans (b36.mono g1.size), CB.later g2 b36, by rw [← hBB]; exact hp6⟩)
 rw [hBB]
 clear hp5 hb5 hs5 hp6 ho6 hs6 hb4 hBB H3
 go_upto_region 3 with fail
 refine wp_region_lit ?_
 refine wpList_load_mid rfl 42 _ rfl BB 0 rfl (pls pB) _ H6.out.2.2.range Tryd.underlying42 rfl (by rw [pls_len]; kernel_rfl) ?_
 refine wpl_printT rfl rfl rfl (HP.out W6 (HT.out.later H6.out.1)) ?_
 rintro e W7 ⟨rfl, hb7⟩
 refine ⟨_, rfl, ?_⟩
 have H7 : Hid (Below w.heap.size w W7 ∧ Pl W7 BA pA ∧ Pl W7 BB pB) := Lib.hid (by
   obtain ⟨g1, g2, g3⟩ := H6.out
   exact ⟨g1.trans (hb7.mono g1.size), CB.later g2 hb7, CB.later g3 hb7⟩)
 have y3 : W7.cell? ⟨BB, 3, none⟩ = some (.float .f64 4626322717216342016) := H7.out.2.2.at (j := 3) (by omega)
 have y5 : W7.cell? ⟨BB, 5, none⟩ = some (.float .f64 4602678819172646912) := H7.out.2.2.at (j := 5) (by omega)
 have y6 : W7.cell? ⟨BB, 6, none⟩ = some (.bool true) := H7.out.2.2.at (j := 6) (by omega)
 clear hb7 H6 HA HB HP HT
 have z1 : (FloatKind.f64.format.order 4626322717216342016 4626322717216342016 == some .eq) = true := by decide
 have z2 : (FloatKind.f64.format.order 4602678819172646912 4602678819172646912 == some .eq) = true := by decide
 go_upto_region 4 with fail
 refine wp_region_lit ?_
 refine wpList_moveY rfl 2 _ rfl rfl ?_
 refine wpl_eqI rfl rfl rfl ?_
 refine wpList_moveY rfl 21 _ rfl rfl ?_
 refine wpl_loadG (p := pA) rfl rfl rfl H7.out.2.1 ?_
 refine wpl_buildG rfl 42 _ rfl exPA (by kernel_rfl) ?_
 go_wp2_with fail
 go_ret
 exact ⟨rfl, H7.out.1⟩
end

/- The law SwitchesNames. (gen_yt.py) -/
section
set_option maxRecDepth 100000
open Go.RowKit Go.Shelf Go.Lib
attribute [local go_sem] run_store_float
section
variable {ops : Array Oper} {rest : List Oper} {o : Oper} {a : Act} {w : World} {Q : Exit → Act → World → Prop}
end
end
end Go.Proofs.YtkgnlobakicnjaaDoor
