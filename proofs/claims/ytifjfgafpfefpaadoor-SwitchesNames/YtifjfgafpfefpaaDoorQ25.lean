/- Own texts, put together: Ys Yt. -/
import Derived.Test.YtifjfgafpfefpaaDoorQ18
import Derived.Test.YtifjfgafpfefpaaDoorQ23
import Derived.Test.YtifjfgafpfefpaaDoorQ24
import Derived.BigFrame
namespace Go.Proofs.YtifjfgafpfefpaaDoor
/- Package switches: the statements' helper awake. -/
section
set_option maxRecDepth 100000
open Go.RowKit Go.Shelf Go.Lib
attribute [local go_sem] run_store_float
theorem prsA {f : Fp} (hf : f.Ok) (w : World) (hT : T8 w) : Calls Tryd.prog 12 #[.string ⟨#[112, 113, 51, 48, 97, 49, 98, 45, 51]⟩] w fun e w' => e = .returned (.tuple #[.agg (pls pA).toArray, .int .i64 0]) ∧ Below w.heap.size w w' := by
 have h := parse_any hf ⟨#[112, 113, 51, 48, 97, 49, 98, 45, 51]⟩ _ w hT rfl (by simp)
 rw [(exA_is hf).1, (exA_is hf).2, ← pA_is] at h
 exact h
theorem prsB {f : Fp} (hf : f.Ok) (w : World) (hT : T8 w) : Calls Tryd.prog 12 #[.string ⟨#[45, 112, 97, 49, 98, 45, 49, 97, 113]⟩] w fun e w' => e = .returned (.tuple #[.agg (pls pB).toArray, .int .i64 0]) ∧ Below w.heap.size w w' := by
 have h := parse_any hf ⟨#[45, 112, 97, 49, 98, 45, 49, 97, 113]⟩ _ w hT rfl (by simp)
 rw [(exB_is hf).1, (exB_is hf).2, ← pB_is] at h
 exact h
theorem prtB {f : Fp} (hf : f.Ok) (w : World) (hT : T8 w) : Calls Tryd.prog 7 #[.agg (pls pB).toArray] w fun e w' => e = .returned (.tuple #[.string ⟨#[112, 113, 50, 48, 97, 49, 98, 45, 49, 97]⟩, .int .i64 0]) ∧ Below w.heap.size w w' := by
 have h := print_any hf pB w hT (by decide) (by decide) ⟨by decide, by decide⟩
 rw [exB_pr hf] at h
 exact h
theorem eqA (w : World) : (binOp .eql 24 (.agg (pls pA).toArray) (.agg exPA)).run Tryd.prog w = .ok (.bool true) w := by
 kernel_rfl
section
variable {ops : Array Oper} {rest : List Oper} {o : Oper} {a : Act} {w : World} {Q : Exit → Act → World → Prop}
theorem wpl_parseT {t : Nat} {ty : TypeId} {v : Value} {R : Ending → World → Prop} (hg : o.guard = none) (ho : o.op = .call { callee := .value (.func 12), args := #[.tmp t], argTypes := #[ty] }) (hv : a.eval (.tmp t) = v) (hC : Calls Tryd.prog 12 #[v] w R) (h : ∀ e w', R e w' → ∃ r, e = .returned r ∧ wpList Tryd.prog ops Q rest (a.put o.dst r) w') : wpList Tryd.prog ops Q (o :: rest) a w :=
 wpList_plain hg fun K hK => by
   have hv' : (a.tmps[t]?).getD undef = v := by rw [← Array.getD_eq_getD_getElem?]; exact hv
   have hK' : Hid (∀ a w, wpList Tryd.prog ops Q rest a w → K a w) := Lib.hid hK
   have h' := Lib.hid h
   clear hK h
   unfold Oper.wp execOp
   rw [ho]
   go_simp
   refine hC.mono ?_
   intro e w' hR
   obtain ⟨r, rfl, h2⟩ := h'.out e w' hR
   exact hK'.out _ _ h2
theorem wpl_parseC {ty : TypeId} {v : Value} {R : Ending → World → Prop} (hg : o.guard = none) (ho : o.op = .call { callee := .value (.func 12), args := #[.const v], argTypes := #[ty] }) (hC : Calls Tryd.prog 12 #[v] w R) (h : ∀ e w', R e w' → ∃ r, e = .returned r ∧ wpList Tryd.prog ops Q rest (a.put o.dst r) w') : wpList Tryd.prog ops Q (o :: rest) a w :=
 wpList_plain hg fun K hK => by
   have hK' : Hid (∀ a w, wpList Tryd.prog ops Q rest a w → K a w) := Lib.hid hK
   have h' := Lib.hid h
   clear hK h
   unfold Oper.wp execOp
   rw [ho]
   go_simp
   refine hC.mono ?_
   intro e w' hR
   obtain ⟨r, rfl, h2⟩ := h'.out e w' hR
   exact hK'.out _ _ h2
theorem wpl_printT {t : Nat} {ty : TypeId} {v : Value} {R : Ending → World → Prop} (hg : o.guard = none) (ho : o.op = .call { callee := .value (.func 7), args := #[.tmp t], argTypes := #[ty] }) (hv : a.eval (.tmp t) = v) (hC : Calls Tryd.prog 7 #[v] w R) (h : ∀ e w', R e w' → ∃ r, e = .returned r ∧ wpList Tryd.prog ops Q rest (a.put o.dst r) w') : wpList Tryd.prog ops Q (o :: rest) a w :=
 wpList_plain hg fun K hK => by
   have hv' : (a.tmps[t]?).getD undef = v := by rw [← Array.getD_eq_getD_getElem?]; exact hv
   have hK' : Hid (∀ a w, wpList Tryd.prog ops Q rest a w → K a w) := Lib.hid hK
   have h' := Lib.hid h
   clear hK h
   unfold Oper.wp execOp
   rw [ho]
   go_simp
   refine hC.mono ?_
   intro e w' hR
   obtain ⟨r, rfl, h2⟩ := h'.out e w' hR
   exact hK'.out _ _ h2
theorem wpl_extr {t i : Nat} {vs : Array Value} {v : Value} (hg : o.guard = none) (ho : o.op = .extract (.tmp t) i) (hv : a.eval (.tmp t) = .tuple vs) (hi : vs[i]? = some v) (h : wpList Tryd.prog ops Q rest (a.put o.dst v) w) : wpList Tryd.prog ops Q (o :: rest) a w :=
 wpList_plain hg fun K hK => by
   have h' := hK _ _ h
   clear hK h
   unfold Oper.wp execOp
   rw [ho]
   simp only [hv]
   go_simp
   exact h'
theorem wpl_assign {t : Nat} {v : Value} (hg : o.guard = none) (ho : o.op = .assign (.tmp t)) (hv : a.eval (.tmp t) = v) (h : wpList Tryd.prog ops Q rest (a.put o.dst v) w) : wpList Tryd.prog ops Q (o :: rest) a w :=
 wpList_plain hg fun _ hK => oy_assign ho hv (hK _ _ h)
theorem wpl_eqI {t : Nat} {n m : Int} (hg : o.guard = none) (ho : o.op = .binOp .eql 25 (.tmp t) (.const (.int .i64 m)) 25) (hv : a.eval (.tmp t) = .int .i64 n) (h : wpList Tryd.prog ops Q rest (a.put o.dst (.bool (n == m))) w) : wpList Tryd.prog ops Q (o :: rest) a w :=
 wpList_plain hg fun K hK => by
   have h' := hK _ _ h
   clear hK h
   unfold Oper.wp execOp
   rw [ho]
   simp only [hv]
   go_simp
   exact h'
theorem wpl_buildG (hw : Region.wanted o (yielded ops a.tmps) = true) (ty : TypeId) (xs : Array (Nat × Operand)) (ho : o.op = .build ty xs) (cs : Array Value) (hb : Tryd.prog.built ty (xs.map fun (i, x) => (i, a.eval x)).toList = some cs)
   (h : wpList Tryd.prog ops Q rest (a.put o.dst (.agg cs)) w) : wpList Tryd.prog ops Q (o :: rest) a w :=
 BigFrame.wpList_want hw fun _ hK => wp_build ty xs ho (by rw [hb]; rfl) (by rw [hb]; exact hK _ _ h)
theorem wpl_loadG (hw : Region.wanted o (yielded ops a.tmps) = true) {p : Pn} {x : Operand} {B : Nat} (ho : o.op = .load 24 x) (hx : a.eval x = .pointer (some ⟨B, 0, none⟩)) (hP : Pl w B p)
   (h : wpList Tryd.prog ops Q rest (a.put o.dst (.agg (pls p).toArray)) w) : wpList Tryd.prog ops Q (o :: rest) a w :=
 BigFrame.wpList_want hw fun _ hK => wp_load_mid 24 x ho B 0 hx (pls p) _ hP.range Tryd.underlying24 rfl (by rw [pls_len]; kernel_rfl) (hK _ _ h)
end
set_option maxHeartbeats 8000000 in
theorem awake14 (w : World) (hT : T8 w) : Calls Tryd.prog 11 #[] w fun e w' => e = .returned (.bool true) ∧ Below w.heap.size w w' := by
 obtain ⟨f, hf⟩ := fp_ex
 have HA := Lib.hid (fun W h => prsA hf W h)
 have HB := Lib.hid (fun W h => prsB hf W h)
 have HP := Lib.hid (fun W h => prtB hf W h)
 have HT := Lib.hid hT
 have q1 := eqA
 clear hT hf
 go_enter Tryd.func11, Tryd.ntmps11
 go_upto_region 1 with fail
 refine wp_region_lit ?_
 refine wpl_parseC rfl rfl (HA.out w HT.out) ?_
 rintro e W1 ⟨rfl, hb1⟩
 refine ⟨_, rfl, ?_⟩
 refine wpList_moveY rfl 8 _ rfl rfl ?_
 refine wpl_extr (i := 0) rfl rfl rfl rfl ?_
 refine wpl_extr (i := 1) rfl rfl rfl rfl ?_
 refine wpList_allocP rfl rfl ?_
 intro W2 hp2 hb2 hs2
 refine wpList_storeP rfl _ _ rfl W1.heap.size pz pA rfl rfl hp2 ?_
 intro W3 hp3 ho3 hs3
 have hb3 : Below w.heap.size w W3 := (hb1.trans (hb2.mono hb1.size)).trans (ho3.below hb1.size (Nat.le_trans hb1.size hb2.size))
 obtain ⟨BA, hBA⟩ : ∃ b, W1.heap.size = b := ⟨_, rfl⟩
 rw [hBA] at hp3 ⊢
 have H3 : Hid (Below w.heap.size w W3 ∧ Pl W3 BA pA ∧ w.heap.size ≤ BA) := Lib.hid ⟨hb3, hp3, by rw [← hBA]; exact hb1.size⟩
 clear hp2 hb2 hs2 hp3 ho3 hs3 hb1 hb3 hBA
 go_upto_region 2 with fail
 refine wp_region_lit ?_
 refine wpl_parseC rfl rfl (HB.out W3 (HT.out.later H3.out.1)) ?_
 rintro e W4 ⟨rfl, hb4⟩
 refine ⟨_, rfl, ?_⟩
 refine wpList_moveY rfl 12 _ rfl rfl ?_
 refine wpl_extr (i := 0) rfl rfl rfl rfl ?_
 refine wpl_extr (i := 1) rfl rfl rfl rfl ?_
 refine wpList_allocP rfl rfl ?_
 intro W5 hp5 hb5 hs5
 refine wpList_storeP rfl _ _ rfl W4.heap.size pz pB rfl rfl hp5 ?_
 intro W6 hp6 ho6 hs6
 obtain ⟨BB, hBB⟩ : ∃ b, W4.heap.size = b := ⟨_, rfl⟩
 have H6 : Hid (Below w.heap.size w W6 ∧ Pl W6 BA pA ∧ Pl W6 BB pB) := Lib.hid (by
   obtain ⟨g1, g2, g3⟩ := H3.out
   have b36 : Below W3.heap.size W3 W6 := (hb4.trans (hb5.mono hb4.size)).trans (ho6.below hb4.size (Nat.le_trans hb4.size hb5.size))
   exact ⟨g1.trans (b36.mono g1.size), CB.later g2 b36, by rw [← hBB]; exact hp6⟩)
 rw [hBB]
 clear hp5 hb5 hs5 hp6 ho6 hs6 hb4 hBB H3
 go_upto_region 3 with fail
 refine wp_region_lit ?_
 refine wpList_load_mid rfl 24 _ rfl BB 0 rfl (pls pB) _ H6.out.2.2.range Tryd.underlying24 rfl (by rw [pls_len]; kernel_rfl) ?_
 refine wpl_printT rfl rfl rfl (HP.out W6 (HT.out.later H6.out.1)) ?_
 rintro e W7 ⟨rfl, hb7⟩
 refine ⟨_, rfl, ?_⟩
 have H7 : Hid (Below w.heap.size w W7 ∧ Pl W7 BA pA ∧ Pl W7 BB pB) := Lib.hid (by
   obtain ⟨g1, g2, g3⟩ := H6.out
   exact ⟨g1.trans (hb7.mono g1.size), CB.later g2 hb7, CB.later g3 hb7⟩)
 have y3 : W7.cell? ⟨BB, 3, none⟩ = some (.float .f64 4626322717216342016) := H7.out.2.2.at (j := 3) (by omega)
 have y5 : W7.cell? ⟨BB, 5, none⟩ = some (.float .f64 4602678819172646912) := H7.out.2.2.at (j := 5) (by omega)
 have y6 : W7.cell? ⟨BB, 6, none⟩ = some (.bool true) := H7.out.2.2.at (j := 6) (by omega)
 clear hb7 H6 HA HB HP HT
 have z1 : (FloatKind.f64.format.order 4626322717216342016 4626322717216342016 == some .eq) = true := by decide
 have z2 : (FloatKind.f64.format.order 4602678819172646912 4602678819172646912 == some .eq) = true := by decide
 go_upto_region 4 with fail
 refine wp_region_lit ?_
 refine wpList_moveY rfl 2 _ rfl rfl ?_
 refine wpl_eqI rfl rfl rfl ?_
 refine wpList_moveY rfl 21 _ rfl rfl ?_
 refine wpl_loadG (p := pA) rfl rfl rfl H7.out.2.1 ?_
 refine wpl_buildG rfl 24 _ rfl exPA (by kernel_rfl) ?_
 go_wp2_with fail
 go_ret
 exact ⟨rfl, H7.out.1⟩
end

/- The law SwitchesNames. (gen_yt.py) -/
section
set_option maxRecDepth 100000
open Go.RowKit Go.Shelf Go.Lib
attribute [local go_sem] run_store_float
def nmC : Array Value := #[.string ⟨#[113]⟩, .int .i64 0, .string ⟨#[114]⟩, .int .i64 0, .string ⟨#[122, 111, 50]⟩, .int .i64 0, .string ⟨#[45]⟩, .int .i64 0, .string ⟨#[]⟩, .int .i64 0, .string ⟨#[113, 54, 49]⟩, .int .i64 1, .string ⟨#[113, 54, 48]⟩, .int .i64 0, .string ⟨#[97, 48]⟩, .int .i64 1, .string ⟨#[97]⟩, .int .i64 16, .string ⟨#[112, 97]⟩, .int .i64 0, .string ⟨#[105, 70]⟩, .int .i64 16, .string ⟨#[70, 105]⟩, .int .i64 16, .string ⟨#[105, 70, 113, 54, 49]⟩, .int .i64 16, .string ⟨#[108, 105]⟩, .int .i64 16, .string ⟨#[114, 70]⟩, .int .i64 16, .string ⟨#[89]⟩, .int .i64 16, .string ⟨#[83, 53]⟩, .int .i64 16, .string ⟨#[113, 83, 53]⟩, .int .i64 0, .string ⟨#[113, 83, 49, 48, 52, 56, 53, 55, 54]⟩, .int .i64 0, .string ⟨#[113, 83, 49, 48, 52, 56, 53, 55, 55]⟩, .int .i64 1, .string ⟨#[99]⟩, .int .i64 16, .string ⟨#[112, 112]⟩, .int .i64 4, .string ⟨#[111]⟩, .int .i64 4, .string ⟨#[111, 51]⟩, .int .i64 4, .string ⟨#[120]⟩, .int .i64 4, .string ⟨#[113, 49, 46, 50]⟩, .int .i64 4, .string ⟨#[113, 49, 98]⟩, .int .i64 4, .string ⟨#[113, 45, 49, 98]⟩, .int .i64 4, .string ⟨#[113, 45, 49]⟩, .int .i64 1, .string ⟨#[113, 49, 98, 45, 51]⟩, .int .i64 0, .string ⟨#[113, 57, 48, 48, 55, 49, 57, 57, 50, 53, 52, 55, 52, 48, 57, 57, 51]⟩, .int .i64 4, .string ⟨#[83]⟩, .int .i64 4, .string ⟨#[113, 83, 49, 98, 50]⟩, .int .i64 4, .string ⟨#[113, 83, 48, 53]⟩, .int .i64 4, .string ⟨#[45, 45]⟩, .int .i64 4, .string ⟨#[112, 97, 97]⟩, .int .i64 4, .string ⟨#[97, 49, 97, 50]⟩, .int .i64 4, .string ⟨#[112, 97, 97, 49]⟩, .int .i64 0, .string ⟨#[111, 50, 111, 50]⟩, .int .i64 4, .string ⟨#[113, 49, 101, 50]⟩, .int .i64 4, .string ⟨#[113, 49, 101]⟩, .int .i64 0]
theorem nmC_at : ∀ k, k < 41 → ∃ q, nmT[k]? = some q ∧ nmC[k * 2]? = some (sv q.1) ∧ nmC[k * 2 + 1]? = some (.int .i64 q.2) := by
 intro k hk
 have : k = 0 ∨ k = 1 ∨ k = 2 ∨ k = 3 ∨ k = 4 ∨ k = 5 ∨ k = 6 ∨ k = 7 ∨ k = 8 ∨ k = 9 ∨ k = 10 ∨ k = 11 ∨ k = 12 ∨ k = 13 ∨ k = 14 ∨ k = 15 ∨ k = 16 ∨ k = 17 ∨ k = 18 ∨ k = 19 ∨ k = 20 ∨ k = 21 ∨ k = 22 ∨ k = 23 ∨ k = 24 ∨ k = 25 ∨ k = 26 ∨ k = 27 ∨ k = 28 ∨ k = 29 ∨ k = 30 ∨ k = 31 ∨ k = 32 ∨ k = 33 ∨ k = 34 ∨ k = 35 ∨ k = 36 ∨ k = 37 ∨ k = 38 ∨ k = 39 ∨ k = 40 := by omega
 rcases this with rfl | rfl | rfl | rfl | rfl | rfl | rfl | rfl | rfl | rfl | rfl | rfl | rfl | rfl | rfl | rfl | rfl | rfl | rfl | rfl | rfl | rfl | rfl | rfl | rfl | rfl | rfl | rfl | rfl | rfl | rfl | rfl | rfl | rfl | rfl | rfl | rfl | rfl | rfl | rfl | rfl
 all_goals exact ⟨_, rfl, rfl, rfl⟩
theorem fa31 : FaOk 31 0 0 := by
 intro o a W K Q t B ho hv h
 unfold Oper.wp execOp
 rw [ho]
 simp only [hv]
 go_simp
 exact h
section
variable {ops : Array Oper} {rest : List Oper} {o : Oper} {a : Act} {w : World} {Q : Exit → Act → World → Prop}
theorem wpl_val {v : Value} (hg : o.guard = none) (hr : (execOp a.eval o).run Tryd.prog w = .ok (.value v) w) (h : wpList Tryd.prog ops Q rest (a.put o.dst v) w) : wpList Tryd.prog ops Q (o :: rest) a w :=
 wpList_plain hg fun K hK => by
   have h' := hK _ _ h
   clear hK h
   unfold Oper.wp
   rw [hr]
   exact h'
theorem wpl_loadStr {t : Nat} {s : ByteArray} {x : Addr} (hg : o.guard = none) (ho : o.op = .load 9 (.tmp t)) (hv : a.eval (.tmp t) = .pointer (some x)) (hc : w.cell? x = some (.string s)) (h : wpList Tryd.prog ops Q rest (a.put o.dst (.string s)) w) : wpList Tryd.prog ops Q (o :: rest) a w :=
 wpl_val hg (by
   unfold execOp
   rw [ho]
   simp only [hv]
   clear ho hv h
   go_simp) h
end
set_option maxHeartbeats 16000000 in
theorem names14 (w : World) (hT : T8 w) : Calls Tryd.prog 4 #[] w fun e w' => e = .returned (.bool true) ∧ Below w.heap.size w w' := by
 obtain ⟨f, hf⟩ := fp_ex
 have HF := Lib.hid hf
 have HT := Lib.hid hT
 have HA := Lib.hid (fun W h => awake14 W h)
 clear hT hf
 obtain ⟨W1, hW1⟩ : ∃ W1, w.alloc (.cells #[.string ⟨#[113]⟩, .int .i64 0, .string ⟨#[114]⟩, .int .i64 0, .string ⟨#[122, 111, 50]⟩, .int .i64 0, .string ⟨#[45]⟩, .int .i64 0, .string ⟨#[]⟩, .int .i64 0, .string ⟨#[113, 54, 49]⟩, .int .i64 1, .string ⟨#[113, 54, 48]⟩, .int .i64 0, .string ⟨#[97, 48]⟩, .int .i64 1, .string ⟨#[97]⟩, .int .i64 16, .string ⟨#[112, 97]⟩, .int .i64 0, .string ⟨#[105, 70]⟩, .int .i64 16, .string ⟨#[70, 105]⟩, .int .i64 16, .string ⟨#[105, 70, 113, 54, 49]⟩, .int .i64 16, .string ⟨#[108, 105]⟩, .int .i64 16, .string ⟨#[114, 70]⟩, .int .i64 16, .string ⟨#[89]⟩, .int .i64 16, .string ⟨#[83, 53]⟩, .int .i64 16, .string ⟨#[113, 83, 53]⟩, .int .i64 0, .string ⟨#[113, 83, 49, 48, 52, 56, 53, 55, 54]⟩, .int .i64 0, .string ⟨#[113, 83, 49, 48, 52, 56, 53, 55, 55]⟩, .int .i64 1, .string ⟨#[99]⟩, .int .i64 16, .string ⟨#[112, 112]⟩, .int .i64 4, .string ⟨#[111]⟩, .int .i64 4, .string ⟨#[111, 51]⟩, .int .i64 4, .string ⟨#[120]⟩, .int .i64 4, .string ⟨#[113, 49, 46, 50]⟩, .int .i64 4, .string ⟨#[113, 49, 98]⟩, .int .i64 4, .string ⟨#[113, 45, 49, 98]⟩, .int .i64 4, .string ⟨#[113, 45, 49]⟩, .int .i64 1, .string ⟨#[113, 49, 98, 45, 51]⟩, .int .i64 0, .string ⟨#[113, 57, 48, 48, 55, 49, 57, 57, 50, 53, 52, 55, 52, 48, 57, 57, 51]⟩, .int .i64 4, .string ⟨#[83]⟩, .int .i64 4, .string ⟨#[113, 83, 49, 98, 50]⟩, .int .i64 4, .string ⟨#[113, 83, 48, 53]⟩, .int .i64 4, .string ⟨#[45, 45]⟩, .int .i64 4, .string ⟨#[112, 97, 97]⟩, .int .i64 4, .string ⟨#[97, 49, 97, 50]⟩, .int .i64 4, .string ⟨#[112, 97, 97, 49]⟩, .int .i64 0, .string ⟨#[111, 50, 111, 50]⟩, .int .i64 4, .string ⟨#[113, 49, 101, 50]⟩, .int .i64 4, .string ⟨#[113, 49, 101]⟩, .int .i64 0] 31) = W1 := ⟨_, rfl⟩
 obtain ⟨g, hg⟩ : ∃ g, w.heap.size = g := ⟨_, rfl⟩
 have H1 : Hid (CB W1 g nmC 31 ∧ Below w.heap.size w W1) := Lib.hid ⟨by rw [← hW1, ← hg]; exact CB.new w _ _, by rw [← hW1]; exact (Below.refl _ w).alloc (Nat.le_refl _) _⟩
 go_enter Tryd.func4, Tryd.ntmps4
 go_upto_region 2 with fail
 try rw [hW1]
 try rw [hg]
 clear hW1 hg
 go_loopw [48] (fun i wr => ∃ k : Nat, k ≤ 41 ∧ i = .int .i64 (k : Nat) ∧ Hid (CB wr g nmC 31 ∧ Below w.heap.size w wr)) (fun i _ => 41 - (RowKit.intOf i).toNat)
 case atStart => exact ⟨0, by omega, rfl, H1⟩
 case round =>
   clear H1
   obtain ⟨k, hk, rfl, HR⟩ := hrel
   have hk2 : (k : Int) ≤ 41 := by omega
   have hk0 : (0 : Int) ≤ (k : Int) := by omega
   by_cases hlt : k < 41
   · have hlt' : (k : Int) < 41 := by omega
     obtain ⟨⟨l, er⟩, hq, c0, c1⟩ := nmC_at k hlt
     have hm : (l, er) ∈ nmT := List.mem_of_getElem? hq
     have he : (prsS f l).2 = er := nmT_is HF.out _ hm
     have hl : l.length ≤ 100 := nmT_short _ hm
     obtain ⟨sl, hsl⟩ : ∃ sl : ByteArray, (⟨l.toArray⟩ : ByteArray) = sl := ⟨_, rfl⟩
     have hd : sl.data.toList = l := by rw [← hsl]
     have x0 : wr.cell? ⟨g, k * 2, none⟩ = some (.string sl) := by
       have h := HR.out.1
       unfold CB at h
       rw [← hsl]
       simp [World.cell?, h, c0]
     have x1 : wr.cell? ⟨g, k * 2 + 1, none⟩ = some (.int .i64 er) := by
       have h := HR.out.1
       unfold CB at h
       simp [World.cell?, h, c1]
     obtain ⟨D, hD⟩ : ∃ D, wr.heap.size = D := ⟨_, rfl⟩
     obtain ⟨W5, hW5⟩ : ∃ W5, wr.alloc (.cells #[.string sl, .int .i64 er] 31) = W5 := ⟨_, rfl⟩
     have y0 : W5.cell? ⟨D, 0, none⟩ = some (.string sl) := by rw [← hW5, ← hD]; exact (CB.new wr _ _).cell 0 (by simp)
     have H5 : Hid (CB W5 g nmC 31 ∧ Below w.heap.size w W5 ∧ CB W5 D #[.string sl, .int .i64 er] 31) := Lib.hid (by
       have hb : Below wr.heap.size wr W5 := by rw [← hW5]; exact (Below.refl _ _).alloc (Nat.le_refl _) _
       exact ⟨HR.out.1.later hb, HR.out.2.trans (hb.mono HR.out.2.size), by rw [← hW5, ← hD]; exact CB.new wr _ _⟩)
     have HPa := Lib.hid (parse_any HF.out sl l W5 (HT.out.later H5.out.2.1) hd (by omega))
     rw [he] at HPa
     obtain ⟨pl, hpl⟩ : ∃ pl, (prsS f l).1 = pl := ⟨_, rfl⟩
     rw [hpl] at HPa
     clear hpl
     clear hq c0 c1 hm he hl hsl hd HR
     go_upto_region 4 with fail
     try rw [hW5]
     try rw [hD]
     clear x0 x1 hW5 hD
     refine wp_region_lit ?_
     refine wpList_faY fa31 rfl 2 D rfl rfl ?_
     simp only [Act.put, List.setIfInBounds_toArray, List.set_cons_succ, List.set_cons_zero]
     refine wpl_loadStr (s := sl) rfl rfl rfl y0 ?_
     simp only [Act.put, List.setIfInBounds_toArray, List.set_cons_succ, List.set_cons_zero]
     refine wpl_parseT rfl rfl rfl HPa.out ?_
     rintro e W6 ⟨rfl, hb6⟩
     refine ⟨_, rfl, ?_⟩
     simp only [Act.put, List.setIfInBounds_toArray, List.set_cons_succ, List.set_cons_zero]
     refine wpList_moveY rfl 55 _ rfl rfl ?_
     simp only [Act.put, List.setIfInBounds_toArray, List.set_cons_succ, List.set_cons_zero]
     refine wpl_extr (i := 0) rfl rfl rfl rfl ?_
     simp only [Act.put, List.setIfInBounds_toArray, List.set_cons_succ, List.set_cons_zero]
     refine wpl_extr (i := 1) rfl rfl rfl rfl ?_
     refine wpList_allocP rfl rfl ?_
     intro W7 hp7 hb7 hs7
     simp only [Act.put, List.setIfInBounds_toArray, List.set_cons_succ, List.set_cons_zero]
     refine wpList_storeP rfl _ _ rfl W6.heap.size pz pl rfl rfl hp7 ?_
     intro W8 hp8 ho8 hs8
     simp only [Act.put]
     refine wpl_assign rfl rfl rfl ?_
     have H8 : Hid (CB W8 g nmC 31 ∧ Below w.heap.size w W8 ∧ CB W8 D #[.string sl, .int .i64 er] 31) := Lib.hid (by
       have hb : Below W5.heap.size W5 W8 := (hb6.trans (hb7.mono hb6.size)).trans (ho8.below hb6.size (Nat.le_trans hb6.size hb7.size))
       exact ⟨H5.out.1.later hb, H5.out.2.1.trans (hb.mono H5.out.2.1.size), H5.out.2.2.later hb⟩)
     have y1 : W8.cell? ⟨D, 1, none⟩ = some (.int .i64 er) := H8.out.2.2.cell 1 (by simp)
     clear y0 hp7 hb7 hs7 hp8 ho8 hs8 hb6 H5 HPa
     go_wp2_with fail
     exact ⟨⟨k + 1, by omega, by go_num, Lib.hid ⟨H8.out.1, H8.out.2.1⟩⟩, by simp [RowKit.intOf]; omega⟩
   · have hlt' : ¬ ((k : Int) < 41) := by omega
     obtain rfl : k = 41 := by omega
     go_wp2_with fail
     refine (HA.out wr (HT.out.later HR.out.2)).mono ?_
     rintro e W6 ⟨rfl, hb⟩
     have HE := Lib.hid (HR.out.2.trans (hb.mono HR.out.2.size))
     go_wp2
     go_ret
     exact ⟨rfl, HE.out⟩
end
end Go.Proofs.YtifjfgafpfefpaaDoor
