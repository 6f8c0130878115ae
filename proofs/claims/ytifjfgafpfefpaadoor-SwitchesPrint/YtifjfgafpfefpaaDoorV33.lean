/- Own texts, put together: Ys Yu Yv. -/
import Derived.Test.YtifjfgafpfefpaaDoorV11
import Derived.Test.YtifjfgafpfefpaaDoorV22
import Derived.Test.YtifjfgafpfefpaaDoorV25
import Derived.Test.YtifjfgafpfefpaaDoorV27
import Derived.Test.YtifjfgafpfefpaaDoorV31
import Derived.Test.YtifjfgafpfefpaaDoorV32
import Derived.BigFrame
namespace Go.Proofs.YtifjfgafpfefpaaDoor
/- Package switches: the statements' helper awake. -/
section
set_option maxRecDepth 100000
open Go.RowKit Go.Shelf Go.Lib
attribute [local go_sem] run_store_float
theorem prsA {f : Fp} (hf : f.Ok) (w : World) (hT : T8 w) : Calls Tryd.prog 12 #[.string ⟨#[112, 113, 51, 48, 97, 49, 98, 45, 51]⟩] w fun e w' => e = .returned (.tuple #[.agg (pls pA).toArray, .int .i64 0]) ∧ Below w.heap.size w w' := by
 have h := parse_any hf ⟨#[112, 113, 51, 48, 97, 49, 98, 45, 51]⟩ _ w hT rfl (by simp)
 rw [(exA_is hf).1, (exA_is hf).2, ← pA_is] at h
 exact h
theorem prsB {f : Fp} (hf : f.Ok) (w : World) (hT : T8 w) : Calls Tryd.prog 12 #[.string ⟨#[45, 112, 97, 49, 98, 45, 49, 97, 113]⟩] w fun e w' => e = .returned (.tuple #[.agg (pls pB).toArray, .int .i64 0]) ∧ Below w.heap.size w w' := by
 have h := parse_any hf ⟨#[45, 112, 97, 49, 98, 45, 49, 97, 113]⟩ _ w hT rfl (by simp)
 rw [(exB_is hf).1, (exB_is hf).2, ← pB_is] at h
 exact h
theorem prtB {f : Fp} (hf : f.Ok) (w : World) (hT : T8 w) : Calls Tryd.prog 7 #[.agg (pls pB).toArray] w fun e w' => e = .returned (.tuple #[.string ⟨#[112, 113, 50, 48, 97, 49, 98, 45, 49, 97]⟩, .int .i64 0]) ∧ Below w.heap.size w w' := by
 have h := print_any hf pB w hT (by decide) (by decide) ⟨by decide, by decide⟩
 rw [exB_pr hf] at h
 exact h
theorem eqA (w : World) : (binOp .eql 24 (.agg (pls pA).toArray) (.agg exPA)).run Tryd.prog w = .ok (.bool true) w := by
 kernel_rfl
section
variable {ops : Array Oper} {rest : List Oper} {o : Oper} {a : Act} {w : World} {Q : Exit → Act → World → Prop}
theorem wpl_parseC {ty : TypeId} {v : Value} {R : Ending → World → Prop} (hg : o.guard = none) (ho : o.op = .call { callee := .value (.func 12), args := #[.const v], argTypes := #[ty] }) (hC : Calls Tryd.prog 12 #[v] w R) (h : ∀ e w', R e w' → ∃ r, e = .returned r ∧ wpList Tryd.prog ops Q rest (a.put o.dst r) w') : wpList Tryd.prog ops Q (o :: rest) a w :=
 wpList_plain hg fun K hK => by
   have hK' : Hid (∀ a w, wpList Tryd.prog ops Q rest a w → K a w) := Lib.hid hK
   have h' := Lib.hid h
   clear hK h
   unfold Oper.wp execOp
   rw [ho]
   go_simp
   refine hC.mono ?_
   intro e w' hR
   obtain ⟨r, rfl, h2⟩ := h'.out e w' hR
   exact hK'.out _ _ h2
theorem wpl_printT {t : Nat} {ty : TypeId} {v : Value} {R : Ending → World → Prop} (hg : o.guard = none) (ho : o.op = .call { callee := .value (.func 7), args := #[.tmp t], argTypes := #[ty] }) (hv : a.eval (.tmp t) = v) (hC : Calls Tryd.prog 7 #[v] w R) (h : ∀ e w', R e w' → ∃ r, e = .returned r ∧ wpList Tryd.prog ops Q rest (a.put o.dst r) w') : wpList Tryd.prog ops Q (o :: rest) a w :=
 wpList_plain hg fun K hK => by
   have hv' : (a.tmps[t]?).getD undef = v := by rw [← Array.getD_eq_getD_getElem?]; exact hv
   have hK' : Hid (∀ a w, wpList Tryd.prog ops Q rest a w → K a w) := Lib.hid hK
   have h' := Lib.hid h
   clear hK h
   unfold Oper.wp execOp
   rw [ho]
   go_simp
   refine hC.mono ?_
   intro e w' hR
   obtain ⟨r, rfl, h2⟩ := h'.out e w' hR
   exact hK'.out _ _ h2
theorem wpl_extr {t i : Nat} {vs : Array Value} {v : Value} (hg : o.guard = none) (ho : o.op = .extract (.tmp t) i) (hv : a.eval (.tmp t) = .tuple vs) (hi : vs[i]? = some v) (h : wpList Tryd.prog ops Q rest (a.put o.dst v) w) : wpList Tryd.prog ops Q (o :: rest) a w :=
 wpList_plain hg fun K hK => by
   have h' := hK _ _ h
   clear hK h
   unfold Oper.wp execOp
   rw [ho]
   simp only [hv]
   go_simp
   exact h'
theorem wpl_assign {t : Nat} {v : Value} (hg : o.guard = none) (ho : o.op = .assign (.tmp t)) (hv : a.eval (.tmp t) = v) (h : wpList Tryd.prog ops Q rest (a.put o.dst v) w) : wpList Tryd.prog ops Q (o :: rest) a w :=
 wpList_plain hg fun _ hK => oy_assign ho hv (hK _ _ h)
theorem wpl_eqI {t : Nat} {n m : Int} (hg : o.guard = none) (ho : o.op = .binOp .eql 25 (.tmp t) (.const (.int .i64 m)) 25) (hv : a.eval (.tmp t) = .int .i64 n) (h : wpList Tryd.prog ops Q rest (a.put o.dst (.bool (n == m))) w) : wpList Tryd.prog ops Q (o :: rest) a w :=
 wpList_plain hg fun K hK => by
   have h' := hK _ _ h
   clear hK h
   unfold Oper.wp execOp
   rw [ho]
   simp only [hv]
   go_simp
   exact h'
theorem wpl_buildG (hw : Region.wanted o (yielded ops a.tmps) = true) (ty : TypeId) (xs : Array (Nat × Operand)) (ho : o.op = .build ty xs) (cs : Array Value) (hb : Tryd.prog.built ty (xs.map fun (i, x) => (i, a.eval x)).toList = some cs)
   (h : wpList Tryd.prog ops Q rest (a.put o.dst (.agg cs)) w) : wpList Tryd.prog ops Q (o :: rest) a w :=
 BigFrame.wpList_want hw fun _ hK => wp_build ty xs ho (by rw [hb]; rfl) (by rw [hb]; exact hK _ _ h)
theorem wpl_loadG (hw : Region.wanted o (yielded ops a.tmps) = true) {p : Pn} {x : Operand} {B : Nat} (ho : o.op = .load 24 x) (hx : a.eval x = .pointer (some ⟨B, 0, none⟩)) (hP : Pl w B p)
   (h : wpList Tryd.prog ops Q rest (a.put o.dst (.agg (pls p).toArray)) w) : wpList Tryd.prog ops Q (o :: rest) a w :=
 BigFrame.wpList_want hw fun _ hK => wp_load_mid 24 x ho B 0 hx (pls p) _ hP.range Tryd.underlying24 rfl (by rw [pls_len]; kernel_rfl) (hK _ _ h)
end
set_option maxHeartbeats 8000000 in
theorem awake14 (w : World) (hT : T8 w) : Calls Tryd.prog 11 #[] w fun e w' => e = .returned (.bool true) ∧ Below w.heap.size w w' := by
 obtain ⟨f, hf⟩ := fp_ex
 have HA := Lib.hid (fun W h => prsA hf W h)
 have HB := Lib.hid (fun W h => prsB hf W h)
 have HP := Lib.hid (fun W h => prtB hf W h)
 have HT := Lib.hid hT
 have q1 := eqA
 clear hT hf
 go_enter Tryd.func11, Tryd.ntmps11
 go_upto_region 1 with fail
 refine wp_region_lit ?_
 refine wpl_parseC rfl rfl (HA.out w HT.out) ?_
 rintro e W1 ⟨rfl, hb1⟩
 refine ⟨_, rfl, ?_⟩
 refine wpList_moveY rfl 8 _ rfl rfl ?_
 refine wpl_extr (i := 0) rfl rfl rfl rfl ?_
 refine wpl_extr (i := 1) rfl rfl rfl rfl ?_
 refine wpList_allocP rfl rfl ?_
 intro W2 hp2 hb2 hs2
 refine wpList_storeP rfl _ _ rfl W1.heap.size pz pA rfl rfl hp2 ?_
 intro W3 hp3 ho3 hs3
 have hb3 : Below w.heap.size w W3 := (hb1.trans (hb2.mono hb1.size)).trans (ho3.below hb1.size (Nat.le_trans hb1.size hb2.size))
 obtain ⟨BA, hBA⟩ : ∃ b, W1.heap.size = b := ⟨_, rfl⟩
 rw [hBA] at hp3 ⊢
 have H3 : Hid (Below w.heap.size w W3 ∧ Pl W3 BA pA ∧ w.heap.size ≤ BA) := Lib.hid ⟨hb3, hp3, by rw [← hBA]; exact hb1.size⟩
 clear hp2 hb2 hs2 hp3 ho3 hs3 hb1 hb3 hBA
 go_upto_region 2 with fail
 refine wp_region_lit ?_
 refine wpl_parseC rfl rfl (HB.out W3 (HT.out.later H3.out.1)) ?_
 rintro e W4 ⟨rfl, hb4⟩
 refine ⟨_, rfl, ?_⟩
 refine wpList_moveY rfl 12 _ rfl rfl ?_
 refine wpl_extr (i := 0) rfl rfl rfl rfl ?_
 refine wpl_extr (i := 1) rfl rfl rfl rfl ?_
 refine wpList_allocP rfl rfl ?_
 intro W5 hp5 hb5 hs5
 refine wpList_storeP rfl _ _ rfl W4.heap.size pz pB rfl rfl hp5 ?_
 intro W6 hp6 ho6 hs6
 obtain ⟨BB, hBB⟩ : ∃ b, W4.heap.size = b := ⟨_, rfl⟩
 have H6 : Hid (Below w.heap.size w W6 ∧ Pl W6 BA pA ∧ Pl W6 BB pB) := Lib.hid (by
   obtain ⟨g1, g2, g3⟩ := H3.out
   have b36 : Below W3.heap.size W3 W6 := (hb4.trans (hb5.mono hb4.size)).trans (ho6.below hb4.size (Nat.le_trans hb4.size hb5.size))
   exact ⟨g1.trans (b36.mono g1.size), CB.later g2 b36, by rw [← hBB]; exact hp6⟩)
 rw [hBB]
 clear hp5 hb5 hs5 hp6 ho6 hs6 hb4 hBB H3
 go_upto_region 3 with fail
 refine wp_region_lit ?_
 refine wpList_load_mid rfl 24 _ rfl BB 0 rfl (pls pB) _ H6.out.2.2.range Tryd.underlying24 rfl (by rw [pls_len]; kernel_rfl) ?_
 refine wpl_printT rfl rfl rfl (HP.out W6 (HT.out.later H6.out.1)) ?_
 rintro e W7 ⟨rfl, hb7⟩
 refine ⟨_, rfl, ?_⟩
 have H7 : Hid (Below w.heap.size w W7 ∧ Pl W7 BA pA ∧ Pl W7 BB pB) := Lib.hid (by
   obtain ⟨g1, g2, g3⟩ := H6.out
   exact ⟨g1.trans (hb7.mono g1.size), CB.later g2 hb7, CB.later g3 hb7⟩)
 have y3 : W7.cell? ⟨BB, 3, none⟩ = some (.float .f64 4626322717216342016) := H7.out.2.2.at (j := 3) (by omega)
 have y5 : W7.cell? ⟨BB, 5, none⟩ = some (.float .f64 4602678819172646912) := H7.out.2.2.at (j := 5) (by omega)
 have y6 : W7.cell? ⟨BB, 6, none⟩ = some (.bool true) := H7.out.2.2.at (j := 6) (by omega)
 clear hb7 H6 HA HB HP HT
 have z1 : (FloatKind.f64.format.order 4626322717216342016 4626322717216342016 == some .eq) = true := by decide
 have z2 : (FloatKind.f64.format.order 4602678819172646912 4602678819172646912 == some .eq) = true := by decide
 go_upto_region 4 with fail
 refine wp_region_lit ?_
 refine wpList_moveY rfl 2 _ rfl rfl ?_
 refine wpl_eqI rfl rfl rfl ?_
 refine wpList_moveY rfl 21 _ rfl rfl ?_
 refine wpl_loadG (p := pA) rfl rfl rfl H7.out.2.1 ?_
 refine wpl_buildG rfl 24 _ rfl exPA (by kernel_rfl) ?_
 go_wp2_with fail
 go_ret
 exact ⟨rfl, H7.out.1⟩
end

/- Package switches: what the document's Print is made of. (gen_yu.py) -/
section
set_option maxRecDepth 100000
open Go.RowKit Go.Shelf Go.Lib
attribute [local go_sem] run_store_float
def bC (p : Pn) : Array Value := #[.bool ((p.fl 0)), .bool ((p.fl 1)), .bool ((p.fl 2)), .bool ((p.fl 4)), .bool ((p.fl 6)), .bool ((p.fl 7)), .bool ((p.fl 8)), .bool ((p.fl 9)), .bool ((p.fl 10)), .bool ((decide (p.st ≥ 0))), .bool ((((p.bd : Nat) : Int) == 3)), .bool ((((p.bd : Nat) : Int) == 2)), .bool ((p.fl 13)), .bool ((p.fl 14)), .bool ((p.fl 15)), .bool ((p.fl 16)), .bool ((p.fl 17)), .bool ((p.fl 18)), .bool ((p.fl 19)), .bool ((p.fl 20))]
def sC (f : Fp) (p : Pn) : Array Value := #[sv [112], sv [114], sv (113 :: f.tx p.ang), sv (97 :: f.tx p.area), sv [97], sv [68], sv [99], sv [79], sv [89], sv (83 :: itoa p.st), sv [105], sv [70], sv [108], sv [101], sv [110], sv [118], sv [122], sv [111, 50], sv [106], sv [65]]
theorem bsC_at (f : Fp) (p : Pn) (hs : -1 ≤ p.st) (k : Nat) (hk : k < 20) : ∃ q, (swS f p)[k]? = some q ∧ (bC p)[k]? = some (.bool q.1) ∧ (sC f p)[k]? = some (sv q.2) := by
 have hb3 : (((p.bd : Nat) : Int) == 3) = (p.bd == 3) := by rw [Bool.eq_iff_iff]; simp; omega
 have hb2 : (((p.bd : Nat) : Int) == 2) = (p.bd == 2) := by rw [Bool.eq_iff_iff]; simp; omega
 have hst : decide (p.st ≥ 0) = (p.st != -1) := by rw [Bool.eq_iff_iff]; simp; omega
 unfold bC sC swS
 rw [hb3, hb2, hst]
 have : k = 0 ∨ k = 1 ∨ k = 2 ∨ k = 3 ∨ k = 4 ∨ k = 5 ∨ k = 6 ∨ k = 7 ∨ k = 8 ∨ k = 9 ∨ k = 10 ∨ k = 11 ∨ k = 12 ∨ k = 13 ∨ k = 14 ∨ k = 15 ∨ k = 16 ∨ k = 17 ∨ k = 18 ∨ k = 19 := by omega
 rcases this with rfl | rfl | rfl | rfl | rfl | rfl | rfl | rfl | rfl | rfl | rfl | rfl | rfl | rfl | rfl | rfl | rfl | rfl | rfl | rfl
 all_goals exact ⟨_, rfl, rfl, rfl⟩
def FZ (f : Fp) (p : Pn) (B : Nat) (j : Nat) (v : Value) (W : World) : Prop := match j with
 | 0 => v = .pointer (some ⟨B, 3, none⟩)
 | 1 => v = .float .f64 p.ang
 | 2 => v = sv (f.tx p.ang)
 | 3 => v = sv (113 :: f.tx p.ang)
 | 4 => v = .pointer (some ⟨B, 5, none⟩)
 | 5 => v = .float .f64 p.area
 | 6 => v = sv (f.tx p.area)
 | 7 => v = sv (97 :: f.tx p.area)
 | 8 => v = .pointer (some ⟨B, 11, none⟩)
 | 9 => v = .int .i64 p.st
 | 10 => v = sv (itoa p.st)
 | 11 => v = sv (83 :: itoa p.st)
 | 12 => ∃ g, v = .slice (some ⟨g, 0, none⟩) 20 20 ∧ CB W g (sC f p) 9
 | _ => True
structure GZ (w0 : World) (p : Pn) (B D : Nat) (W : World) : Prop where
 pl : Pl W B p
 bel : Below w0.heap.size w0 W
 bl : CB W D (bC p) 4
theorem GZ.later {w0 : World} {p : Pn} {B D : Nat} {W W' : World} (h : GZ w0 p B D W) (hb : Below W.heap.size W W') : GZ w0 p B D W' := ⟨CB.later h.pl hb, h.bel.trans (hb.mono h.bel.size), h.bl.later hb⟩
theorem FZ.later {f : Fp} {p : Pn} {B : Nat} (j : Nat) (v : Value) (W W' : World) (h : FZ f p B j v W) (hb : Below W.heap.size W W') : FZ f p B j v W' := by
 unfold FZ at h ⊢
 split at h
 all_goals first
   | exact h
   | (obtain ⟨g, h1, h2⟩ := h; exact ⟨g, h1, h2.later hb⟩)
section
variable {o : Oper}
theorem wpl_v {ops : Array Oper} {rest : List Oper} {a : Act} {w : World} {Q : Exit → Act → World → Prop} {v : Value} (hg : o.guard = none) (hr : ∀ (K : Act → World → Prop) (Q : Exit → Act → World → Prop), K (a.put o.dst v) w → Oper.wp Tryd.prog o a w K Q) (h : wpList Tryd.prog ops Q rest (a.put o.dst v) w) : wpList Tryd.prog ops Q (o :: rest) a w :=
 wpList_plain hg fun _ hK => hr _ _ (hK _ _ h)
theorem ge_i {a : Act} {W : World} {K : Act → World → Prop} {Q : Exit → Act → World → Prop} {t : Nat} {n : Int} (ho : o.op = .binOp .geq 3 (.tmp t) (.const (.int .i64 0)) 3) (hv : a.eval (.tmp t) = .int .i64 n) (h : K (a.put o.dst (.bool (decide (n ≥ 0)))) W) : Oper.wp Tryd.prog o a W K Q := by
 unfold Oper.wp execOp
 rw [ho]
 simp only [hv]
 go_simp
 exact h
theorem sl_b {a : Act} {W : World} {K : Act → World → Prop} {Q : Exit → Act → World → Prop} {b0 b1 b2 b3 b4 b5 b6 b7 b8 b9 b10 b11 b12 b13 b14 b15 b16 b17 b18 b19 : Bool} (ho : o.op = Op.buildSlice 53 20 #[(0, Operand.tmp 15), (1, Operand.tmp 17), (2, Operand.tmp 19), (3, Operand.tmp 21), (4, Operand.tmp 23), (5, Operand.tmp 25), (6, Operand.tmp 27), (7, Operand.tmp 29), (8, Operand.tmp 31), (9, Operand.tmp 34), (10, Operand.tmp 37), (11, Operand.tmp 40), (12, Operand.tmp 42), (13, Operand.tmp 44), (14, Operand.tmp 46), (15, Operand.tmp 48), (16, Operand.tmp 50), (17, Operand.tmp 52), (18, Operand.tmp 54), (19, Operand.tmp 56)]) (h0 : a.eval (.tmp 15) = .bool b0) (h1 : a.eval (.tmp 17) = .bool b1) (h2 : a.eval (.tmp 19) = .bool b2) (h3 : a.eval (.tmp 21) = .bool b3) (h4 : a.eval (.tmp 23) = .bool b4) (h5 : a.eval (.tmp 25) = .bool b5) (h6 : a.eval (.tmp 27) = .bool b6) (h7 : a.eval (.tmp 29) = .bool b7) (h8 : a.eval (.tmp 31) = .bool b8) (h9 : a.eval (.tmp 34) = .bool b9) (h10 : a.eval (.tmp 37) = .bool b10) (h11 : a.eval (.tmp 40) = .bool b11) (h12 : a.eval (.tmp 42) = .bool b12) (h13 : a.eval (.tmp 44) = .bool b13) (h14 : a.eval (.tmp 46) = .bool b14) (h15 : a.eval (.tmp 48) = .bool b15) (h16 : a.eval (.tmp 50) = .bool b16) (h17 : a.eval (.tmp 52) = .bool b17) (h18 : a.eval (.tmp 54) = .bool b18) (h19 : a.eval (.tmp 56) = .bool b19)
   (h : K (a.put o.dst (.slice (some ⟨W.heap.size, 0, none⟩) 20 20)) (W.alloc (.cells #[.bool b0, .bool b1, .bool b2, .bool b3, .bool b4, .bool b5, .bool b6, .bool b7, .bool b8, .bool b9, .bool b10, .bool b11, .bool b12, .bool b13, .bool b14, .bool b15, .bool b16, .bool b17, .bool b18, .bool b19] 4))) : Oper.wp Tryd.prog o a W K Q := by
 unfold Oper.wp execOp
 rw [ho]
 simp only [List.map_toArray, List.map_cons, List.map_nil, h0, h1, h2, h3, h4, h5, h6, h7, h8, h9, h10, h11, h12, h13, h14, h15, h16, h17, h18, h19]
 go_simp
 exact h
theorem sl_s {a : Act} {W : World} {K : Act → World → Prop} {Q : Exit → Act → World → Prop} {s1 s2 s3 : ByteArray} (ho : o.op = Op.buildSlice 36 20 #[(0, Operand.const (Value.string { data := #[112] })), (1, Operand.const (Value.string { data := #[114] })), (2, Operand.tmp 61), (3, Operand.tmp 65), (4, Operand.const (Value.string { data := #[97] })), (5, Operand.const (Value.string { data := #[68] })), (6, Operand.const (Value.string { data := #[99] })), (7, Operand.const (Value.string { data := #[79] })), (8, Operand.const (Value.string { data := #[89] })), (9, Operand.tmp 69), (10, Operand.const (Value.string { data := #[105] })), (11, Operand.const (Value.string { data := #[70] })), (12, Operand.const (Value.string { data := #[108] })), (13, Operand.const (Value.string { data := #[101] })), (14, Operand.const (Value.string { data := #[110] })), (15, Operand.const (Value.string { data := #[118] })), (16, Operand.const (Value.string { data := #[122] })), (17, Operand.const (Value.string { data := #[111, 50] })), (18, Operand.const (Value.string { data := #[106] })), (19, Operand.const (Value.string { data := #[65] }))]) (h1 : a.eval (.tmp 61) = .string s1) (h2 : a.eval (.tmp 65) = .string s2) (h3 : a.eval (.tmp 69) = .string s3)
   (h : K (a.put o.dst (.slice (some ⟨W.heap.size, 0, none⟩) 20 20)) (W.alloc (.cells #[.string ⟨#[112]⟩, .string ⟨#[114]⟩, .string s1, .string s2, .string ⟨#[97]⟩, .string ⟨#[68]⟩, .string ⟨#[99]⟩, .string ⟨#[79]⟩, .string ⟨#[89]⟩, .string s3, .string ⟨#[105]⟩, .string ⟨#[70]⟩, .string ⟨#[108]⟩, .string ⟨#[101]⟩, .string ⟨#[110]⟩, .string ⟨#[118]⟩, .string ⟨#[122]⟩, .string ⟨#[111, 50]⟩, .string ⟨#[106]⟩, .string ⟨#[65]⟩] 9))) : Oper.wp Tryd.prog o a W K Q := by
 unfold Oper.wp execOp
 rw [ho]
 simp only [List.map_toArray, List.map_cons, List.map_nil, h1, h2, h3]
 go_simp
 exact h
theorem rtext_op {a : Act} {W : World} {K : Act → World → Prop} {Q : Exit → Act → World → Prop} {t x : Nat} {l : List UInt8} (ho : o.op = .call { callee := .value (.func 17), args := #[.tmp t], argTypes := #[22] }) (hv : a.eval (.tmp t) = .float .f64 x) (hC : Calls Tryd.prog 17 #[.float .f64 x] W fun r w' => r = .returned (sv l) ∧ Below W.heap.size W w')
   (h : ∀ W', Below W.heap.size W W' → K (a.put o.dst (sv l)) W') : Oper.wp Tryd.prog o a W K Q := by
 have hv' : (a.tmps[t]?).getD undef = .float .f64 x := by rw [← Array.getD_eq_getD_getElem?]; exact hv
 unfold Oper.wp execOp
 rw [ho]
 go_simp
 refine hC.mono ?_
 rintro e w' ⟨rfl, hb⟩
 exact h w' hb
theorem rshow_op {a : Act} {W : World} {K : Act → World → Prop} {Q : Exit → Act → World → Prop} {t : Nat} {n : Int} {l : List UInt8} (ho : o.op = .call { callee := .value (.func 18), args := #[.tmp t], argTypes := #[3] }) (hv : a.eval (.tmp t) = .int .i64 n) (hC : Calls Tryd.prog 18 #[.int .i64 n] W fun r w' => r = .returned (sv l) ∧ Below W.heap.size W w')
   (h : ∀ W', Below W.heap.size W W' → K (a.put o.dst (sv l)) W') : Oper.wp Tryd.prog o a W K Q := by
 have hv' : (a.tmps[t]?).getD undef = .int .i64 n := by rw [← Array.getD_eq_getD_getElem?]; exact hv
 unfold Oper.wp execOp
 rw [ho]
 go_simp
 refine hC.mono ?_
 rintro e w' ⟨rfl, hb⟩
 exact h w' hb
end
end

/- Package switches: the document's Print. (gen_yu.py) -/
section
set_option maxRecDepth 100000
open Go.RowKit Go.Shelf Go.Lib
attribute [local go_sem] run_store_float
theorem j13_of (j : Nat) (h : j < 13) : j = 0 ∨ j = 1 ∨ j = 2 ∨ j = 3 ∨ j = 4 ∨ j = 5 ∨ j = 6 ∨ j = 7 ∨ j = 8 ∨ j = 9 ∨ j = 10 ∨ j = 11 ∨ j = 12 := by omega
set_option maxHeartbeats 16000000 in
theorem refPrint_any {f : Fp} (hf : f.Ok) (p : Pn) (w : World) (ha : p.ang < 18446744073709551616) (hr : p.area < 18446744073709551616) (hs : InR p.st) :
   Calls Tryd.prog 8 #[.agg (pls p).toArray] w fun e w' => e = .returned (.tuple #[sv (prtS f p).1, .int .i64 (prtS f p).2]) ∧ Below w.heap.size w w' := by
 have hlen : (f.tx p.ang).length ≤ 50 ∧ (f.tx p.area).length ≤ 50 ∧ (itoa p.st).length ≤ 50 := ⟨by have := (hf.tx _ ha).lenY; omega, by have := (hf.tx _ hr).lenY; omega, by have := itoa_length_le p.st hs.1 hs.2; omega⟩
 have hsw : ∀ q ∈ swS f p, q.2.length ≤ 100 := by
   intro q hq
   simp only [swS, List.mem_cons, List.not_mem_nil, or_false] at hq
   rcases hq with rfl | rfl | rfl | rfl | rfl | rfl | rfl | rfl | rfl | rfl | rfl | rfl | rfl | rfl | rfl | rfl | rfl | rfl | rfl | rfl
   all_goals simp only [List.length_cons, List.length_nil]
   all_goals omega
 have HSw := Lib.hid hsw
 have HL := Lib.hid hlen
 have HC := Lib.hid (show (∀ W, Calls Tryd.prog 17 #[.float .f64 p.ang] W fun r w' => r = .returned (sv (f.tx p.ang)) ∧ Below W.heap.size W w') ∧ (∀ W, Calls Tryd.prog 17 #[.float .f64 p.area] W fun r w' => r = .returned (sv (f.tx p.area)) ∧ Below W.heap.size W w') ∧ ∀ W, Calls Tryd.prog 18 #[.int .i64 p.st] W fun r w' => r = .returned (sv (itoa p.st)) ∧ Below W.heap.size W w' from
   ⟨fun W => refText_any _ _ W ha (hf.tx _ ha) (hf.tx _ ha).lenY, fun W => refText_any _ _ W hr (hf.tx _ hr) (hf.tx _ hr).lenY, fun W => refShow_any _ hs W⟩)
 obtain ⟨W, hW⟩ : ∃ W, w.alloc (.cells (pls p).toArray 24) = W := ⟨_, rfl⟩
 have HP : Hid (Pl W w.heap.size p) := Lib.hid (by rw [← hW]; exact CB.new w _ _)
 have HB : Hid (Below w.heap.size w W) := Lib.hid (by rw [← hW]; exact (Below.refl _ w).alloc (Nat.le_refl _) _)
 have hk := fun W => refCheck_any p W
 rw [chkR_is] at hk
 have HK := Lib.hid hk
 have hst : chkS p = 0 → -1 ≤ p.st := by
   intro h
   unfold chkS at h
   split at h
   · rename_i h1
     simp only [Bool.and_eq_true, decide_eq_true_eq] at h1
     omega
   · cases h
 unfold prtS
 obtain ⟨ce, hce⟩ : ∃ ce, chkS p = ce := ⟨_, rfl⟩
 rw [hce] at HK hst ⊢
 have HS := Lib.hid hst
 clear hf ha hr hs hce hlen hsw hk hst
 by_cases h0 : ce = 0
 rotate_left
 · have h1 : (ce == 0) = false := by simpa using h0
   have h2 : (ce != 0) = true := by simpa using h0
   rw [if_neg h0]
   go_enter Tryd.func8, Tryd.ntmps8
   go_upto_region 1 with fail
   refine wp_region_lit ?_
   refine wpList_load_mid rfl 24 _ rfl _ 0 (by rfl) (pls p) _ HP.out.range Tryd.underlying24 rfl (by rw [pls_len]; kernel_rfl) ?_
   go_wp2_with (go_at_call 10; refine (HK.out _).mono ?_; rintro e w' ⟨rfl, hb⟩)
   go_ret2
   exact ⟨rfl, HB.out.trans (hb.mono HB.out.size)⟩
 · subst h0
   rw [if_pos rfl]
   have HS1 := Lib.hid (HS.out rfl)
   obtain ⟨B, hBB⟩ : ∃ B, w.heap.size = B := ⟨_, rfl⟩
   have HPB : Hid (Pl W B p) := Lib.hid (by rw [← hBB]; exact HP.out)
   go_enter Tryd.func8, Tryd.ntmps8
   go_upto_region 1 with fail
   refine wp_region_lit ?_
   refine wpList_load_mid rfl 24 _ rfl _ 0 (by rfl) (pls p) _ HPB.out.range Tryd.underlying24 rfl (by rw [pls_len]; kernel_rfl) ?_
   go_upto_region 4 with (go_at_call 10; refine (HK.out _).mono ?_; rintro e W2 ⟨rfl, hb⟩)
   have HH : Hid (Pl W2 B p ∧ Below w.heap.size w W2) := Lib.hid ⟨CB.later HPB.out hb, HB.out.trans (hb.mono HB.out.size)⟩
   clear hb HK HB HPB hW HS
   try rw [hBB]
   clear HP hBB
   have HP : Hid (Pl W2 B p) := Lib.hid HH.out.1
   refine wp_region_lit ?_
   refine wpList_faY fp_0 rfl 1 B rfl rfl ?_
   simp only [Act.put, List.setIfInBounds_toArray, List.set_cons_succ, List.set_cons_zero]
   refine wpl_v rfl (fun K Q h => ld_bool rfl rfl (HP.out.at (j := 0) (by omega)) h) ?_
   simp only [Act.put, List.setIfInBounds_toArray, List.set_cons_succ, List.set_cons_zero]
   refine wpList_faY fp_1 rfl 1 B rfl rfl ?_
   simp only [Act.put, List.setIfInBounds_toArray, List.set_cons_succ, List.set_cons_zero]
   refine wpl_v rfl (fun K Q h => ld_bool rfl rfl (HP.out.at (j := 1) (by omega)) h) ?_
   simp only [Act.put, List.setIfInBounds_toArray, List.set_cons_succ, List.set_cons_zero]
   refine wpList_faY fp_2 rfl 1 B rfl rfl ?_
   simp only [Act.put, List.setIfInBounds_toArray, List.set_cons_succ, List.set_cons_zero]
   refine wpl_v rfl (fun K Q h => ld_bool rfl rfl (HP.out.at (j := 2) (by omega)) h) ?_
   simp only [Act.put, List.setIfInBounds_toArray, List.set_cons_succ, List.set_cons_zero]
   refine wpList_faY fp_4 rfl 1 B rfl rfl ?_
   simp only [Act.put, List.setIfInBounds_toArray, List.set_cons_succ, List.set_cons_zero]
   refine wpl_v rfl (fun K Q h => ld_bool rfl rfl (HP.out.at (j := 4) (by omega)) h) ?_
   simp only [Act.put, List.setIfInBounds_toArray, List.set_cons_succ, List.set_cons_zero]
   refine wpList_faY fp_6 rfl 1 B rfl rfl ?_
   simp only [Act.put, List.setIfInBounds_toArray, List.set_cons_succ, List.set_cons_zero]
   refine wpl_v rfl (fun K Q h => ld_bool rfl rfl (HP.out.at (j := 6) (by omega)) h) ?_
   simp only [Act.put, List.setIfInBounds_toArray, List.set_cons_succ, List.set_cons_zero]
   refine wpList_faY fp_7 rfl 1 B rfl rfl ?_
   simp only [Act.put, List.setIfInBounds_toArray, List.set_cons_succ, List.set_cons_zero]
   refine wpl_v rfl (fun K Q h => ld_bool rfl rfl (HP.out.at (j := 7) (by omega)) h) ?_
   simp only [Act.put, List.setIfInBounds_toArray, List.set_cons_succ, List.set_cons_zero]
   refine wpList_faY fp_8 rfl 1 B rfl rfl ?_
   simp only [Act.put, List.setIfInBounds_toArray, List.set_cons_succ, List.set_cons_zero]
   refine wpl_v rfl (fun K Q h => ld_bool rfl rfl (HP.out.at (j := 8) (by omega)) h) ?_
   simp only [Act.put, List.setIfInBounds_toArray, List.set_cons_succ, List.set_cons_zero]
   refine wpList_faY fp_9 rfl 1 B rfl rfl ?_
   simp only [Act.put, List.setIfInBounds_toArray, List.set_cons_succ, List.set_cons_zero]
   refine wpl_v rfl (fun K Q h => ld_bool rfl rfl (HP.out.at (j := 9) (by omega)) h) ?_
   simp only [Act.put, List.setIfInBounds_toArray, List.set_cons_succ, List.set_cons_zero]
   refine wpList_faY fp_10 rfl 1 B rfl rfl ?_
   simp only [Act.put, List.setIfInBounds_toArray, List.set_cons_succ, List.set_cons_zero]
   refine wpl_v rfl (fun K Q h => ld_bool rfl rfl (HP.out.at (j := 10) (by omega)) h) ?_
   simp only [Act.put, List.setIfInBounds_toArray, List.set_cons_succ, List.set_cons_zero]
   refine wpList_faY fp_11 rfl 1 B rfl rfl ?_
   simp only [Act.put, List.setIfInBounds_toArray, List.set_cons_succ, List.set_cons_zero]
   refine wpl_v rfl (fun K Q h => ld_int rfl rfl (HP.out.at (j := 11) (by omega)) h) ?_
   simp only [Act.put, List.setIfInBounds_toArray, List.set_cons_succ, List.set_cons_zero]
   refine wpl_v rfl (fun K Q h => ge_i rfl rfl h) ?_
   simp only [Act.put, List.setIfInBounds_toArray, List.set_cons_succ, List.set_cons_zero]
   refine wpList_faY fp_12 rfl 1 B rfl rfl ?_
   simp only [Act.put, List.setIfInBounds_toArray, List.set_cons_succ, List.set_cons_zero]
   refine wpl_v rfl (fun K Q h => ld_uint8 rfl rfl (HP.out.at (j := 12) (by omega)) h) ?_
   simp only [Act.put, List.setIfInBounds_toArray, List.set_cons_succ, List.set_cons_zero]
   refine wpl_v rfl (fun K Q h => eq_i rfl rfl h) ?_
   simp only [Act.put, List.setIfInBounds_toArray, List.set_cons_succ, List.set_cons_zero]
   refine wpList_faY fp_12 rfl 1 B rfl rfl ?_
   simp only [Act.put, List.setIfInBounds_toArray, List.set_cons_succ, List.set_cons_zero]
   refine wpl_v rfl (fun K Q h => ld_uint8 rfl rfl (HP.out.at (j := 12) (by omega)) h) ?_
   simp only [Act.put, List.setIfInBounds_toArray, List.set_cons_succ, List.set_cons_zero]
   refine wpl_v rfl (fun K Q h => eq_i rfl rfl h) ?_
   simp only [Act.put, List.setIfInBounds_toArray, List.set_cons_succ, List.set_cons_zero]
   refine wpList_faY fp_13 rfl 1 B rfl rfl ?_
   simp only [Act.put, List.setIfInBounds_toArray, List.set_cons_succ, List.set_cons_zero]
   refine wpl_v rfl (fun K Q h => ld_bool rfl rfl (HP.out.at (j := 13) (by omega)) h) ?_
   simp only [Act.put, List.setIfInBounds_toArray, List.set_cons_succ, List.set_cons_zero]
   refine wpList_faY fp_14 rfl 1 B rfl rfl ?_
   simp only [Act.put, List.setIfInBounds_toArray, List.set_cons_succ, List.set_cons_zero]
   refine wpl_v rfl (fun K Q h => ld_bool rfl rfl (HP.out.at (j := 14) (by omega)) h) ?_
   simp only [Act.put, List.setIfInBounds_toArray, List.set_cons_succ, List.set_cons_zero]
   refine wpList_faY fp_15 rfl 1 B rfl rfl ?_
   simp only [Act.put, List.setIfInBounds_toArray, List.set_cons_succ, List.set_cons_zero]
   refine wpl_v rfl (fun K Q h => ld_bool rfl rfl (HP.out.at (j := 15) (by omega)) h) ?_
   simp only [Act.put, List.setIfInBounds_toArray, List.set_cons_succ, List.set_cons_zero]
   refine wpList_faY fp_16 rfl 1 B rfl rfl ?_
   simp only [Act.put, List.setIfInBounds_toArray, List.set_cons_succ, List.set_cons_zero]
   refine wpl_v rfl (fun K Q h => ld_bool rfl rfl (HP.out.at (j := 16) (by omega)) h) ?_
   simp only [Act.put, List.setIfInBounds_toArray, List.set_cons_succ, List.set_cons_zero]
   refine wpList_faY fp_17 rfl 1 B rfl rfl ?_
   simp only [Act.put, List.setIfInBounds_toArray, List.set_cons_succ, List.set_cons_zero]
   refine wpl_v rfl (fun K Q h => ld_bool rfl rfl (HP.out.at (j := 17) (by omega)) h) ?_
   simp only [Act.put, List.setIfInBounds_toArray, List.set_cons_succ, List.set_cons_zero]
   refine wpList_faY fp_18 rfl 1 B rfl rfl ?_
   simp only [Act.put, List.setIfInBounds_toArray, List.set_cons_succ, List.set_cons_zero]
   refine wpl_v rfl (fun K Q h => ld_bool rfl rfl (HP.out.at (j := 18) (by omega)) h) ?_
   simp only [Act.put, List.setIfInBounds_toArray, List.set_cons_succ, List.set_cons_zero]
   refine wpList_faY fp_19 rfl 1 B rfl rfl ?_
   simp only [Act.put, List.setIfInBounds_toArray, List.set_cons_succ, List.set_cons_zero]
   refine wpl_v rfl (fun K Q h => ld_bool rfl rfl (HP.out.at (j := 19) (by omega)) h) ?_
   simp only [Act.put, List.setIfInBounds_toArray, List.set_cons_succ, List.set_cons_zero]
   refine wpList_faY fp_20 rfl 1 B rfl rfl ?_
   simp only [Act.put, List.setIfInBounds_toArray, List.set_cons_succ, List.set_cons_zero]
   refine wpl_v rfl (fun K Q h => ld_bool rfl rfl (HP.out.at (j := 20) (by omega)) h) ?_
   simp only [Act.put, List.setIfInBounds_toArray, List.set_cons_succ, List.set_cons_zero]
   refine wpList_plain rfl fun _ hK => sl_b rfl rfl rfl rfl rfl rfl rfl rfl rfl rfl rfl rfl rfl rfl rfl rfl rfl rfl rfl rfl rfl (hK _ _ ?_)
   simp only [Act.put, List.setIfInBounds_toArray, List.set_cons_succ, List.set_cons_zero]
   refine wpl_assign rfl rfl rfl ?_
   simp only [Act.put, List.setIfInBounds_toArray, List.set_cons_succ, List.set_cons_zero]
   obtain ⟨W3, hW3⟩ : ∃ W3, W2.alloc (.cells (bC p) 4) = W3 := ⟨_, rfl⟩
   obtain ⟨D, hD⟩ : ∃ D, W2.heap.size = D := ⟨_, rfl⟩
   have HG : Hid (GZ w p B D W3) := Lib.hid (by
     have b3 : Below W2.heap.size W2 W3 := by rw [← hW3]; exact (Below.refl _ _).alloc (Nat.le_refl _) _
     exact ⟨CB.later HP.out b3, HH.out.2.trans (b3.mono HH.out.2.size), by rw [← hW3, ← hD]; exact CB.new _ _ _⟩)
   unfold bC at hW3
   clear HH HP
   go_upto_region 5 with fail
   try rw [hW3]
   try rw [hD]
   clear hW3 hD
   refine region_facts2 58 13 14 (GZ w p B D) (FZ f p B) (by kernel_rfl) (by kernel_rfl) (by omega) (by kernel_rfl) (Nat.le_of_ble_eq_true (by kernel_rfl)) (HG.out.later (Below.refl _ _).drew) (fun j v W W' h hb => FZ.later j v W W' h hb) ?_ ?_
   · as_aux_lemma =>
     intro Q' j o hj ho a W hG hout hd
     have hc := j13_of j hj
     clear hj
     rcases hc with rfl | rfl | rfl | rfl | rfl | rfl | rfl | rfl | rfl | rfl | rfl | rfl | rfl
     · replace ho := Option.some.inj (Eq.trans (Eq.symm ho) rfl)
       subst ho
       exact fp_3 _ a W _ Q' 1 B rfl ((hout 1 (by omega)).trans rfl) ⟨_, rfl, hG, Below.refl _ _, rfl⟩
     · replace ho := Option.some.inj (Eq.trans (Eq.symm ho) rfl)
       subst ho
       exact ld_float64 rfl (hd ⟨0, .data⟩ (by simp) rfl) (hG.pl.at (j := 3) (by omega)) ⟨_, rfl, hG, Below.refl _ _, rfl⟩
     · replace ho := Option.some.inj (Eq.trans (Eq.symm ho) rfl)
       subst ho
       exact rtext_op rfl (hd ⟨1, .data⟩ (by simp) rfl) (HC.out.1 W) fun w' hb => ⟨_, rfl, hG.later hb, hb, rfl⟩
     · replace ho := Option.some.inj (Eq.trans (Eq.symm ho) rfl)
       subst ho
       exact add_s HL.out.1 rfl (hd ⟨2, .data⟩ (by simp) rfl) ⟨_, rfl, hG, Below.refl _ _, rfl⟩
     · replace ho := Option.some.inj (Eq.trans (Eq.symm ho) rfl)
       subst ho
       exact fp_5 _ a W _ Q' 1 B rfl ((hout 1 (by omega)).trans rfl) ⟨_, rfl, hG, Below.refl _ _, rfl⟩
     · replace ho := Option.some.inj (Eq.trans (Eq.symm ho) rfl)
       subst ho
       exact ld_float64 rfl (hd ⟨4, .data⟩ (by simp) rfl) (hG.pl.at (j := 5) (by omega)) ⟨_, rfl, hG, Below.refl _ _, rfl⟩
     · replace ho := Option.some.inj (Eq.trans (Eq.symm ho) rfl)
       subst ho
       exact rtext_op rfl (hd ⟨5, .data⟩ (by simp) rfl) (HC.out.2.1 W) fun w' hb => ⟨_, rfl, hG.later hb, hb, rfl⟩
     · replace ho := Option.some.inj (Eq.trans (Eq.symm ho) rfl)
       subst ho
       exact add_s HL.out.2.1 rfl (hd ⟨6, .data⟩ (by simp) rfl) ⟨_, rfl, hG, Below.refl _ _, rfl⟩
     · replace ho := Option.some.inj (Eq.trans (Eq.symm ho) rfl)
       subst ho
       exact fp_11 _ a W _ Q' 1 B rfl ((hout 1 (by omega)).trans rfl) ⟨_, rfl, hG, Below.refl _ _, rfl⟩
     · replace ho := Option.some.inj (Eq.trans (Eq.symm ho) rfl)
       subst ho
       exact ld_int rfl (hd ⟨8, .data⟩ (by simp) rfl) (hG.pl.at (j := 11) (by omega)) ⟨_, rfl, hG, Below.refl _ _, rfl⟩
     · replace ho := Option.some.inj (Eq.trans (Eq.symm ho) rfl)
       subst ho
       exact rshow_op rfl (hd ⟨9, .data⟩ (by simp) rfl) (HC.out.2.2 W) fun w' hb => ⟨_, rfl, hG.later hb, hb, rfl⟩
     · replace ho := Option.some.inj (Eq.trans (Eq.symm ho) rfl)
       subst ho
       exact add_s HL.out.2.2 rfl (hd ⟨10, .data⟩ (by simp) rfl) ⟨_, rfl, hG, Below.refl _ _, rfl⟩
     · replace ho := Option.some.inj (Eq.trans (Eq.symm ho) rfl)
       subst ho
       exact sl_s rfl (hd ⟨3, .data⟩ (by simp) rfl) (hd ⟨7, .data⟩ (by simp) rfl) (hd ⟨11, .data⟩ (by simp) rfl) ⟨_, rfl, hG.later ((Below.refl _ W).alloc (Nat.le_refl _) _), (Below.refl _ W).alloc (Nat.le_refl _) _, W.heap.size, rfl, CB.new W _ _⟩
   · intro vs W4 hG hF
     obtain ⟨g, e12, hg⟩ : ∃ g, vs 12 = .slice (some ⟨g, 0, none⟩) 20 20 ∧ CB W4 g (sC f p) 9 := hF 12 (by omega)
     have HZ : Hid (Below w.heap.size w W4 ∧ CB W4 D (bC p) 4 ∧ CB W4 g (sC f p) 9) := Lib.hid ⟨hG.bel, hG.bl, hg⟩
     clear hF hG hg HG HC
     generalize hA : actF _ 58 13 (fun _ => true) vs = A
     simp only [actF, fillL, Nat.reduceAdd, Nat.reduceSub, Nat.reduceLeDiff, Nat.reduceLT, if_true, if_false, and_true, and_false, and_self, e12] at hA
     subst hA
     clear e12
     refine wpAny_of_held (S := fun _ => True) _ _ _ _ ?_
     refine call_at (fuel := 0) 13 (by kernel_rfl) (by kernel_rfl) ?_
     intro o ho
     replace ho := Option.some.inj (Eq.trans (Eq.symm ho) rfl)
     subst ho
     intro KF hK
     go_simp
     refine hK.out _ _ trivial ?_
     intro _
     clear hK KF
     try simp only [Act.put, List.setIfInBounds_toArray]
     refine wpAnyH_done (by kernel_rfl) ?_ _
     go_wp2_with fail
     go_loopw [7, 8] (fun s i wr => ∃ (k : Nat) (sb : ByteArray), k ≤ 20 ∧ i = .int .i64 (k : Nat) ∧ s = .string sb ∧ Hid (wr = W4) ∧ Hid (sb.data.toList = catS ((swS f p).take k))) (fun _ i _ => 20 - (RowKit.intOf i).toNat)
     case atStart => exact ⟨0, ⟨#[]⟩, by omega, rfl, rfl, Lib.hid rfl, Lib.hid (by simp [catS])⟩
     case round =>
       obtain ⟨k, sb, hk, rfl, rfl, hwr, HR⟩ := hrel
       obtain rfl := hwr.out
       clear hwr
       have hk2 : (k : Int) ≤ 20 := by omega
       have hk0 : (0 : Int) ≤ (k : Int) := by omega
       by_cases hlt : k < 20
       · have hlt' : (k : Int) < 20 := by omega
         obtain ⟨⟨b, l⟩, hq, c0, c1⟩ := bsC_at f p HS1.out k hlt
         have hll : l.length ≤ 100 := HSw.out _ (List.mem_of_getElem? hq)
         obtain ⟨sl, hsl⟩ : ∃ sl : ByteArray, (⟨l.toArray⟩ : ByteArray) = sl := ⟨_, rfl⟩
         have hd : sl.data.toList = l := by rw [← hsl]
         have x0 : wr.cell? ⟨D, k, none⟩ = some (.bool b) := by
           have h := HZ.out.2.1
           unfold CB at h
           simp [World.cell?, h, c0]
         have x1 : wr.cell? ⟨g, k, none⟩ = some (.string sl) := by
           have h := HZ.out.2.2
           unfold CB at h
           rw [← hsl]
           simp [World.cell?, h, c1]
         have hcl := catS_len HSw.out k (by omega)
         have z1 : sb.size = (catS ((swS f p).take k)).length := by rw [← HR.out, Lib.size_eq]
         have z2 : sl.size = l.length := by rw [← hd, Lib.size_eq]
         have hsum := run_string_add (P := Tryd.prog) (w := wr) sb sl (by omega) (by omega)
         have HQ := Lib.hid (And.intro hq hd)
         clear hq c0 c1 hll hsl hd hcl z1 z2
         cases b with
         | false =>
           go_wp2_with fail
           exact ⟨⟨k + 1, sb, by omega, by go_num, rfl, Lib.hid (by trivial), Lib.hid (by rw [catS_take HQ.out.1, HR.out]; simp)⟩, by simp [RowKit.intOf]; omega⟩
         | true =>
           go_wp2_with fail
           exact ⟨⟨k + 1, sb ++ sl, by omega, by go_num, rfl, Lib.hid (by trivial), Lib.hid (by rw [catS_take HQ.out.1, ← HR.out, if_pos rfl, ← HQ.out.2]; simp [ByteArray.data_append])⟩, by simp [RowKit.intOf]; omega⟩
       · have hlt' : ¬ ((k : Int) < 20) := by omega
         obtain rfl : k = 20 := by omega
         have he : Value.string sb = sv (catS (swS f p)) := by
           have h := HR.out
           rw [List.take_of_length_le (by rw [swS_len]; omega)] at h
           rw [← h]
         have HE := Lib.hid he
         clear he
         go_wp2
         go_ret2
         exact ⟨by rw [HE.out]; rfl, HZ.out.1⟩
end
end Go.Proofs.YtifjfgafpfefpaaDoor
