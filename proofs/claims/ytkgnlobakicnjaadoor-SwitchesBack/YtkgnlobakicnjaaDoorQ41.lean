/- Own texts, put together: Yze. -/
import Derived.Test.YtkgnlobakicnjaaDoorQ39
import Derived.Test.YtkgnlobakicnjaaDoorQ40
/- The law SwitchesBack: what is written is read back as it was; what is read is written, and read the same. (gen_yze.py) -/
namespace Go.Proofs.YtkgnlobakicnjaaDoor
set_option maxRecDepth 100000
open Go.RowKit Go.Shelf Go.Lib
attribute [local go_sem] run_store_float
section
variable {ops : Array Oper} {rest : List Oper} {o : Oper} {a : Act} {w : World} {Q : Exit → Act → World → Prop}
theorem wpl_moveG (hw : Region.wanted o (yielded ops a.tmps) = true) {t : Nat} {v : Value} (ho : o.op = .move (.tmp t)) (hv : a.eval (.tmp t) = v) (h : wpList Tryd.prog ops Q rest (a.put o.dst v) w) : wpList Tryd.prog ops Q (o :: rest) a w :=
 BigFrame.wpList_want hw fun K hK => by
   have h' := hK _ _ h
   clear hK h
   unfold Oper.wp execOp
   rw [ho]
   simp only [hv]
   go_simp
   exact h'
theorem wpl_eqG (hw : Region.wanted o (yielded ops a.tmps) = true) {t : Nat} {n m : Int} (ho : o.op = .binOp .eql 25 (.tmp t) (.const (.int .i64 m)) 25) (hv : a.eval (.tmp t) = .int .i64 n) (h : wpList Tryd.prog ops Q rest (a.put o.dst (.bool (n == m))) w) : wpList Tryd.prog ops Q (o :: rest) a w :=
 BigFrame.wpList_want hw fun K hK => by
   have h' := hK _ _ h
   clear hK h
   unfold Oper.wp execOp
   rw [ho]
   simp only [hv]
   go_simp
   exact h'
theorem wpl_neG (hw : Region.wanted o (yielded ops a.tmps) = true) {t : Nat} {n m : Int} (ho : o.op = .binOp .neq 25 (.tmp t) (.const (.int .i64 m)) 25) (hv : a.eval (.tmp t) = .int .i64 n) (h : wpList Tryd.prog ops Q rest (a.put o.dst (.bool (n != m))) w) : wpList Tryd.prog ops Q (o :: rest) a w :=
 BigFrame.wpList_want hw fun K hK => by
   have h' := hK _ _ h
   clear hK h
   unfold Oper.wp execOp
   rw [ho]
   simp only [hv]
   go_simp
   exact h'
theorem wpl_eqPG (hw : Region.wanted o (yielded ops a.tmps) = true) {t u : Nat} {p q : Pn} {b : Bool} (ho : o.op = .binOp .eql 42 (.tmp t) (.tmp u) 42) (hv : a.eval (.tmp t) = .agg (pls p).toArray) (hu : a.eval (.tmp u) = .agg (pls q).toArray) (hb : eqP p q = b) (h : wpList Tryd.prog ops Q rest (a.put o.dst (.bool b)) w) : wpList Tryd.prog ops Q (o :: rest) a w :=
 BigFrame.wpList_want hw fun K hK => by
   have h' := hK _ _ h
   have e := eq_pl p q w
   rw [hb] at e
   have g : (eqGuard .eql 42 (.tmp t) (.tmp u) (.agg (pls p).toArray) (.agg (pls q).toArray)).run Tryd.prog w = .ok () w := by
     unfold eqGuard
     go_simp
   clear hK h
   unfold Oper.wp execOp
   rw [ho]
   simp only [hv, hu, Sem.run_bind, g, e, Result.andThen_ok, Sem.run_pure]
   exact h'
theorem wpl_nePG (hw : Region.wanted o (yielded ops a.tmps) = true) {t u : Nat} {p q : Pn} {b : Bool} (ho : o.op = .binOp .neq 42 (.tmp t) (.tmp u) 42) (hv : a.eval (.tmp t) = .agg (pls p).toArray) (hu : a.eval (.tmp u) = .agg (pls q).toArray) (hb : (!eqP p q) = b) (h : wpList Tryd.prog ops Q rest (a.put o.dst (.bool b)) w) : wpList Tryd.prog ops Q (o :: rest) a w :=
 BigFrame.wpList_want hw fun K hK => by
   have h' := hK _ _ h
   have e := ne_pl p q w
   rw [hb] at e
   have g : (eqGuard .neq 42 (.tmp t) (.tmp u) (.agg (pls p).toArray) (.agg (pls q).toArray)).run Tryd.prog w = .ok () w := by
     unfold eqGuard
     go_simp
   clear hK h
   unfold Oper.wp execOp
   rw [ho]
   simp only [hv, hu, Sem.run_bind, g, e, Result.andThen_ok, Sem.run_pure]
   exact h'
theorem wpl_pick {x y z : Operand} {b : Bool} {v : Value} (hg : o.guard = none) (ho : o.op = .pick x y z) (hx : a.eval x = .bool b) (hv : (if b then a.eval y else a.eval z) = v) (h : wpList Tryd.prog ops Q rest (a.put o.dst v) w) : wpList Tryd.prog ops Q (o :: rest) a w :=
 wpList_plain hg fun K hK => by
   have h' := hK _ _ h
   clear hK h
   unfold Oper.wp execOp
   rw [ho]
   simp only [hx]
   cases b
   · simp only [Bool.false_eq_true, if_false] at hv
     subst hv
     simp only [Sem.run_bind, Sem.run_pure]
     exact h'
   · simp only [if_true] at hv
     subst hv
     simp only [Sem.run_bind, Sem.run_pure]
     exact h'
theorem wpl_addS {t : Nat} {s r : ByteArray} (hg : o.guard = none) (ho : o.op = .binOp .add 9 (.const (.string s)) (.tmp t) 9) (hv : a.eval (.tmp t) = .string r) (hz : s.size + r.size ≤ 9223372036854775807) (h : wpList Tryd.prog ops Q rest (a.put o.dst (.string (s ++ r))) w) : wpList Tryd.prog ops Q (o :: rest) a w :=
 wpList_plain hg fun K hK => by
   have h' := hK _ _ h
   clear hK h
   unfold Oper.wp execOp
   rw [ho]
   simp only [hv]
   go_simp
   rw [if_neg (by omega)]
   exact h'
end
set_option maxHeartbeats 16000000 in
theorem back14 (p : Pn) (s : ByteArray) (w : World) (hT : T8 w) (ha : p.ang < 18446744073709551616) (hr : p.area < 18446744073709551616) (hs : InR p.st) :
   Calls Tryd.prog 4 #[.agg (pls p).toArray, .string s] w fun e w' => e = .returned (.bool true) ∧ Below w.heap.size w w' := by
 obtain ⟨f, hf⟩ := fp_ex
 have HT := Lib.hid hT
 have HA := Lib.hid (fun W h => awake14 W h)
 obtain ⟨W, hW⟩ : ∃ W, w.alloc (.cells (pls p).toArray 42) = W := ⟨_, rfl⟩
 obtain ⟨B, hBB⟩ : ∃ B, w.heap.size = B := ⟨_, rfl⟩
 have HP : Hid (Pl W B p) := Lib.hid (by rw [← hW, ← hBB]; exact CB.new w _ _)
 have HB : Hid (Below w.heap.size w W) := Lib.hid (by rw [← hW]; exact (Below.refl _ w).alloc (Nat.le_refl _) _)
 by_cases hlen : (5000 : Int) < (s.size : Int)
 · clear ha hr hs hf hT
   go_enter Tryd.func4, Tryd.ntmps4
   go_upto_region 1 with fail
   try rw [hW]
   go_wp2_with (go_at_call 10; refine (HA.out W (HT.out.later HB.out)).mono ?_; rintro e w' ⟨rfl, hb⟩)
   go_ret
   exact ⟨rfl, HB.out.trans (hb.mono HB.out.size)⟩
 have hL : s.data.toList.length ≤ 100000 := by
   have : s.data.toList.length = s.size := by rw [← Lib.size_eq]
   omega
 obtain ⟨q2, hq2⟩ : ∃ q, (prsS f s.data.toList).1 = q := ⟨_, rfl⟩
 obtain ⟨e2, he2⟩ : ∃ e, (prsS f s.data.toList).2 = e := ⟨_, rfl⟩
 have HPs : Hid (∀ W, T8 W → Calls Tryd.prog 13 #[.string s] W fun e w' => e = .returned (.tuple #[.agg (pls q2).toArray, .int .i64 e2]) ∧ Below W.heap.size W w') := Lib.hid (fun W h => by
   have := parse_any hf s _ W h rfl hL
   rw [hq2, he2] at this
   exact this)
 have HW2 : Hid (e2 = 0 → ∃ t r, (∀ W, T8 W → Calls Tryd.prog 11 #[.agg (pls q2).toArray] W fun e w' => e = .returned (.tuple #[sv t, .int .i64 0]) ∧ Below W.heap.size W w') ∧
     (∀ W, T8 W → Calls Tryd.prog 13 #[sv t] W fun e w' => e = .returned (.tuple #[.agg (pls r).toArray, .int .i64 0]) ∧ Below W.heap.size W w') ∧ eqP r q2 = true) := Lib.hid (fun h0 => by
   obtain ⟨h1, h2⟩ := prs_wd hf s.data.toList
   rw [hq2, he2] at h2
   rw [hq2] at h1
   have hc := h2 h0
   obtain ⟨r, g1, _, g3⟩ := back1 hf h1.1.1 h1.2.1 hc
   refine ⟨catS (swS f q2), r, fun W hT => ?_, fun W hT => ?_, g3⟩
   · have := print_any hf q2 W hT h1.1.1 h1.2.1 (chk_inR hc)
     rw [prt_yes hc] at this
     exact this
   · have := parse_any hf ⟨(catS (swS f q2)).toArray⟩ (catS (swS f q2)) W hT (by simp) (by have := cat_short hf h1.1.1 h1.2.1 (chk_inR hc); omega)
     rw [g1] at this
     exact this)
 clear hq2 he2 hL
 obtain ⟨ce, hce⟩ : ∃ ce, chkS p = ce := ⟨_, rfl⟩
 have HK : Hid (∀ W, Calls Tryd.prog 12 #[.agg (pls p).toArray] W fun e w' => e = .returned (.int .i64 ce) ∧ Below W.heap.size W w') := Lib.hid (fun W => by
   have := checkS_any p W
   rw [hce] at this
   exact this)
 by_cases hc : ce = 0
 rotate_left
 · have g1 : (ce == 0) = false := by simpa using hc
   have HPr : Hid (∀ W, T8 W → Calls Tryd.prog 11 #[.agg (pls p).toArray] W fun e w' => e = .returned (.tuple #[sv (prtS f p).1, .int .i64 ce]) ∧ Below W.heap.size W w') := Lib.hid (fun W h => by
     have := print_any hf p W h ha hr hs
     rw [prt_is, hce] at this
     exact this)
   obtain ⟨t1, ht1⟩ : ∃ t, (prtS f p).1 = t := ⟨_, rfl⟩
   rw [ht1] at HPr
   clear ht1 ha hr hs hf hce hT
   go_enter Tryd.func4, Tryd.ntmps4
   go_upto_region 1 with fail
   try rw [hW]
   try rw [hBB]
   go_upto_region 3 with (go_at_call 10; refine (HA.out W (HT.out.later HB.out)).mono ?_; rintro e W1 ⟨rfl, hb1⟩)
   have H1 : Hid (Pl W1 B p ∧ Below w.heap.size w W1) := Lib.hid ⟨CB.later HP.out hb1, HB.out.trans (hb1.mono HB.out.size)⟩
   clear hb1 HP HB HA
   refine wp_region_lit ?_
   refine wpList_load_mid rfl 42 _ rfl B 0 (by rfl) (pls p) _ H1.out.1.range Tryd.underlying42 rfl (by rw [pls_len]; kernel_rfl) ?_
   simp only [Act.put, List.setIfInBounds_toArray, List.set_cons_succ, List.set_cons_zero]
   refine wpl_printT rfl rfl rfl (HPr.out W1 (HT.out.later H1.out.2)) ?_
   rintro e W2 ⟨rfl, hb2⟩
   refine ⟨_, rfl, ?_⟩
   simp only [Act.put, List.setIfInBounds_toArray, List.set_cons_succ, List.set_cons_zero]
   have H2 : Hid (Pl W2 B p ∧ Below w.heap.size w W2) := Lib.hid ⟨CB.later H1.out.1 hb2, H1.out.2.trans (hb2.mono H1.out.2.size)⟩
   clear hb2 H1 HPr
   go_upto_region 4 with fail
   refine wp_region_lit ?_
   refine wpList_moveY rfl 6 _ rfl rfl ?_
   simp only [Act.put, List.setIfInBounds_toArray, List.set_cons_succ, List.set_cons_zero]
   refine wpl_eqI rfl rfl rfl ?_
   simp only [Act.put, List.setIfInBounds_toArray, List.set_cons_succ, List.set_cons_zero]
   refine wpList_load_mid rfl 42 _ rfl B 0 (by rfl) (pls p) _ H2.out.1.range Tryd.underlying42 rfl (by rw [pls_len]; kernel_rfl) ?_
   simp only [Act.put, List.setIfInBounds_toArray, List.set_cons_succ, List.set_cons_zero]
   go_upto_region 6 with (go_at_call 12; refine (HK.out _).mono ?_; rintro e W3 ⟨rfl, hb3⟩)
   have H3 : Hid (Pl W3 B p ∧ Below w.heap.size w W3) := Lib.hid ⟨CB.later H2.out.1 hb3, H2.out.2.trans (hb3.mono H2.out.2.size)⟩
   clear hb3 H2 HK
   go_upto_region 11 with fail
   refine wp_region_lit ?_
   refine wpList_moveY rfl 1 _ rfl rfl ?_
   simp only [Act.put, List.setIfInBounds_toArray, List.set_cons_succ, List.set_cons_zero]
   refine wpl_parseT rfl rfl rfl (HPs.out W3 (HT.out.later H3.out.2)) ?_
   rintro e X3 ⟨rfl, hb⟩
   refine ⟨_, rfl, ?_⟩
   simp only [Act.put, List.setIfInBounds_toArray, List.set_cons_succ, List.set_cons_zero]
   refine wpList_moveY rfl 64 _ rfl rfl ?_
   simp only [Act.put, List.setIfInBounds_toArray, List.set_cons_succ, List.set_cons_zero]
   refine wpl_extr (i := 0) rfl rfl rfl rfl ?_
   simp only [Act.put, List.setIfInBounds_toArray, List.set_cons_succ, List.set_cons_zero]
   refine wpl_extr (i := 1) rfl rfl rfl rfl ?_
   simp only [Act.put, List.setIfInBounds_toArray, List.set_cons_succ, List.set_cons_zero]
   refine wpList_allocP rfl rfl ?_
   intro Y3 hpy hby hsy
   simp only [Act.put, List.setIfInBounds_toArray, List.set_cons_succ, List.set_cons_zero]
   refine wpList_storeP rfl _ _ rfl X3.heap.size pz q2 rfl rfl hpy ?_
   intro W4 hpz hoz hsz
   obtain ⟨B4, hB4⟩ : ∃ b, X3.heap.size = b := ⟨_, rfl⟩
   have hbz : Below W3.heap.size W3 W4 := (hb.trans (hby.mono hb.size)).trans (hoz.below hb.size (Nat.le_trans hb.size hby.size))
   have H4 : Hid (Pl W4 B4 q2 ∧ Below w.heap.size w W4) := Lib.hid ⟨by rw [← hB4]; exact hpz, H3.out.2.trans (hbz.mono H3.out.2.size)⟩
   rw [hB4]
   clear hb hpy hby hsy hpz hoz hsz hbz hB4 H3
   go_upto_region 12 with fail
   by_cases he2 : e2 = 0
   rotate_left
   · have z1 : (e2 != 0) = true := by simpa using he2
     go_wp2_with fail
     go_ret
     exact ⟨rfl, H4.out.2⟩
   obtain ⟨t2, r2, hP2, hR2, hE2⟩ := HW2.out he2
   have HP2 := Lib.hid hP2
   have HR2 := Lib.hid hR2
   have HE2 := Lib.hid hE2
   clear hP2 hR2 hE2 HW2 HPs
   subst he2
   go_upto_region 14 with fail
   refine wp_region_lit ?_
   refine wpList_load_mid rfl 42 _ rfl B4 0 (by rfl) (pls q2) _ H4.out.1.range Tryd.underlying42 rfl (by rw [pls_len]; kernel_rfl) ?_
   simp only [Act.put, List.setIfInBounds_toArray, List.set_cons_succ, List.set_cons_zero]
   refine wpl_printT rfl rfl rfl (HP2.out W4 (HT.out.later H4.out.2)) ?_
   rintro e W5 ⟨rfl, hb⟩
   refine ⟨_, rfl, ?_⟩
   simp only [Act.put, List.setIfInBounds_toArray, List.set_cons_succ, List.set_cons_zero]
   have H5 : Hid (Pl W5 B4 q2 ∧ Below w.heap.size w W5) := Lib.hid ⟨CB.later H4.out.1 hb, H4.out.2.trans (hb.mono H4.out.2.size)⟩
   clear hb H4
   go_upto_region 15 with fail
   refine wp_region_lit ?_
   refine wpList_moveY rfl 5 _ rfl rfl ?_
   simp only [Act.put, List.setIfInBounds_toArray, List.set_cons_succ, List.set_cons_zero]
   refine wpl_parseT rfl rfl rfl (HR2.out W5 (HT.out.later H5.out.2)) ?_
   rintro e X5 ⟨rfl, hb⟩
   refine ⟨_, rfl, ?_⟩
   simp only [Act.put, List.setIfInBounds_toArray, List.set_cons_succ, List.set_cons_zero]
   refine wpList_moveY rfl 76 _ rfl rfl ?_
   simp only [Act.put, List.setIfInBounds_toArray, List.set_cons_succ, List.set_cons_zero]
   refine wpl_extr (i := 0) rfl rfl rfl rfl ?_
   simp only [Act.put, List.setIfInBounds_toArray, List.set_cons_succ, List.set_cons_zero]
   refine wpl_extr (i := 1) rfl rfl rfl rfl ?_
   simp only [Act.put, List.setIfInBounds_toArray, List.set_cons_succ, List.set_cons_zero]
   refine wpList_allocP rfl rfl ?_
   intro Y5 hpy hby hsy
   simp only [Act.put, List.setIfInBounds_toArray, List.set_cons_succ, List.set_cons_zero]
   refine wpList_storeP rfl _ _ rfl X5.heap.size pz r2 rfl rfl hpy ?_
   intro W6 hpz hoz hsz
   obtain ⟨B6, hB6⟩ : ∃ b, X5.heap.size = b := ⟨_, rfl⟩
   have hbz : Below W5.heap.size W5 W6 := (hb.trans (hby.mono hb.size)).trans (hoz.below hb.size (Nat.le_trans hb.size hby.size))
   have H6 : Hid ((Pl W6 B4 q2 ∧ Pl W6 B6 r2) ∧ Below w.heap.size w W6) := Lib.hid ⟨⟨CB.later H5.out.1 hbz, by rw [← hB6]; exact hpz⟩, H5.out.2.trans (hbz.mono H5.out.2.size)⟩
   rw [hB6]
   clear hb hpy hby hsy hpz hoz hsz hbz hB6 H5
   go_upto_region 16 with fail
   refine wp_region_lit ?_
   refine wpList_moveY rfl 6 _ rfl rfl ?_
   simp only [Act.put, List.setIfInBounds_toArray, List.set_cons_succ, List.set_cons_zero]
   refine wpl_eqI rfl rfl rfl ?_
   simp only [Act.put, List.setIfInBounds_toArray, List.set_cons_succ, List.set_cons_zero]
   refine wpList_moveY rfl 80 _ rfl rfl ?_
   simp only [Act.put, List.setIfInBounds_toArray, List.set_cons_succ, List.set_cons_zero]
   refine wpl_moveG rfl rfl rfl ?_
   simp only [Act.put, List.setIfInBounds_toArray, List.set_cons_succ, List.set_cons_zero]
   refine wpl_eqG rfl rfl rfl ?_
   simp only [Act.put, List.setIfInBounds_toArray, List.set_cons_succ, List.set_cons_zero]
   refine wpl_pick (b := true) rfl rfl rfl rfl ?_
   simp only [Act.put, List.setIfInBounds_toArray, List.set_cons_succ, List.set_cons_zero]
   refine wpList_moveY rfl 84 _ rfl rfl ?_
   simp only [Act.put, List.setIfInBounds_toArray, List.set_cons_succ, List.set_cons_zero]
   refine wpl_loadG (p := r2) rfl rfl rfl H6.out.1.2 ?_
   simp only [Act.put, List.setIfInBounds_toArray, List.set_cons_succ, List.set_cons_zero]
   refine wpl_loadG (p := q2) rfl rfl rfl H6.out.1.1 ?_
   simp only [Act.put, List.setIfInBounds_toArray, List.set_cons_succ, List.set_cons_zero]
   refine wpl_eqPG rfl rfl rfl rfl HE2.out ?_
   simp only [Act.put, List.setIfInBounds_toArray, List.set_cons_succ, List.set_cons_zero]
   refine wpl_pick (b := true) rfl rfl rfl rfl ?_
   simp only [Act.put, List.setIfInBounds_toArray, List.set_cons_succ, List.set_cons_zero]
   go_wp2_with fail
   go_ret
   exact ⟨rfl, H6.out.2⟩
 · subst hc
   obtain ⟨q, k1, k2, k3⟩ := back1 hf ha hr hce
   obtain ⟨t1, ht1⟩ : ∃ t, catS (swS f p) = t := ⟨_, rfl⟩
   have HPr : Hid (∀ W, T8 W → Calls Tryd.prog 11 #[.agg (pls p).toArray] W fun e w' => e = .returned (.tuple #[sv t1, .int .i64 0]) ∧ Below W.heap.size W w') := Lib.hid (fun W h => by
     have := print_any hf p W h ha hr hs
     rw [prt_yes hce, ht1] at this
     exact this)
   have hcs := cat_short hf ha hr hs
   rw [ht1] at hcs k1 k2
   have HPa : Hid (∀ W, T8 W → Calls Tryd.prog 13 #[sv t1] W fun e w' => e = .returned (.tuple #[.agg (pls q).toArray, .int .i64 0]) ∧ Below W.heap.size W w') := Lib.hid (fun W h => by
     have := parse_any hf ⟨t1.toArray⟩ t1 W h (by simp) (by omega)
     rw [k1] at this
     exact this)
   have HPb : Hid (∀ W, T8 W → Calls Tryd.prog 13 #[.string ((⟨#[45]⟩ : ByteArray) ++ ⟨t1.toArray⟩)] W fun e w' => e = .returned (.tuple #[.agg (pls q).toArray, .int .i64 0]) ∧ Below W.heap.size W w') := Lib.hid (fun W h => by
     have := parse_any hf ((⟨#[45]⟩ : ByteArray) ++ ⟨t1.toArray⟩) (45 :: t1) W h (by simp [ByteArray.data_append]) (by simp; omega)
     rw [k2] at this
     exact this)
   have HCS : Hid ((⟨#[45]⟩ : ByteArray).size + (⟨t1.toArray⟩ : ByteArray).size ≤ 9223372036854775807) := Lib.hid (by rw [Lib.size_eq, Lib.size_eq]; simp; omega)
   have HE := Lib.hid k3
   clear k1 k2 k3 hcs ht1 ha hr hs hf hce hT
   go_enter Tryd.func4, Tryd.ntmps4
   go_upto_region 1 with fail
   try rw [hW]
   try rw [hBB]
   go_upto_region 3 with (go_at_call 10; refine (HA.out W (HT.out.later HB.out)).mono ?_; rintro e W1 ⟨rfl, hb1⟩)
   have H1 : Hid (Pl W1 B p ∧ Below w.heap.size w W1) := Lib.hid ⟨CB.later HP.out hb1, HB.out.trans (hb1.mono HB.out.size)⟩
   clear hb1 HP HB HA
   refine wp_region_lit ?_
   refine wpList_load_mid rfl 42 _ rfl B 0 (by rfl) (pls p) _ H1.out.1.range Tryd.underlying42 rfl (by rw [pls_len]; kernel_rfl) ?_
   simp only [Act.put, List.setIfInBounds_toArray, List.set_cons_succ, List.set_cons_zero]
   refine wpl_printT rfl rfl rfl (HPr.out W1 (HT.out.later H1.out.2)) ?_
   rintro e W2 ⟨rfl, hb2⟩
   refine ⟨_, rfl, ?_⟩
   simp only [Act.put, List.setIfInBounds_toArray, List.set_cons_succ, List.set_cons_zero]
   have H2 : Hid (Pl W2 B p ∧ Below w.heap.size w W2) := Lib.hid ⟨CB.later H1.out.1 hb2, H1.out.2.trans (hb2.mono H1.out.2.size)⟩
   clear hb2 H1 HPr
   go_upto_region 4 with fail
   refine wp_region_lit ?_
   refine wpList_moveY rfl 6 _ rfl rfl ?_
   simp only [Act.put, List.setIfInBounds_toArray, List.set_cons_succ, List.set_cons_zero]
   refine wpl_eqI rfl rfl rfl ?_
   simp only [Act.put, List.setIfInBounds_toArray, List.set_cons_succ, List.set_cons_zero]
   refine wpList_load_mid rfl 42 _ rfl B 0 (by rfl) (pls p) _ H2.out.1.range Tryd.underlying42 rfl (by rw [pls_len]; kernel_rfl) ?_
   simp only [Act.put, List.setIfInBounds_toArray, List.set_cons_succ, List.set_cons_zero]
   go_upto_region 6 with (go_at_call 12; refine (HK.out _).mono ?_; rintro e W3 ⟨rfl, hb3⟩)
   have H3 : Hid (Pl W3 B p ∧ Below w.heap.size w W3) := Lib.hid ⟨CB.later H2.out.1 hb3, H2.out.2.trans (hb3.mono H2.out.2.size)⟩
   clear hb3 H2 HK
   go_upto_region 7 with fail
   refine wp_region_lit ?_
   refine wpList_moveY rfl 5 _ rfl rfl ?_
   simp only [Act.put, List.setIfInBounds_toArray, List.set_cons_succ, List.set_cons_zero]
   refine wpl_parseT rfl rfl rfl (HPa.out W3 (HT.out.later H3.out.2)) ?_
   rintro e X3 ⟨rfl, hb⟩
   refine ⟨_, rfl, ?_⟩
   simp only [Act.put, List.setIfInBounds_toArray, List.set_cons_succ, List.set_cons_zero]
   refine wpList_moveY rfl 37 _ rfl rfl ?_
   simp only [Act.put, List.setIfInBounds_toArray, List.set_cons_succ, List.set_cons_zero]
   refine wpl_extr (i := 0) rfl rfl rfl rfl ?_
   simp only [Act.put, List.setIfInBounds_toArray, List.set_cons_succ, List.set_cons_zero]
   refine wpl_extr (i := 1) rfl rfl rfl rfl ?_
   simp only [Act.put, List.setIfInBounds_toArray, List.set_cons_succ, List.set_cons_zero]
   refine wpList_allocP rfl rfl ?_
   intro Y3 hpy hby hsy
   simp only [Act.put, List.setIfInBounds_toArray, List.set_cons_succ, List.set_cons_zero]
   refine wpList_storeP rfl _ _ rfl X3.heap.size pz q rfl rfl hpy ?_
   intro W4 hpz hoz hsz
   obtain ⟨B4, hB4⟩ : ∃ b, X3.heap.size = b := ⟨_, rfl⟩
   have hbz : Below W3.heap.size W3 W4 := (hb.trans (hby.mono hb.size)).trans (hoz.below hb.size (Nat.le_trans hb.size hby.size))
   have H4 : Hid ((Pl W4 B p ∧ Pl W4 B4 q) ∧ Below w.heap.size w W4) := Lib.hid ⟨⟨CB.later H3.out.1 hbz, by rw [← hB4]; exact hpz⟩, H3.out.2.trans (hbz.mono H3.out.2.size)⟩
   rw [hB4]
   clear hb hpy hby hsy hpz hoz hsz hbz hB4 H3 HPa
   go_upto_region 8 with fail
   refine wp_region_lit ?_
   refine wpList_moveY rfl 5 _ rfl rfl ?_
   simp only [Act.put, List.setIfInBounds_toArray, List.set_cons_succ, List.set_cons_zero]
   refine wpl_addS rfl rfl rfl HCS.out ?_
   simp only [Act.put, List.setIfInBounds_toArray, List.set_cons_succ, List.set_cons_zero]
   refine wpl_parseT rfl rfl rfl (HPb.out W4 (HT.out.later H4.out.2)) ?_
   rintro e X4 ⟨rfl, hb⟩
   refine ⟨_, rfl, ?_⟩
   simp only [Act.put, List.setIfInBounds_toArray, List.set_cons_succ, List.set_cons_zero]
   refine wpList_moveY rfl 43 _ rfl rfl ?_
   simp only [Act.put, List.setIfInBounds_toArray, List.set_cons_succ, List.set_cons_zero]
   refine wpl_extr (i := 0) rfl rfl rfl rfl ?_
   simp only [Act.put, List.setIfInBounds_toArray, List.set_cons_succ, List.set_cons_zero]
   refine wpl_extr (i := 1) rfl rfl rfl rfl ?_
   simp only [Act.put, List.setIfInBounds_toArray, List.set_cons_succ, List.set_cons_zero]
   refine wpList_allocP rfl rfl ?_
   intro Y4 hpy hby hsy
   simp only [Act.put, List.setIfInBounds_toArray, List.set_cons_succ, List.set_cons_zero]
   refine wpList_storeP rfl _ _ rfl X4.heap.size pz q rfl rfl hpy ?_
   intro W5 hpz hoz hsz
   obtain ⟨B5, hB5⟩ : ∃ b, X4.heap.size = b := ⟨_, rfl⟩
   have hbz : Below W4.heap.size W4 W5 := (hb.trans (hby.mono hb.size)).trans (hoz.below hb.size (Nat.le_trans hb.size hby.size))
   have H5 : Hid ((Pl W5 B p ∧ Pl W5 B4 q ∧ Pl W5 B5 q) ∧ Below w.heap.size w W5) := Lib.hid ⟨⟨CB.later H4.out.1.1 hbz, CB.later H4.out.1.2 hbz, by rw [← hB5]; exact hpz⟩, H4.out.2.trans (hbz.mono H4.out.2.size)⟩
   rw [hB5]
   clear hb hpy hby hsy hpz hoz hsz hbz hB5 H4 HPb
   go_upto_region 9 with fail
   refine wp_region_lit ?_
   refine wpList_moveY rfl 8 _ rfl rfl ?_
   simp only [Act.put, List.setIfInBounds_toArray, List.set_cons_succ, List.set_cons_zero]
   refine wpl_neG rfl rfl rfl ?_
   simp only [Act.put, List.setIfInBounds_toArray, List.set_cons_succ, List.set_cons_zero]
   refine wpList_moveY rfl 47 _ rfl rfl ?_
   simp only [Act.put, List.setIfInBounds_toArray, List.set_cons_succ, List.set_cons_zero]
   refine wpl_moveG rfl rfl rfl ?_
   simp only [Act.put, List.setIfInBounds_toArray, List.set_cons_succ, List.set_cons_zero]
   refine wpl_neG rfl rfl rfl ?_
   simp only [Act.put, List.setIfInBounds_toArray, List.set_cons_succ, List.set_cons_zero]
   refine wpl_pick (b := false) rfl rfl rfl rfl ?_
   simp only [Act.put, List.setIfInBounds_toArray, List.set_cons_succ, List.set_cons_zero]
   refine wpList_moveY rfl 51 _ rfl rfl ?_
   simp only [Act.put, List.setIfInBounds_toArray, List.set_cons_succ, List.set_cons_zero]
   refine wpl_loadG (p := q) rfl rfl rfl H5.out.1.2.1 ?_
   simp only [Act.put, List.setIfInBounds_toArray, List.set_cons_succ, List.set_cons_zero]
   refine wpl_loadG (p := p) rfl rfl rfl H5.out.1.1 ?_
   simp only [Act.put, List.setIfInBounds_toArray, List.set_cons_succ, List.set_cons_zero]
   refine wpl_nePG (b := false) rfl rfl rfl rfl (by rw [HE.out]; rfl) ?_
   simp only [Act.put, List.setIfInBounds_toArray, List.set_cons_succ, List.set_cons_zero]
   refine wpl_pick (b := false) rfl rfl rfl rfl ?_
   simp only [Act.put, List.setIfInBounds_toArray, List.set_cons_succ, List.set_cons_zero]
   refine wpList_moveY rfl 56 _ rfl rfl ?_
   simp only [Act.put, List.setIfInBounds_toArray, List.set_cons_succ, List.set_cons_zero]
   refine wpl_loadG (p := q) rfl rfl rfl H5.out.1.2.2 ?_
   simp only [Act.put, List.setIfInBounds_toArray, List.set_cons_succ, List.set_cons_zero]
   refine wpl_loadG (p := p) rfl rfl rfl H5.out.1.1 ?_
   simp only [Act.put, List.setIfInBounds_toArray, List.set_cons_succ, List.set_cons_zero]
   refine wpl_nePG (b := false) rfl rfl rfl rfl (by rw [HE.out]; rfl) ?_
   simp only [Act.put, List.setIfInBounds_toArray, List.set_cons_succ, List.set_cons_zero]
   refine wpl_pick (b := false) rfl rfl rfl rfl ?_
   simp only [Act.put, List.setIfInBounds_toArray, List.set_cons_succ, List.set_cons_zero]
   go_upto_region 11 with fail
   refine wp_region_lit ?_
   refine wpList_moveY rfl 1 _ rfl rfl ?_
   simp only [Act.put, List.setIfInBounds_toArray, List.set_cons_succ, List.set_cons_zero]
   refine wpl_parseT rfl rfl rfl (HPs.out W5 (HT.out.later H5.out.2)) ?_
   rintro e X5 ⟨rfl, hb⟩
   refine ⟨_, rfl, ?_⟩
   simp only [Act.put, List.setIfInBounds_toArray, List.set_cons_succ, List.set_cons_zero]
   refine wpList_moveY rfl 64 _ rfl rfl ?_
   simp only [Act.put, List.setIfInBounds_toArray, List.set_cons_succ, List.set_cons_zero]
   refine wpl_extr (i := 0) rfl rfl rfl rfl ?_
   simp only [Act.put, List.setIfInBounds_toArray, List.set_cons_succ, List.set_cons_zero]
   refine wpl_extr (i := 1) rfl rfl rfl rfl ?_
   simp only [Act.put, List.setIfInBounds_toArray, List.set_cons_succ, List.set_cons_zero]
   refine wpList_allocP rfl rfl ?_
   intro Y5 hpy hby hsy
   simp only [Act.put, List.setIfInBounds_toArray, List.set_cons_succ, List.set_cons_zero]
   refine wpList_storeP rfl _ _ rfl X5.heap.size pz q2 rfl rfl hpy ?_
   intro W6 hpz hoz hsz
   obtain ⟨B6, hB6⟩ : ∃ b, X5.heap.size = b := ⟨_, rfl⟩
   have hbz : Below W5.heap.size W5 W6 := (hb.trans (hby.mono hb.size)).trans (hoz.below hb.size (Nat.le_trans hb.size hby.size))
   have H6 : Hid (Pl W6 B6 q2 ∧ Below w.heap.size w W6) := Lib.hid ⟨by rw [← hB6]; exact hpz, H5.out.2.trans (hbz.mono H5.out.2.size)⟩
   rw [hB6]
   clear hb hpy hby hsy hpz hoz hsz hbz hB6 H5
   go_upto_region 12 with fail
   by_cases he2 : e2 = 0
   rotate_left
   · have z1 : (e2 != 0) = true := by simpa using he2
     go_wp2_with fail
     go_ret
     exact ⟨rfl, H6.out.2⟩
   obtain ⟨t2, r2, hP2, hR2, hE2⟩ := HW2.out he2
   have HP2 := Lib.hid hP2
   have HR2 := Lib.hid hR2
   have HE2 := Lib.hid hE2
   clear hP2 hR2 hE2 HW2 HPs
   subst he2
   go_upto_region 14 with fail
   refine wp_region_lit ?_
   refine wpList_load_mid rfl 42 _ rfl B6 0 (by rfl) (pls q2) _ H6.out.1.range Tryd.underlying42 rfl (by rw [pls_len]; kernel_rfl) ?_
   simp only [Act.put, List.setIfInBounds_toArray, List.set_cons_succ, List.set_cons_zero]
   refine wpl_printT rfl rfl rfl (HP2.out W6 (HT.out.later H6.out.2)) ?_
   rintro e W7 ⟨rfl, hb⟩
   refine ⟨_, rfl, ?_⟩
   simp only [Act.put, List.setIfInBounds_toArray, List.set_cons_succ, List.set_cons_zero]
   have H7 : Hid (Pl W7 B6 q2 ∧ Below w.heap.size w W7) := Lib.hid ⟨CB.later H6.out.1 hb, H6.out.2.trans (hb.mono H6.out.2.size)⟩
   clear hb H6
   go_upto_region 15 with fail
   refine wp_region_lit ?_
   refine wpList_moveY rfl 5 _ rfl rfl ?_
   simp only [Act.put, List.setIfInBounds_toArray, List.set_cons_succ, List.set_cons_zero]
   refine wpl_parseT rfl rfl rfl (HR2.out W7 (HT.out.later H7.out.2)) ?_
   rintro e X7 ⟨rfl, hb⟩
   refine ⟨_, rfl, ?_⟩
   simp only [Act.put, List.setIfInBounds_toArray, List.set_cons_succ, List.set_cons_zero]
   refine wpList_moveY rfl 76 _ rfl rfl ?_
   simp only [Act.put, List.setIfInBounds_toArray, List.set_cons_succ, List.set_cons_zero]
   refine wpl_extr (i := 0) rfl rfl rfl rfl ?_
   simp only [Act.put, List.setIfInBounds_toArray, List.set_cons_succ, List.set_cons_zero]
   refine wpl_extr (i := 1) rfl rfl rfl rfl ?_
   simp only [Act.put, List.setIfInBounds_toArray, List.set_cons_succ, List.set_cons_zero]
   refine wpList_allocP rfl rfl ?_
   intro Y7 hpy hby hsy
   simp only [Act.put, List.setIfInBounds_toArray, List.set_cons_succ, List.set_cons_zero]
   refine wpList_storeP rfl _ _ rfl X7.heap.size pz r2 rfl rfl hpy ?_
   intro W8 hpz hoz hsz
   obtain ⟨B8, hB8⟩ : ∃ b, X7.heap.size = b := ⟨_, rfl⟩
   have hbz : Below W7.heap.size W7 W8 := (hb.trans (hby.mono hb.size)).trans (hoz.below hb.size (Nat.le_trans hb.size hby.size))
   have H8 : Hid ((Pl W8 B6 q2 ∧ Pl W8 B8 r2) ∧ Below w.heap.size w W8) := Lib.hid ⟨⟨CB.later H7.out.1 hbz, by rw [← hB8]; exact hpz⟩, H7.out.2.trans (hbz.mono H7.out.2.size)⟩
   rw [hB8]
   clear hb hpy hby hsy hpz hoz hsz hbz hB8 H7
   go_upto_region 16 with fail
   refine wp_region_lit ?_
   refine wpList_moveY rfl 6 _ rfl rfl ?_
   simp only [Act.put, List.setIfInBounds_toArray, List.set_cons_succ, List.set_cons_zero]
   refine wpl_eqI rfl rfl rfl ?_
   simp only [Act.put, List.setIfInBounds_toArray, List.set_cons_succ, List.set_cons_zero]
   refine wpList_moveY rfl 80 _ rfl rfl ?_
   simp only [Act.put, List.setIfInBounds_toArray, List.set_cons_succ, List.set_cons_zero]
   refine wpl_moveG rfl rfl rfl ?_
   simp only [Act.put, List.setIfInBounds_toArray, List.set_cons_succ, List.set_cons_zero]
   refine wpl_eqG rfl rfl rfl ?_
   simp only [Act.put, List.setIfInBounds_toArray, List.set_cons_succ, List.set_cons_zero]
   refine wpl_pick (b := true) rfl rfl rfl rfl ?_
   simp only [Act.put, List.setIfInBounds_toArray, List.set_cons_succ, List.set_cons_zero]
   refine wpList_moveY rfl 84 _ rfl rfl ?_
   simp only [Act.put, List.setIfInBounds_toArray, List.set_cons_succ, List.set_cons_zero]
   refine wpl_loadG (p := r2) rfl rfl rfl H8.out.1.2 ?_
   simp only [Act.put, List.setIfInBounds_toArray, List.set_cons_succ, List.set_cons_zero]
   refine wpl_loadG (p := q2) rfl rfl rfl H8.out.1.1 ?_
   simp only [Act.put, List.setIfInBounds_toArray, List.set_cons_succ, List.set_cons_zero]
   refine wpl_eqPG rfl rfl rfl rfl HE2.out ?_
   simp only [Act.put, List.setIfInBounds_toArray, List.set_cons_succ, List.set_cons_zero]
   refine wpl_pick (b := true) rfl rfl rfl rfl ?_
   simp only [Act.put, List.setIfInBounds_toArray, List.set_cons_succ, List.set_cons_zero]
   go_wp2_with fail
   go_ret
   exact ⟨rfl, H8.out.2⟩
end Go.Proofs.YtkgnlobakicnjaaDoor
