/- Own texts, put together: Egd Egc Ege Efj. -/
import Derived.Test.YtgoadpnoagaflaaDoorQ4
import Derived.Test.YtgoadpnoagaflaaDoorQ28
import Derived.Test.YtgoadpnoagaflaaDoorQ40
import Derived.Test.YtgoadpnoagaflaaDoorQ43
namespace Go.Proofs.YtgoadpnoagaflaaDoor
/- The laws of layer 11: of: a file made anew: the walk. (gen_ega.py) -/
section
set_option maxRecDepth 100000
open Go.RowKit Go.Shelf Go.Lib
attribute [local go_sem] run_store_float
theorem res_of (W : World) (B : Nat) (a b c d : Value) (tmps : Array Value) (h : CB W B #[a, b, c, d] 42)
   (t2 : tmps[2]? = some (.pointer (some ⟨B, 0, none⟩))) : (results Tryd.f12 tmps).run Tryd.prog W = .ok (.agg #[a, b, c, d]) W := by
 have c0 := h.cell 0 (by simp)
 have c1 := h.cell 1 (by simp)
 have c2 := h.cell 2 (by simp)
 have c3 := h.cell 3 (by simp)
 simp [results, Tryd.f12, go_sem, c0, c1, c2, c3, t2]
theorem j20_of (j : Nat) (hj : j < 20) : j = 0 ∨ j = 1 ∨ j = 2 ∨ j = 3 ∨ j = 4 ∨ j = 5 ∨ j = 6 ∨ j = 7 ∨ j = 8 ∨ j = 9 ∨ j = 10 ∨ j = 11 ∨ j = 12 ∨ j = 13 ∨ j = 14 ∨ j = 15 ∨ j = 16 ∨ j = 17 ∨ j = 18 ∨ j = 19 := by omega
set_option maxHeartbeats 16000000 in
theorem of11_any (f c k : Int) (v : Value) (rs : List Rt) (w : World) (hv : Rv w v rs) (hn : rs.length ≤ 100000) (hl : ∀ q ∈ rs, q.1.t.length ≤ 1000000 ∧ q.1.a.length ≤ 1000000) :
   Calls Tryd.prog 12 #[.agg #[.int .i64 f, .int .i64 c, .int .i64 k, v]] w fun e w' => ∃ a cap rs', e = .returned (.agg #[.int .i64 f, .int .i64 c, .int .i64 k, .slice a rs'.length cap]) ∧ Eo 51 w' w.heap.size (.slice a rs'.length cap) rs' ∧ rs'.map (·.1) = rs.map (·.1) ∧ Below w.heap.size w w' := by
 have HV := Lib.hid hv
 have HLn := Lib.hid hl
 obtain ⟨va, nc, rfl, h1, h2, h3⟩ := hv.form
 obtain ⟨N, hN⟩ : ∃ N, Hid (rs.length = N) := ⟨_, Lib.hid rfl⟩
 rw [hN.out] at h1 hn ⊢
 have HM := Lib.hid h3
 obtain ⟨j0, hj0, hj1, hj2, hj3⟩ := info_parts (show (Tryd.prog.info? 3).map (fun i => (i.zero, i.size, i.bytes)) = some (some (.int .i64 0), 1, 8) by kernel_rfl)
 obtain ⟨f0, hf0, hf1, hf2, hf3⟩ := info_parts (show (Tryd.prog.info? 35).map (fun i => (i.zero, i.size, i.bytes)) = some (some (.float .f64 0), 1, 8) by kernel_rfl)
 obtain ⟨i0, hi0, hz0, hz1, hz2⟩ := info_parts (show (Tryd.prog.info? 51).map (fun i => (i.zero, i.size, i.bytes)) = some (some (.agg rw2), 2, 48) by kernel_rfl)
 obtain ⟨W3, hW3⟩ : ∃ W3, Hid (((w.alloc (.cells #[.int .i64 f, .int .i64 c, .int .i64 k, .slice va N nc] 28)).alloc (.cells fe4 42)).alloc (.cells #[.int .i64 f, .int .i64 c, .int .i64 k, .slice none 0 0] 42) = W3) := ⟨_, Lib.hid rfl⟩
 have HZ : Hid (Zof w W3 f c k (.slice va N nc) (.slice none 0 0) []) := Lib.hid (by
   rw [← hW3.out]
   have c1 := CB.new w #[.int .i64 f, .int .i64 c, .int .i64 k, .slice va N nc] 28
   have c2 := CB.new (w.alloc (.cells #[.int .i64 f, .int .i64 c, .int .i64 k, .slice va N nc] 28)) fe4 42
   have c3 := CB.new ((w.alloc (.cells #[.int .i64 f, .int .i64 c, .int .i64 k, .slice va N nc] 28)).alloc (.cells fe4 42)) #[.int .i64 f, .int .i64 c, .int .i64 k, .slice none 0 0] 42
   rw [World.size_alloc] at c2 c3
   rw [World.size_alloc] at c3
   exact ⟨(((Below.refl _ w).alloc (Nat.le_refl _) _).alloc (by simp) _).alloc (by simp; omega) _, (c1.later (bAlE _ _)).later (bAlE _ _), c2.later (bAlE _ _), c3, Eo.nil _ _ _⟩)
 have hN' : (N : Int) ≤ 100000 := by omega
 clear hv hl h3
 go_enter Tryd.func12, Tryd.ntmps12
 go_wp2_with fail
 rw [hW3.out]
 clear hW3
 go_loopw [4] (fun s4 wr => ∃ (i : Nat) (gv : Value) (rs' : List Rt), s4 = .int .i64 (i : Nat) ∧ i ≤ N ∧ Hid (Zof w wr f c k (.slice va N nc) gv rs' ∧ rs'.map (·.1) = (rs.map (·.1)).take i ∧ rs'.length = i)) (fun s4 _ => N - (RowKit.intOf s4).toNat)
 case atStart => exact ⟨0, _, [], rfl, by omega, HZ.out, by simp, rfl⟩
 case round =>
   clear HZ
   obtain ⟨i, gv, rs', rfl, hi, hI⟩ := hrel
   have HZr := Lib.hid hI.out.1
   have HTk := Lib.hid hI.out.2.1
   have HLi := Lib.hid hI.out.2.2
   clear hI
   have k3 := HZr.out.fb.cell 3 (by simp)
   by_cases hlt : i < N
   · have hi1 : (i : Int) < (N : Int) := by omega
     have hi2 : (0 : Int) ≤ (i : Int) := by omega
     obtain ⟨q, hq⟩ : ∃ q, Hid (rs[i]? = some q) := ⟨_, Lib.hid (List.getElem?_eq_getElem (by rw [hN.out]; exact hlt))⟩
     have hqm := List.mem_of_getElem? hq.out
     obtain ⟨g, off, hga, hg, hcell⟩ := HM.out.resolve_left (fun e => by rw [e] at hqm; simp at hqm)
     subst hga
     obtain ⟨x0, x1⟩ := hcell i q hq.out
     obtain ⟨his, hfs⟩ := HV.out.sub q hqm
     have hql := HLn.out q hqm
     obtain ⟨⟨ts, ls⟩, tv, av⟩ := q
     try dsimp only at x0 x1 his hfs hql
     obtain ⟨ta, tc, rfl, _⟩ := his.form
     obtain ⟨aa, ac, rfl, _⟩ := hfs.form
     obtain ⟨tl, HTl⟩ : ∃ tl, Hid (ts.length = tl) := ⟨_, Lib.hid rfl⟩
     obtain ⟨al, HAl⟩ : ∃ al, Hid (ls.length = al) := ⟨_, Lib.hid rfl⟩
     rw [HTl.out] at x0 his hql
     rw [HAl.out] at x1 hfs hql
     have htl := hql.1
     have hal := hql.2
     have HX : Hid (∀ W, Below w.heap.size w W → W.cell? ⟨g, off + i * 2, none⟩ = some (.slice ta tl tc) ∧ W.cell? ⟨g, off + i * 2 + 1, none⟩ = some (.slice aa al ac) ∧ Is W (.slice ta tl tc) ts ∧ Fs W (.slice aa al ac) ls) := Lib.hid (fun W hW => ⟨cell_later hW hg x0, cell_later hW hg x1, his.later hW, hfs.later hW⟩)
     obtain ⟨ga, gc, hgv⟩ := own_sliceE HZr.out.er.own
     subst hgv
     clear hcell hqm x0 x1 his hfs hql
     go_wp2_with fail
     clear k3
     refine region_facts2 19 20 23 (fun W => Zof w W f c k (.slice (some ⟨g, off, none⟩) N nc) (.slice ga rs'.length gc) rs') (Fof (w.heap.size) (w.heap.size + 2) (w.heap.size + 3) ga rs'.length gc g off N nc i ta tl tc aa al ac ts ls) (by kernel_rfl) (by kernel_rfl) (by omega) (by kernel_rfl) (Nat.le_of_ble_eq_true (by kernel_rfl)) (HZr.out.later (Below.refl _ _).drew) Fof_stab ?_ ?_
     focus
       · intro Q' j o hj ho a W hG hout hd
         have hc := j20_of j hj
         clear hj
         rcases hc with rfl | rfl | rfl | rfl | rfl | rfl | rfl | rfl | rfl | rfl | rfl | rfl | rfl | rfl | rfl | rfl | rfl | rfl | rfl | rfl
         · replace ho := Option.some.inj (Eq.trans (Eq.symm ho) rfl)
           subst ho
           refine oof_fldD rfl ((hout 3 (by omega)).trans rfl) ⟨_, rfl, hG, Below.refl _ _, rfl⟩
         · replace ho := Option.some.inj (Eq.trans (Eq.symm ho) rfl)
           subst ho
           have d0 : Fof (w.heap.size) (w.heap.size + 2) (w.heap.size + 3) ga rs'.length gc g off N nc i ta tl tc aa al ac ts ls 0 (a.eval (.tmp 19)) W := hd ⟨0, .data⟩ (by simp) rfl
           refine oof_ldD rfl d0 (hG.gb.cell 3 (by simp)) ⟨_, rfl, hG, Below.refl _ _, rfl⟩
         · replace ho := Option.some.inj (Eq.trans (Eq.symm ho) rfl)
           subst ho
           refine oof_nilT rfl ⟨_, rfl, hG.later (bAlE _ _), bAlE _ _, ⟨_, rfl⟩, makeE (by have := hG.gb.lt; omega)⟩
         · replace ho := Option.some.inj (Eq.trans (Eq.symm ho) rfl)
           subst ho
           refine oof_fldS rfl ((hout 1 (by omega)).trans rfl) ⟨_, rfl, hG, Below.refl _ _, rfl⟩
         · replace ho := Option.some.inj (Eq.trans (Eq.symm ho) rfl)
           subst ho
           have d3 : Fof (w.heap.size) (w.heap.size + 2) (w.heap.size + 3) ga rs'.length gc g off N nc i ta tl tc aa al ac ts ls 3 (a.eval (.tmp 22)) W := hd ⟨3, .data⟩ (by simp) rfl
           refine oof_ldS rfl d3 (hG.fb.cell 3 (by simp)) ⟨_, rfl, hG, Below.refl _ _, rfl⟩
         · replace ho := Option.some.inj (Eq.trans (Eq.symm ho) rfl)
           subst ho
           refine op_mv rfl ⟨_, rfl, hG, Below.refl _ _, (hout 4 (by omega)).trans rfl⟩
         · replace ho := Option.some.inj (Eq.trans (Eq.symm ho) rfl)
           subst ho
           have d4 : Fof (w.heap.size) (w.heap.size + 2) (w.heap.size + 3) ga rs'.length gc g off N nc i ta tl tc aa al ac ts ls 4 (a.eval (.tmp 23)) W := hd ⟨4, .data⟩ (by simp) rfl
           have d5 : Fof (w.heap.size) (w.heap.size + 2) (w.heap.size + 3) ga rs'.length gc g off N nc i ta tl tc aa al ac ts ls 5 (a.eval (.tmp 24)) W := hd ⟨5, .data⟩ (by simp) rfl
           refine oof_ix rfl d4 d5 hi1 hi2 ⟨_, rfl, hG, Below.refl _ _, rfl⟩
         · replace ho := Option.some.inj (Eq.trans (Eq.symm ho) rfl)
           subst ho
           have d6 : Fof (w.heap.size) (w.heap.size + 2) (w.heap.size + 3) ga rs'.length gc g off N nc i ta tl tc aa al ac ts ls 6 (a.eval (.tmp 25)) W := hd ⟨6, .data⟩ (by simp) rfl
           refine oof_fldT rfl d6 ⟨_, rfl, hG, Below.refl _ _, rfl⟩
         · replace ho := Option.some.inj (Eq.trans (Eq.symm ho) rfl)
           subst ho
           have d7 : Fof (w.heap.size) (w.heap.size + 2) (w.heap.size + 3) ga rs'.length gc g off N nc i ta tl tc aa al ac ts ls 7 (a.eval (.tmp 26)) W := hd ⟨7, .data⟩ (by simp) rfl
           refine oof_ldT rfl d7 (HX.out W hG.bel).1 ⟨_, rfl, hG, Below.refl _ _, rfl⟩
         · replace ho := Option.some.inj (Eq.trans (Eq.symm ho) rfl)
           subst ho
           have d2 : Fof (w.heap.size) (w.heap.size + 2) (w.heap.size + 3) ga rs'.length gc g off N nc i ta tl tc aa al ac ts ls 2 (a.eval (.tmp 21)) W := hd ⟨2, .data⟩ (by simp) rfl
           have d8 : Fof (w.heap.size) (w.heap.size + 2) (w.heap.size + 3) ga rs'.length gc g off N nc i ta tl tc aa al ac ts ls 8 (a.eval (.tmp 27)) W := hd ⟨8, .data⟩ (by simp) rfl
           obtain ⟨⟨b, e2⟩, o2⟩ := d2
           refine op_copy Tryd.underlying31 hj0 hj1 hj2 hj3 (by decide) rfl e2 d8 (src_ints (HX.out W hG.bel).2.2.1) htl ?_ ?_
           · intro h0
             refine ⟨_, rfl, hG, Below.refl _ _, ?_⟩
             rw [e2] at o2
             show W.ownsRow _ 3 1 _ tl (isV ts)
             have hts : ts = [] := List.length_eq_zero_iff.1 (by rw [HTl.out]; exact h0)
             rw [h0, hts]
             exact o2
           · intro _ v' W' hown hb
             exact ⟨_, rfl, hG.later hb, hb, own_base hown (by have := hG.gb.lt; omega)⟩
         · replace ho := Option.some.inj (Eq.trans (Eq.symm ho) rfl)
           subst ho
           refine oof_nilA rfl ⟨_, rfl, hG.later (bAlE _ _), bAlE _ _, ⟨_, rfl⟩, makeE (by have := hG.gb.lt; omega)⟩
         · replace ho := Option.some.inj (Eq.trans (Eq.symm ho) rfl)
           subst ho
           refine oof_fldS rfl ((hout 1 (by omega)).trans rfl) ⟨_, rfl, hG, Below.refl _ _, rfl⟩
         · replace ho := Option.some.inj (Eq.trans (Eq.symm ho) rfl)
           subst ho
           have d11 : Fof (w.heap.size) (w.heap.size + 2) (w.heap.size + 3) ga rs'.length gc g off N nc i ta tl tc aa al ac ts ls 11 (a.eval (.tmp 30)) W := hd ⟨11, .data⟩ (by simp) rfl
           refine oof_ldS rfl d11 (hG.fb.cell 3 (by simp)) ⟨_, rfl, hG, Below.refl _ _, rfl⟩
         · replace ho := Option.some.inj (Eq.trans (Eq.symm ho) rfl)
           subst ho
           refine op_mv rfl ⟨_, rfl, hG, Below.refl _ _, (hout 4 (by omega)).trans rfl⟩
         · replace ho := Option.some.inj (Eq.trans (Eq.symm ho) rfl)
           subst ho
           have d12 : Fof (w.heap.size) (w.heap.size + 2) (w.heap.size + 3) ga rs'.length gc g off N nc i ta tl tc aa al ac ts ls 12 (a.eval (.tmp 31)) W := hd ⟨12, .data⟩ (by simp) rfl
           have d13 : Fof (w.heap.size) (w.heap.size + 2) (w.heap.size + 3) ga rs'.length gc g off N nc i ta tl tc aa al ac ts ls 13 (a.eval (.tmp 32)) W := hd ⟨13, .data⟩ (by simp) rfl
           refine oof_ix rfl d12 d13 hi1 hi2 ⟨_, rfl, hG, Below.refl _ _, rfl⟩
         · replace ho := Option.some.inj (Eq.trans (Eq.symm ho) rfl)
           subst ho
           have d14 : Fof (w.heap.size) (w.heap.size + 2) (w.heap.size + 3) ga rs'.length gc g off N nc i ta tl tc aa al ac ts ls 14 (a.eval (.tmp 33)) W := hd ⟨14, .data⟩ (by simp) rfl
           refine oof_fldA rfl d14 ⟨_, rfl, hG, Below.refl _ _, rfl⟩
         · replace ho := Option.some.inj (Eq.trans (Eq.symm ho) rfl)
           subst ho
           have d15 : Fof (w.heap.size) (w.heap.size + 2) (w.heap.size + 3) ga rs'.length gc g off N nc i ta tl tc aa al ac ts ls 15 (a.eval (.tmp 34)) W := hd ⟨15, .data⟩ (by simp) rfl
           refine oof_ldA rfl d15 (HX.out W hG.bel).2.1 ⟨_, rfl, hG, Below.refl _ _, rfl⟩
         · replace ho := Option.some.inj (Eq.trans (Eq.symm ho) rfl)
           subst ho
           have d10 : Fof (w.heap.size) (w.heap.size + 2) (w.heap.size + 3) ga rs'.length gc g off N nc i ta tl tc aa al ac ts ls 10 (a.eval (.tmp 29)) W := hd ⟨10, .data⟩ (by simp) rfl
           have d16 : Fof (w.heap.size) (w.heap.size + 2) (w.heap.size + 3) ga rs'.length gc g off N nc i ta tl tc aa al ac ts ls 16 (a.eval (.tmp 35)) W := hd ⟨16, .data⟩ (by simp) rfl
           obtain ⟨⟨b, e2⟩, o2⟩ := d10
           refine op_copy Tryd.underlying32 hf0 hf1 hf2 hf3 (by decide) rfl e2 d16 (src_floats (HX.out W hG.bel).2.2.2) hal ?_ ?_
           · intro h0
             refine ⟨_, rfl, hG, Below.refl _ _, ?_⟩
             rw [e2] at o2
             show W.ownsRow _ 35 1 _ al (f64s ls)
             have hts : ls = [] := List.length_eq_zero_iff.1 (by rw [HAl.out]; exact h0)
             rw [h0, hts]
             exact o2
           · intro _ v' W' hown hb
             exact ⟨_, rfl, hG.later hb, hb, own_base hown (by have := hG.gb.lt; omega)⟩
         · replace ho := Option.some.inj (Eq.trans (Eq.symm ho) rfl)
           subst ho
           have d9 : Fof (w.heap.size) (w.heap.size + 2) (w.heap.size + 3) ga rs'.length gc g off N nc i ta tl tc aa al ac ts ls 9 (a.eval (.tmp 28)) W := hd ⟨9, .data⟩ (by simp) rfl
           have d17 : Fof (w.heap.size) (w.heap.size + 2) (w.heap.size + 3) ga rs'.length gc g off N nc i ta tl tc aa al ac ts ls 17 (a.eval (.tmp 36)) W := hd ⟨17, .data⟩ (by simp) rfl
           obtain ⟨t1, t2, e9⟩ := own_sliceE (show W.ownsRow (w.heap.size + 3) 3 1 _ tl (isV ts) from d9)
           obtain ⟨t3, t4, e17⟩ := own_sliceE (show W.ownsRow (w.heap.size + 3) 35 1 _ al (f64s ls) from d17)
           refine oof_row rfl e9 e17 ⟨_, rfl, hG, Below.refl _ _, _, _, rfl, by rw [← e9]; exact d9, by rw [← e17]; exact d17⟩
         · replace ho := Option.some.inj (Eq.trans (Eq.symm ho) rfl)
           subst ho
           have d18 : Fof (w.heap.size) (w.heap.size + 2) (w.heap.size + 3) ga rs'.length gc g off N nc i ta tl tc aa al ac ts ls 18 (a.eval (.tmp 37)) W := hd ⟨18, .data⟩ (by simp) rfl
           obtain ⟨tv, av, e, ht, ha⟩ := d18
           obtain ⟨t1, t2, rfl⟩ := own_sliceE ht
           obtain ⟨t3, t4, rfl⟩ := own_sliceE ha
           refine oof_one rfl e ⟨_, rfl, hG.later (bAlE _ _), bAlE _ _, W.heap.size, _, _, rfl, CB.new W _ _, own_later ht (bAlE _ _), own_later ha (bAlE _ _)⟩
     · intro vs W hG hF
       have e1 : vs 1 = .slice ga rs'.length gc := hF 1 (by omega)
       obtain ⟨b, tv, av, e19, hcb, hot, hoa⟩ : ∃ b tv av, vs 19 = .slice (some ⟨b, 0, none⟩) 1 1 ∧ CB W b #[tv, av] 51 ∧ W.ownsRow (w.heap.size + 3) 3 1 tv tl (isV ts) ∧ W.ownsRow (w.heap.size + 3) 35 1 av al (f64s ls) := hF 19 (by omega)
       have hnews : ∀ j u, [tv, av][j]? = some u → W.cell? ((⟨b, 0, none⟩ : Addr).add j) = some u := World.news_of_block (cs := #[tv, av]) (t := 51) (fr := (0, 0)) hcb
       obtain ⟨t1, t2, rfl⟩ := own_sliceE hot
       obtain ⟨t3, t4, rfl⟩ := own_sliceE hoa
       have HG := Lib.hid hG
       have HCo := Lib.hid (And.intro (Co.own hot) (Co.own hoa))
       have hlen : rs'.length ≤ 100000 := by have := HLi.out; omega
       clear hF hot hoa hG HZr
       generalize hA : actF _ 19 20 (fun _ => true) vs = A
       simp only [actF, fillL, Nat.reduceAdd, Nat.reduceSub, Nat.reduceLeDiff, Nat.reduceLT, if_true, if_false, and_true, and_false, and_self, e1, e19] at hA
       subst hA
       clear e1 e19
       refine wpAny_of_held (S := fun _ => True) _ _ _ _ ?_
       refine call_at (fuel := 2) 20 (by kernel_rfl) (by kernel_rfl) ?_
       intro o ho
       replace ho := Option.some.inj (Eq.trans (Eq.symm ho) rfl)
       subst ho
       intro KF hK
       rw [if_pos (by rfl)]
       refine wp_append_own _ _ _ rfl (w.heap.size + 3) 51 i0 (.agg rw2) 2 48 Tryd.underlying40 hi0 hz0 hz1 hz2 rfl (by omega) (.slice ga rs'.length gc) rs'.length (rcs rs') rfl HG.out.er.own ⟨b, 0, none⟩ 1 1 [.slice t1 tl t2, .slice t3 al t4] rfl rfl hnews (by simp [Value.oneCell']) (by unfold maxLen; omega) (by omega) (by have := HG.out.gb.lt; omega) ?_
       intro v3 W5 hown hgrow
       obtain ⟨va3, vc3, rfl⟩ := own_sliceE hown
       obtain ⟨⟨s1, s2⟩, hz5⟩ := HG.out.append (q := (⟨ts, ls⟩, .slice t1 tl t2, .slice t3 al t4)) HCo.out hown hgrow
       have HZ5 := Lib.hid hz5
       clear hz5 hown hgrow
       refine hK.out _ _ trivial ?_
       intro _
       clear hK KF
       try simp only [Act.put, List.setIfInBounds_toArray]
       refine call_at (fuel := 1) 21 (by kernel_rfl) (by kernel_rfl) ?_
       intro o ho
       replace ho := Option.some.inj (Eq.trans (Eq.symm ho) rfl)
       subst ho
       intro KF hK
       go_simp
       refine hK.out _ _ trivial ?_
       intro _
       clear hK KF
       try simp only [Act.put, List.setIfInBounds_toArray]
       refine call_at (fuel := 0) 22 (by kernel_rfl) (by kernel_rfl) ?_
       intro o ho
       replace ho := Option.some.inj (Eq.trans (Eq.symm ho) rfl)
       subst ho
       intro KF hK
       go_simp
       refine hK.out _ _ trivial ?_
       intro _
       clear hK KF
       try simp only [Act.put, List.setIfInBounds_toArray]
       refine wpAnyH_done (by kernel_rfl) ?_ _
       have HNx : Hid ((rs' ++ [((⟨ts, ls⟩ : Rw), Value.slice t1 tl t2, Value.slice t3 al t4)]).map (·.1) = (rs.map (·.1)).take (i + 1)) := Lib.hid (by
         have hd : (rs.map (·.1))[i]? = some (⟨ts, ls⟩ : Rw) := by rw [List.getElem?_map, hq.out]; rfl
         obtain ⟨g1, g2⟩ := List.getElem?_eq_some_iff.1 hd
         rw [List.take_succ_eq_append_getElem g1, g2, List.map_append, HTk.out]
         rfl)
       go_wp2
       exact ⟨⟨i + 1, _, rs' ++ [(⟨ts, ls⟩, .slice t1 tl t2, .slice t3 al t4)], by go_num, by omega, HZ5.out, HNx.out, by rw [List.length_append, HLi.out]; rfl⟩, by simp [RowKit.intOf]; omega⟩
   · obtain rfl : N = i := by omega
     obtain ⟨ga, gc, hgv⟩ := own_sliceE HZr.out.er.own
     subst hgv
     obtain ⟨m0, m1, m2, m3⟩ := HZr.out.gb.cells4E
     obtain ⟨n0, n1, n2, n3⟩ := HZr.out.rb.cells4E
     have u0 := HZr.out.rb.frozen 0
     have u1 := HZr.out.rb.frozen 1
     have u2 := HZr.out.rb.frozen 2
     have u3 := HZr.out.rb.frozen 3
     go_wp2
     refine bodyPost_ret (res_of _ (w.heap.size + 1) _ _ _ _ _ (set4E HZr.out.rb _ _ _ _) rfl) rfl ?_
     have ho := ((((Ob.set (w.heap.size + 1) 0 wr (.int .i64 f)).trans (Ob.set (w.heap.size + 1) 1 _ (.int .i64 c))).trans (Ob.set (w.heap.size + 1) 2 _ (.int .i64 k))).trans (Ob.set (w.heap.size + 1) 3 _ (.slice ga rs'.length gc)))
     refine ⟨ga, gc, rs', rfl, (HZr.out.er.ob ho (by omega)).base (by omega), ?_, ?_⟩
     · rw [HTk.out, List.take_of_length_le (by simp [hN.out])]
     · exact (((HZr.out.bel.setCell (p := ⟨w.heap.size + 1, 0, none⟩) (by show w.heap.size ≤ w.heap.size + 1; omega) _).setCell (p := ⟨w.heap.size + 1, 1, none⟩) (by show w.heap.size ≤ w.heap.size + 1; omega) _).setCell (p := ⟨w.heap.size + 1, 2, none⟩) (by show w.heap.size ≤ w.heap.size + 1; omega) _).setCell (p := ⟨w.heap.size + 1, 3, none⟩) (by show w.heap.size ≤ w.heap.size + 1; omega) _
end

/- The laws of layer 11: to: a file made anew. (gen_ega.py) -/
section
set_option maxRecDepth 100000
open Go.RowKit Go.Shelf Go.Lib
attribute [local go_sem] run_store_float
section
variable {a : Act} {W : World} {o : Oper} {K : Act → World → Prop} {Q : Exit → Act → World → Prop} {x y : Option Addr} {n m c d : Nat}
theorem oto_fldD {t B : Nat} (ho : o.op = .fieldAddr 28 (.tmp t) 3) (hv : a.eval (.tmp t) = .pointer (some ⟨B, 0, none⟩)) (h : K (a.put o.dst (.pointer (some ⟨B, 3, none⟩))) W) : Oper.wp Tryd.prog o a W K Q := by
 unfold Oper.wp execOp
 rw [ho]
 simp only [hv]
 go_simp
 exact h
theorem oto_fldS {t B : Nat} (ho : o.op = .fieldAddr 42 (.tmp t) 3) (hv : a.eval (.tmp t) = .pointer (some ⟨B, 0, none⟩)) (h : K (a.put o.dst (.pointer (some ⟨B, 3, none⟩))) W) : Oper.wp Tryd.prog o a W K Q := by
 unfold Oper.wp execOp
 rw [ho]
 simp only [hv]
 go_simp
 exact h
theorem oto_fldT {t g f : Nat} (ho : o.op = .fieldAddr 51 (.tmp t) 0) (hv : a.eval (.tmp t) = .pointer (some ⟨g, f, none⟩)) (h : K (a.put o.dst (.pointer (some ⟨g, f, none⟩))) W) : Oper.wp Tryd.prog o a W K Q := by
 unfold Oper.wp execOp
 rw [ho]
 simp only [hv]
 go_simp
 exact h
theorem oto_fldA {t g f : Nat} (ho : o.op = .fieldAddr 51 (.tmp t) 1) (hv : a.eval (.tmp t) = .pointer (some ⟨g, f, none⟩)) (h : K (a.put o.dst (.pointer (some ⟨g, f + 1, none⟩))) W) : Oper.wp Tryd.prog o a W K Q := by
 unfold Oper.wp execOp
 rw [ho]
 simp only [hv]
 go_simp
 exact h
theorem oto_ldD {t B f : Nat} (ho : o.op = .load 26 (.tmp t)) (hv : a.eval (.tmp t) = .pointer (some ⟨B, f, none⟩)) (hc : W.cell? ⟨B, f, none⟩ = some (.slice x n c)) (h : K (a.put o.dst (.slice x n c)) W) : Oper.wp Tryd.prog o a W K Q := by
 unfold Oper.wp execOp
 rw [ho]
 simp only [hv]
 go_simp
 exact h
theorem oto_ldS {t B f : Nat} (ho : o.op = .load 40 (.tmp t)) (hv : a.eval (.tmp t) = .pointer (some ⟨B, f, none⟩)) (hc : W.cell? ⟨B, f, none⟩ = some (.slice x n c)) (h : K (a.put o.dst (.slice x n c)) W) : Oper.wp Tryd.prog o a W K Q := by
 unfold Oper.wp execOp
 rw [ho]
 simp only [hv]
 go_simp
 exact h
theorem oto_ldT {t B f : Nat} (ho : o.op = .load 31 (.tmp t)) (hv : a.eval (.tmp t) = .pointer (some ⟨B, f, none⟩)) (hc : W.cell? ⟨B, f, none⟩ = some (.slice x n c)) (h : K (a.put o.dst (.slice x n c)) W) : Oper.wp Tryd.prog o a W K Q := by
 unfold Oper.wp execOp
 rw [ho]
 simp only [hv]
 go_simp
 exact h
theorem oto_ldA {t B f : Nat} (ho : o.op = .load 32 (.tmp t)) (hv : a.eval (.tmp t) = .pointer (some ⟨B, f, none⟩)) (hc : W.cell? ⟨B, f, none⟩ = some (.slice x n c)) (h : K (a.put o.dst (.slice x n c)) W) : Oper.wp Tryd.prog o a W K Q := by
 unfold Oper.wp execOp
 rw [ho]
 simp only [hv]
 go_simp
 exact h
theorem oto_ix {t u g f i : Nat} (ho : o.op = .indexAddr 40 (.tmp t) (.tmp u)) (hv : a.eval (.tmp t) = .slice (some ⟨g, f, none⟩) n c) (hu : a.eval (.tmp u) = .int .i64 (i : Nat)) (hi : (i : Int) < (n : Int)) (hi0 : (0 : Int) ≤ (i : Int)) (h : K (a.put o.dst (.pointer (some ⟨g, f + i * 2, none⟩))) W) : Oper.wp Tryd.prog o a W K Q := by
 unfold Oper.wp execOp
 rw [ho]
 simp only [hv, hu]
 go_simp
 exact h
theorem oto_nilT (ho : o.op = .buildSlice 31 0 #[]) (h : K (a.put o.dst (.slice (some ⟨W.heap.size, 0, none⟩) 0 0)) (W.alloc (.cells #[] 3))) : Oper.wp Tryd.prog o a W K Q := by
 unfold Oper.wp execOp
 rw [ho]
 simp only [List.map_toArray, List.map_nil]
 go_simp
 exact h
theorem oto_nilA (ho : o.op = .buildSlice 32 0 #[]) (h : K (a.put o.dst (.slice (some ⟨W.heap.size, 0, none⟩) 0 0)) (W.alloc (.cells #[] 35))) : Oper.wp Tryd.prog o a W K Q := by
 unfold Oper.wp execOp
 rw [ho]
 simp only [List.map_toArray, List.map_nil]
 go_simp
 exact h
theorem oto_row {t u : Nat} (ho : o.op = .build 34 #[(0, .tmp t), (1, .tmp u)]) (hv : a.eval (.tmp t) = .slice x n c) (hu : a.eval (.tmp u) = .slice y m d) (h : K (a.put o.dst (.agg #[.slice x n c, .slice y m d])) W) : Oper.wp Tryd.prog o a W K Q := by
 unfold Oper.wp execOp
 rw [ho]
 simp only [List.map_toArray, List.map_cons, List.map_nil, hv, hu]
 go_simp
 exact h
theorem oto_one {t : Nat} (ho : o.op = .buildSlice 26 1 #[(0, .tmp t)]) (hv : a.eval (.tmp t) = .agg #[.slice x n c, .slice y m d]) (h : K (a.put o.dst (.slice (some ⟨W.heap.size, 0, none⟩) 1 1)) (W.alloc (.cells #[.slice x n c, .slice y m d] 34))) : Oper.wp Tryd.prog o a W K Q := by
 unfold Oper.wp execOp
 rw [ho]
 simp only [List.map_toArray, List.map_cons, List.map_nil, hv]
 go_simp
 exact h
end
structure Zto (w W : World) (f c k : Int) (lv gv : Value) (rs' : List Rt) : Prop where
 bel : Below w.heap.size w W
 fb : CB W w.heap.size #[.int .i64 f, .int .i64 c, .int .i64 k, lv] 42
 rb : CB W (w.heap.size + 1) fe4 28
 gb : CB W (w.heap.size + 2) #[.int .i64 f, .int .i64 c, .int .i64 k, gv] 28
 er : Eo 34 W (w.heap.size + 3) gv rs'
theorem Zto.later {w W W' : World} {f c k : Int} {lv gv : Value} {rs' : List Rt} (h : Zto w W f c k lv gv rs') (hb : Below W.heap.size W W') : Zto w W' f c k lv gv rs' := ⟨h.bel.trans (hb.mono h.bel.size), h.fb.later hb, h.rb.later hb, h.gb.later hb, h.er.later hb⟩
theorem Zto.append {w W W2 : World} {f c k : Int} {lv gv gv' : Value} {rs' : List Rt} {q : Rt} (h : Zto w W f c k lv gv rs') (hq : Co W (w.heap.size + 3) 3 q.2.1 (isV q.1.t) ∧ Co W (w.heap.size + 3) 35 q.2.2 (f64s q.1.a)) (hown : W2.ownsRow (w.heap.size + 3) 34 2 gv' (rs'.length + 1) (rcs rs' ++ [q.2.1, q.2.2])) (hg : W.grownBy W2 gv.ownBlock) :
   (W2.cell? ⟨w.heap.size + 2, 3, none⟩ = some gv ∧ W2.frozen? ⟨w.heap.size + 2, 3, none⟩ = false) ∧ Zto w (W2.setCell ⟨w.heap.size + 2, 3, none⟩ gv') f c k lv gv' (rs' ++ [q]) := by
 have cb : ∀ {b t : Nat} {cs : Array Value}, CB W b cs t → b < w.heap.size + 3 → CB W2 b cs t := fun hc hb => by
   unfold CB
   rw [hg.block _ hc.lt (fun e => by have := (h.er.own.lt _ e.symm).1; omega)]; exact hc
 have hfb := cb h.fb (by omega)
 have hrb := cb h.rb (by omega)
 have hgb := cb h.gb (by omega)
 have her := h.er.grew (by decide) (by decide) hq hown hg
 have ho := Ob.set (w.heap.size + 2) 3 W2 gv'
 have hb2 : Below w.heap.size w W2 := h.bel.grown hg h.bel.size (fun b hb => by have := (h.er.own.lt b hb).1; omega)
 exact ⟨⟨hgb.cell 3 (by simp), hgb.frozen 3⟩, hb2.setCell (by show w.heap.size ≤ w.heap.size + 2; omega) _, hfb.other (by omega) _, hrb.other (by omega) _, by have := hgb.set 3 gv'; simpa using this, her.ob ho (by omega)⟩
def Fto (Bf Bg B3 : Nat) (ga : Option Addr) (gn gc : Nat) (g off N nc i : Nat) (ta : Option Addr) (tl tc : Nat) (aa : Option Addr) (al ac : Nat) (ts : List Int) (ls : List Nat) (j : Nat) (v : Value) (W : World) : Prop := match j with
 | 0 => v = .pointer (some ⟨Bg, 3, none⟩)
 | 1 => v = .slice ga gn gc
 | 2 => (∃ b, v = .slice (some ⟨b, 0, none⟩) 0 0) ∧ W.ownsRow B3 3 1 v 0 []
 | 3 => v = .pointer (some ⟨Bf, 3, none⟩)
 | 4 => v = .slice (some ⟨g, off, none⟩) N nc
 | 5 => v = .int .i64 (i : Nat)
 | 6 => v = .pointer (some ⟨g, off + i * 2, none⟩)
 | 7 => v = .pointer (some ⟨g, off + i * 2, none⟩)
 | 8 => v = .slice ta tl tc
 | 9 => W.ownsRow B3 3 1 v tl (isV ts)
 | 10 => (∃ b, v = .slice (some ⟨b, 0, none⟩) 0 0) ∧ W.ownsRow B3 35 1 v 0 []
 | 11 => v = .pointer (some ⟨Bf, 3, none⟩)
 | 12 => v = .slice (some ⟨g, off, none⟩) N nc
 | 13 => v = .int .i64 (i : Nat)
 | 14 => v = .pointer (some ⟨g, off + i * 2, none⟩)
 | 15 => v = .pointer (some ⟨g, off + i * 2 + 1, none⟩)
 | 16 => v = .slice aa al ac
 | 17 => W.ownsRow B3 35 1 v al (f64s ls)
 | 18 => ∃ tv av, v = .agg #[tv, av] ∧ W.ownsRow B3 3 1 tv tl (isV ts) ∧ W.ownsRow B3 35 1 av al (f64s ls)
 | 19 => ∃ b tv av, v = .slice (some ⟨b, 0, none⟩) 1 1 ∧ CB W b #[tv, av] 34 ∧ W.ownsRow B3 3 1 tv tl (isV ts) ∧ W.ownsRow B3 35 1 av al (f64s ls)
 | _ => True
theorem Fto_stab {Bf Bg B3 : Nat} {ga : Option Addr} {gn gc : Nat} {g off N nc i : Nat} {ta : Option Addr} {tl tc : Nat} {aa : Option Addr} {al ac : Nat} {ts : List Int} {ls : List Nat} : ∀ j v w w', Fto Bf Bg B3 ga gn gc g off N nc i ta tl tc aa al ac ts ls j v w → Below w.heap.size w w' → Fto Bf Bg B3 ga gn gc g off N nc i ta tl tc aa al ac ts ls j v w' := by
 intro j v w w' h hb
 by_cases hj : j < 20
 · have hc : j = 0 ∨ j = 1 ∨ j = 2 ∨ j = 3 ∨ j = 4 ∨ j = 5 ∨ j = 6 ∨ j = 7 ∨ j = 8 ∨ j = 9 ∨ j = 10 ∨ j = 11 ∨ j = 12 ∨ j = 13 ∨ j = 14 ∨ j = 15 ∨ j = 16 ∨ j = 17 ∨ j = 18 ∨ j = 19 := by omega
   rcases hc with rfl | rfl | rfl | rfl | rfl | rfl | rfl | rfl | rfl | rfl | rfl | rfl | rfl | rfl | rfl | rfl | rfl | rfl | rfl | rfl
   · exact h
   · exact h
   · exact ⟨h.1, own_later h.2 hb⟩
   · exact h
   · exact h
   · exact h
   · exact h
   · exact h
   · exact h
   · exact own_later (show w.ownsRow B3 3 1 v tl (isV ts) from h) hb
   · exact ⟨h.1, own_later h.2 hb⟩
   · exact h
   · exact h
   · exact h
   · exact h
   · exact h
   · exact h
   · exact own_later (show w.ownsRow B3 35 1 v al (f64s ls) from h) hb
   · obtain ⟨tv, av, h1, h2, h3⟩ := h
     exact ⟨tv, av, h1, own_later h2 hb, own_later h3 hb⟩
   · obtain ⟨b, tv, av, h1, h2, h3, h4⟩ := h
     exact ⟨b, tv, av, h1, h2.later hb, own_later h3 hb, own_later h4 hb⟩
 · have e : ∀ j, ¬ j < 20 → ∀ v W, Fto Bf Bg B3 ga gn gc g off N nc i ta tl tc aa al ac ts ls j v W := fun j hj v W => by
     unfold Fto
     split <;> first | trivial | omega
   exact e j hj v w'
end

/- The laws of layer 11: to: a file made anew: the walk. (gen_ega.py) -/
section
set_option maxRecDepth 100000
open Go.RowKit Go.Shelf Go.Lib
attribute [local go_sem] run_store_float
theorem res_to (W : World) (B : Nat) (a b c d : Value) (tmps : Array Value) (h : CB W B #[a, b, c, d] 28)
   (t2 : tmps[2]? = some (.pointer (some ⟨B, 0, none⟩))) : (results Tryd.f14 tmps).run Tryd.prog W = .ok (.agg #[a, b, c, d]) W := by
 have c0 := h.cell 0 (by simp)
 have c1 := h.cell 1 (by simp)
 have c2 := h.cell 2 (by simp)
 have c3 := h.cell 3 (by simp)
 simp [results, Tryd.f14, go_sem, c0, c1, c2, c3, t2]
theorem j20_to (j : Nat) (hj : j < 20) : j = 0 ∨ j = 1 ∨ j = 2 ∨ j = 3 ∨ j = 4 ∨ j = 5 ∨ j = 6 ∨ j = 7 ∨ j = 8 ∨ j = 9 ∨ j = 10 ∨ j = 11 ∨ j = 12 ∨ j = 13 ∨ j = 14 ∨ j = 15 ∨ j = 16 ∨ j = 17 ∨ j = 18 ∨ j = 19 := by omega
set_option maxHeartbeats 16000000 in
theorem to11_any (f c k : Int) (v : Value) (rs : List Rt) (w : World) (hv : Rv w v rs) (hn : rs.length ≤ 100000) (hl : ∀ q ∈ rs, q.1.t.length ≤ 1000000 ∧ q.1.a.length ≤ 1000000) :
   Calls Tryd.prog 14 #[.agg #[.int .i64 f, .int .i64 c, .int .i64 k, v]] w fun e w' => ∃ a cap rs', e = .returned (.agg #[.int .i64 f, .int .i64 c, .int .i64 k, .slice a rs'.length cap]) ∧ Eo 34 w' w.heap.size (.slice a rs'.length cap) rs' ∧ rs'.map (·.1) = rs.map (·.1) ∧ Below w.heap.size w w' := by
 have HV := Lib.hid hv
 have HLn := Lib.hid hl
 obtain ⟨va, nc, rfl, h1, h2, h3⟩ := hv.form
 obtain ⟨N, hN⟩ : ∃ N, Hid (rs.length = N) := ⟨_, Lib.hid rfl⟩
 rw [hN.out] at h1 hn ⊢
 have HM := Lib.hid h3
 obtain ⟨j0, hj0, hj1, hj2, hj3⟩ := info_parts (show (Tryd.prog.info? 3).map (fun i => (i.zero, i.size, i.bytes)) = some (some (.int .i64 0), 1, 8) by kernel_rfl)
 obtain ⟨f0, hf0, hf1, hf2, hf3⟩ := info_parts (show (Tryd.prog.info? 35).map (fun i => (i.zero, i.size, i.bytes)) = some (some (.float .f64 0), 1, 8) by kernel_rfl)
 obtain ⟨i0, hi0, hz0, hz1, hz2⟩ := info_parts (show (Tryd.prog.info? 34).map (fun i => (i.zero, i.size, i.bytes)) = some (some (.agg rw2), 2, 48) by kernel_rfl)
 obtain ⟨W3, hW3⟩ : ∃ W3, Hid (((w.alloc (.cells #[.int .i64 f, .int .i64 c, .int .i64 k, .slice va N nc] 42)).alloc (.cells fe4 28)).alloc (.cells #[.int .i64 f, .int .i64 c, .int .i64 k, .slice none 0 0] 28) = W3) := ⟨_, Lib.hid rfl⟩
 have HZ : Hid (Zto w W3 f c k (.slice va N nc) (.slice none 0 0) []) := Lib.hid (by
   rw [← hW3.out]
   have c1 := CB.new w #[.int .i64 f, .int .i64 c, .int .i64 k, .slice va N nc] 42
   have c2 := CB.new (w.alloc (.cells #[.int .i64 f, .int .i64 c, .int .i64 k, .slice va N nc] 42)) fe4 28
   have c3 := CB.new ((w.alloc (.cells #[.int .i64 f, .int .i64 c, .int .i64 k, .slice va N nc] 42)).alloc (.cells fe4 28)) #[.int .i64 f, .int .i64 c, .int .i64 k, .slice none 0 0] 28
   rw [World.size_alloc] at c2 c3
   rw [World.size_alloc] at c3
   exact ⟨(((Below.refl _ w).alloc (Nat.le_refl _) _).alloc (by simp) _).alloc (by simp; omega) _, (c1.later (bAlE _ _)).later (bAlE _ _), c2.later (bAlE _ _), c3, Eo.nil _ _ _⟩)
 have hN' : (N : Int) ≤ 100000 := by omega
 clear hv hl h3
 go_enter Tryd.func14, Tryd.ntmps14
 go_wp2_with fail
 rw [hW3.out]
 clear hW3
 go_loopw [4] (fun s4 wr => ∃ (i : Nat) (gv : Value) (rs' : List Rt), s4 = .int .i64 (i : Nat) ∧ i ≤ N ∧ Hid (Zto w wr f c k (.slice va N nc) gv rs' ∧ rs'.map (·.1) = (rs.map (·.1)).take i ∧ rs'.length = i)) (fun s4 _ => N - (RowKit.intOf s4).toNat)
 case atStart => exact ⟨0, _, [], rfl, by omega, HZ.out, by simp, rfl⟩
 case round =>
   clear HZ
   obtain ⟨i, gv, rs', rfl, hi, hI⟩ := hrel
   have HZr := Lib.hid hI.out.1
   have HTk := Lib.hid hI.out.2.1
   have HLi := Lib.hid hI.out.2.2
   clear hI
   have k3 := HZr.out.fb.cell 3 (by simp)
   by_cases hlt : i < N
   · have hi1 : (i : Int) < (N : Int) := by omega
     have hi2 : (0 : Int) ≤ (i : Int) := by omega
     obtain ⟨q, hq⟩ : ∃ q, Hid (rs[i]? = some q) := ⟨_, Lib.hid (List.getElem?_eq_getElem (by rw [hN.out]; exact hlt))⟩
     have hqm := List.mem_of_getElem? hq.out
     obtain ⟨g, off, hga, hg, hcell⟩ := HM.out.resolve_left (fun e => by rw [e] at hqm; simp at hqm)
     subst hga
     obtain ⟨x0, x1⟩ := hcell i q hq.out
     obtain ⟨his, hfs⟩ := HV.out.sub q hqm
     have hql := HLn.out q hqm
     obtain ⟨⟨ts, ls⟩, tv, av⟩ := q
     try dsimp only at x0 x1 his hfs hql
     obtain ⟨ta, tc, rfl, _⟩ := his.form
     obtain ⟨aa, ac, rfl, _⟩ := hfs.form
     obtain ⟨tl, HTl⟩ : ∃ tl, Hid (ts.length = tl) := ⟨_, Lib.hid rfl⟩
     obtain ⟨al, HAl⟩ : ∃ al, Hid (ls.length = al) := ⟨_, Lib.hid rfl⟩
     rw [HTl.out] at x0 his hql
     rw [HAl.out] at x1 hfs hql
     have htl := hql.1
     have hal := hql.2
     have HX : Hid (∀ W, Below w.heap.size w W → W.cell? ⟨g, off + i * 2, none⟩ = some (.slice ta tl tc) ∧ W.cell? ⟨g, off + i * 2 + 1, none⟩ = some (.slice aa al ac) ∧ Is W (.slice ta tl tc) ts ∧ Fs W (.slice aa al ac) ls) := Lib.hid (fun W hW => ⟨cell_later hW hg x0, cell_later hW hg x1, his.later hW, hfs.later hW⟩)
     obtain ⟨ga, gc, hgv⟩ := own_sliceE HZr.out.er.own
     subst hgv
     clear hcell hqm x0 x1 his hfs hql
     go_wp2_with fail
     clear k3
     refine region_facts2 19 20 23 (fun W => Zto w W f c k (.slice (some ⟨g, off, none⟩) N nc) (.slice ga rs'.length gc) rs') (Fto (w.heap.size) (w.heap.size + 2) (w.heap.size + 3) ga rs'.length gc g off N nc i ta tl tc aa al ac ts ls) (by kernel_rfl) (by kernel_rfl) (by omega) (by kernel_rfl) (Nat.le_of_ble_eq_true (by kernel_rfl)) (HZr.out.later (Below.refl _ _).drew) Fto_stab ?_ ?_
     focus
       · intro Q' j o hj ho a W hG hout hd
         have hc := j20_to j hj
         clear hj
         rcases hc with rfl | rfl | rfl | rfl | rfl | rfl | rfl | rfl | rfl | rfl | rfl | rfl | rfl | rfl | rfl | rfl | rfl | rfl | rfl | rfl
         · replace ho := Option.some.inj (Eq.trans (Eq.symm ho) rfl)
           subst ho
           refine oto_fldD rfl ((hout 3 (by omega)).trans rfl) ⟨_, rfl, hG, Below.refl _ _, rfl⟩
         · replace ho := Option.some.inj (Eq.trans (Eq.symm ho) rfl)
           subst ho
           have d0 : Fto (w.heap.size) (w.heap.size + 2) (w.heap.size + 3) ga rs'.length gc g off N nc i ta tl tc aa al ac ts ls 0 (a.eval (.tmp 19)) W := hd ⟨0, .data⟩ (by simp) rfl
           refine oto_ldD rfl d0 (hG.gb.cell 3 (by simp)) ⟨_, rfl, hG, Below.refl _ _, rfl⟩
         · replace ho := Option.some.inj (Eq.trans (Eq.symm ho) rfl)
           subst ho
           refine oto_nilT rfl ⟨_, rfl, hG.later (bAlE _ _), bAlE _ _, ⟨_, rfl⟩, makeE (by have := hG.gb.lt; omega)⟩
         · replace ho := Option.some.inj (Eq.trans (Eq.symm ho) rfl)
           subst ho
           refine oto_fldS rfl ((hout 1 (by omega)).trans rfl) ⟨_, rfl, hG, Below.refl _ _, rfl⟩
         · replace ho := Option.some.inj (Eq.trans (Eq.symm ho) rfl)
           subst ho
           have d3 : Fto (w.heap.size) (w.heap.size + 2) (w.heap.size + 3) ga rs'.length gc g off N nc i ta tl tc aa al ac ts ls 3 (a.eval (.tmp 22)) W := hd ⟨3, .data⟩ (by simp) rfl
           refine oto_ldS rfl d3 (hG.fb.cell 3 (by simp)) ⟨_, rfl, hG, Below.refl _ _, rfl⟩
         · replace ho := Option.some.inj (Eq.trans (Eq.symm ho) rfl)
           subst ho
           refine op_mv rfl ⟨_, rfl, hG, Below.refl _ _, (hout 4 (by omega)).trans rfl⟩
         · replace ho := Option.some.inj (Eq.trans (Eq.symm ho) rfl)
           subst ho
           have d4 : Fto (w.heap.size) (w.heap.size + 2) (w.heap.size + 3) ga rs'.length gc g off N nc i ta tl tc aa al ac ts ls 4 (a.eval (.tmp 23)) W := hd ⟨4, .data⟩ (by simp) rfl
           have d5 : Fto (w.heap.size) (w.heap.size + 2) (w.heap.size + 3) ga rs'.length gc g off N nc i ta tl tc aa al ac ts ls 5 (a.eval (.tmp 24)) W := hd ⟨5, .data⟩ (by simp) rfl
           refine oto_ix rfl d4 d5 hi1 hi2 ⟨_, rfl, hG, Below.refl _ _, rfl⟩
         · replace ho := Option.some.inj (Eq.trans (Eq.symm ho) rfl)
           subst ho
           have d6 : Fto (w.heap.size) (w.heap.size + 2) (w.heap.size + 3) ga rs'.length gc g off N nc i ta tl tc aa al ac ts ls 6 (a.eval (.tmp 25)) W := hd ⟨6, .data⟩ (by simp) rfl
           refine oto_fldT rfl d6 ⟨_, rfl, hG, Below.refl _ _, rfl⟩
         · replace ho := Option.some.inj (Eq.trans (Eq.symm ho) rfl)
           subst ho
           have d7 : Fto (w.heap.size) (w.heap.size + 2) (w.heap.size + 3) ga rs'.length gc g off N nc i ta tl tc aa al ac ts ls 7 (a.eval (.tmp 26)) W := hd ⟨7, .data⟩ (by simp) rfl
           refine oto_ldT rfl d7 (HX.out W hG.bel).1 ⟨_, rfl, hG, Below.refl _ _, rfl⟩
         · replace ho := Option.some.inj (Eq.trans (Eq.symm ho) rfl)
           subst ho
           have d2 : Fto (w.heap.size) (w.heap.size + 2) (w.heap.size + 3) ga rs'.length gc g off N nc i ta tl tc aa al ac ts ls 2 (a.eval (.tmp 21)) W := hd ⟨2, .data⟩ (by simp) rfl
           have d8 : Fto (w.heap.size) (w.heap.size + 2) (w.heap.size + 3) ga rs'.length gc g off N nc i ta tl tc aa al ac ts ls 8 (a.eval (.tmp 27)) W := hd ⟨8, .data⟩ (by simp) rfl
           obtain ⟨⟨b, e2⟩, o2⟩ := d2
           refine op_copy Tryd.underlying31 hj0 hj1 hj2 hj3 (by decide) rfl e2 d8 (src_ints (HX.out W hG.bel).2.2.1) htl ?_ ?_
           · intro h0
             refine ⟨_, rfl, hG, Below.refl _ _, ?_⟩
             rw [e2] at o2
             show W.ownsRow _ 3 1 _ tl (isV ts)
             have hts : ts = [] := List.length_eq_zero_iff.1 (by rw [HTl.out]; exact h0)
             rw [h0, hts]
             exact o2
           · intro _ v' W' hown hb
             exact ⟨_, rfl, hG.later hb, hb, own_base hown (by have := hG.gb.lt; omega)⟩
         · replace ho := Option.some.inj (Eq.trans (Eq.symm ho) rfl)
           subst ho
           refine oto_nilA rfl ⟨_, rfl, hG.later (bAlE _ _), bAlE _ _, ⟨_, rfl⟩, makeE (by have := hG.gb.lt; omega)⟩
         · replace ho := Option.some.inj (Eq.trans (Eq.symm ho) rfl)
           subst ho
           refine oto_fldS rfl ((hout 1 (by omega)).trans rfl) ⟨_, rfl, hG, Below.refl _ _, rfl⟩
         · replace ho := Option.some.inj (Eq.trans (Eq.symm ho) rfl)
           subst ho
           have d11 : Fto (w.heap.size) (w.heap.size + 2) (w.heap.size + 3) ga rs'.length gc g off N nc i ta tl tc aa al ac ts ls 11 (a.eval (.tmp 30)) W := hd ⟨11, .data⟩ (by simp) rfl
           refine oto_ldS rfl d11 (hG.fb.cell 3 (by simp)) ⟨_, rfl, hG, Below.refl _ _, rfl⟩
         · replace ho := Option.some.inj (Eq.trans (Eq.symm ho) rfl)
           subst ho
           refine op_mv rfl ⟨_, rfl, hG, Below.refl _ _, (hout 4 (by omega)).trans rfl⟩
         · replace ho := Option.some.inj (Eq.trans (Eq.symm ho) rfl)
           subst ho
           have d12 : Fto (w.heap.size) (w.heap.size + 2) (w.heap.size + 3) ga rs'.length gc g off N nc i ta tl tc aa al ac ts ls 12 (a.eval (.tmp 31)) W := hd ⟨12, .data⟩ (by simp) rfl
           have d13 : Fto (w.heap.size) (w.heap.size + 2) (w.heap.size + 3) ga rs'.length gc g off N nc i ta tl tc aa al ac ts ls 13 (a.eval (.tmp 32)) W := hd ⟨13, .data⟩ (by simp) rfl
           refine oto_ix rfl d12 d13 hi1 hi2 ⟨_, rfl, hG, Below.refl _ _, rfl⟩
         · replace ho := Option.some.inj (Eq.trans (Eq.symm ho) rfl)
           subst ho
           have d14 : Fto (w.heap.size) (w.heap.size + 2) (w.heap.size + 3) ga rs'.length gc g off N nc i ta tl tc aa al ac ts ls 14 (a.eval (.tmp 33)) W := hd ⟨14, .data⟩ (by simp) rfl
           refine oto_fldA rfl d14 ⟨_, rfl, hG, Below.refl _ _, rfl⟩
         · replace ho := Option.some.inj (Eq.trans (Eq.symm ho) rfl)
           subst ho
           have d15 : Fto (w.heap.size) (w.heap.size + 2) (w.heap.size + 3) ga rs'.length gc g off N nc i ta tl tc aa al ac ts ls 15 (a.eval (.tmp 34)) W := hd ⟨15, .data⟩ (by simp) rfl
           refine oto_ldA rfl d15 (HX.out W hG.bel).2.1 ⟨_, rfl, hG, Below.refl _ _, rfl⟩
         · replace ho := Option.some.inj (Eq.trans (Eq.symm ho) rfl)
           subst ho
           have d10 : Fto (w.heap.size) (w.heap.size + 2) (w.heap.size + 3) ga rs'.length gc g off N nc i ta tl tc aa al ac ts ls 10 (a.eval (.tmp 29)) W := hd ⟨10, .data⟩ (by simp) rfl
           have d16 : Fto (w.heap.size) (w.heap.size + 2) (w.heap.size + 3) ga rs'.length gc g off N nc i ta tl tc aa al ac ts ls 16 (a.eval (.tmp 35)) W := hd ⟨16, .data⟩ (by simp) rfl
           obtain ⟨⟨b, e2⟩, o2⟩ := d10
           refine op_copy Tryd.underlying32 hf0 hf1 hf2 hf3 (by decide) rfl e2 d16 (src_floats (HX.out W hG.bel).2.2.2) hal ?_ ?_
           · intro h0
             refine ⟨_, rfl, hG, Below.refl _ _, ?_⟩
             rw [e2] at o2
             show W.ownsRow _ 35 1 _ al (f64s ls)
             have hts : ls = [] := List.length_eq_zero_iff.1 (by rw [HAl.out]; exact h0)
             rw [h0, hts]
             exact o2
           · intro _ v' W' hown hb
             exact ⟨_, rfl, hG.later hb, hb, own_base hown (by have := hG.gb.lt; omega)⟩
         · replace ho := Option.some.inj (Eq.trans (Eq.symm ho) rfl)
           subst ho
           have d9 : Fto (w.heap.size) (w.heap.size + 2) (w.heap.size + 3) ga rs'.length gc g off N nc i ta tl tc aa al ac ts ls 9 (a.eval (.tmp 28)) W := hd ⟨9, .data⟩ (by simp) rfl
           have d17 : Fto (w.heap.size) (w.heap.size + 2) (w.heap.size + 3) ga rs'.length gc g off N nc i ta tl tc aa al ac ts ls 17 (a.eval (.tmp 36)) W := hd ⟨17, .data⟩ (by simp) rfl
           obtain ⟨t1, t2, e9⟩ := own_sliceE (show W.ownsRow (w.heap.size + 3) 3 1 _ tl (isV ts) from d9)
           obtain ⟨t3, t4, e17⟩ := own_sliceE (show W.ownsRow (w.heap.size + 3) 35 1 _ al (f64s ls) from d17)
           refine oto_row rfl e9 e17 ⟨_, rfl, hG, Below.refl _ _, _, _, rfl, by rw [← e9]; exact d9, by rw [← e17]; exact d17⟩
         · replace ho := Option.some.inj (Eq.trans (Eq.symm ho) rfl)
           subst ho
           have d18 : Fto (w.heap.size) (w.heap.size + 2) (w.heap.size + 3) ga rs'.length gc g off N nc i ta tl tc aa al ac ts ls 18 (a.eval (.tmp 37)) W := hd ⟨18, .data⟩ (by simp) rfl
           obtain ⟨tv, av, e, ht, ha⟩ := d18
           obtain ⟨t1, t2, rfl⟩ := own_sliceE ht
           obtain ⟨t3, t4, rfl⟩ := own_sliceE ha
           refine oto_one rfl e ⟨_, rfl, hG.later (bAlE _ _), bAlE _ _, W.heap.size, _, _, rfl, CB.new W _ _, own_later ht (bAlE _ _), own_later ha (bAlE _ _)⟩
     · intro vs W hG hF
       have e1 : vs 1 = .slice ga rs'.length gc := hF 1 (by omega)
       obtain ⟨b, tv, av, e19, hcb, hot, hoa⟩ : ∃ b tv av, vs 19 = .slice (some ⟨b, 0, none⟩) 1 1 ∧ CB W b #[tv, av] 34 ∧ W.ownsRow (w.heap.size + 3) 3 1 tv tl (isV ts) ∧ W.ownsRow (w.heap.size + 3) 35 1 av al (f64s ls) := hF 19 (by omega)
       have hnews : ∀ j u, [tv, av][j]? = some u → W.cell? ((⟨b, 0, none⟩ : Addr).add j) = some u := World.news_of_block (cs := #[tv, av]) (t := 34) (fr := (0, 0)) hcb
       obtain ⟨t1, t2, rfl⟩ := own_sliceE hot
       obtain ⟨t3, t4, rfl⟩ := own_sliceE hoa
       have HG := Lib.hid hG
       have HCo := Lib.hid (And.intro (Co.own hot) (Co.own hoa))
       have hlen : rs'.length ≤ 100000 := by have := HLi.out; omega
       clear hF hot hoa hG HZr
       generalize hA : actF _ 19 20 (fun _ => true) vs = A
       simp only [actF, fillL, Nat.reduceAdd, Nat.reduceSub, Nat.reduceLeDiff, Nat.reduceLT, if_true, if_false, and_true, and_false, and_self, e1, e19] at hA
       subst hA
       clear e1 e19
       refine wpAny_of_held (S := fun _ => True) _ _ _ _ ?_
       refine call_at (fuel := 2) 20 (by kernel_rfl) (by kernel_rfl) ?_
       intro o ho
       replace ho := Option.some.inj (Eq.trans (Eq.symm ho) rfl)
       subst ho
       intro KF hK
       rw [if_pos (by rfl)]
       refine wp_append_own _ _ _ rfl (w.heap.size + 3) 34 i0 (.agg rw2) 2 48 Tryd.underlying26 hi0 hz0 hz1 hz2 rfl (by omega) (.slice ga rs'.length gc) rs'.length (rcs rs') rfl HG.out.er.own ⟨b, 0, none⟩ 1 1 [.slice t1 tl t2, .slice t3 al t4] rfl rfl hnews (by simp [Value.oneCell']) (by unfold maxLen; omega) (by omega) (by have := HG.out.gb.lt; omega) ?_
       intro v3 W5 hown hgrow
       obtain ⟨va3, vc3, rfl⟩ := own_sliceE hown
       obtain ⟨⟨s1, s2⟩, hz5⟩ := HG.out.append (q := (⟨ts, ls⟩, .slice t1 tl t2, .slice t3 al t4)) HCo.out hown hgrow
       have HZ5 := Lib.hid hz5
       clear hz5 hown hgrow
       refine hK.out _ _ trivial ?_
       intro _
       clear hK KF
       try simp only [Act.put, List.setIfInBounds_toArray]
       refine call_at (fuel := 1) 21 (by kernel_rfl) (by kernel_rfl) ?_
       intro o ho
       replace ho := Option.some.inj (Eq.trans (Eq.symm ho) rfl)
       subst ho
       intro KF hK
       go_simp
       refine hK.out _ _ trivial ?_
       intro _
       clear hK KF
       try simp only [Act.put, List.setIfInBounds_toArray]
       refine call_at (fuel := 0) 22 (by kernel_rfl) (by kernel_rfl) ?_
       intro o ho
       replace ho := Option.some.inj (Eq.trans (Eq.symm ho) rfl)
       subst ho
       intro KF hK
       go_simp
       refine hK.out _ _ trivial ?_
       intro _
       clear hK KF
       try simp only [Act.put, List.setIfInBounds_toArray]
       refine wpAnyH_done (by kernel_rfl) ?_ _
       have HNx : Hid ((rs' ++ [((⟨ts, ls⟩ : Rw), Value.slice t1 tl t2, Value.slice t3 al t4)]).map (·.1) = (rs.map (·.1)).take (i + 1)) := Lib.hid (by
         have hd : (rs.map (·.1))[i]? = some (⟨ts, ls⟩ : Rw) := by rw [List.getElem?_map, hq.out]; rfl
         obtain ⟨g1, g2⟩ := List.getElem?_eq_some_iff.1 hd
         rw [List.take_succ_eq_append_getElem g1, g2, List.map_append, HTk.out]
         rfl)
       go_wp2
       exact ⟨⟨i + 1, _, rs' ++ [(⟨ts, ls⟩, .slice t1 tl t2, .slice t3 al t4)], by go_num, by omega, HZ5.out, HNx.out, by rw [List.length_append, HLi.out]; rfl⟩, by simp [RowKit.intOf]; omega⟩
   · obtain rfl : N = i := by omega
     obtain ⟨ga, gc, hgv⟩ := own_sliceE HZr.out.er.own
     subst hgv
     obtain ⟨m0, m1, m2, m3⟩ := HZr.out.gb.cells4E
     obtain ⟨n0, n1, n2, n3⟩ := HZr.out.rb.cells4E
     have u0 := HZr.out.rb.frozen 0
     have u1 := HZr.out.rb.frozen 1
     have u2 := HZr.out.rb.frozen 2
     have u3 := HZr.out.rb.frozen 3
     go_wp2
     refine bodyPost_ret (res_to _ (w.heap.size + 1) _ _ _ _ _ (set4E HZr.out.rb _ _ _ _) rfl) rfl ?_
     have ho := ((((Ob.set (w.heap.size + 1) 0 wr (.int .i64 f)).trans (Ob.set (w.heap.size + 1) 1 _ (.int .i64 c))).trans (Ob.set (w.heap.size + 1) 2 _ (.int .i64 k))).trans (Ob.set (w.heap.size + 1) 3 _ (.slice ga rs'.length gc)))
     refine ⟨ga, gc, rs', rfl, (HZr.out.er.ob ho (by omega)).base (by omega), ?_, ?_⟩
     · rw [HTk.out, List.take_of_length_le (by simp [hN.out])]
     · exact (((HZr.out.bel.setCell (p := ⟨w.heap.size + 1, 0, none⟩) (by show w.heap.size ≤ w.heap.size + 1; omega) _).setCell (p := ⟨w.heap.size + 1, 1, none⟩) (by show w.heap.size ≤ w.heap.size + 1; omega) _).setCell (p := ⟨w.heap.size + 1, 2, none⟩) (by show w.heap.size ≤ w.heap.size + 1; omega) _).setCell (p := ⟨w.heap.size + 1, 3, none⟩) (by show w.heap.size ≤ w.heap.size + 1; omega) _
end

/- Package elefile: Read: what it leans on. -/
section
set_option maxRecDepth 100000
open Go.RowKit Go.Shelf Go.Lib
theorem Lf.later {W W' : World} {v : Value} {ps : List Lt} (h : Lf W v ps) (hb : Below W.heap.size W W') : Lf W' v ps := by
 obtain ⟨⟨a, c, h1, h2, h3, h4⟩, h5⟩ := h
 refine ⟨⟨a, c, h1, h2, h3, ?_⟩, fun p hp => ⟨(h5 p hp).1.later hb, fun b hbb => Nat.lt_of_lt_of_le ((h5 p hp).2 b hbb) hb.size⟩⟩
 rcases h4 with h4 | ⟨g, off, h6, h7, h8⟩
 · exact Or.inl h4
 · exact Or.inr ⟨g, off, h6, Nat.lt_of_lt_of_le h7 hb.size, fun k p hp => ⟨cell_later hb h7 (h8 k p hp).1, cell_later hb h7 (h8 k p hp).2⟩⟩
theorem Lr.lf {e : TypeId} {W : World} {B : Nat} {v : Value} {ps : List Lt} (h : Lr e W B v ps) (hl : ∀ p ∈ ps, ∀ x ∈ p.2.1, x.length ≤ 900000) : Lf W v ps := by
 refine ⟨?_, fun p hp => ⟨(h.sub p hp).sl (fun x hx => by have := hl p hp x hx; omega), fun b hb => (World.ownsRow.lt (h.sub p hp) b hb).2⟩⟩
 have h0 := h.own
 rcases h.own.2 with ⟨h1, h2⟩ | ⟨g, cap, cur, rfl, _, h3, h4, h5, _⟩
 · have : ps = [] := List.length_eq_zero_iff.1 h2
   subst this
   exact ⟨none, 0, h1, by simp, by omega, Or.inl rfl⟩
 · refine ⟨_, cap, rfl, h4, by unfold maxLen at h5; omega, Or.inr ⟨g, 0, rfl, (World.ownsRow.lt h0 g rfl).2, fun k p hk => ?_⟩⟩
   obtain ⟨hlt, rfl⟩ := List.getElem?_eq_some_iff.1 hk
   have := lcs_at ps k hlt
   refine ⟨?_, ?_⟩
   · rw [show k * 2 = 2 * k by omega]; exact own_cellL h0 this.1
   · rw [Nat.add_assoc, show k * 2 + 1 = 2 * k + 1 by omega]; exact own_cellL h0 this.2
theorem Lf.tail {W : World} {g off c : Nat} {q : Lt} {r : List Lt} (h : Lf W (.slice (some ⟨g, off, none⟩) (r.length + 1) c) (q :: r)) : Lf W (.slice (some (if c = 1 then ⟨g, off, none⟩ else ⟨g, off + 2, none⟩)) r.length (c - 1)) r := by
 obtain ⟨⟨a, c', e, h2, h3, h4⟩, h5⟩ := h
 cases e
 rcases h4 with h4 | ⟨g', o', e, hg, hc⟩
 · cases h4
 cases e
 simp only [List.length_cons] at h2
 refine ⟨⟨_, _, rfl, by omega, by omega, ?_⟩, fun p hp => h5 p (by simp [hp])⟩
 by_cases hr : r = []
 · exact Or.inl hr
 · refine Or.inr ⟨g, off + 2, ?_, hg, fun k p hk => ?_⟩
   · have : 0 < r.length := List.length_pos_iff.2 hr
     rw [if_neg (by omega)]
   · have := hc (k + 1) p (by simpa using hk)
     rw [show off + 2 + k * 2 = off + (k + 1) * 2 by omega]
     exact this
def ReR (p : Pm) (w w' : World) (t : Bs) (e : Ending) : Prop := Below w.heap.size w w' ∧
 ∃ a cap rs f' c' k', e = .returned (.tuple #[.agg #[.int .i64 (f' : Nat), .int .i64 (c' : Nat), .int .i64 (k' : Nat), .slice a rs.length cap], .int .i64 ((reV p t).2.1 : Nat), .int .i64 (reV p t).2.2]) ∧ (reV p t).1 = ⟨(f' : Nat), (c' : Nat), (k' : Nat), rs.map (·.1)⟩ ∧ Er w' w.heap.size (.slice a rs.length cap) rs
theorem ReR.bad {p : Pm} {w W : World} {t : Bs} {at' : Nat} {e : Int} (hb : Below w.heap.size w W) (h : reV p t = (fe0, at', e)) : ReR p w W t (.returned (.tuple #[.agg fe4, .int .i64 (at' : Nat), .int .i64 e])) := by
 unfold ReR
 rw [h]
 exact ⟨hb, none, 0, [], 0, 0, 0, rfl, rfl, Er.nil (World.ownsRow_nil _ _ _ _)⟩
end
end Go.Proofs.YtgoadpnoagaflaaDoor
