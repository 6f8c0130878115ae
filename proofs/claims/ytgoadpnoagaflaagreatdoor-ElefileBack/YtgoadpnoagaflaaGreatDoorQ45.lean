/- Own texts, put together: Egd Egf. -/
import Derived.Test.YtgoadpnoagaflaaGreatDoorQ3
import Derived.Test.YtgoadpnoagaflaaGreatDoorQ5
import Derived.Test.YtgoadpnoagaflaaGreatDoorQ35
import Derived.Test.YtgoadpnoagaflaaGreatDoorQ42
namespace Go.Proofs.YtgoadpnoagaflaaGreatDoor
/- The laws of layer 11: of: a file made anew: the walk. (gen_ega.py) -/
section
set_option maxRecDepth 100000
open Go.RowKit Go.Shelf Go.Lib
attribute [local go_sem] run_store_float
theorem res_of (W : World) (B : Nat) (a b c d : Value) (tmps : Array Value) (h : CB W B #[a, b, c, d] 24)
   (t2 : tmps[2]? = some (.pointer (some ⟨B, 0, none⟩))) : (results Tryz.f10 tmps).run Tryz.prog W = .ok (.agg #[a, b, c, d]) W := by
 have c0 := h.cell 0 (by simp)
 have c1 := h.cell 1 (by simp)
 have c2 := h.cell 2 (by simp)
 have c3 := h.cell 3 (by simp)
 simp [results, Tryz.f10, go_sem, c0, c1, c2, c3, t2]
theorem j20_of (j : Nat) (hj : j < 20) : j = 0 ∨ j = 1 ∨ j = 2 ∨ j = 3 ∨ j = 4 ∨ j = 5 ∨ j = 6 ∨ j = 7 ∨ j = 8 ∨ j = 9 ∨ j = 10 ∨ j = 11 ∨ j = 12 ∨ j = 13 ∨ j = 14 ∨ j = 15 ∨ j = 16 ∨ j = 17 ∨ j = 18 ∨ j = 19 := by omega
set_option maxHeartbeats 16000000 in
theorem of11_any (f c k : Int) (v : Value) (rs : List Rt) (w : World) (hv : Rv w v rs) (hn : rs.length ≤ 100000) (hl : ∀ q ∈ rs, q.1.t.length ≤ 1000000 ∧ q.1.a.length ≤ 1000000) :
   Calls Tryz.prog 10 #[.agg #[.int .i64 f, .int .i64 c, .int .i64 k, v]] w fun e w' => ∃ a cap rs', e = .returned (.agg #[.int .i64 f, .int .i64 c, .int .i64 k, .slice a rs'.length cap]) ∧ Eo 44 w' w.heap.size (.slice a rs'.length cap) rs' ∧ rs'.map (·.1) = rs.map (·.1) ∧ Below w.heap.size w w' := by
 have HV := Lib.hid hv
 have HLn := Lib.hid hl
 obtain ⟨va, nc, rfl, h1, h2, h3⟩ := hv.form
 obtain ⟨N, hN⟩ : ∃ N, Hid (rs.length = N) := ⟨_, Lib.hid rfl⟩
 rw [hN.out] at h1 hn ⊢
 have HM := Lib.hid h3
 obtain ⟨j0, hj0, hj1, hj2, hj3⟩ := info_parts (show (Tryz.prog.info? 3).map (fun i => (i.zero, i.size, i.bytes)) = some (some (.int .i64 0), 1, 8) by kernel_rfl)
 obtain ⟨f0, hf0, hf1, hf2, hf3⟩ := info_parts (show (Tryz.prog.info? 43).map (fun i => (i.zero, i.size, i.bytes)) = some (some (.float .f64 0), 1, 8) by kernel_rfl)
 obtain ⟨i0, hi0, hz0, hz1, hz2⟩ := info_parts (show (Tryz.prog.info? 44).map (fun i => (i.zero, i.size, i.bytes)) = some (some (.agg rw2), 2, 48) by kernel_rfl)
 obtain ⟨W3, hW3⟩ : ∃ W3, Hid (((w.alloc (.cells #[.int .i64 f, .int .i64 c, .int .i64 k, .slice va N nc] 32)).alloc (.cells fe4 24)).alloc (.cells #[.int .i64 f, .int .i64 c, .int .i64 k, .slice none 0 0] 24) = W3) := ⟨_, Lib.hid rfl⟩
 have HZ : Hid (Zof w W3 f c k (.slice va N nc) (.slice none 0 0) []) := Lib.hid (by
   rw [← hW3.out]
   have c1 := CB.new w #[.int .i64 f, .int .i64 c, .int .i64 k, .slice va N nc] 32
   have c2 := CB.new (w.alloc (.cells #[.int .i64 f, .int .i64 c, .int .i64 k, .slice va N nc] 32)) fe4 24
   have c3 := CB.new ((w.alloc (.cells #[.int .i64 f, .int .i64 c, .int .i64 k, .slice va N nc] 32)).alloc (.cells fe4 24)) #[.int .i64 f, .int .i64 c, .int .i64 k, .slice none 0 0] 24
   rw [World.size_alloc] at c2 c3
   rw [World.size_alloc] at c3
   exact ⟨(((Below.refl _ w).alloc (Nat.le_refl _) _).alloc (by simp) _).alloc (by simp; omega) _, (c1.later (bAlE _ _)).later (bAlE _ _), c2.later (bAlE _ _), c3, Eo.nil _ _ _⟩)
 have hN' : (N : Int) ≤ 100000 := by omega
 clear hv hl h3
 go_enter Tryz.func10, Tryz.ntmps10
 go_wp2_with fail
 rw [hW3.out]
 clear hW3
 go_loopw [4] (fun s4 wr => ∃ (i : Nat) (gv : Value) (rs' : List Rt), s4 = .int .i64 (i : Nat) ∧ i ≤ N ∧ Hid (Zof w wr f c k (.slice va N nc) gv rs' ∧ rs'.map (·.1) = (rs.map (·.1)).take i ∧ rs'.length = i)) (fun s4 _ => N - (RowKit.intOf s4).toNat)
 case atStart => exact ⟨0, _, [], rfl, by omega, HZ.out, by simp, rfl⟩
 case round =>
   clear HZ
   obtain ⟨i, gv, rs', rfl, hi, hI⟩ := hrel
   have HZr := Lib.hid hI.out.1
   have HTk := Lib.hid hI.out.2.1
   have HLi := Lib.hid hI.out.2.2
   clear hI
   have k3 := HZr.out.fb.cell 3 (by simp)
   by_cases hlt : i < N
   · have hi1 : (i : Int) < (N : Int) := by omega
     have hi2 : (0 : Int) ≤ (i : Int) := by omega
     obtain ⟨q, hq⟩ : ∃ q, Hid (rs[i]? = some q) := ⟨_, Lib.hid (List.getElem?_eq_getElem (by rw [hN.out]; exact hlt))⟩
     have hqm := List.mem_of_getElem? hq.out
     obtain ⟨g, off, hga, hg, hcell⟩ := HM.out.resolve_left (fun e => by rw [e] at hqm; simp at hqm)
     subst hga
     obtain ⟨x0, x1⟩ := hcell i q hq.out
     obtain ⟨his, hfs⟩ := HV.out.sub q hqm
     have hql := HLn.out q hqm
     obtain ⟨⟨ts, ls⟩, tv, av⟩ := q
     try dsimp only at x0 x1 his hfs hql
     obtain ⟨ta, tc, rfl, _⟩ := his.form
     obtain ⟨aa, ac, rfl, _⟩ := hfs.form
     obtain ⟨tl, HTl⟩ : ∃ tl, Hid (ts.length = tl) := ⟨_, Lib.hid rfl⟩
     obtain ⟨al, HAl⟩ : ∃ al, Hid (ls.length = al) := ⟨_, Lib.hid rfl⟩
     rw [HTl.out] at x0 his hql
     rw [HAl.out] at x1 hfs hql
     have htl := hql.1
     have hal := hql.2
     have HX : Hid (∀ W, Below w.heap.size w W → W.cell? ⟨g, off + i * 2, none⟩ = some (.slice ta tl tc) ∧ W.cell? ⟨g, off + i * 2 + 1, none⟩ = some (.slice aa al ac) ∧ Is W (.slice ta tl tc) ts ∧ Fs W (.slice aa al ac) ls) := Lib.hid (fun W hW => ⟨cell_later hW hg x0, cell_later hW hg x1, his.later hW, hfs.later hW⟩)
     obtain ⟨ga, gc, hgv⟩ := own_sliceE HZr.out.er.own
     subst hgv
     clear hcell hqm x0 x1 his hfs hql
     go_wp2_with fail
     clear k3
     refine region_facts2 19 20 23 (fun W => Zof w W f c k (.slice (some ⟨g, off, none⟩) N nc) (.slice ga rs'.length gc) rs') (Fof (w.heap.size) (w.heap.size + 2) (w.heap.size + 3) ga rs'.length gc g off N nc i ta tl tc aa al ac ts ls) (by kernel_rfl) (by kernel_rfl) (by omega) (by kernel_rfl) (Nat.le_of_ble_eq_true (by kernel_rfl)) (HZr.out.later (Below.refl _ _).drew) Fof_stab ?_ ?_
     focus
       · intro Q' j o hj ho a W hG hout hd
         have hc := j20_of j hj
         clear hj
         rcases hc with rfl | rfl | rfl | rfl | rfl | rfl | rfl | rfl | rfl | rfl | rfl | rfl | rfl | rfl | rfl | rfl | rfl | rfl | rfl | rfl
         · replace ho := Option.some.inj (Eq.trans (Eq.symm ho) rfl)
           subst ho
           refine oof_fldD rfl ((hout 3 (by omega)).trans rfl) ⟨_, rfl, hG, Below.refl _ _, rfl⟩
         · replace ho := Option.some.inj (Eq.trans (Eq.symm ho) rfl)
           subst ho
           have d0 : Fof (w.heap.size) (w.heap.size + 2) (w.heap.size + 3) ga rs'.length gc g off N nc i ta tl tc aa al ac ts ls 0 (a.eval (.tmp 19)) W := hd ⟨0, .data⟩ (by simp) rfl
           refine oof_ldD rfl d0 (hG.gb.cell 3 (by simp)) ⟨_, rfl, hG, Below.refl _ _, rfl⟩
         · replace ho := Option.some.inj (Eq.trans (Eq.symm ho) rfl)
           subst ho
           refine oof_nilT rfl ⟨_, rfl, hG.later (bAlE _ _), bAlE _ _, ⟨_, rfl⟩, makeE (by have := hG.gb.lt; omega)⟩
         · replace ho := Option.some.inj (Eq.trans (Eq.symm ho) rfl)
           subst ho
           refine oof_fldS rfl ((hout 1 (by omega)).trans rfl) ⟨_, rfl, hG, Below.refl _ _, rfl⟩
         · replace ho := Option.some.inj (Eq.trans (Eq.symm ho) rfl)
           subst ho
           have d3 : Fof (w.heap.size) (w.heap.size + 2) (w.heap.size + 3) ga rs'.length gc g off N nc i ta tl tc aa al ac ts ls 3 (a.eval (.tmp 22)) W := hd ⟨3, .data⟩ (by simp) rfl
           refine oof_ldS rfl d3 (hG.fb.cell 3 (by simp)) ⟨_, rfl, hG, Below.refl _ _, rfl⟩
         · replace ho := Option.some.inj (Eq.trans (Eq.symm ho) rfl)
           subst ho
           refine op_mv rfl ⟨_, rfl, hG, Below.refl _ _, (hout 4 (by omega)).trans rfl⟩
         · replace ho := Option.some.inj (Eq.trans (Eq.symm ho) rfl)
           subst ho
           have d4 : Fof (w.heap.size) (w.heap.size + 2) (w.heap.size + 3) ga rs'.length gc g off N nc i ta tl tc aa al ac ts ls 4 (a.eval (.tmp 23)) W := hd ⟨4, .data⟩ (by simp) rfl
           have d5 : Fof (w.heap.size) (w.heap.size + 2) (w.heap.size + 3) ga rs'.length gc g off N nc i ta tl tc aa al ac ts ls 5 (a.eval (.tmp 24)) W := hd ⟨5, .data⟩ (by simp) rfl
           refine oof_ix rfl d4 d5 hi1 hi2 ⟨_, rfl, hG, Below.refl _ _, rfl⟩
         · replace ho := Option.some.inj (Eq.trans (Eq.symm ho) rfl)
           subst ho
           have d6 : Fof (w.heap.size) (w.heap.size + 2) (w.heap.size + 3) ga rs'.length gc g off N nc i ta tl tc aa al ac ts ls 6 (a.eval (.tmp 25)) W := hd ⟨6, .data⟩ (by simp) rfl
           refine oof_fldT rfl d6 ⟨_, rfl, hG, Below.refl _ _, rfl⟩
         · replace ho := Option.some.inj (Eq.trans (Eq.symm ho) rfl)
           subst ho
           have d7 : Fof (w.heap.size) (w.heap.size + 2) (w.heap.size + 3) ga rs'.length gc g off N nc i ta tl tc aa al ac ts ls 7 (a.eval (.tmp 26)) W := hd ⟨7, .data⟩ (by simp) rfl
           refine oof_ldT rfl d7 (HX.out W hG.bel).1 ⟨_, rfl, hG, Below.refl _ _, rfl⟩
         · replace ho := Option.some.inj (Eq.trans (Eq.symm ho) rfl)
           subst ho
           have d2 : Fof (w.heap.size) (w.heap.size + 2) (w.heap.size + 3) ga rs'.length gc g off N nc i ta tl tc aa al ac ts ls 2 (a.eval (.tmp 21)) W := hd ⟨2, .data⟩ (by simp) rfl
           have d8 : Fof (w.heap.size) (w.heap.size + 2) (w.heap.size + 3) ga rs'.length gc g off N nc i ta tl tc aa al ac ts ls 8 (a.eval (.tmp 27)) W := hd ⟨8, .data⟩ (by simp) rfl
           obtain ⟨⟨b, e2⟩, o2⟩ := d2
           refine op_copy Tryz.underlying39 hj0 hj1 hj2 hj3 (by decide) rfl e2 d8 (src_ints (HX.out W hG.bel).2.2.1) htl ?_ ?_
           · intro h0
             refine ⟨_, rfl, hG, Below.refl _ _, ?_⟩
             rw [e2] at o2
             show W.ownsRow _ 3 1 _ tl (isV ts)
             have hts : ts = [] := List.length_eq_zero_iff.1 (by rw [HTl.out]; exact h0)
             rw [h0, hts]
             exact o2
           · intro _ v' W' hown hb
             exact ⟨_, rfl, hG.later hb, hb, own_base hown (by have := hG.gb.lt; omega)⟩
         · replace ho := Option.some.inj (Eq.trans (Eq.symm ho) rfl)
           subst ho
           refine oof_nilA rfl ⟨_, rfl, hG.later (bAlE _ _), bAlE _ _, ⟨_, rfl⟩, makeE (by have := hG.gb.lt; omega)⟩
         · replace ho := Option.some.inj (Eq.trans (Eq.symm ho) rfl)
           subst ho
           refine oof_fldS rfl ((hout 1 (by omega)).trans rfl) ⟨_, rfl, hG, Below.refl _ _, rfl⟩
         · replace ho := Option.some.inj (Eq.trans (Eq.symm ho) rfl)
           subst ho
           have d11 : Fof (w.heap.size) (w.heap.size + 2) (w.heap.size + 3) ga rs'.length gc g off N nc i ta tl tc aa al ac ts ls 11 (a.eval (.tmp 30)) W := hd ⟨11, .data⟩ (by simp) rfl
           refine oof_ldS rfl d11 (hG.fb.cell 3 (by simp)) ⟨_, rfl, hG, Below.refl _ _, rfl⟩
         · replace ho := Option.some.inj (Eq.trans (Eq.symm ho) rfl)
           subst ho
           refine op_mv rfl ⟨_, rfl, hG, Below.refl _ _, (hout 4 (by omega)).trans rfl⟩
         · replace ho := Option.some.inj (Eq.trans (Eq.symm ho) rfl)
           subst ho
           have d12 : Fof (w.heap.size) (w.heap.size + 2) (w.heap.size + 3) ga rs'.length gc g off N nc i ta tl tc aa al ac ts ls 12 (a.eval (.tmp 31)) W := hd ⟨12, .data⟩ (by simp) rfl
           have d13 : Fof (w.heap.size) (w.heap.size + 2) (w.heap.size + 3) ga rs'.length gc g off N nc i ta tl tc aa al ac ts ls 13 (a.eval (.tmp 32)) W := hd ⟨13, .data⟩ (by simp) rfl
           refine oof_ix rfl d12 d13 hi1 hi2 ⟨_, rfl, hG, Below.refl _ _, rfl⟩
         · replace ho := Option.some.inj (Eq.trans (Eq.symm ho) rfl)
           subst ho
           have d14 : Fof (w.heap.size) (w.heap.size + 2) (w.heap.size + 3) ga rs'.length gc g off N nc i ta tl tc aa al ac ts ls 14 (a.eval (.tmp 33)) W := hd ⟨14, .data⟩ (by simp) rfl
           refine oof_fldA rfl d14 ⟨_, rfl, hG, Below.refl _ _, rfl⟩
         · replace ho := Option.some.inj (Eq.trans (Eq.symm ho) rfl)
           subst ho
           have d15 : Fof (w.heap.size) (w.heap.size + 2) (w.heap.size + 3) ga rs'.length gc g off N nc i ta tl tc aa al ac ts ls 15 (a.eval (.tmp 34)) W := hd ⟨15, .data⟩ (by simp) rfl
           refine oof_ldA rfl d15 (HX.out W hG.bel).2.1 ⟨_, rfl, hG, Below.refl _ _, rfl⟩
         · replace ho := Option.some.inj (Eq.trans (Eq.symm ho) rfl)
           subst ho
           have d10 : Fof (w.heap.size) (w.heap.size + 2) (w.heap.size + 3) ga rs'.length gc g off N nc i ta tl tc aa al ac ts ls 10 (a.eval (.tmp 29)) W := hd ⟨10, .data⟩ (by simp) rfl
           have d16 : Fof (w.heap.size) (w.heap.size + 2) (w.heap.size + 3) ga rs'.length gc g off N nc i ta tl tc aa al ac ts ls 16 (a.eval (.tmp 35)) W := hd ⟨16, .data⟩ (by simp) rfl
           obtain ⟨⟨b, e2⟩, o2⟩ := d10
           refine op_copy Tryz.underlying40 hf0 hf1 hf2 hf3 (by decide) rfl e2 d16 (src_floats (HX.out W hG.bel).2.2.2) hal ?_ ?_
           · intro h0
             refine ⟨_, rfl, hG, Below.refl _ _, ?_⟩
             rw [e2] at o2
             show W.ownsRow _ 43 1 _ al (f64s ls)
             have hts : ls = [] := List.length_eq_zero_iff.1 (by rw [HAl.out]; exact h0)
             rw [h0, hts]
             exact o2
           · intro _ v' W' hown hb
             exact ⟨_, rfl, hG.later hb, hb, own_base hown (by have := hG.gb.lt; omega)⟩
         · replace ho := Option.some.inj (Eq.trans (Eq.symm ho) rfl)
           subst ho
           have d9 : Fof (w.heap.size) (w.heap.size + 2) (w.heap.size + 3) ga rs'.length gc g off N nc i ta tl tc aa al ac ts ls 9 (a.eval (.tmp 28)) W := hd ⟨9, .data⟩ (by simp) rfl
           have d17 : Fof (w.heap.size) (w.heap.size + 2) (w.heap.size + 3) ga rs'.length gc g off N nc i ta tl tc aa al ac ts ls 17 (a.eval (.tmp 36)) W := hd ⟨17, .data⟩ (by simp) rfl
           obtain ⟨t1, t2, e9⟩ := own_sliceE (show W.ownsRow (w.heap.size + 3) 3 1 _ tl (isV ts) from d9)
           obtain ⟨t3, t4, e17⟩ := own_sliceE (show W.ownsRow (w.heap.size + 3) 43 1 _ al (f64s ls) from d17)
           refine oof_row rfl e9 e17 ⟨_, rfl, hG, Below.refl _ _, _, _, rfl, by rw [← e9]; exact d9, by rw [← e17]; exact d17⟩
         · replace ho := Option.some.inj (Eq.trans (Eq.symm ho) rfl)
           subst ho
           have d18 : Fof (w.heap.size) (w.heap.size + 2) (w.heap.size + 3) ga rs'.length gc g off N nc i ta tl tc aa al ac ts ls 18 (a.eval (.tmp 37)) W := hd ⟨18, .data⟩ (by simp) rfl
           obtain ⟨tv, av, e, ht, ha⟩ := d18
           obtain ⟨t1, t2, rfl⟩ := own_sliceE ht
           obtain ⟨t3, t4, rfl⟩ := own_sliceE ha
           refine oof_one rfl e ⟨_, rfl, hG.later (bAlE _ _), bAlE _ _, W.heap.size, _, _, rfl, CB.new W _ _, own_later ht (bAlE _ _), own_later ha (bAlE _ _)⟩
     · intro vs W hG hF
       have e1 : vs 1 = .slice ga rs'.length gc := hF 1 (by omega)
       obtain ⟨b, tv, av, e19, hcb, hot, hoa⟩ : ∃ b tv av, vs 19 = .slice (some ⟨b, 0, none⟩) 1 1 ∧ CB W b #[tv, av] 44 ∧ W.ownsRow (w.heap.size + 3) 3 1 tv tl (isV ts) ∧ W.ownsRow (w.heap.size + 3) 43 1 av al (f64s ls) := hF 19 (by omega)
       have hnews : ∀ j u, [tv, av][j]? = some u → W.cell? ((⟨b, 0, none⟩ : Addr).add j) = some u := World.news_of_block (cs := #[tv, av]) (t := 44) (fr := (0, 0)) hcb
       obtain ⟨t1, t2, rfl⟩ := own_sliceE hot
       obtain ⟨t3, t4, rfl⟩ := own_sliceE hoa
       have HG := Lib.hid hG
       have HCo := Lib.hid (And.intro (Co.own hot) (Co.own hoa))
       have hlen : rs'.length ≤ 100000 := by have := HLi.out; omega
       clear hF hot hoa hG HZr
       generalize hA : actF _ 19 20 (fun _ => true) vs = A
       simp only [actF, fillL, Nat.reduceAdd, Nat.reduceSub, Nat.reduceLeDiff, Nat.reduceLT, if_true, if_false, and_true, and_false, and_self, e1, e19] at hA
       subst hA
       clear e1 e19
       refine wpAny_of_held (S := fun _ => True) _ _ _ _ ?_
       refine call_at (fuel := 2) 20 (by kernel_rfl) (by kernel_rfl) ?_
       intro o ho
       replace ho := Option.some.inj (Eq.trans (Eq.symm ho) rfl)
       subst ho
       intro KF hK
       rw [if_pos (by rfl)]
       refine wp_append_own _ _ _ rfl (w.heap.size + 3) 44 i0 (.agg rw2) 2 48 Tryz.underlying22 hi0 hz0 hz1 hz2 rfl (by omega) (.slice ga rs'.length gc) rs'.length (rcs rs') rfl HG.out.er.own ⟨b, 0, none⟩ 1 1 [.slice t1 tl t2, .slice t3 al t4] rfl rfl hnews (by simp [Value.oneCell']) (by unfold maxLen; omega) (by omega) (by have := HG.out.gb.lt; omega) ?_
       intro v3 W5 hown hgrow
       obtain ⟨va3, vc3, rfl⟩ := own_sliceE hown
       obtain ⟨⟨s1, s2⟩, hz5⟩ := HG.out.append (q := (⟨ts, ls⟩, .slice t1 tl t2, .slice t3 al t4)) HCo.out hown hgrow
       have HZ5 := Lib.hid hz5
       clear hz5 hown hgrow
       refine hK.out _ _ trivial ?_
       intro _
       clear hK KF
       try simp only [Act.put, List.setIfInBounds_toArray]
       refine call_at (fuel := 1) 21 (by kernel_rfl) (by kernel_rfl) ?_
       intro o ho
       replace ho := Option.some.inj (Eq.trans (Eq.symm ho) rfl)
       subst ho
       intro KF hK
       go_simp
       refine hK.out _ _ trivial ?_
       intro _
       clear hK KF
       try simp only [Act.put, List.setIfInBounds_toArray]
       refine call_at (fuel := 0) 22 (by kernel_rfl) (by kernel_rfl) ?_
       intro o ho
       replace ho := Option.some.inj (Eq.trans (Eq.symm ho) rfl)
       subst ho
       intro KF hK
       go_simp
       refine hK.out _ _ trivial ?_
       intro _
       clear hK KF
       try simp only [Act.put, List.setIfInBounds_toArray]
       refine wpAnyH_done (by kernel_rfl) ?_ _
       have HNx : Hid ((rs' ++ [((⟨ts, ls⟩ : Rw), Value.slice t1 tl t2, Value.slice t3 al t4)]).map (·.1) = (rs.map (·.1)).take (i + 1)) := Lib.hid (by
         have hd : (rs.map (·.1))[i]? = some (⟨ts, ls⟩ : Rw) := by rw [List.getElem?_map, hq.out]; rfl
         obtain ⟨g1, g2⟩ := List.getElem?_eq_some_iff.1 hd
         rw [List.take_succ_eq_append_getElem g1, g2, List.map_append, HTk.out]
         rfl)
       go_wp2
       exact ⟨⟨i + 1, _, rs' ++ [(⟨ts, ls⟩, .slice t1 tl t2, .slice t3 al t4)], by go_num, by omega, HZ5.out, HNx.out, by rw [List.length_append, HLi.out]; rfl⟩, by simp [RowKit.intOf]; omega⟩
   · obtain rfl : N = i := by omega
     obtain ⟨ga, gc, hgv⟩ := own_sliceE HZr.out.er.own
     subst hgv
     obtain ⟨m0, m1, m2, m3⟩ := HZr.out.gb.cells4E
     obtain ⟨n0, n1, n2, n3⟩ := HZr.out.rb.cells4E
     have u0 := HZr.out.rb.frozen 0
     have u1 := HZr.out.rb.frozen 1
     have u2 := HZr.out.rb.frozen 2
     have u3 := HZr.out.rb.frozen 3
     go_wp2
     refine bodyPost_ret (res_of _ (w.heap.size + 1) _ _ _ _ _ (set4E HZr.out.rb _ _ _ _) rfl) rfl ?_
     have ho := ((((Ob.set (w.heap.size + 1) 0 wr (.int .i64 f)).trans (Ob.set (w.heap.size + 1) 1 _ (.int .i64 c))).trans (Ob.set (w.heap.size + 1) 2 _ (.int .i64 k))).trans (Ob.set (w.heap.size + 1) 3 _ (.slice ga rs'.length gc)))
     refine ⟨ga, gc, rs', rfl, (HZr.out.er.ob ho (by omega)).base (by omega), ?_, ?_⟩
     · rw [HTk.out, List.take_of_length_le (by simp [hN.out])]
     · exact (((HZr.out.bel.setCell (p := ⟨w.heap.size + 1, 0, none⟩) (by show w.heap.size ≤ w.heap.size + 1; omega) _).setCell (p := ⟨w.heap.size + 1, 1, none⟩) (by show w.heap.size ≤ w.heap.size + 1; omega) _).setCell (p := ⟨w.heap.size + 1, 2, none⟩) (by show w.heap.size ≤ w.heap.size + 1; omega) _).setCell (p := ⟨w.heap.size + 1, 3, none⟩) (by show w.heap.size ≤ w.heap.size + 1; omega) _
end

/- The laws of layer 11: large, Floats. -/
section
set_option maxRecDepth 100000
open Go.RowKit Go.Shelf Go.Lib
attribute [local go_sem] run_store_float
def sumE (rs : List Rt) : Nat := (rs.map fun q => q.1.t.length + q.1.a.length).sum
theorem sumE_take {rs : List Rt} {i : Nat} {q : Rt} (h : rs[i]? = some q) : sumE (rs.take (i + 1)) = sumE (rs.take i) + (q.1.t.length + q.1.a.length) := by
 obtain ⟨h1, h2⟩ := List.getElem?_eq_some_iff.1 h
 unfold sumE
 rw [List.take_succ_eq_append_getElem h1, h2]
 simp
theorem sumE_mem {rs : List Rt} {q : Rt} (h : q ∈ rs) : q.1.t.length + q.1.a.length ≤ sumE rs := by
 unfold sumE
 induction rs with
 | nil => simp at h
 | cons a r ih =>
   simp only [List.map_cons, List.sum_cons]
   rcases List.mem_cons.1 h with rfl | h
   · omega
   · have := ih h; omega
def LgE (rs : List Rt) (e : Ending) : Prop := ∃ b, e = .returned (.bool b) ∧ (b = false → rs.length ≤ 3000 ∧ ∀ q ∈ rs, q.1.t.length ≤ 3000 ∧ q.1.a.length ≤ 3000)
set_option maxHeartbeats 4000000 in
theorem large11_any (f c k : Int) (v : Value) (rs : List Rt) (w : World) (hv : Rv w v rs) (hl : ∀ q ∈ rs, q.1.t.length ≤ 140737488355328 ∧ q.1.a.length ≤ 140737488355328) (hn : rs.length ≤ 140737488355328) :
   Calls Tryz.prog 5 #[.agg #[.int .i64 f, .int .i64 c, .int .i64 k, v]] w fun e w' => LgE rs e ∧ Below w.heap.size w w' := by
 obtain ⟨a, nc, rfl, h1, h2, h3⟩ := hv.form
 obtain ⟨N, hN⟩ : ∃ N, Hid (rs.length = N) := ⟨_, Lib.hid rfl⟩
 rw [hN.out] at h1 hn ⊢
 obtain ⟨W, hW⟩ : ∃ W, w.alloc (.cells #[.int .i64 f, .int .i64 c, .int .i64 k, .slice a N nc] 24) = W := ⟨_, rfl⟩
 have bw : Below w.heap.size w W := by rw [← hW]; exact (Below.refl _ w).alloc (Nat.le_refl _) _
 have cf : CB W w.heap.size #[.int .i64 f, .int .i64 c, .int .i64 k, .slice a N nc] 24 := by rw [← hW]; exact CB.new w _ _
 have k3 := cf.cell 3 (by simp)
 have HB := Lib.hid (And.intro cf bw)
 have HL := Lib.hid hl
 have H3 := Lib.hid h3
 have HS := Lib.hid hv.sub
 have hN' : (N : Int) ≤ 140737488355328 := by omega
 clear hv hl h3 bw cf
 go_enter Tryz.func5, Tryz.ntmps5
 go_wp2_with fail
 try rw [hW]
 clear hW k3
 go_loopw [3, 4] (fun s3 s4 wr => ∃ i : Nat, s4 = .int .i64 (i : Nat) ∧ i ≤ N ∧ N + sumE (rs.take i) ≤ 600000000000000 ∧ s3 = .int .i64 ((N + sumE (rs.take i) : Nat) : Int) ∧ Hid (CB wr w.heap.size #[.int .i64 f, .int .i64 c, .int .i64 k, .slice a N nc] 24 ∧ Below w.heap.size w wr)) (fun s3 s4 _ => N - (RowKit.intOf s4).toNat)
 case atStart => exact ⟨0, rfl, by omega, by simp [sumE]; omega, by simp [sumE], HB.out⟩
 case round =>
   obtain ⟨i, rfl, hi1, hsum, rfl, hI⟩ := hrel
   obtain ⟨sm, hsm⟩ : ∃ sm, Hid (N + sumE (rs.take i) = sm) := ⟨_, Lib.hid rfl⟩
   rw [hsm.out] at hsum ⊢
   have hsum' : (sm : Int) ≤ 600000000000000 := by omega
   have HI := Lib.hid hI.out
   have j3 := hI.out.1.cell 3 (by simp)
   clear hI
   by_cases hlt : i < N
   · have hlt' : (i : Int) < (N : Int) := by omega
     have hi0 : (0 : Int) ≤ (i : Int) := by omega
     by_cases hs : (sm : Int) < 3000
     · obtain ⟨q, hq⟩ : ∃ q, rs[i]? = some q := ⟨_, List.getElem?_eq_getElem (by rw [hN.out]; omega)⟩
       have hqm := List.mem_of_getElem? hq
       obtain ⟨g, off, rfl, hg, hcell⟩ := H3.out.resolve_left (fun e => by rw [e] at hqm; simp at hqm)
       obtain ⟨ta, tc, htv, _⟩ := (HS.out q hqm).1.form
       obtain ⟨aa, ac, hav, _⟩ := (HS.out q hqm).2.form
       obtain ⟨x0, x1⟩ := hcell i q hq
       rw [htv] at x0
       rw [hav] at x1
       have hql := HL.out q hqm
       have HTk := Lib.hid (sumE_take hq)
       obtain ⟨tl, htl⟩ : ∃ ln, Hid (q.1.t.length = ln) := ⟨_, Lib.hid rfl⟩
       obtain ⟨al, hal⟩ : ∃ ln, Hid (q.1.a.length = ln) := ⟨_, Lib.hid rfl⟩
       rw [htl.out] at x0 hql
       rw [hal.out] at x1 hql
       have hq1 : (tl : Int) ≤ 140737488355328 := by omega
       have hq2 : (al : Int) ≤ 140737488355328 := by omega
       obtain ⟨W4, hW4⟩ : ∃ W4, wr.drew = W4 := ⟨_, rfl⟩
       have b4 : Below w.heap.size w W4 := by rw [← hW4]; exact HI.out.2.drew
       have c4 : CB W4 w.heap.size #[.int .i64 f, .int .i64 c, .int .i64 k, .slice (some ⟨g, off, none⟩) N nc] 24 := by rw [← hW4]; exact HI.out.1
       have y3 := c4.cell 3 (by simp)
       have x0 := cell_later b4 hg x0
       have x1 := cell_later b4 hg x1
       have H4 := Lib.hid (And.intro c4 b4)
       clear hcell hqm htv hav hq b4 c4
       go_wp2_with fail
       go_region
       all_goals
         go_wp2
         have e : (sm : Int) + (tl : Int) + (al : Int) = ((N + sumE (rs.take (i + 1)) : Nat) : Int) := by rw [HTk.out, htl.out, hal.out]; have := hsm.out; omega
         refine ⟨⟨i + 1, by go_num, by omega, by omega, ?_, H4.out⟩, by simp [RowKit.intOf]; omega⟩
         rw [← e]
     · have hs' : (3000 : Int) ≤ (sm : Int) := by omega
       go_wp2
       go_ret
       exact ⟨⟨true, rfl, fun h => by cases h⟩, HI.out.2⟩
   · obtain rfl : N = i := by omega
     have HAll : Hid ((sm : Int) < 3000 → N ≤ 3000 ∧ ∀ q ∈ rs, q.1.t.length ≤ 3000 ∧ q.1.a.length ≤ 3000) := Lib.hid (fun h1 => by
       have h4 := hsm.out
       rw [List.take_of_length_le (by rw [hN.out]; exact Nat.le_refl _)] at h4
       refine ⟨by omega, fun q hq => ?_⟩
       have h3 := sumE_mem hq
       omega)
     by_cases hs : (3000 : Int) ≤ (sm : Int)
     · go_wp2
       go_ret
       exact ⟨⟨true, rfl, fun h => by cases h⟩, HI.out.2⟩
     · have hs' : ¬ (3000 : Int) ≤ (sm : Int) := hs
       go_wp2
       go_ret
       have hh := HAll.out (by omega)
       exact ⟨⟨false, rfl, fun _ => by rw [hN.out]; exact hh⟩, HI.out.2⟩
set_option maxHeartbeats 4000000 in
theorem floats11_any (v u : Value) (xs ys : List Nat) (w : World) (ha : Fs w v xs) (hb : Fs w u ys) (hs : FEs xs ys) (hl : xs.length ≤ 1000000) :
   Calls Tryz.prog 18 #[v, u] w fun e w' => e = .returned (.bool true) ∧ Below w.heap.size w w' := by
 obtain ⟨hlen, hat⟩ := hs
 obtain ⟨⟨aa, ac, rfl, ha1, ha2, ha3⟩, _⟩ := ha
 obtain ⟨⟨ba, bc, rfl, hb1, hb2, hb3⟩, _⟩ := hb
 rw [← hlen] at hb1 hb3 ⊢
 obtain ⟨N, hN⟩ : ∃ N, Hid (xs.length = N) := ⟨_, Lib.hid rfl⟩
 rw [hN.out] at hl ⊢
 have hl' : (N : Int) ≤ 1000000 := by omega
 have Hlen := Lib.hid hlen
 have HAt := Lib.hid hat
 have HA3 := Lib.hid ha3
 have HB3 := Lib.hid hb3
 clear hat ha3 hb3 hlen ha1 hb1 ha2 hb2
 go_enter Tryz.func18, Tryz.ntmps18
 go_wp2_with fail
 go_loopw [5] (fun s5 wr => ∃ i : Nat, s5 = .int .i64 (i : Nat) ∧ i ≤ N ∧ Hid (Below w.heap.size w wr)) (fun s5 _ => N - (RowKit.intOf s5).toNat)
 case atStart => exact ⟨0, rfl, by omega, Lib.hid (Below.refl _ w)⟩
 case round =>
   obtain ⟨i, rfl, hi1, hBr⟩ := hrel
   by_cases hlt : i < N
   · have hlt' : (i : Int) < (N : Int) := by omega
     have hi0 : (0 : Int) ≤ (i : Int) := by omega
     have hqi : i < xs.length := by rw [hN.out]; exact hlt
     have hri : i < ys.length := by rw [← Hlen.out]; exact hqi
     obtain ⟨g, off, rfl, hca⟩ := HA3.out.resolve_left (fun e => by rw [e] at hqi; simp at hqi)
     obtain ⟨g2, off2, rfl, hcb⟩ := HB3.out.resolve_left (fun e => by rw [e] at hri; simp at hri)
     obtain ⟨W4, hW4⟩ : ∃ W4, wr.drew = W4 := ⟨_, rfl⟩
     have b4 : Below w.heap.size w W4 := by rw [← hW4]; exact hBr.out.drew
     have x0 := box_cell b4 (hca i hqi)
     have x1 := box_cell b4 (hcb i hqi)
     have hfe := HAt.out i hqi
     unfold FE at hfe
     generalize xs.getD i 0 = u at *
     generalize ys.getD i 0 = u2 at *
     have H4 := Lib.hid b4
     clear hca hcb HA3 HB3 HAt hqi hri b4
     go_wp2_with fail
     go_region
     all_goals
       go_wp2
       exact ⟨⟨i + 1, by go_num, by omega, H4⟩, by simp [RowKit.intOf]; omega⟩
   · obtain rfl : N = i := by omega
     go_wp2
     go_ret
     exact ⟨rfl, hBr.out⟩
end
end Go.Proofs.YtgoadpnoagaflaaGreatDoor
