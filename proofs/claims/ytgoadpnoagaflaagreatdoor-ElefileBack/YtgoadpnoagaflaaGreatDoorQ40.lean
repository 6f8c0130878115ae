/- Own texts, put together: Efi. -/
import Derived.Test.YtgoadpnoagaflaaGreatDoorQ28
import Derived.Test.YtgoadpnoagaflaaGreatDoorQ38
/- Package elefile: filled. -/
namespace Go.Proofs.YtgoadpnoagaflaaGreatDoor
set_option maxRecDepth 100000
open Go.RowKit Go.Shelf Go.Lib
attribute [local go_sem] run_store_str
theorem makeR_ex (n : Nat) (hn : n ≤ 2000000) : ∃ cs : Array Value, cs.size = n * 2 ∧ ∀ W : World, (Instr.makeSlice 30 (.int .i64 0) (.int .i64 (n : Int))).run Tryz.prog W = .ok (.slice (some ⟨W.heap.size, 0, none⟩) 0 n) (W.alloc (.cells cs 42)) := by
 obtain ⟨i0, hi0, hz0, hz1, hz2⟩ := info_parts (show (Tryz.prog.info? 42).map (fun i => (i.zero, i.size, i.bytes)) = some (some (.agg rw2), 2, 48) by kernel_rfl)
 refine ⟨madeCells (.agg rw2 : Value).cells (n * 2), size_madeCells _ _, fun W => ?_⟩
 have h := run_make (P := Tryz.prog) W 30 42 i0 _ Tryz.underlying30 hi0 hz0 .i64 .i64 0 (n : Int) (by omega) (by omega) (by rw [hz2]; omega) (by omega)
 rw [hz1] at h
 exact h
theorem own_room2 {W : World} {cs : Array Value} {n t : Nat} (h : cs.size = n * 2) (hn : n ≤ 2000000) : (W.alloc (.cells cs t)).ownsRow W.heap.size t 2 (.slice (some ⟨W.heap.size, 0, none⟩) 0 n) 0 [] :=
 ⟨by simp, Or.inr ⟨W.heap.size, n, cs, rfl, Nat.le_refl _, heap_alloc_new W _, by omega, by unfold maxLen; omega, by omega, by simp⟩⟩
structure Lf (W : World) (v : Value) (ps : List Lt) : Prop where
 form : ∃ a c, v = .slice a ps.length c ∧ ps.length ≤ c ∧ c ≤ 9223372036854775807 ∧ (ps = [] ∨ ∃ g off, a = some ⟨g, off, none⟩ ∧ g < W.heap.size ∧ ∀ k p, ps[k]? = some p → W.cell? ⟨g, off + k * 2, none⟩ = some (.int .i64 (p.1 : Nat)) ∧ W.cell? ⟨g, off + k * 2 + 1, none⟩ = some p.2.2)
 sub : ∀ p ∈ ps, Sl W p.2.2 p.2.1 ∧ Bk W.heap.size p.2.2
theorem res_filE (W : World) (B : Nat) (a b c d : Value) (n1 n2 : Int) (tmps : Array Value) (h : CB W B #[a, b, c, d] 32)
   (t6 : tmps[6]? = some (.pointer (some ⟨B, 0, none⟩))) (t7 : tmps[7]? = some (.int .i64 n1)) (t8 : tmps[8]? = some (.int .i64 n2)) : (results Tryz.f17 tmps).run Tryz.prog W = .ok (.tuple #[.agg #[a, b, c, d], .int .i64 n1, .int .i64 n2]) W := by
 have c0 := h.cell 0 (by simp)
 have c1 := h.cell 1 (by simp)
 have c2 := h.cell 2 (by simp)
 have c3 := h.cell 3 (by simp)
 simp [results, Tryz.f17, go_sem, c0, c1, c2, c3, t6, t7, t8]
set_option maxHeartbeats 32000000 in
theorem filledE_any {p : Pm} (hp : p.Ok) (v : Value) (ps : List Lt) (n c k : Nat) (w : World) (hL : Lf w v ps) (hl : ∀ q ∈ ps, ∀ x ∈ q.2.1, x.length ≤ 900000) (hne : ∀ q ∈ ps, q.2.1 ≠ []) (hps : ps.length ≤ 20000000) (hno : ∀ q ∈ ps, q.1 ≤ 20000000) (hn : n ≤ 1048576) (hc0 : 3 ≤ c) (hc : c ≤ 6) (hk : k ≤ 16) (hT : Tab w) :
   Calls Tryz.prog 17 #[.agg #[.int .i64 0, .int .i64 (c : Nat), .int .i64 (k : Nat), .slice none 0 0], .int .i64 (n : Nat), v] w fun e w' => FiR p w w' n c k (tell ps) e := by
 have HP := Lib.hid hp
 have HL := Lib.hid hl
 have HNe := Lib.hid hne
 have HNo := Lib.hid hno
 have HTb := Lib.hid hT
 obtain ⟨⟨va, vc, rfl, hv1, hv2, hm⟩, hsub⟩ := hL
 have HM := Lib.hid hm
 have HSub := Lib.hid hsub
 obtain ⟨N, hN⟩ : ∃ N, Hid (ps.length = N) := ⟨_, Lib.hid rfl⟩
 rw [hN.out] at hv1 hps ⊢
 obtain ⟨mn, hmn⟩ : ∃ mn : Nat, min ((n : Nat) : Int) ((N : Nat) : Int) = ((mn : Nat) : Int) := ⟨min n N, by omega⟩
 obtain ⟨cs, hcs, hmk0⟩ := makeR_ex mn (by omega)
 have hmk : ∀ W : World, (Instr.makeSlice 30 (.int .i64 0) (.int .i64 (min ((n : Nat) : Int) ((N : Nat) : Int)))).run Tryz.prog W = .ok (.slice (some ⟨W.heap.size, 0, none⟩) 0 mn) (W.alloc (.cells cs 42)) := fun W => by rw [hmn]; exact hmk0 W
 obtain ⟨W0, hW0⟩ : ∃ W0, (w.alloc (.cells #[.int .i64 0, .int .i64 (c : Nat), .int .i64 (k : Nat), .slice none 0 0] 32)).alloc (.cells fe4 32) = W0 := ⟨_, rfl⟩
 have b0 : Below w.heap.size w W0 := by rw [← hW0]; exact ((Below.refl _ w).alloc (Nat.le_refl _) _).alloc (by simp) _
 have z0 : W0.heap.size = w.heap.size + 2 := by rw [← hW0]; simp
 have q3 : CB W0 w.heap.size #[.int .i64 0, .int .i64 (c : Nat), .int .i64 (k : Nat), .slice none 0 0] 32 := by rw [← hW0]; exact (CB.new w _ _).later ((Below.refl _ _).alloc (Nat.le_refl _) _)
 have q4 : CB W0 (w.heap.size + 1) fe4 32 := by
   rw [← hW0]
   have := CB.new (w.alloc (.cells #[.int .i64 0, .int .i64 (c : Nat), .int .i64 (k : Nat), .slice none 0 0] 32)) fe4 32
   rwa [World.size_alloc] at this
 obtain ⟨W1, hW1⟩ : ∃ W1, W0.alloc (.cells cs 42) = W1 := ⟨_, rfl⟩
 have b1 : Below W0.heap.size W0 W1 := by rw [← hW1]; exact (Below.refl _ _).alloc (Nat.le_refl _) _
 have q3' := q3.later b1
 have r3 := q3'.cell 3 (by simp)
 have f3 := q3'.frozen 3
 obtain ⟨W2, hW2⟩ : ∃ W2, W1.setCell ⟨w.heap.size, 3, none⟩ (.slice (some ⟨w.heap.size + 2, 0, none⟩) 0 mn) = W2 := ⟨_, rfl⟩
 have HF0 : Hid (Fi w W2 0 c k (.slice (some ⟨w.heap.size + 2, 0, none⟩) 0 mn) []) := Lib.hid (by
   have ho := Ob.set w.heap.size 3 W1 (.slice (some ⟨w.heap.size + 2, 0, none⟩) 0 mn)
   have hrow : W1.ownsRow (w.heap.size + 2) 42 2 (.slice (some ⟨w.heap.size + 2, 0, none⟩) 0 mn) 0 [] := by
     have := own_room2 (W := W0) (t := 42) hcs (by omega)
     rw [hW1, z0] at this
     exact this
   rw [← hW2]
   refine ⟨(b0.trans (b1.mono (by omega))).setCell (Nat.le_refl _) _, by have := q3'.set 3 (.slice (some ⟨w.heap.size + 2, 0, none⟩) 0 mn); simpa using this, (q4.later b1).other (by omega) _, (Er.nil hrow).ob ho (by omega)⟩)
 have hz : W0.heap.size = w.heap.size + 2 := z0
 have hn' : (n : Int) ≤ 1048576 := by omega
 have hN' : (N : Int) ≤ 20000000 := by omega
 clear hl hne hno hT hm hsub hp b0 q3 q4 b1 q3' hmn hmk0 hcs z0
 obtain ⟨L, hLL⟩ : ∃ L, Hid (tell ps = L) := ⟨_, Lib.hid rfl⟩
 rw [hLL.out]
 go_enter Tryz.func17, Tryz.ntmps17
 go_wp2_with fail
 try rw [hW2]
 clear hW0 hW1 hW2 hmk r3 f3 hz
 obtain ⟨i0, hi0, hz0, hz1, hz2⟩ := info_parts (show (Tryz.prog.info? 42).map (fun i => (i.zero, i.size, i.bytes)) = some (some (.agg rw2), 2, 48) by kernel_rfl)
 have HLl : Hid (L.length = N) := Lib.hid (by rw [← hLL.out, ← hN.out]; simp [tell])
 have HF1 : Hid (fst1 L ≤ 1) := Lib.hid (by unfold fst1; split <;> (try split) <;> omega)
 go_loopw [21] (fun s21 wr => ∃ (j : Nat) (f : Nat) (lv : Value) (rs : List Rt), s21 = .int .i64 (j : Nat) ∧ j ≤ N ∧ j ≤ n ∧ f ≤ 1 ∧ Hid (Fi w wr f c k lv rs ∧ rs.length = j ∧ f = (if j = 0 then 0 else fst1 L) ∧ goE p (fst1 L) c k 0 (L.take j) = .inr (rs.map (·.1)))) (fun s21 _ => N - (RowKit.intOf s21).toNat)
 case atStart => exact ⟨0, 0, _, [], rfl, by omega, by omega, by omega, HF0.out, rfl, rfl, rfl⟩
 case round =>
   obtain ⟨j, f, lv, rs, rfl, hj1, hj2, hf1, hI⟩ := hrel
   obtain ⟨la, lc, hlv⟩ := own_sliceE hI.out.1.er.own
   have HLn := Lib.hid hI.out.2.1
   rw [HLn.out] at hlv
   subst hlv
   have HGo := Lib.hid hI.out.2.2.2
   have HFf0 := Lib.hid hI.out.2.2.1
   have HFi := Lib.hid hI.out.1
   clear hI
   by_cases hlt : j < N
   · have hlt' : (j : Int) < (N : Int) := by omega
     have hj0 : (0 : Int) ≤ (j : Int) := by omega
     obtain ⟨q, hq⟩ : ∃ q, Hid (ps[j]? = some q) := ⟨_, Lib.hid (List.getElem?_eq_getElem (by rw [hN.out]; exact hlt))⟩
     have hqm : Hid (q ∈ ps) := Lib.hid (List.mem_of_getElem? hq.out)
     obtain ⟨g, off, hga, hg, hcell⟩ := HM.out.resolve_left (fun e => by have := hq.out; rw [e] at this; simp at this)
     subst hga
     obtain ⟨c0, c1⟩ := hcell j q hq.out
     have x0 := cell_later HFi.out.bel hg c0
     have x1 := cell_later HFi.out.bel hg c1
     have hqn : q.1 ≤ 20000000 := HNo.out q hqm.out
     obtain ⟨nq, ws, wv⟩ := q
     have hQ : Hid (L[j]? = some (nq, ws)) := Lib.hid (by rw [← hLL.out]; unfold tell; rw [List.getElem?_map, hq.out]; rfl)
     try dsimp only at x0 x1 hqn
     obtain ⟨wa, wc, hwv⟩ : ∃ wa wc, wv = .slice wa ws.length wc := by
       obtain ⟨a, c', e, _⟩ := (HSub.out _ hqm.out).1.form
       exact ⟨a, c', e⟩
     obtain ⟨W3, hW3⟩ : ∃ W, wr.alloc (.cells #[.int .i64 (nq : Nat), wv] 56) = W := ⟨_, rfl⟩
     obtain ⟨Bl, hBl⟩ : ∃ b, wr.heap.size = b := ⟨_, rfl⟩
     have b3 : Below wr.heap.size wr W3 := by rw [← hW3]; exact (Below.refl _ _).alloc (Nat.le_refl _) _
     have HF3 := Lib.hid (HFi.out.later b3)
     have HLb : Hid (CB W3 Bl #[.int .i64 (nq : Nat), wv] 56) := Lib.hid (by rw [← hBl, ← hW3]; exact CB.new _ _ _)
     have HBl : Hid (Bl ≠ w.heap.size + 1) := Lib.hid (by rw [← hBl]; have := HFi.out.rb.lt; omega)
     obtain ⟨l0, l1⟩ := HLb.out.cells2E
     have HWv := Lib.hid hwv
     clear c0 c1 hcell b3
     by_cases hjn : j = n
     · have hjn' : ((j : Int) == (n : Int)) = true := by rw [beq_iff_eq]; omega
       have HTV := Lib.hid (fl_more (n := n) (by rw [← hjn]; exact hQ.out) (by rw [← hjn]; exact HGo.out))
       obtain ⟨W4, hW4⟩ : ∃ W, W3.drew = W := ⟨_, rfl⟩
       have HR : Hid (CB W4 (w.heap.size + 1) fe4 32 ∧ Below w.heap.size w W4) := Lib.hid (by rw [← hW4]; exact ⟨HF3.out.rb, HF3.out.bel.drew⟩)
       have l2 : W4.cell? ⟨Bl, 0, none⟩ = some (.int .i64 (nq : Nat)) := by rw [← hW4]; exact l0
       obtain ⟨k20, k21, k22, k23⟩ := HR.out.1.cells4E
       have f20 := HR.out.1.frozen 0
       have f21 := HR.out.1.frozen 1
       have f22 := HR.out.1.frozen 2
       have f23 := HR.out.1.frozen 3
       have hBn : Bl ≠ w.heap.size + 1 := HBl.out
       have hBn2 : w.heap.size + 1 ≠ Bl := fun e => hBn e.symm
       subst hwv
       clear hjn
       go_wp2_with fail
       go_region
       all_goals
         go_wp2
         refine bodyPost_ret (res_filE _ (w.heap.size + 1) _ _ _ _ _ _ _ (set4E HR.out.1 _ _ _ _) rfl rfl rfl) rfl ?_
         exact FiR.bad ((((HR.out.2.setCell (p := ⟨w.heap.size + 1, 0, none⟩) (by show w.heap.size ≤ w.heap.size + 1; omega) _).setCell (p := ⟨w.heap.size + 1, 1, none⟩) (by show w.heap.size ≤ w.heap.size + 1; omega) _).setCell (p := ⟨w.heap.size + 1, 2, none⟩) (by show w.heap.size ≤ w.heap.size + 1; omega) _).setCell (p := ⟨w.heap.size + 1, 3, none⟩) (by show w.heap.size ≤ w.heap.size + 1; omega) _) HTV.out
     · have hjn' : ((j : Int) == (n : Int)) = false := by rw [beq_eq_false_iff_ne]; omega
       have hjlt : j < n := by omega
       by_cases hjz : j = 0
       · have hjz' : ((j : Int) == 0) = true := by rw [beq_iff_eq]; omega
         obtain ⟨y, r, hws⟩ : ∃ y r, ws = y :: r := by
           rcases hw : ws with _ | ⟨y, r⟩
           · exact absurd hw (HNe.out _ hqm.out)
           · exact ⟨y, r, rfl⟩
         obtain ⟨wg, woff, hwa, hwg, hwc⟩ := ((HSub.out _ hqm.out).1.form).elim fun a h => h.elim fun c' h => by
           obtain ⟨e, _, _, h4⟩ := h
           rw [hwv] at e
           cases e
           rcases h4 with h4 | ⟨g', o', e1, e2, e3⟩
           · rw [hws] at h4; cases h4
           · exact (⟨g', o', e1, e2, e3 0 y (by rw [hws]; rfl)⟩ : ∃ g' o', wa = some ⟨g', o', none⟩ ∧ g' < w.heap.size ∧ w.cell? ⟨g', o' + 0, none⟩ = some (sv y))
         have xw := cell_later HF3.out.bel hwg hwc
         rw [Nat.add_zero] at xw
         have hwl : (0 : Int) < (ws.length : Int) := by rw [hws]; simp only [List.length_cons]; omega
         have HF1' : Hid (fst1 L = if y = [49] then 1 else 0) := Lib.hid (by
           have h := hQ.out
           rw [hjz] at h
           rcases L with _ | ⟨⟨n', ws'⟩, L'⟩
           · simp at h
           · simp at h
             obtain ⟨rfl, rfl⟩ := h
             unfold fst1
             rw [hws]
             rfl)
         subst hwa
         have HWs := Lib.hid hws
         have HJz := Lib.hid hjz
         clear hws hwc hjz
         subst hwv
         by_cases hy : y = [49]
         · have hyb : (y == [49]) = true := by simpa using hy
           obtain ⟨W4, hW4⟩ : ∃ W, W3.setCell ⟨w.heap.size, 0, none⟩ (.int .i64 1) = W := ⟨_, rfl⟩
           have HW : Hid (Fi w W4 1 c k (.slice la j lc) rs) := Lib.hid (by rw [← hW4]; exact HF3.out.first)
           have r0 := HF3.out.fb.cell 0 (by simp)
           have fr0 := HF3.out.fb.frozen 0
           have HLb4 : Hid (CB W4 Bl #[.int .i64 (nq : Nat), .slice (some ⟨wg, woff, none⟩) ws.length wc] 56) := Lib.hid (by rw [← hW4]; exact HLb.out.other (by rw [← hBl]; have := HFi.out.fb.lt; omega) _)
           have HLb := HLb4
           obtain ⟨l2, l3⟩ := HLb4.out.cells2E
           have HFf : Hid (1 = fst1 L) := Lib.hid (by rw [HF1'.out, if_pos hy])
           subst hy
           have HRo := Lib.hid (rowOfE_any HP.out _ ws 1 c k j la lc W4 ((HSub.out _ hqm.out).1.later HW.out.bel) (fun b hb => Nat.lt_of_lt_of_le ((HSub.out _ hqm.out).2 b hb) HW.out.bel.size) (HL.out _ hqm.out) (by omega) hc0 hc hk (by omega) (HTb.out.later HW.out.bel))
           obtain ⟨y0, y1, y2, y3⟩ := HW.out.fb.cells4E
           go_wp2_with fail
           try rw [hW3]
           try rw [hBl]
           try rw [hW4]
           refine HRo.out.mono ?_
           rintro e W5 ⟨hb5, tv, av, rfl, hgo, hno5⟩
           obtain ⟨E, hE⟩ : ∃ E, Hid (rwE p 1 c k j ws = E) := ⟨_, Lib.hid rfl⟩
           rw [hE.out] at hgo hno5 ⊢
           have HF5 := Lib.hid (HW.out.later hb5)
           have HK5 := Lib.hid (HLb.out.later hb5)
           have HBs : Hid (w.heap.size + 2 ≤ W4.heap.size) := Lib.hid (by have := HW.out.rb.lt; omega)
           clear HRo hb5 y0 y1 y2 y3
           by_cases hE0 : E = 0
           · subst hE0
             obtain ⟨hg1, hg2⟩ := hgo rfl
             obtain ⟨ta, tc, htv⟩ : ∃ a c', tv = .slice a (isV (rwV p 1 c ws).t).length c' := by obtain ⟨a, c', e, _⟩ := hg1; exact ⟨a, c', e⟩
             obtain ⟨ua, uc, hav⟩ : ∃ a c', av = .slice a (f64s (rwV p 1 c ws).a).length c' := by obtain ⟨a, c', e, _⟩ := hg2; exact ⟨a, c', e⟩
             obtain ⟨L1, hL1⟩ : ∃ L1, (isV (rwV p 1 c ws).t).length = L1 := ⟨_, rfl⟩
             obtain ⟨L2, hL2⟩ : ∃ L2, (f64s (rwV p 1 c ws).a).length = L2 := ⟨_, rfl⟩
             rw [hL1] at htv
             rw [hL2] at hav
             subst htv hav
             obtain ⟨W6, hW6⟩ : ∃ W, W5.alloc (.cells #[.slice ta L1 tc, .slice ua L2 uc] 42) = W := ⟨_, rfl⟩
             obtain ⟨Br, hBr⟩ : ∃ b, W5.heap.size = b := ⟨_, rfl⟩
             have b6 : Below W5.heap.size W5 W6 := by rw [← hW6]; exact (Below.refl _ _).alloc (Nat.le_refl _) _
             have H6 : Hid (Fi w W6 1 c k (.slice la j lc) rs ∧ CB W6 Br #[.slice ta L1 tc, .slice ua L2 uc] 42 ∧ Co W6 (w.heap.size + 2) 3 (.slice ta L1 tc) (isV (rwV p 1 c ws).t) ∧ Co W6 (w.heap.size + 2) 43 (.slice ua L2 uc) (f64s (rwV p 1 c ws).a)) := Lib.hid ⟨HF5.out.later b6, by rw [← hBr, ← hW6]; exact CB.new _ _ _, (hg1.later b6).base HBs.out, (hg2.later b6).base HBs.out⟩
             obtain ⟨m0, m1⟩ := H6.out.2.1.cells2E
             have n3 := H6.out.1.fb.cell 3 (by simp)
             clear hgo hno5 hg1 hg2 b6 hL1 hL2
             go_wp2_with (at_builtin; refine wpList_append_own _ rfl _ _ 30 rfl (w.heap.size + 2) 42 i0 (.agg rw2) 2 48 Tryz.underlying30 hi0 hz0 hz1 hz2 rfl (by decide) (.slice la j lc) rs.length (rcs rs) rfl (World.ownsRow.alloc H6.out.1.er.own _) ⟨W6.heap.size, 0, none⟩ 1 1 [.slice ta L1 tc, .slice ua L2 uc] rfl rfl (World.news_of_block (cs := #[.slice ta L1 tc, .slice ua L2 uc]) (t := 42) (fr := (0, 0)) (heap_alloc_new W6 _)) (by simp [Value.oneCell']) (by unfold maxLen; have := HLn.out; omega) (by have := HLn.out; omega) (by have := H6.out.1.rb.lt; simp; omega) ?_; intro v' W9 hown hgrow _; obtain ⟨na, nc, rfl⟩ := own_sliceE hown; obtain ⟨⟨s1, s2⟩, h9⟩ := H6.out.1.append (q := (rwV p 1 c ws, .slice ta L1 tc, .slice ua L2 uc)) H6.out.2.2 hown hgrow; have H9 := Lib.hid h9; clear hown hgrow h9)
             refine ⟨⟨j + 1, 1, _, rs ++ [(rwV p 1 c ws, .slice ta L1 tc, .slice ua L2 uc)], by go_num, by omega, by omega, by omega, H9.out, by rw [List.length_append, HLn.out]; rfl, by rw [if_neg (by omega)]; exact HFf.out, ?_⟩, by simp [RowKit.intOf]; omega⟩
             have h1 := fl_step hQ.out HGo.out (by rw [← HFf.out]; exact hE.out)
             rw [h1, ← HFf.out]
             simp
           · obtain ⟨rfl, rfl⟩ := hno5 hE0
             have hE1 : (E == 0) = false := by simpa using hE0
             have hE2 : (E != 0) = true := by simpa using hE0
             have HTV := Lib.hid (fl_bad hQ.out (show j < n by omega) HGo.out (by rw [← HFf.out]; exact hE.out) hE0)
             obtain ⟨W6, hW6⟩ : ∃ W, (W5.alloc (.cells rw2 42)).drew = W := ⟨_, rfl⟩
             have b6 : Below W5.heap.size W5 W6 := by rw [← hW6]; exact ((Below.refl _ _).alloc (Nat.le_refl _) _).drew
             have HR : Hid (CB W6 (w.heap.size + 1) fe4 32 ∧ Below w.heap.size w W6) := Lib.hid ⟨HF5.out.rb.later b6, (HF5.out.later b6).bel⟩
             obtain ⟨z0, z1⟩ := (HK5.out.later b6).cells2E
             obtain ⟨k20, k21, k22, k23⟩ := HR.out.1.cells4E
             have f20 := HR.out.1.frozen 0
             have f21 := HR.out.1.frozen 1
             have f22 := HR.out.1.frozen 2
             have f23 := HR.out.1.frozen 3
             have hBn : Bl ≠ w.heap.size + 1 := HBl.out
             have hBn2 : w.heap.size + 1 ≠ Bl := fun e => hBn e.symm
             clear hgo hno5 b6 hE0
             go_wp2_with fail
             go_region
             all_goals
               go_wp2
               refine bodyPost_ret (res_filE _ (w.heap.size + 1) _ _ _ _ _ _ _ (set4E HR.out.1 _ _ _ _) rfl rfl rfl) rfl ?_
               exact FiR.bad ((((HR.out.2.setCell (p := ⟨w.heap.size + 1, 0, none⟩) (by show w.heap.size ≤ w.heap.size + 1; omega) _).setCell (p := ⟨w.heap.size + 1, 1, none⟩) (by show w.heap.size ≤ w.heap.size + 1; omega) _).setCell (p := ⟨w.heap.size + 1, 2, none⟩) (by show w.heap.size ≤ w.heap.size + 1; omega) _).setCell (p := ⟨w.heap.size + 1, 3, none⟩) (by show w.heap.size ≤ w.heap.size + 1; omega) _) HTV.out
         · have hyb : (y == [49]) = false := by simpa using hy
           have HFf : Hid (f = fst1 L) := Lib.hid (by rw [HF1'.out, if_neg hy, HFf0.out, if_pos HJz.out])
           have HW := HF3
           obtain ⟨W4, hW4⟩ : ∃ W, W3 = W := ⟨_, rfl⟩
           clear hW4
           have HRo := Lib.hid (rowOfE_any HP.out _ ws f c k j la lc W3 ((HSub.out _ hqm.out).1.later HW.out.bel) (fun b hb => Nat.lt_of_lt_of_le ((HSub.out _ hqm.out).2 b hb) HW.out.bel.size) (HL.out _ hqm.out) (by omega) hc0 hc hk (by omega) (HTb.out.later HW.out.bel))
           obtain ⟨y0, y1, y2, y3⟩ := HW.out.fb.cells4E
           go_wp2_with fail
           try rw [hW3]
           try rw [hBl]
           try rw [hW4]
           refine HRo.out.mono ?_
           rintro e W5 ⟨hb5, tv, av, rfl, hgo, hno5⟩
           obtain ⟨E, hE⟩ : ∃ E, Hid (rwE p f c k j ws = E) := ⟨_, Lib.hid rfl⟩
           rw [hE.out] at hgo hno5 ⊢
           have HF5 := Lib.hid (HW.out.later hb5)
           have HK5 := Lib.hid (HLb.out.later hb5)
           have HBs : Hid (w.heap.size + 2 ≤ W3.heap.size) := Lib.hid (by have := HW.out.rb.lt; omega)
           clear HRo hb5 y0 y1 y2 y3
           by_cases hE0 : E = 0
           · subst hE0
             obtain ⟨hg1, hg2⟩ := hgo rfl
             obtain ⟨ta, tc, htv⟩ : ∃ a c', tv = .slice a (isV (rwV p f c ws).t).length c' := by obtain ⟨a, c', e, _⟩ := hg1; exact ⟨a, c', e⟩
             obtain ⟨ua, uc, hav⟩ : ∃ a c', av = .slice a (f64s (rwV p f c ws).a).length c' := by obtain ⟨a, c', e, _⟩ := hg2; exact ⟨a, c', e⟩
             obtain ⟨L1, hL1⟩ : ∃ L1, (isV (rwV p f c ws).t).length = L1 := ⟨_, rfl⟩
             obtain ⟨L2, hL2⟩ : ∃ L2, (f64s (rwV p f c ws).a).length = L2 := ⟨_, rfl⟩
             rw [hL1] at htv
             rw [hL2] at hav
             subst htv hav
             obtain ⟨W6, hW6⟩ : ∃ W, W5.alloc (.cells #[.slice ta L1 tc, .slice ua L2 uc] 42) = W := ⟨_, rfl⟩
             obtain ⟨Br, hBr⟩ : ∃ b, W5.heap.size = b := ⟨_, rfl⟩
             have b6 : Below W5.heap.size W5 W6 := by rw [← hW6]; exact (Below.refl _ _).alloc (Nat.le_refl _) _
             have H6 : Hid (Fi w W6 f c k (.slice la j lc) rs ∧ CB W6 Br #[.slice ta L1 tc, .slice ua L2 uc] 42 ∧ Co W6 (w.heap.size + 2) 3 (.slice ta L1 tc) (isV (rwV p f c ws).t) ∧ Co W6 (w.heap.size + 2) 43 (.slice ua L2 uc) (f64s (rwV p f c ws).a)) := Lib.hid ⟨HF5.out.later b6, by rw [← hBr, ← hW6]; exact CB.new _ _ _, (hg1.later b6).base HBs.out, (hg2.later b6).base HBs.out⟩
             obtain ⟨m0, m1⟩ := H6.out.2.1.cells2E
             have n3 := H6.out.1.fb.cell 3 (by simp)
             clear hgo hno5 hg1 hg2 b6 hL1 hL2
             go_wp2_with (at_builtin; refine wpList_append_own _ rfl _ _ 30 rfl (w.heap.size + 2) 42 i0 (.agg rw2) 2 48 Tryz.underlying30 hi0 hz0 hz1 hz2 rfl (by decide) (.slice la j lc) rs.length (rcs rs) rfl (World.ownsRow.alloc H6.out.1.er.own _) ⟨W6.heap.size, 0, none⟩ 1 1 [.slice ta L1 tc, .slice ua L2 uc] rfl rfl (World.news_of_block (cs := #[.slice ta L1 tc, .slice ua L2 uc]) (t := 42) (fr := (0, 0)) (heap_alloc_new W6 _)) (by simp [Value.oneCell']) (by unfold maxLen; have := HLn.out; omega) (by have := HLn.out; omega) (by have := H6.out.1.rb.lt; simp; omega) ?_; intro v' W9 hown hgrow _; obtain ⟨na, nc, rfl⟩ := own_sliceE hown; obtain ⟨⟨s1, s2⟩, h9⟩ := H6.out.1.append (q := (rwV p f c ws, .slice ta L1 tc, .slice ua L2 uc)) H6.out.2.2 hown hgrow; have H9 := Lib.hid h9; clear hown hgrow h9)
             refine ⟨⟨j + 1, f, _, rs ++ [(rwV p f c ws, .slice ta L1 tc, .slice ua L2 uc)], by go_num, by omega, by omega, by omega, H9.out, by rw [List.length_append, HLn.out]; rfl, by rw [if_neg (by omega)]; exact HFf.out, ?_⟩, by simp [RowKit.intOf]; omega⟩
             have h1 := fl_step hQ.out HGo.out (by rw [← HFf.out]; exact hE.out)
             rw [h1, ← HFf.out]
             simp
           · obtain ⟨rfl, rfl⟩ := hno5 hE0
             have hE1 : (E == 0) = false := by simpa using hE0
             have hE2 : (E != 0) = true := by simpa using hE0
             have HTV := Lib.hid (fl_bad hQ.out (show j < n by omega) HGo.out (by rw [← HFf.out]; exact hE.out) hE0)
             obtain ⟨W6, hW6⟩ : ∃ W, (W5.alloc (.cells rw2 42)).drew = W := ⟨_, rfl⟩
             have b6 : Below W5.heap.size W5 W6 := by rw [← hW6]; exact ((Below.refl _ _).alloc (Nat.le_refl _) _).drew
             have HR : Hid (CB W6 (w.heap.size + 1) fe4 32 ∧ Below w.heap.size w W6) := Lib.hid ⟨HF5.out.rb.later b6, (HF5.out.later b6).bel⟩
             obtain ⟨z0, z1⟩ := (HK5.out.later b6).cells2E
             obtain ⟨k20, k21, k22, k23⟩ := HR.out.1.cells4E
             have f20 := HR.out.1.frozen 0
             have f21 := HR.out.1.frozen 1
             have f22 := HR.out.1.frozen 2
             have f23 := HR.out.1.frozen 3
             have hBn : Bl ≠ w.heap.size + 1 := HBl.out
             have hBn2 : w.heap.size + 1 ≠ Bl := fun e => hBn e.symm
             clear hgo hno5 b6 hE0
             go_wp2_with fail
             go_region
             all_goals
               go_wp2
               refine bodyPost_ret (res_filE _ (w.heap.size + 1) _ _ _ _ _ _ _ (set4E HR.out.1 _ _ _ _) rfl rfl rfl) rfl ?_
               exact FiR.bad ((((HR.out.2.setCell (p := ⟨w.heap.size + 1, 0, none⟩) (by show w.heap.size ≤ w.heap.size + 1; omega) _).setCell (p := ⟨w.heap.size + 1, 1, none⟩) (by show w.heap.size ≤ w.heap.size + 1; omega) _).setCell (p := ⟨w.heap.size + 1, 2, none⟩) (by show w.heap.size ≤ w.heap.size + 1; omega) _).setCell (p := ⟨w.heap.size + 1, 3, none⟩) (by show w.heap.size ≤ w.heap.size + 1; omega) _) HTV.out
       · have hjz' : ((j : Int) == 0) = false := by rw [beq_eq_false_iff_ne]; omega
         have HFf : Hid (f = fst1 L) := Lib.hid (by rw [HFf0.out, if_neg hjz])
         have HW := HF3
         obtain ⟨W4, hW4⟩ : ∃ W, W3 = W := ⟨_, rfl⟩
         clear hW4
         subst hwv
         have HRo := Lib.hid (rowOfE_any HP.out _ ws f c k j la lc W3 ((HSub.out _ hqm.out).1.later HW.out.bel) (fun b hb => Nat.lt_of_lt_of_le ((HSub.out _ hqm.out).2 b hb) HW.out.bel.size) (HL.out _ hqm.out) (by omega) hc0 hc hk (by omega) (HTb.out.later HW.out.bel))
         obtain ⟨y0, y1, y2, y3⟩ := HW.out.fb.cells4E
         go_wp2_with fail
         try rw [hW3]
         try rw [hBl]
         try rw [hW4]
         refine HRo.out.mono ?_
         rintro e W5 ⟨hb5, tv, av, rfl, hgo, hno5⟩
         obtain ⟨E, hE⟩ : ∃ E, Hid (rwE p f c k j ws = E) := ⟨_, Lib.hid rfl⟩
         rw [hE.out] at hgo hno5 ⊢
         have HF5 := Lib.hid (HW.out.later hb5)
         have HK5 := Lib.hid (HLb.out.later hb5)
         have HBs : Hid (w.heap.size + 2 ≤ W3.heap.size) := Lib.hid (by have := HW.out.rb.lt; omega)
         clear HRo hb5 y0 y1 y2 y3
         by_cases hE0 : E = 0
         · subst hE0
           obtain ⟨hg1, hg2⟩ := hgo rfl
           obtain ⟨ta, tc, htv⟩ : ∃ a c', tv = .slice a (isV (rwV p f c ws).t).length c' := by obtain ⟨a, c', e, _⟩ := hg1; exact ⟨a, c', e⟩
           obtain ⟨ua, uc, hav⟩ : ∃ a c', av = .slice a (f64s (rwV p f c ws).a).length c' := by obtain ⟨a, c', e, _⟩ := hg2; exact ⟨a, c', e⟩
           obtain ⟨L1, hL1⟩ : ∃ L1, (isV (rwV p f c ws).t).length = L1 := ⟨_, rfl⟩
           obtain ⟨L2, hL2⟩ : ∃ L2, (f64s (rwV p f c ws).a).length = L2 := ⟨_, rfl⟩
           rw [hL1] at htv
           rw [hL2] at hav
           subst htv hav
           obtain ⟨W6, hW6⟩ : ∃ W, W5.alloc (.cells #[.slice ta L1 tc, .slice ua L2 uc] 42) = W := ⟨_, rfl⟩
           obtain ⟨Br, hBr⟩ : ∃ b, W5.heap.size = b := ⟨_, rfl⟩
           have b6 : Below W5.heap.size W5 W6 := by rw [← hW6]; exact (Below.refl _ _).alloc (Nat.le_refl _) _
           have H6 : Hid (Fi w W6 f c k (.slice la j lc) rs ∧ CB W6 Br #[.slice ta L1 tc, .slice ua L2 uc] 42 ∧ Co W6 (w.heap.size + 2) 3 (.slice ta L1 tc) (isV (rwV p f c ws).t) ∧ Co W6 (w.heap.size + 2) 43 (.slice ua L2 uc) (f64s (rwV p f c ws).a)) := Lib.hid ⟨HF5.out.later b6, by rw [← hBr, ← hW6]; exact CB.new _ _ _, (hg1.later b6).base HBs.out, (hg2.later b6).base HBs.out⟩
           obtain ⟨m0, m1⟩ := H6.out.2.1.cells2E
           have n3 := H6.out.1.fb.cell 3 (by simp)
           clear hgo hno5 hg1 hg2 b6 hL1 hL2
           go_wp2_with (at_builtin; refine wpList_append_own _ rfl _ _ 30 rfl (w.heap.size + 2) 42 i0 (.agg rw2) 2 48 Tryz.underlying30 hi0 hz0 hz1 hz2 rfl (by decide) (.slice la j lc) rs.length (rcs rs) rfl (World.ownsRow.alloc H6.out.1.er.own _) ⟨W6.heap.size, 0, none⟩ 1 1 [.slice ta L1 tc, .slice ua L2 uc] rfl rfl (World.news_of_block (cs := #[.slice ta L1 tc, .slice ua L2 uc]) (t := 42) (fr := (0, 0)) (heap_alloc_new W6 _)) (by simp [Value.oneCell']) (by unfold maxLen; have := HLn.out; omega) (by have := HLn.out; omega) (by have := H6.out.1.rb.lt; simp; omega) ?_; intro v' W9 hown hgrow _; obtain ⟨na, nc, rfl⟩ := own_sliceE hown; obtain ⟨⟨s1, s2⟩, h9⟩ := H6.out.1.append (q := (rwV p f c ws, .slice ta L1 tc, .slice ua L2 uc)) H6.out.2.2 hown hgrow; have H9 := Lib.hid h9; clear hown hgrow h9)
           refine ⟨⟨j + 1, f, _, rs ++ [(rwV p f c ws, .slice ta L1 tc, .slice ua L2 uc)], by go_num, by omega, by omega, by omega, H9.out, by rw [List.length_append, HLn.out]; rfl, by rw [if_neg (by omega)]; exact HFf.out, ?_⟩, by simp [RowKit.intOf]; omega⟩
           have h1 := fl_step hQ.out HGo.out (by rw [← HFf.out]; exact hE.out)
           rw [h1, ← HFf.out]
           simp
         · obtain ⟨rfl, rfl⟩ := hno5 hE0
           have hE1 : (E == 0) = false := by simpa using hE0
           have hE2 : (E != 0) = true := by simpa using hE0
           have HTV := Lib.hid (fl_bad hQ.out (show j < n by omega) HGo.out (by rw [← HFf.out]; exact hE.out) hE0)
           obtain ⟨W6, hW6⟩ : ∃ W, (W5.alloc (.cells rw2 42)).drew = W := ⟨_, rfl⟩
           have b6 : Below W5.heap.size W5 W6 := by rw [← hW6]; exact ((Below.refl _ _).alloc (Nat.le_refl _) _).drew
           have HR : Hid (CB W6 (w.heap.size + 1) fe4 32 ∧ Below w.heap.size w W6) := Lib.hid ⟨HF5.out.rb.later b6, (HF5.out.later b6).bel⟩
           obtain ⟨z0, z1⟩ := (HK5.out.later b6).cells2E
           obtain ⟨k20, k21, k22, k23⟩ := HR.out.1.cells4E
           have f20 := HR.out.1.frozen 0
           have f21 := HR.out.1.frozen 1
           have f22 := HR.out.1.frozen 2
           have f23 := HR.out.1.frozen 3
           have hBn : Bl ≠ w.heap.size + 1 := HBl.out
           have hBn2 : w.heap.size + 1 ≠ Bl := fun e => hBn e.symm
           clear hgo hno5 b6 hE0
           go_wp2_with fail
           go_region
           all_goals
             go_wp2
             refine bodyPost_ret (res_filE _ (w.heap.size + 1) _ _ _ _ _ _ _ (set4E HR.out.1 _ _ _ _) rfl rfl rfl) rfl ?_
             exact FiR.bad ((((HR.out.2.setCell (p := ⟨w.heap.size + 1, 0, none⟩) (by show w.heap.size ≤ w.heap.size + 1; omega) _).setCell (p := ⟨w.heap.size + 1, 1, none⟩) (by show w.heap.size ≤ w.heap.size + 1; omega) _).setCell (p := ⟨w.heap.size + 1, 2, none⟩) (by show w.heap.size ≤ w.heap.size + 1; omega) _).setCell (p := ⟨w.heap.size + 1, 3, none⟩) (by show w.heap.size ≤ w.heap.size + 1; omega) _) HTV.out
   · obtain rfl : j = N := by omega
     have hlt' : ¬ ((j : Int) < (j : Int)) := by omega
     have HFL : Hid (f = fst1 L) := Lib.hid (by
       rw [HFf0.out]
       split
       · rename_i h
         have h1 := HLl.out
         rw [h] at h1
         rw [List.length_eq_zero_iff.1 h1]; rfl
       · rfl)
     have HEn := Lib.hid (fl_end (n := n) (by rw [HLl.out]; exact hj2) (by have := HGo.out; rwa [List.take_of_length_le (by rw [HLl.out]; omega)] at this))
     rw [HLl.out] at HEn
     have HR : Hid (CB wr (w.heap.size + 1) fe4 32 ∧ Below w.heap.size w wr) := Lib.hid ⟨HFi.out.rb, HFi.out.bel⟩
     obtain ⟨y0, y1, y2, y3⟩ := HFi.out.fb.cells4E
     obtain ⟨k20, k21, k22, k23⟩ := HR.out.1.cells4E
     have f20 := HR.out.1.frozen 0
     have f21 := HR.out.1.frozen 1
     have f22 := HR.out.1.frozen 2
     have f23 := HR.out.1.frozen 3
     by_cases hjn : j < n
     · have hjn' : (j : Int) < (n : Int) := by omega
       have HTV : Hid (flV p n c k L = (fe0, 0, 4)) := Lib.hid (by rw [HEn.out, if_pos hjn])
       go_wp2
       refine bodyPost_ret (res_filE _ (w.heap.size + 1) _ _ _ _ _ _ _ (set4E HR.out.1 _ _ _ _) rfl rfl rfl) rfl ?_
       exact FiR.bad ((((HR.out.2.setCell (p := ⟨w.heap.size + 1, 0, none⟩) (by show w.heap.size ≤ w.heap.size + 1; omega) _).setCell (p := ⟨w.heap.size + 1, 1, none⟩) (by show w.heap.size ≤ w.heap.size + 1; omega) _).setCell (p := ⟨w.heap.size + 1, 2, none⟩) (by show w.heap.size ≤ w.heap.size + 1; omega) _).setCell (p := ⟨w.heap.size + 1, 3, none⟩) (by show w.heap.size ≤ w.heap.size + 1; omega) _) HTV.out
     · have hjn' : ¬ ((j : Int) < (n : Int)) := by omega
       have HTV : Hid (flV p n c k L = (⟨(f : Nat), (c : Nat), (k : Nat), rs.map (·.1)⟩, 0, 0)) := Lib.hid (by rw [HEn.out, if_neg hjn, HFL.out])
       go_wp2
       refine bodyPost_ret (res_filE _ (w.heap.size + 1) _ _ _ _ _ _ _ (set4E HR.out.1 _ _ _ _) rfl rfl rfl) rfl ?_
       unfold FiR
       rw [HTV.out]
       have ho : ∀ a b c' d, Ob (w.heap.size + 1) wr ((((wr.setCell ⟨w.heap.size + 1, 0, none⟩ a).setCell ⟨w.heap.size + 1, 1, none⟩ b).setCell ⟨w.heap.size + 1, 2, none⟩ c').setCell ⟨w.heap.size + 1, 3, none⟩ d) := fun a b c' d => (((Ob.set _ _ _ _).trans (Ob.set _ _ _ _)).trans (Ob.set _ _ _ _)).trans (Ob.set _ _ _ _)
       exact ⟨((((HR.out.2.setCell (p := ⟨w.heap.size + 1, 0, none⟩) (by show w.heap.size ≤ w.heap.size + 1; omega) _).setCell (p := ⟨w.heap.size + 1, 1, none⟩) (by show w.heap.size ≤ w.heap.size + 1; omega) _).setCell (p := ⟨w.heap.size + 1, 2, none⟩) (by show w.heap.size ≤ w.heap.size + 1; omega) _).setCell (p := ⟨w.heap.size + 1, 3, none⟩) (by show w.heap.size ≤ w.heap.size + 1; omega) _), la, lc, rs, f, c, k, by rw [HLn.out]; rfl, rfl, by rw [HLn.out]; exact (HFi.out.er.ob (ho _ _ _ _) (by omega)).base (show w.heap.size ≤ w.heap.size + 2 by omega)⟩
end Go.Proofs.YtgoadpnoagaflaaGreatDoor
