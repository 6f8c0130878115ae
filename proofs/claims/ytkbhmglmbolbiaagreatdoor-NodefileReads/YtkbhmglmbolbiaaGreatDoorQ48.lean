/- Own texts, put together: Qde. -/
import Derived.Test.YtkbhmglmbolbiaaGreatDoorQ47
/- The document's side of layer 10: node, its walk. -/
namespace Go.Proofs.YtkbhmglmbolbiaaGreatDoor
set_option maxRecDepth 100000
open Go.RowKit Go.Shelf Go.Lib
attribute [local go_sem] run_store_float
set_option maxHeartbeats 16000000 in
theorem node10_any {p : Pm} (hp : p.Ok) (v : Value) (ws : List Bs) (k : Nat) (m : Bool) (w : World) (hS : Sl w v ws) (hx : ∀ x ∈ ws, x.length ≤ 400) (hk : k ≤ 16) (hr : ws.length ≤ 20000000) :
   Calls Tryz.prog 23 #[v, .int .i64 (k : Nat), .bool m] w fun e w' => DnR p w w' k m ws e := by
 have HP := Lib.hid hp
 obtain ⟨i0, hi0, hz0, hz1, hz2⟩ := info_parts infoF
 obtain ⟨W0, hW0⟩ : ∃ W0, w.alloc (.cells nz 53) = W0 := ⟨_, rfl⟩
 have b0 : Below w.heap.size w W0 := by rw [← hW0]; exact (Below.refl _ w).alloc (Nat.le_refl _) _
 have c0 : CB W0 w.heap.size nz 53 := by rw [← hW0]; exact CB.new w _ _
 have z0 : W0.heap.size = w.heap.size + 1 := by rw [← hW0]; simp
 obtain ⟨sa, sc, rfl, hc⟩ := sl_at hS
 have HC : Hid (∀ (W : World), Below w.heap.size w W → ∀ (i : Nat) (x : Bs), ws[i]? = some x → ∃ g off, sa = some ⟨g, off, none⟩ ∧ W.cell? ⟨g, off + i, none⟩ = some (sv x)) := Lib.hid fun W hb i x h => by
   obtain ⟨g, off, e, hg, hcell⟩ := hc i x h
   exact ⟨g, off, e, cell_later hb hg hcell⟩
 have HX := Lib.hid hx
 have H0 := Lib.hid (And.intro c0 (And.intro b0 z0))
 obtain ⟨n, hn⟩ : ∃ n, Hid (ws.length = n) := ⟨_, Lib.hid rfl⟩
 rw [hn.out] at hr ⊢
 have hn' : (n : Int) ≤ 20000000 := by omega
 have hk' : (k : Int) ≤ 16 := by omega
 have hk0 : (0 : Int) ≤ (k : Int) := by omega
 clear hS hc hx hp b0 z0 hr
 by_cases hE : n = wid k m
 rotate_left
 · have HBad : Hid (∀ W, Below w.heap.size w W → DnR p w W k m ws (.returned (.tuple #[.agg nz, .int .i64 0, .int .i64 4]))) := Lib.hid fun W hb => DnR.bad hb (ndE_long (by rw [hn.out]; exact hE)) (by decide) ⟨by decide, by decide⟩ (fun n' h => absurd (hn.out ▸ h) hE)
   obtain ⟨k0, k1, k2, k3⟩ := c0.cells4
   have f0 := c0.frozen 0
   have f1 := c0.frozen 1
   have f2 := c0.frozen 2
   have f3 := c0.frozen 3
   clear c0
   cases m
   all_goals
     unfold wid at hE
     simp only [if_true, Bool.false_eq_true, if_false] at hE
     first
       | (have hE' : ¬ ((n : Int) = 3 + (k : Int) + 1) := (by omega); have hE2 : ((n : Int) == 3 + (k : Int) + 1) = false := (by simpa using hE'); clear hE)
       | (have hE' : ¬ ((n : Int) = 3 + (k : Int)) := (by omega); have hE2 : ((n : Int) == 3 + (k : Int)) = false := (by simpa using hE'); clear hE)
     go_enter Tryz.func23, Tryz.ntmps23
     go_wp2_with fail
     try rw [hW0]
     clear hW0
     try go_wp2
     refine bodyPost_ret (res_node10 _ w.heap.size _ _ _ _ 0 4 _ (set4 H0.out.1 _ _ _ _) rfl rfl rfl) rfl ?_
     exact HBad.out _ ((((H0.out.2.1.setCell (Nat.le_refl _) _).setCell (Nat.le_refl _) _).setCell (Nat.le_refl _) _).setCell (Nat.le_refl _) _)
 · have HL3 : Hid (3 + k ≤ n) := Lib.hid (by rw [hE]; exact wid_gt k m)
   have hgets : ∀ i, i < n → ∃ a, ws[i]? = some a := fun i hi => ⟨_, List.getElem?_eq_getElem (by rw [hn.out]; exact hi)⟩
   have HG := Lib.hid hgets
   obtain ⟨a0, h0⟩ := hgets 0 (by have := HL3.out; omega)
   obtain ⟨a1, h1⟩ := hgets 1 (by have := HL3.out; omega)
   obtain ⟨a2, h2⟩ := hgets 2 (by have := HL3.out; omega)
   have hgd : ∀ (i : Nat) (a : Bs), ws[i]? = some a → ws.getD i [] = a := fun i a h => by rw [List.getD_eq_getElem?_getD, h]; rfl
   have hsh : ∀ (i : Nat) (a : Bs), ws[i]? = some a → a.length ≤ 400 := fun i a h => HX.out a (List.mem_of_getElem? h)
   obtain ⟨g, off, hsa, q0⟩ := HC.out W0 H0.out.2.1 0 a0 h0
   subst hsa
   have HC2 : Hid (∀ (W : World), Below w.heap.size w W → ∀ (i : Nat) (x : Bs), ws[i]? = some x → W.cell? ⟨g, off + i, none⟩ = some (sv x)) := Lib.hid fun W hb i x h => by
     obtain ⟨g', off', e, h'⟩ := HC.out W hb i x h
     cases e
     exact h'
   have HGd := Lib.hid hgd
   have HSh := Lib.hid hsh
   rw [Nat.add_zero] at q0
   have HF : Hid (∀ (l : Bs) (W : World), l.length ≤ 400 → Calls Tryz.prog 39 #[sv l] W fun e w' => e = .returned (.tuple #[.float .f64 (p.rf l).1, .int .i64 (p.rf l).2]) ∧ Below W.heap.size W w') := Lib.hid fun l W h => refFloat_sv HP.out l W h
   obtain ⟨o, ho⟩ : ∃ o, Hid (rdInt a0 = o) := ⟨_, Lib.hid rfl⟩
   have HI : Hid (∀ (W : World), Calls Tryz.prog 38 #[sv a0] W fun e w' => e = .returned (intR o) ∧ Below W.heap.size W w') := Lib.hid fun W => by rw [← ho.out]; exact refInt_sv a0 W (hsh 0 a0 h0)
   have HH : Hid (ws[0]? = some a0 ∧ ws[1]? = some a1 ∧ ws[2]? = some a2 ∧ ws.getD 0 [] = a0 ∧ ws.getD 1 [] = a1 ∧ ws.getD 2 [] = a2) := Lib.hid ⟨h0, h1, h2, hgd _ _ h0, hgd _ _ h1, hgd _ _ h2⟩
   have hn3 : (3 : Int) ≤ (n : Int) := by have := HL3.out; omega
   have hlk : (3 : Int) + (k : Int) ≤ (n : Int) := by have := HL3.out; omega
   have HE := Lib.hid hE
   clear HC h0 h1 h2 hgets hgd hsh
   obtain ⟨k0, k1, k2, k3⟩ := c0.cells4
   have f0 := c0.frozen 0
   have f1 := c0.frozen 1
   have f2 := c0.frozen 2
   have f3 := c0.frozen 3
   clear c0
   have HWd : Hid (ws.length = wid k m) := Lib.hid (by rw [hn.out]; exact hE)
   obtain ⟨x1, e1, hr1⟩ : ∃ x e, Hid (p.rf a1 = (x, e)) := ⟨_, _, Lib.hid rfl⟩
   obtain ⟨y1, e2, hr2⟩ : ∃ x e, Hid (p.rf a2 = (x, e)) := ⟨_, _, Lib.hid rfl⟩
   have HF1 : Hid (∀ (W : World), Calls Tryz.prog 39 #[sv a1] W fun e w' => e = .returned (.tuple #[.float .f64 x1, .int .i64 e1]) ∧ Below W.heap.size W w') := Lib.hid fun W => by have := HF.out a1 W (HSh.out 1 a1 HH.out.2.1); rwa [hr1.out] at this
   have HF2 : Hid (∀ (W : World), Calls Tryz.prog 39 #[sv a2] W fun e w' => e = .returned (.tuple #[.float .f64 y1, .int .i64 e2]) ∧ Below W.heap.size W w') := Lib.hid fun W => by have := HF.out a2 W (HSh.out 2 a2 HH.out.2.2.1); rwa [hr2.out] at this
   have HXY : Hid (x1 < 18446744073709551616 ∧ y1 < 18446744073709551616) := Lib.hid ⟨by have := (HP.out.rf a1).word; rwa [hr1.out] at this, by have := (HP.out.rf a2).word; rwa [hr2.out] at this⟩
   obtain ⟨t1, ht1⟩ : ∃ t, Hid (p.pt x1 y1 = t) := ⟨_, Lib.hid rfl⟩
   have HM : Hid (∀ (W : World), Calls Tryz.prog 40 #[pv x1 y1] W fun e w' => e = .returned (.bool t1) ∧ Below W.heap.size W w') := Lib.hid fun W => by
     refine (may_any x1 y1 W HXY.out).mono ?_
     rintro e w' ⟨⟨t, rfl, ht⟩, hb⟩
     have : t = t1 := by rw [← ht1.out]; rw [Bool.eq_iff_iff, ht, HP.out.pt]
     exact ⟨by rw [this], hb⟩
   have HV : Hid ((p.rf (ws.getD 1 [])) = (x1, e1) ∧ (p.rf (ws.getD 2 [])) = (y1, e2)) := Lib.hid ⟨by rw [HH.out.2.2.2.2.1]; exact hr1.out, by rw [HH.out.2.2.2.2.2]; exact hr2.out⟩
   have HBadN : Hid (rdInt a0 = none → ∀ W, Below w.heap.size w W → DnR p w W k m ws (.returned (.tuple #[.agg nz, .int .i64 0, .int .i64 4]))) := Lib.hid fun ho W hb => DnR.bad hb (ndE_none (by rw [HH.out.2.2.2.1]; exact ho)) (by decide) ⟨by decide, by decide⟩ (fun n' _ h => by rw [HH.out.2.2.2.1, ho] at h; cases h)
   have HBadS : Hid (∀ n0, rdInt a0 = some n0 → ∀ (W : World) (e : Int), Below w.heap.size w W → dkE p k m ws = e → e ≠ 0 → DnR p w W k m ws (.returned (.tuple #[.agg nz, .int .i64 n0, .int .i64 e]))) := Lib.hid fun n0 ho W e hb he h0 => DnR.bad hb (by rw [ndE_some (may := fun _ => true) HWd.out (by rw [HH.out.2.2.2.1]; exact ho)]; exact he) h0 (itoa_rd ho).1 (fun n' _ h => by rw [HH.out.2.2.2.1, ho] at h; cases h; rfl)
   have HDx : Hid (e1 ≠ 0 → dkE p k m ws = e1) := Lib.hid fun h => (dk_x (by rw [HV.out.1]; exact h)).trans (by rw [HV.out.1])
   have HDy : Hid (e1 = 0 → e2 ≠ 0 → dkE p k m ws = e2) := Lib.hid fun h1 h => (dk_y (by rw [HV.out.1]; exact h1) (by rw [HV.out.2]; exact h)).trans (by rw [HV.out.2])
   have HPt : Hid (e1 = 0 → e2 = 0 → (p.rf (ws.getD 1 [])).2 = 0 ∧ (p.rf (ws.getD 2 [])).2 = 0 ∧ p.pt (p.rf (ws.getD 1 [])).1 (p.rf (ws.getD 2 [])).1 = t1) := Lib.hid fun h1 h2 => ⟨by rw [HV.out.1]; exact h1, by rw [HV.out.2]; exact h2, by rw [HV.out.1, HV.out.2]; exact ht1.out⟩
   have HDp : Hid (e1 = 0 → e2 = 0 → t1 = false → dkE p k m ws = 10) := Lib.hid fun h1 h2 h3 => dk_p (HPt.out h1 h2).1 (HPt.out h1 h2).2.1 ((HPt.out h1 h2).2.2.trans h3)
   have HDa : Hid (e1 = 0 → e2 = 0 → t1 = true → ∀ (j x3 : Nat) (e3 : Int), j < k → (∀ i, i < j → (p.rf (ws.getD (3 + i) [])).2 = 0) → p.rf (ws.getD (3 + j) []) = (x3, e3) → e3 ≠ 0 → dkE p k m ws = e3) := Lib.hid fun h1 h2 h3 j x3 e3 hj ha he h0 => (dk_attr (HPt.out h1 h2).1 (HPt.out h1 h2).2.1 ((HPt.out h1 h2).2.2.trans h3) (by rw [hn.out]; exact HL3.out) hj ha (by rw [he]; exact h0)).trans (by rw [he])
   have HDm : Hid (e1 = 0 → e2 = 0 → t1 = true → (∀ i, i < k → (p.rf (ws.getD (3 + i) [])).2 = 0) → dkE p k m ws = if m then intE (fun _ => true) (ws.getD (3 + k) []) else 0) := Lib.hid fun h1 h2 h3 ha => dk_mark (HPt.out h1 h2).1 (HPt.out h1 h2).2.1 ((HPt.out h1 h2).2.2.trans h3) (by rw [hn.out]; exact HL3.out) ha
   have HFin : Hid (∀ n0, rdInt a0 = some n0 → ∀ (W : World) (av : Value) (ls : List Nat) (mk : Int), Below w.heap.size w W → Fr W w.heap.size av ls → dkE p k m ws = 0 → (if m then (rdInt (ws.getD (3 + k) [])).getD 0 else 0) = mk → ls = ((ws.drop 3).take k).map (fun w => (p.rf w).1) → DnR p w W k m ws (.returned (.tuple #[.agg #[.float .f64 x1, .float .f64 y1, av, .int .i64 mk], .int .i64 n0, .int .i64 0]))) := Lib.hid fun n0 ho W av ls mk hb hf h0 hmk hls => by
     have hnd : ndE p k m (fun _ => true) ws = 0 := by rw [ndE_some (may := fun _ => true) HWd.out (by rw [HH.out.2.2.2.1]; exact ho)]; exact h0
     refine ⟨hb, x1, y1, av, ls, mk, n0, by rw [hnd], hf, HXY.out.1, HXY.out.2, (itoa_rd ho).1, fun n' _ h => by rw [HH.out.2.2.2.1, ho] at h; cases h; rfl, fun _ => ?_⟩
     unfold ndV
     rw [HV.out.1, HV.out.2, hmk, hls]
   cases m
   all_goals
     unfold wid at hE
     simp only [if_true, Bool.false_eq_true, if_false] at hE
     first
       | (have hE' : ((n : Int) = 3 + (k : Int) + 1) := (by omega); have hE2 : ((n : Int) == 3 + (k : Int) + 1) = true := (by simpa using hE'); clear hE)
       | (have hE' : ((n : Int) = 3 + (k : Int)) := (by omega); have hE2 : ((n : Int) == 3 + (k : Int)) = true := (by simpa using hE'); clear hE)
     cases o
     · unfold intR at HI
       try dsimp only at HI
       go_enter Tryz.func23, Tryz.ntmps23
       go_wp2_with fail
       try rw [hW0]
       clear hW0
       refine (HI.out _).mono ?_
       rintro e W1 ⟨rfl, hb1⟩
       have c1 := H0.out.1.later hb1
       have HB1 : Hid (CB W1 w.heap.size nz 53 ∧ Below w.heap.size w W1) := Lib.hid ⟨c1, H0.out.2.1.trans (hb1.mono H0.out.2.1.size)⟩
       clear hb1 k0 k1 k2 k3 f0 f1 f2 f3
       obtain ⟨k0, k1, k2, k3⟩ := c1.cells4
       have f0 := c1.frozen 0
       have f1 := c1.frozen 1
       have f2 := c1.frozen 2
       have f3 := c1.frozen 3
       clear c1
       go_wp2
       refine bodyPost_ret (res_node10 _ w.heap.size _ _ _ _ 0 4 _ (set4 HB1.out.1 _ _ _ _) rfl rfl rfl) rfl ?_
       exact HBadN.out ho.out _ ((((HB1.out.2.setCell (Nat.le_refl _) _).setCell (Nat.le_refl _) _).setCell (Nat.le_refl _) _).setCell (Nat.le_refl _) _)
     · rename_i n0
       unfold intR at HI
       try dsimp only at HI
       go_enter Tryz.func23, Tryz.ntmps23
       go_wp2_with fail
       try rw [hW0]
       clear hW0 k0 k1 k2 k3 f0 f1 f2 f3 hE' hE2
       refine (HI.out _).mono ?_
       rintro e W1 ⟨rfl, hb1⟩
       obtain ⟨W2, hW2⟩ : ∃ W2, W1.alloc (.cells nz 53) = W2 := ⟨_, rfl⟩
       obtain ⟨Bx, hBx⟩ : ∃ Bx, W1.heap.size = Bx := ⟨_, rfl⟩
       have b2 : Below W1.heap.size W1 W2 := by rw [← hW2]; exact (Below.refl _ W1).alloc (Nat.le_refl _) _
       have bw1 : Below w.heap.size w W1 := H0.out.2.1.trans (hb1.mono H0.out.2.1.size)
       have HD2 : Hid (Dn w W2 Bx 0 0 (.slice none 0 0) [] 0) := Lib.hid ⟨bw1.trans (b2.mono bw1.size), (H0.out.1.later hb1).later b2, by rw [← hBx, ← hW2]; exact CB.new W1 _ _, by rw [← hBx]; have := hb1.size; have := H0.out.2.2; omega, Fr.nil _ _⟩
       have q1 := HC2.out W2 HD2.out.bel 1 a1 HH.out.2.1
       clear hb1 b2 bw1 q0
       go_wp2_with fail
       try rw [hW2]
       try rw [hBx]
       clear hW2 hBx
       refine (HF1.out _).mono ?_
       rintro e W3 ⟨rfl, hb3⟩
       have d3 := HD2.out.later hb3
       have HD3 := Lib.hid d3
       obtain ⟨m0, m1, m2, m3⟩ := d3.xb.cells4
       have u0 := d3.xb.frozen 0
       obtain ⟨W4, hW4⟩ : ∃ W4, W3.setCell ⟨Bx, 0, none⟩ (.float .f64 x1) = W4 := ⟨_, rfl⟩
       have d4 : Dn w W4 Bx x1 0 (.slice none 0 0) [] 0 := by rw [← hW4]; exact d3.set 0 _ rfl
       clear d3 hb3 q1
       by_cases he1 : e1 = 0
       rotate_left
       · have he1' : (e1 == 0) = false := by simpa using he1
         have HD4 := Lib.hid d4
         obtain ⟨k0, k1, k2, k3⟩ := d4.r0.cells4
         have f0 := d4.r0.frozen 0
         have f1 := d4.r0.frozen 1
         have f2 := d4.r0.frozen 2
         have f3 := d4.r0.frozen 3
         clear d4
         have HB4 := Lib.hid (HDx.out he1)
         go_wp2
         refine bodyPost_ret (res_node10 _ w.heap.size _ _ _ _ n0 e1 _ (set4 HD4.out.r0 _ _ _ _) rfl rfl rfl) rfl ?_
         exact HBadS.out n0 ho.out _ _ ((((HD4.out.bel.setCell (Nat.le_refl _) _).setCell (Nat.le_refl _) _).setCell (Nat.le_refl _) _).setCell (Nat.le_refl _) _) HB4.out he1
       · subst he1
         have q2 := HC2.out W4 d4.bel 2 a2 HH.out.2.2.1
         have HD4 := Lib.hid d4
         clear d4
         go_wp2_with fail
         try rw [hW4]
         clear hW4 m0 m1 m2 m3 u0
         refine (HF2.out _).mono ?_
         rintro e W5 ⟨rfl, hb5⟩
         have d5 := HD4.out.later hb5
         obtain ⟨m0, m1, m2, m3⟩ := d5.xb.cells4
         have u1 := d5.xb.frozen 1
         obtain ⟨W6, hW6⟩ : ∃ W6, W5.setCell ⟨Bx, 1, none⟩ (.float .f64 y1) = W6 := ⟨_, rfl⟩
         have d6 : Dn w W6 Bx x1 y1 (.slice none 0 0) [] 0 := by rw [← hW6]; exact d5.set 1 _ rfl
         clear d5 hb5 q2
         by_cases he2 : e2 = 0
         rotate_left
         · have he2' : (e2 == 0) = false := by simpa using he2
           have HD6 := Lib.hid d6
           obtain ⟨k0, k1, k2, k3⟩ := d6.r0.cells4
           have f0 := d6.r0.frozen 0
           have f1 := d6.r0.frozen 1
           have f2 := d6.r0.frozen 2
           have f3 := d6.r0.frozen 3
           clear d6
           have HB6 := Lib.hid (HDy.out (by first | rfl | trivial) he2)
           go_wp2
           refine bodyPost_ret (res_node10 _ w.heap.size _ _ _ _ n0 e2 _ (set4 HD6.out.r0 _ _ _ _) rfl rfl rfl) rfl ?_
           exact HBadS.out n0 ho.out _ _ ((((HD6.out.bel.setCell (Nat.le_refl _) _).setCell (Nat.le_refl _) _).setCell (Nat.le_refl _) _).setCell (Nat.le_refl _) _) HB6.out he2
         · subst he2
           have HD6 := Lib.hid d6
           obtain ⟨p0, p1, p2, p3⟩ := d6.xb.cells4
           clear d6
           go_wp2_with fail
           try rw [hW6]
           clear hW6 m0 m1 m2 m3 u1
           refine (HM.out _).mono ?_
           rintro e W7 ⟨rfl, hb7⟩
           have d7 := HD6.out.later hb7
           have HD7 := Lib.hid d7
           clear p0 p1 p2 p3 hb7
           cases ht : t1
           · subst ht
             obtain ⟨k0, k1, k2, k3⟩ := d7.r0.cells4
             have f0 := d7.r0.frozen 0
             have f1 := d7.r0.frozen 1
             have f2 := d7.r0.frozen 2
             have f3 := d7.r0.frozen 3
             clear d7
             have HB7 := Lib.hid (HDp.out (by first | rfl | trivial) (by first | rfl | trivial) (by first | rfl | trivial))
             go_wp2
             refine bodyPost_ret (res_node10 _ w.heap.size _ _ _ _ n0 10 _ (set4 HD7.out.r0 _ _ _ _) rfl rfl rfl) rfl ?_
             exact HBadS.out n0 ho.out _ _ ((((HD7.out.bel.setCell (Nat.le_refl _) _).setCell (Nat.le_refl _) _).setCell (Nat.le_refl _) _).setCell (Nat.le_refl _) _) HB7.out (by decide)
           · subst ht
             clear d7
             go_wp2_with fail
             go_loopw [13] (fun s13 wr => ∃ (j : Nat) (av : Value) (ls : List Nat), s13 = .int .i64 (j : Nat) ∧ j ≤ k ∧ Hid (Dn w wr Bx x1 y1 av ls 0 ∧ ls.length = j ∧ ls = ((ws.drop 3).take j).map (fun w => (p.rf w).1) ∧ ∀ i, i < j → (p.rf (ws.getD (3 + i) [])).2 = 0)) (fun s13 _ => k - (RowKit.intOf s13).toNat)
             case atStart => exact ⟨0, _, [], rfl, by omega, HD7.out, rfl, rfl, fun i hi => by omega⟩
             case round =>
               obtain ⟨j, av, ls, rfl, hj, hI⟩ := hrel
               by_cases hlt : j < k
               · have hlt' : (j : Int) < (k : Int) := by omega
                 obtain ⟨j3, h3⟩ : ∃ j3 : Nat, (3 : Int) + ((j : Nat) : Int) = ((j3 : Nat) : Int) := ⟨3 + j, by omega⟩
                 have e3 : Hid (j3 = 3 + j) := Lib.hid (by omega)
                 obtain ⟨a3, hq3⟩ := HG.out j3 (by have := HL3.out; omega)
                 have q3 := HC2.out wr hI.out.1.bel j3 a3 hq3
                 obtain ⟨x3, e3', hr3⟩ : ∃ x e, Hid (p.rf a3 = (x, e)) := ⟨_, _, Lib.hid rfl⟩
                 have HF3 : Hid (∀ (W : World), Calls Tryz.prog 39 #[sv a3] W fun e w' => e = .returned (.tuple #[.float .f64 x3, .int .i64 e3']) ∧ Below W.heap.size W w') := Lib.hid fun W => by have := HF.out a3 W (HSh.out j3 a3 hq3); rwa [hr3.out] at this
                 have HX3 : Hid (x3 < 18446744073709551616) := Lib.hid (by have := (HP.out.rf a3).word; rwa [hr3.out] at this)
                 have HG3 : Hid (p.rf (ws.getD (3 + j) []) = (x3, e3')) := Lib.hid (by rw [← e3.out, HGd.out j3 a3 hq3]; exact hr3.out)
                 have hj3 : (0 : Int) ≤ (j3 : Int) := by omega
                 have hj3' : (j3 : Int) < (n : Int) := by have := HL3.out; omega
                 have hj3n : j3 < n := by have := HL3.out; omega
                 have ix1 : ∀ w, (Instr.indexAt 54 (.slice (some ⟨g, off, none⟩) n sc) (.int .i64 (j3 : Nat))).run Tryz.prog w = .ok (.pointer (some ⟨g, off + j3, none⟩)) w := fun w => by go_simp
                 have ix : ∀ w, (Instr.indexAt 54 (.slice (some ⟨g, off, none⟩) n sc) (.int .i64 ((3 : Int) + ((j : Nat) : Int)))).run Tryz.prog w = .ok (.pointer (some ⟨g, off + j3, none⟩)) w := fun w => by rw [h3]; exact ix1 w
                 have hwr : IntKind.i64.wrap ((3 : Int) + ((j : Nat) : Int)) = (3 : Int) + ((j : Nat) : Int) := by rw [IntKind.wrap_i64]; omega
                 have HI0 := Lib.hid hI.out
                 clear hI ix1 h3 hj3 hj3' hj3n
                 go_wp2_with fail
                 refine (HF3.out _).mono ?_
                 rintro e W8 ⟨rfl, hb8⟩
                 have d8 := HI0.out.1.later hb8
                 have HD8 := Lib.hid d8
                 clear q3 hb8
                 by_cases he3 : e3' = 0
                 rotate_left
                 · have he3' : (e3' == 0) = false := by simpa using he3
                   obtain ⟨k0, k1, k2, k3⟩ := d8.r0.cells4
                   have f0 := d8.r0.frozen 0
                   have f1 := d8.r0.frozen 1
                   have f2 := d8.r0.frozen 2
                   have f3 := d8.r0.frozen 3
                   clear d8
                   have HB8 := Lib.hid (HDa.out (by first | rfl | trivial) (by first | rfl | trivial) (by first | rfl | trivial) j x3 e3' hlt HI0.out.2.2.2 HG3.out he3)
                   go_wp2
                   refine bodyPost_ret (res_node10 _ w.heap.size _ _ _ _ n0 e3' _ (set4 HD8.out.r0 _ _ _ _) rfl rfl rfl) rfl ?_
                   exact HBadS.out n0 ho.out _ _ ((((HD8.out.bel.setCell (Nat.le_refl _) _).setCell (Nat.le_refl _) _).setCell (Nat.le_refl _) _).setCell (Nat.le_refl _) _) HB8.out he3
                 · subst he3
                   have k2 := d8.xb.cell 2 (by simp)
                   have HLs : Hid (ls.length ≤ 16) := Lib.hid (by rw [HI0.out.2.1]; omega)
                   obtain ⟨ae, ac, hav⟩ : ∃ ae ac, av = .slice ae ls.length ac := own_slice d8.fr.own
                   subst hav
                   clear d8
                   go_wp2_with (at_builtin; refine wpList_append_own _ rfl _ _ _ rfl (Bx + 1) 48 i0 _ 1 8 undF hi0 hz0 hz1 hz2 rfl (by omega) (.slice ae ls.length ac) ls.length (f64s ls) rfl (HD8.out.fr.own.alloc _) ⟨W8.heap.size, 0, none⟩ 1 1 [.float .f64 x3] rfl rfl (World.news_of_block (cs := #[.float .f64 x3]) (t := 48) (fr := (0, 0)) (heap_alloc_new W8 _)) (by simp [Value.oneCell']) (by unfold maxLen; have := HLs.out; omega) (by have := HLs.out; omega) (by have := HD8.out.xb.lt; simp; omega) ?_; intro v' W9 hown hgrow _; obtain ⟨va, vc, rfl⟩ := own_slice hown; obtain ⟨⟨s1, s2⟩, h9⟩ := HD8.out.grew HX3.out hown hgrow; have H9 := Lib.hid h9; clear hown hgrow h9)
                   refine ⟨⟨j + 1, _, ls ++ [x3], by go_num, by omega, H9.out, by rw [List.length_append, HI0.out.2.1]; rfl, ?_, fun i hi => ?_⟩, by simp [RowKit.intOf]; omega⟩
                   · have hl3 : 3 + j < ws.length := by rw [hn.out]; have := HL3.out; omega
                     have hg3 := HG3.out
                     rw [List.getD_eq_getElem?_getD, List.getElem?_eq_getElem hl3] at hg3
                     rw [List.take_succ_eq_append_getElem (by rw [List.length_drop]; omega), List.map_append, ← HI0.out.2.2.1, List.getElem_drop]
                     simp only [List.map_cons, List.map_nil]
                     rw [show (p.rf ws[3 + j]).1 = x3 from congrArg Prod.fst hg3]
                   · rcases Nat.lt_or_ge i j with h | h
                     · exact HI0.out.2.2.2 i h
                     · obtain rfl : i = j := by omega
                       rw [HG3.out]
               · obtain rfl : j = k := by omega
                 have hlt' : ¬ ((j : Int) < (j : Int)) := by omega
                 have HI0 := Lib.hid hI.out
                 have dI := hI.out.1
                 obtain ⟨ae, ac, hav⟩ : ∃ ae ac, av = .slice ae ls.length ac := own_slice dI.fr.own
                 subst hav
                 have HMk := Lib.hid (HDm.out (by first | rfl | trivial) (by first | rfl | trivial) (by first | rfl | trivial) HI0.out.2.2.2)
                 clear hI
                 have HDI := Lib.hid dI
                 first
                   | (have hsel : Hid (dkE p j false ws = 0) := HMk
                      obtain ⟨k40, k41, k42, k43⟩ := dI.xb.cells4
                      obtain ⟨k0, k1, k2, k3⟩ := dI.r0.cells4
                      have f0 := dI.r0.frozen 0
                      have f1 := dI.r0.frozen 1
                      have f2 := dI.r0.frozen 2
                      have f3 := dI.r0.frozen 3
                      clear dI
                      go_wp2
                      refine bodyPost_ret (res_node10 _ w.heap.size _ _ _ _ n0 0 _ (set4 HDI.out.r0 _ _ _ _) rfl rfl rfl) rfl ?_
                      have hB := HDI.out.hB
                      exact HFin.out n0 ho.out _ _ ls 0 ((((HDI.out.bel.setCell (Nat.le_refl _) _).setCell (Nat.le_refl _) _).setCell (Nat.le_refl _) _).setCell (Nat.le_refl _) _) ⟨own_base (own_ob HDI.out.fr.own (ob_set4 _ _ _ _ _ _) (by omega)) (by omega), HDI.out.fr.word⟩ hsel.out rfl HI0.out.2.2.1)
                   | (have hsel : Hid (dkE p j true ws = intE (fun _ => true) (ws.getD (3 + j) [])) := HMk
                      clear dI
                      obtain ⟨j3, h3⟩ : ∃ j3 : Nat, (3 : Int) + ((j : Nat) : Int) = ((j3 : Nat) : Int) := ⟨3 + j, by omega⟩
                      have e3 : Hid (j3 = 3 + j) := Lib.hid (by omega)
                      have hnw : n = 3 + j + 1 := HE.out
                      obtain ⟨a3, hq3⟩ := HG.out j3 (by omega)
                      have q3 := HC2.out wr HDI.out.bel j3 a3 hq3
                      obtain ⟨o3, ho3⟩ : ∃ o, Hid (rdInt a3 = o) := ⟨_, Lib.hid rfl⟩
                      have HI3 : Hid (∀ (W : World), Calls Tryz.prog 38 #[sv a3] W fun e w' => e = .returned (intR o3) ∧ Below W.heap.size W w') := Lib.hid fun W => by rw [← ho3.out]; exact refInt_sv a3 W (HSh.out j3 a3 hq3)
                      have HG3 : Hid (ws.getD (3 + j) [] = a3) := Lib.hid (by rw [← e3.out]; exact HGd.out j3 a3 hq3)
                      have hj3 : (0 : Int) ≤ (j3 : Int) := by omega
                      have hj3' : (j3 : Int) < (n : Int) := by omega
                      have hj3n : j3 < n := by omega
                      clear hnw
                      have ix1 : ∀ w, (Instr.indexAt 54 (.slice (some ⟨g, off, none⟩) n sc) (.int .i64 (j3 : Nat))).run Tryz.prog w = .ok (.pointer (some ⟨g, off + j3, none⟩)) w := fun w => by go_simp
                      have ix : ∀ w, (Instr.indexAt 54 (.slice (some ⟨g, off, none⟩) n sc) (.int .i64 ((3 : Int) + ((j : Nat) : Int)))).run Tryz.prog w = .ok (.pointer (some ⟨g, off + j3, none⟩)) w := fun w => by rw [h3]; exact ix1 w
                      have hwr : IntKind.i64.wrap ((3 : Int) + ((j : Nat) : Int)) = (3 : Int) + ((j : Nat) : Int) := by rw [IntKind.wrap_i64]; omega
                      clear ix1 h3 hj3 hj3' hj3n hq3
                      rcases o3 with _ | mk3
                      all_goals
                        unfold intR at HI3
                        try dsimp only at HI3
                        go_wp2_with fail
                        refine (HI3.out _).mono ?_
                        rintro e W8 ⟨rfl, hb8⟩
                        have d8 := HDI.out.later hb8
                        have u3 := d8.xb.frozen 3
                        have m3 := d8.xb.cell 3 (by simp)
                      · obtain ⟨W9, hW9⟩ : ∃ W9, W8.setCell ⟨Bx, 3, none⟩ (.int .i64 0) = W9 := ⟨_, rfl⟩
                        have d9 : Dn w W9 Bx x1 y1 (.slice ae ls.length ac) ls 0 := by rw [← hW9]; exact d8.set 3 _ rfl
                        have HD9 := Lib.hid d9
                        obtain ⟨k0, k1, k2, k3⟩ := d9.r0.cells4
                        have f0 := d9.r0.frozen 0
                        have f1 := d9.r0.frozen 1
                        have f2 := d9.r0.frozen 2
                        have f3 := d9.r0.frozen 3
                        have HB9 : Hid (dkE p j true ws = 4) := Lib.hid (by rw [hsel.out, HG3.out]; unfold intE; rw [ho3.out])
                        clear d9 d8 hb8 q3
                        go_wp2
                        refine bodyPost_ret (res_node10 _ w.heap.size _ _ _ _ n0 4 _ (set4 HD9.out.r0 _ _ _ _) rfl rfl rfl) rfl ?_
                        exact HBadS.out n0 ho.out _ _ ((((HD9.out.bel.setCell (Nat.le_refl _) _).setCell (Nat.le_refl _) _).setCell (Nat.le_refl _) _).setCell (Nat.le_refl _) _) HB9.out (by decide)
                      · obtain ⟨W9, hW9⟩ : ∃ W9, W8.setCell ⟨Bx, 3, none⟩ (.int .i64 mk3) = W9 := ⟨_, rfl⟩
                        have d9 : Dn w W9 Bx x1 y1 (.slice ae ls.length ac) ls mk3 := by rw [← hW9]; exact d8.set 3 _ rfl
                        have HD9 := Lib.hid d9
                        obtain ⟨k40, k41, k42, k43⟩ := d9.xb.cells4
                        obtain ⟨k0, k1, k2, k3⟩ := d9.r0.cells4
                        have f0 := d9.r0.frozen 0
                        have f1 := d9.r0.frozen 1
                        have f2 := d9.r0.frozen 2
                        have f3 := d9.r0.frozen 3
                        have HB9 : Hid (dkE p j true ws = 0 ∧ (rdInt (ws.getD (3 + j) [])).getD 0 = mk3) := Lib.hid ⟨by rw [hsel.out, HG3.out]; unfold intE; rw [ho3.out]; rfl, by rw [HG3.out, ho3.out]; rfl⟩
                        clear d9 d8 hb8 q3
                        go_wp2
                        refine bodyPost_ret (res_node10 _ w.heap.size _ _ _ _ n0 0 _ (set4 HD9.out.r0 _ _ _ _) rfl rfl rfl) rfl ?_
                        have hB := HD9.out.hB
                        exact HFin.out n0 ho.out _ _ ls mk3 ((((HD9.out.bel.setCell (Nat.le_refl _) _).setCell (Nat.le_refl _) _).setCell (Nat.le_refl _) _).setCell (Nat.le_refl _) _) ⟨own_base (own_ob HD9.out.fr.own (ob_set4 _ _ _ _ _ _) (by omega)) (by omega), HD9.out.fr.word⟩ HB9.out.1 HB9.out.2 HI0.out.2.2.1)
end Go.Proofs.YtkbhmglmbolbiaaGreatDoor
