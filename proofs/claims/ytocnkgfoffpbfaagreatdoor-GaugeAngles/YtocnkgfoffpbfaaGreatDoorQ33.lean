/- Own texts, put together: Gs. -/
import Derived.Test.YtocnkgfoffpbfaaGreatDoorQ4
import Derived.Test.YtocnkgfoffpbfaaGreatDoorQ24
import Derived.Test.YtocnkgfoffpbfaaGreatDoorQ31
import Derived.Deep.MidRow
import Derived.Deep.DeepCutAuto
/- The middle of three points, reckoned exactly: middle. -/
namespace Go.Proofs.YtocnkgfoffpbfaaGreatDoor
open Go.RowKit Go.Shelf
attribute [local go_sem ↓] Go.wp_at_zero Go.wp_at_succ
attribute [local go_sem] run_store_float
theorem noU24 (aA : Option Addr) (nA cA : Nat) (lA : Int) (gA oA : Bool) (aB : Option Addr) (nB cB : Nat) (lB : Int) (gB oB : Bool) (aC : Option Addr) (nC cC : Nat) (lC : Int) (gC oC : Bool) (aD : Option Addr) (nD cD : Nat) (lD : Int) (gD oD : Bool) (aE : Option Addr) (nE cE : Nat) (lE : Int) (gE oE : Bool) (aF : Option Addr) (nF cF : Nat) (lF : Int) (gF oF : Bool) : ∀ (i : Nat) (u : Value), (#[.slice aA nA cA, .int .i64 lA, .bool gA, .bool oA, .slice aB nB cB, .int .i64 lB, .bool gB, .bool oB, .slice aC nC cC, .int .i64 lC, .bool gC, .bool oC, .slice aD nD cD, .int .i64 lD, .bool gD, .bool oD, .slice aE nE cE, .int .i64 lE, .bool gE, .bool oE, .slice aF nF cF, .int .i64 lF, .bool gF, .bool oF] : Array Value)[i]? = some u → NoU u := by
 intro i u h
 rcases i with _ | _ | _ | _ | _ | _ | _ | _ | _ | _ | _ | _ | _ | _ | _ | _ | _ | _ | _ | _ | _ | _ | _ | _ | i
 · cases h; exact noU_sl _ _ _
 · cases h; exact noU_int _
 · cases h; exact noU_b _
 · cases h; exact noU_b _
 · cases h; exact noU_sl _ _ _
 · cases h; exact noU_int _
 · cases h; exact noU_b _
 · cases h; exact noU_b _
 · cases h; exact noU_sl _ _ _
 · cases h; exact noU_int _
 · cases h; exact noU_b _
 · cases h; exact noU_b _
 · cases h; exact noU_sl _ _ _
 · cases h; exact noU_int _
 · cases h; exact noU_b _
 · cases h; exact noU_b _
 · cases h; exact noU_sl _ _ _
 · cases h; exact noU_int _
 · cases h; exact noU_b _
 · cases h; exact noU_b _
 · cases h; exact noU_sl _ _ _
 · cases h; exact noU_int _
 · cases h; exact noU_b _
 · cases h; exact noU_b _
 · simp at h
structure Corn (W : World) (cb : Nat) (aA : Option Addr) (nA cA : Nat) (lA : Int) (gA oA : Bool) (aB : Option Addr) (nB cB : Nat) (lB : Int) (gB oB : Bool) (aC : Option Addr) (nC cC : Nat) (lC : Int) (gC oC : Bool) (aD : Option Addr) (nD cD : Nat) (lD : Int) (gD oD : Bool) (aE : Option Addr) (nE cE : Nat) (lE : Int) (gE oE : Bool) (aF : Option Addr) (nF cF : Nat) (lF : Int) (gF oF : Bool) (x0 y0 x1 y1 x2 y2 : Rat) : Prop where
 box : CB W cb #[.slice aA nA cA, .int .i64 lA, .bool gA, .bool oA, .slice aB nB cB, .int .i64 lB, .bool gB, .bool oB, .slice aC nC cC, .int .i64 lC, .bool gC, .bool oC, .slice aD nD cD, .int .i64 lD, .bool gD, .bool oD, .slice aE nE cE, .int .i64 lE, .bool gE, .bool oE, .slice aF nF cF, .int .i64 lF, .bool gF, .bool oF] 109
 n0 : IsNum W (.agg #[.slice aA nA cA, .int .i64 lA, .bool gA, .bool oA]) (some x0)
 m0 : IsNum W (.agg #[.slice aB nB cB, .int .i64 lB, .bool gB, .bool oB]) (some y0)
 n1 : IsNum W (.agg #[.slice aC nC cC, .int .i64 lC, .bool gC, .bool oC]) (some x1)
 m1 : IsNum W (.agg #[.slice aD nD cD, .int .i64 lD, .bool gD, .bool oD]) (some y1)
 n2 : IsNum W (.agg #[.slice aE nE cE, .int .i64 lE, .bool gE, .bool oE]) (some x2)
 m2 : IsNum W (.agg #[.slice aF nF cF, .int .i64 lF, .bool gF, .bool oF]) (some y2)
theorem Corn.later {W W' : World} {cb : Nat} {aA : Option Addr} {nA cA : Nat} {lA : Int} {gA oA : Bool} {aB : Option Addr} {nB cB : Nat} {lB : Int} {gB oB : Bool} {aC : Option Addr} {nC cC : Nat} {lC : Int} {gC oC : Bool} {aD : Option Addr} {nD cD : Nat} {lD : Int} {gD oD : Bool} {aE : Option Addr} {nE cE : Nat} {lE : Int} {gE oE : Bool} {aF : Option Addr} {nF cF : Nat} {lF : Int} {gF oF : Bool} {x0 y0 x1 y1 x2 y2 : Rat} (h : Corn W cb aA nA cA lA gA oA aB nB cB lB gB oB aC nC cC lC gC oC aD nD cD lD gD oD aE nE cE lE gE oE aF nF cF lF gF oF x0 y0 x1 y1 x2 y2) (hb : Below W.heap.size W W') : Corn W' cb aA nA cA lA gA oA aB nB cB lB gB oB aC nC cC lC gC oC aD nD cD lD gD oD aE nE cE lE gE oE aF nF cF lF gF oF x0 y0 x1 y1 x2 y2 :=
 ⟨h.box.later hb, h.n0.later hb, h.m0.later hb, h.n1.later hb, h.m1.later hb, h.n2.later hb, h.m2.later hb⟩
theorem Kept.corn {W W' : World} {g cb : Nat} {aA : Option Addr} {nA cA : Nat} {lA : Int} {gA oA : Bool} {aB : Option Addr} {nB cB : Nat} {lB : Int} {gB oB : Bool} {aC : Option Addr} {nC cC : Nat} {lC : Int} {gC oC : Bool} {aD : Option Addr} {nD cD : Nat} {lD : Int} {gD oD : Bool} {aE : Option Addr} {nE cE : Nat} {lE : Int} {gE oE : Bool} {aF : Option Addr} {nF cF : Nat} {lF : Int} {gF oF : Bool} {x0 y0 x1 y1 x2 y2 : Rat} (k : Kept W W' g) (h : Corn W cb aA nA cA lA gA oA aB nB cB lB gB oB aC nC cC lC gC oC aD nD cD lD gD oD aE nE cE lE gE oE aF nF cF lF gF oF x0 y0 x1 y1 x2 y2) (hn : cb ≠ g) : Corn W' cb aA nA cA lA gA oA aB nB cB lB gB oB aC nC cC lC gC oC aD nD cD lD gD oD aE nE cE lE gE oE aF nF cF lF gF oF x0 y0 x1 y1 x2 y2 :=
 ⟨k.cb _ _ _ hn h.box, k.num _ _ h.n0, k.num _ _ h.m0, k.num _ _ h.n1, k.num _ _ h.m1, k.num _ _ h.n2, k.num _ _ h.m2⟩
theorem CB.at {W : World} {b t : Nat} {cs : Array Value} (h : CB W b cs t) (i : Nat) : W.cell? ⟨b, i, none⟩ = cs[i]? := by
 unfold CB at h
 simp [World.cell?, h]
theorem Kept.row {W : World} {g t : Nat} {cur : Array Value} (cs : Array Value) (hc : CB W g cur t) (hn : ∀ (i : Nat) (u : Value), cur[i]? = some u → NoU u) : Kept W (W.setRow g cs) g := by
 have other : ∀ k, k ≠ g → (W.setRow g cs).heap[k]? = W.heap[k]? := fun k h => setRow_other W g k cs h
 have cell : ∀ (p : Addr), p.block ≠ g → (W.setRow g cs).cell? p = W.cell? p := fun p h => World.cell?_of_block (w := W) (other p.block h)
 refine ⟨?_, ?_, ?_, ?_, ?_⟩
 · intro v x h
   obtain ⟨a', ns, c', low', neg', nn', rfl, hw, hr⟩ := h
   refine ⟨a', ns, c', low', neg', nn', rfl, ?_, hr⟩
   obtain ⟨⟨ad, cap, hs, hcap, hcc⟩, h2, h3⟩ := hw
   refine ⟨⟨ad, cap, hs, hcap, ?_⟩, h2, h3⟩
   rcases hcc with hcc | ⟨b, off, hb, hbs, hcc⟩
   · exact Or.inl hcc
   · refine Or.inr ⟨b, off, hb, by simpa using hbs, fun j hj => ?_⟩
     rw [cell ⟨b, off + j, none⟩ (fun e => by
       have e' : b = g := e
       subst e'
       have := hcc j hj
       rw [hc.at] at this
       exact hn _ _ this _ rfl)]
     exact hcc j hj
 · intro b cs' t' hne h
   unfold CB
   rw [other b hne]; exact h
 · intro b i x hne h
   rw [cell ⟨b, i, none⟩ hne]; exact h
 · intro N v h1 h2 h
   exact ⟨h.os, h.tape, h.output, by rw [setRow_size]; exact h.size, fun k hk => (other k (by omega)).trans (h.block k hk)⟩
 · intro h1 h2 j hj
   rw [cell ⟨1, j, none⟩ (fun e => h1 e.symm)]; exact h2 j hj
theorem may_acc {q s d : Rat} {h : Int} (hq : Bd h (-3222) q) (hs : Bd 2051 (-2148) s) (hd : Bd 1025 (-1074) d) (h0 : 3076 ≤ h) (h1 : h ≤ 60000) : Bd (h + 1) (-3222) (q + s * d) ∧ May (s * d) ∧ May (q + s * d) := by
 have b := hs.mul hd
 have c := hq.add (b.mono (h' := h) (l' := -3222) (by omega) (by omega))
 exact ⟨c, b.may (by omega) (by omega), c.may (by omega) (by omega)⟩
theorem bd2 {x : Rat} (h : Bd 1024 (-1074) x) : Bd 2051 (-2148) (2 * x) := by
 have : 2 * x = x + x := by grind
 rw [this]
 exact (h.add h).mono (by omega) (by omega)
set_option maxRecDepth 100000 in
set_option maxHeartbeats 4000000 in
theorem middle_any (ax ay bx by' cx cy : Nat) (w : World) (hT : Tab w) (hw : (Wfl ax ∧ Wfl ay) ∧ (Wfl bx ∧ Wfl by') ∧ Wfl cx ∧ Wfl cy) :
   Calls Tryz.prog 53 #[pv ax ay, pv bx by', pv cx cy] w fun e w' => ∃ aX nX cX lX gX oX aY nY cY lY gY oY aU nU cU lU gU oU, e = .returned (.tuple #[(.agg #[.slice aX nX cX, .int .i64 lX, .bool gX, .bool oX]), (.agg #[.slice aY nY cY, .int .i64 lY, .bool gY, .bool oY]), (.agg #[.slice aU nU cU, .int .i64 lU, .bool gU, .bool oU])]) ∧ IsNum w' (.agg #[.slice aX nX cX, .int .i64 lX, .bool gX, .bool oX]) (some (0 + (fval ax * fval ax + fval ay * fval ay) * (fval by' - fval cy) + (fval bx * fval bx + fval by' * fval by') * (fval cy - fval ay) + (fval cx * fval cx + fval cy * fval cy) * (fval ay - fval by'))) ∧ IsNum w' (.agg #[.slice aY nY cY, .int .i64 lY, .bool gY, .bool oY]) (some (0 + (fval ax * fval ax + fval ay * fval ay) * (-(fval bx - fval cx)) + (fval bx * fval bx + fval by' * fval by') * (-(fval cx - fval ax)) + (fval cx * fval cx + fval cy * fval cy) * (-(fval ax - fval bx)))) ∧ IsNum w' (.agg #[.slice aU nU cU, .int .i64 lU, .bool gU, .bool oU]) (some (0 + 2 * fval ax * (fval by' - fval cy) + 2 * fval bx * (fval cy - fval ay) + 2 * fval cx * (fval ay - fval by'))) ∧ Below w.heap.size w w' := by
 have HT : Hid (Tab w) := hT
 have HW : Hid ((Wfl ax ∧ Wfl ay) ∧ (Wfl bx ∧ Wfl by') ∧ Wfl cx ∧ Wfl cy) := hw
 have ba := fval_bd hw.1.1.2
 have ba' := fval_bd hw.1.2.2
 have bb := fval_bd hw.2.1.1.2
 have bb' := fval_bd hw.2.1.2.2
 have bc := fval_bd hw.2.2.1.2
 have bc' := fval_bd hw.2.2.2.2
 have HWy : Hid ((Wy (fval ax) ∧ Wy (fval ay)) ∧ (Wy (fval bx) ∧ Wy (fval by')) ∧ Wy (fval cx) ∧ Wy (fval cy)) := ⟨⟨ba.mono (by omega) (by omega), ba'.mono (by omega) (by omega)⟩, ⟨bb.mono (by omega) (by omega), bb'.mono (by omega) (by omega)⟩, bc.mono (by omega) (by omega), bc'.mono (by omega) (by omega)⟩
 have HDd : Hid ((Bd 1025 (-1074) (fval by' - fval cy) ∧ Bd 1025 (-1074) (-(fval bx - fval cx))) ∧ (Bd 1025 (-1074) (fval cy - fval ay) ∧ Bd 1025 (-1074) (-(fval cx - fval ax))) ∧ Bd 1025 (-1074) (fval ay - fval by') ∧ Bd 1025 (-1074) (-(fval ax - fval bx))) := ⟨⟨bb'.sub bc', (bb.sub bc).neg⟩, ⟨bc'.sub ba', (bc.sub ba).neg⟩, ba'.sub bb', (ba.sub bb).neg⟩
 have HMy : Hid ((May (fval bx - fval cx) ∧ May (fval by' - fval cy)) ∧ (May (fval cx - fval ax) ∧ May (fval cy - fval ay)) ∧ May (fval ax - fval bx) ∧ May (fval ay - fval by')) := ⟨⟨may_way hw.2.2.1.2 hw.2.1.1.2, may_way hw.2.2.2.2 hw.2.1.2.2⟩, ⟨may_way hw.1.1.2 hw.2.2.1.2, may_way hw.1.2.2 hw.2.2.2.2⟩, may_way hw.2.1.1.2 hw.1.1.2, may_way hw.2.1.2.2 hw.1.2.2⟩
 have HSz : Hid (Bd 2051 (-2148) (fval ax * fval ax + fval ay * fval ay) ∧ Bd 2051 (-2148) (fval bx * fval bx + fval by' * fval by') ∧ Bd 2051 (-2148) (fval cx * fval cx + fval cy * fval cy)) := ⟨Wy.sum HWy.out.1.1 HWy.out.1.1 HWy.out.1.2 HWy.out.1.2, Wy.sum HWy.out.2.1.1 HWy.out.2.1.1 HWy.out.2.1.2 HWy.out.2.1.2, Wy.sum HWy.out.2.2.1 HWy.out.2.2.1 HWy.out.2.2.2 HWy.out.2.2.2⟩
 have HS2 : Hid (Bd 2051 (-2148) (2 * fval ax) ∧ Bd 2051 (-2148) (2 * fval bx) ∧ Bd 2051 (-2148) (2 * fval cx)) := ⟨bd2 ba, bd2 bb, bd2 bc⟩
 have HM2 : Hid (May (2 * fval ax) ∧ May (2 * fval bx) ∧ May (2 * fval cx)) := ⟨HS2.out.1.may (by omega) (by omega), HS2.out.2.1.may (by omega) (by omega), HS2.out.2.2.may (by omega) (by omega)⟩
 have HAc0 : Hid (Bd 3076 (-3222) (0 : Rat) ∧ Bd 3077 (-3222) (0 + (fval ax * fval ax + fval ay * fval ay) * (fval by' - fval cy)) ∧ Bd 3078 (-3222) (0 + (fval ax * fval ax + fval ay * fval ay) * (fval by' - fval cy) + (fval bx * fval bx + fval by' * fval by') * (fval cy - fval ay))) := by
   have h1 := may_acc (bd_zero 3076 (-3222)) HSz.out.1 HDd.out.1.1 (by omega) (by omega)
   have h2 := may_acc h1.1 HSz.out.2.1 HDd.out.2.1.1 (by omega) (by omega)
   exact ⟨bd_zero _ _, h1.1, h2.1⟩
 have HAc1 : Hid (Bd 3076 (-3222) (0 : Rat) ∧ Bd 3077 (-3222) (0 + (fval ax * fval ax + fval ay * fval ay) * (-(fval bx - fval cx))) ∧ Bd 3078 (-3222) (0 + (fval ax * fval ax + fval ay * fval ay) * (-(fval bx - fval cx)) + (fval bx * fval bx + fval by' * fval by') * (-(fval cx - fval ax)))) := by
   have h1 := may_acc (bd_zero 3076 (-3222)) HSz.out.1 HDd.out.1.2 (by omega) (by omega)
   have h2 := may_acc h1.1 HSz.out.2.1 HDd.out.2.1.2 (by omega) (by omega)
   exact ⟨bd_zero _ _, h1.1, h2.1⟩
 have HAc2 : Hid (Bd 3076 (-3222) (0 : Rat) ∧ Bd 3077 (-3222) (0 + 2 * fval ax * (fval by' - fval cy)) ∧ Bd 3078 (-3222) (0 + 2 * fval ax * (fval by' - fval cy) + 2 * fval bx * (fval cy - fval ay))) := by
   have h1 := may_acc (bd_zero 3076 (-3222)) HS2.out.1 HDd.out.1.1 (by omega) (by omega)
   have h2 := may_acc h1.1 HS2.out.2.1 HDd.out.2.1.1 (by omega) (by omega)
   exact ⟨bd_zero _ _, h1.1, h2.1⟩
 clear hT hw ba ba' bb bb' bc bc'
 go_enter Tryz.func53, Tryz.ntmps53
 go_wp2_with fail
 refine (adder_is' _ (w.heap.size + 1 + 1 + 1 + 1 + 1 + 1) (by simp)).mono ?_
 rintro e w1 ⟨rfl, hw1⟩
 subst hw1
 go_wp2_with fail
 refine (adder_is' _ (w.heap.size + 1 + 1 + 1 + 1 + 1 + 1 + 1) (by simp)).mono ?_
 rintro e w1 ⟨rfl, hw1⟩
 subst hw1
 go_wp2_with fail
 refine (adder_is' _ (w.heap.size + 1 + 1 + 1 + 1 + 1 + 1 + 1 + 1) (by simp)).mono ?_
 rintro e w1 ⟨rfl, hw1⟩
 have HB1 : Hid (Below w.heap.size w w1) := by
   rw [hw1]
   exact (((((((((Below.refl _ w).alloc (Nat.le_refl _) _).alloc (by simp) _).alloc (by simp; omega) _).alloc (by simp; omega) _).alloc (by simp; omega) _).alloc (by simp; omega) _).alloc (by simp; omega) _).alloc (by simp; omega) _).alloc (by simp; omega) _
 have HB1p : Hid (B3 w w1.drew ax ay bx by' cx cy) := by
   rw [hw1]
   exact ⟨by go_simp, by go_simp, by go_simp, by go_simp, by go_simp, by go_simp, ((((((((((Below.refl _ w).alloc (Nat.le_refl _) _).alloc (by simp) _).alloc (by simp; omega) _).alloc (by simp; omega) _).alloc (by simp; omega) _).alloc (by simp; omega) _).alloc (by simp; omega) _).alloc (by simp; omega) _).alloc (by simp; omega) _).drew⟩
 have hX : (NB w1.drew (w.heap.size + 1 + 1 + 1) 0 ∧ NB w1.drew (w.heap.size + 1 + 1 + 1 + 1) 0 ∧ NB w1.drew (w.heap.size + 1 + 1 + 1 + 1 + 1) 0 ∧ NB w1.drew (w.heap.size + 1 + 1 + 1 + 1 + 1 + 1) 0 ∧ NB w1.drew (w.heap.size + 1 + 1 + 1 + 1 + 1 + 1 + 1) 0 ∧ NB w1.drew (w.heap.size + 1 + 1 + 1 + 1 + 1 + 1 + 1 + 1) 0) := by
   rw [hw1]
   have y0 : NB ((((w.alloc (.cells #[.float .f64 ax, .float .f64 ay] 24)).alloc (.cells #[.float .f64 bx, .float .f64 by'] 24)).alloc (.cells #[.float .f64 cx, .float .f64 cy] 24)).alloc (.cells #[.slice none 0 0, .int .i64 0, .bool false, .bool false] 49)) (w.heap.size + 1 + 1 + 1) 0 := by
     have := NB.zero (((w.alloc (.cells #[.float .f64 ax, .float .f64 ay] 24)).alloc (.cells #[.float .f64 bx, .float .f64 by'] 24)).alloc (.cells #[.float .f64 cx, .float .f64 cy] 24))
     simpa using this
   have y1 : NB (((((w.alloc (.cells #[.float .f64 ax, .float .f64 ay] 24)).alloc (.cells #[.float .f64 bx, .float .f64 by'] 24)).alloc (.cells #[.float .f64 cx, .float .f64 cy] 24)).alloc (.cells #[.slice none 0 0, .int .i64 0, .bool false, .bool false] 49)).alloc (.cells #[.slice none 0 0, .int .i64 0, .bool false, .bool false] 49)) (w.heap.size + 1 + 1 + 1 + 1) 0 := by
     have := NB.zero ((((w.alloc (.cells #[.float .f64 ax, .float .f64 ay] 24)).alloc (.cells #[.float .f64 bx, .float .f64 by'] 24)).alloc (.cells #[.float .f64 cx, .float .f64 cy] 24)).alloc (.cells #[.slice none 0 0, .int .i64 0, .bool false, .bool false] 49))
     simpa using this
   have y2 : NB ((((((w.alloc (.cells #[.float .f64 ax, .float .f64 ay] 24)).alloc (.cells #[.float .f64 bx, .float .f64 by'] 24)).alloc (.cells #[.float .f64 cx, .float .f64 cy] 24)).alloc (.cells #[.slice none 0 0, .int .i64 0, .bool false, .bool false] 49)).alloc (.cells #[.slice none 0 0, .int .i64 0, .bool false, .bool false] 49)).alloc (.cells #[.slice none 0 0, .int .i64 0, .bool false, .bool false] 49)) (w.heap.size + 1 + 1 + 1 + 1 + 1) 0 := by
     have := NB.zero (((((w.alloc (.cells #[.float .f64 ax, .float .f64 ay] 24)).alloc (.cells #[.float .f64 bx, .float .f64 by'] 24)).alloc (.cells #[.float .f64 cx, .float .f64 cy] 24)).alloc (.cells #[.slice none 0 0, .int .i64 0, .bool false, .bool false] 49)).alloc (.cells #[.slice none 0 0, .int .i64 0, .bool false, .bool false] 49))
     simpa using this
   have y3 : NB (((((((w.alloc (.cells #[.float .f64 ax, .float .f64 ay] 24)).alloc (.cells #[.float .f64 bx, .float .f64 by'] 24)).alloc (.cells #[.float .f64 cx, .float .f64 cy] 24)).alloc (.cells #[.slice none 0 0, .int .i64 0, .bool false, .bool false] 49)).alloc (.cells #[.slice none 0 0, .int .i64 0, .bool false, .bool false] 49)).alloc (.cells #[.slice none 0 0, .int .i64 0, .bool false, .bool false] 49)).alloc (.cells #[.slice none 0 0, .int .i64 0, .bool false, .bool false] 49)) (w.heap.size + 1 + 1 + 1 + 1 + 1 + 1) 0 := by
     have := NB.zero ((((((w.alloc (.cells #[.float .f64 ax, .float .f64 ay] 24)).alloc (.cells #[.float .f64 bx, .float .f64 by'] 24)).alloc (.cells #[.float .f64 cx, .float .f64 cy] 24)).alloc (.cells #[.slice none 0 0, .int .i64 0, .bool false, .bool false] 49)).alloc (.cells #[.slice none 0 0, .int .i64 0, .bool false, .bool false] 49)).alloc (.cells #[.slice none 0 0, .int .i64 0, .bool false, .bool false] 49))
     simpa using this
   have y4 : NB ((((((((w.alloc (.cells #[.float .f64 ax, .float .f64 ay] 24)).alloc (.cells #[.float .f64 bx, .float .f64 by'] 24)).alloc (.cells #[.float .f64 cx, .float .f64 cy] 24)).alloc (.cells #[.slice none 0 0, .int .i64 0, .bool false, .bool false] 49)).alloc (.cells #[.slice none 0 0, .int .i64 0, .bool false, .bool false] 49)).alloc (.cells #[.slice none 0 0, .int .i64 0, .bool false, .bool false] 49)).alloc (.cells #[.slice none 0 0, .int .i64 0, .bool false, .bool false] 49)).alloc (.cells #[.slice none 0 0, .int .i64 0, .bool false, .bool false] 49)) (w.heap.size + 1 + 1 + 1 + 1 + 1 + 1 + 1) 0 := by
     have := NB.zero (((((((w.alloc (.cells #[.float .f64 ax, .float .f64 ay] 24)).alloc (.cells #[.float .f64 bx, .float .f64 by'] 24)).alloc (.cells #[.float .f64 cx, .float .f64 cy] 24)).alloc (.cells #[.slice none 0 0, .int .i64 0, .bool false, .bool false] 49)).alloc (.cells #[.slice none 0 0, .int .i64 0, .bool false, .bool false] 49)).alloc (.cells #[.slice none 0 0, .int .i64 0, .bool false, .bool false] 49)).alloc (.cells #[.slice none 0 0, .int .i64 0, .bool false, .bool false] 49))
     simpa using this
   have y5 : NB (((((((((w.alloc (.cells #[.float .f64 ax, .float .f64 ay] 24)).alloc (.cells #[.float .f64 bx, .float .f64 by'] 24)).alloc (.cells #[.float .f64 cx, .float .f64 cy] 24)).alloc (.cells #[.slice none 0 0, .int .i64 0, .bool false, .bool false] 49)).alloc (.cells #[.slice none 0 0, .int .i64 0, .bool false, .bool false] 49)).alloc (.cells #[.slice none 0 0, .int .i64 0, .bool false, .bool false] 49)).alloc (.cells #[.slice none 0 0, .int .i64 0, .bool false, .bool false] 49)).alloc (.cells #[.slice none 0 0, .int .i64 0, .bool false, .bool false] 49)).alloc (.cells #[.slice none 0 0, .int .i64 0, .bool false, .bool false] 49)) (w.heap.size + 1 + 1 + 1 + 1 + 1 + 1 + 1 + 1) 0 := by
     have := NB.zero ((((((((w.alloc (.cells #[.float .f64 ax, .float .f64 ay] 24)).alloc (.cells #[.float .f64 bx, .float .f64 by'] 24)).alloc (.cells #[.float .f64 cx, .float .f64 cy] 24)).alloc (.cells #[.slice none 0 0, .int .i64 0, .bool false, .bool false] 49)).alloc (.cells #[.slice none 0 0, .int .i64 0, .bool false, .bool false] 49)).alloc (.cells #[.slice none 0 0, .int .i64 0, .bool false, .bool false] 49)).alloc (.cells #[.slice none 0 0, .int .i64 0, .bool false, .bool false] 49)).alloc (.cells #[.slice none 0 0, .int .i64 0, .bool false, .bool false] 49))
     simpa using this
   exact ⟨(NB.later (NB.later (NB.later (NB.later (NB.later y0 ((Below.refl _ _).alloc (Nat.le_refl _) _)) ((Below.refl _ _).alloc (Nat.le_refl _) _)) ((Below.refl _ _).alloc (Nat.le_refl _) _)) ((Below.refl _ _).alloc (Nat.le_refl _) _)) ((Below.refl _ _).alloc (Nat.le_refl _) _)).drew, (NB.later (NB.later (NB.later (NB.later y1 ((Below.refl _ _).alloc (Nat.le_refl _) _)) ((Below.refl _ _).alloc (Nat.le_refl _) _)) ((Below.refl _ _).alloc (Nat.le_refl _) _)) ((Below.refl _ _).alloc (Nat.le_refl _) _)).drew, (NB.later (NB.later (NB.later y2 ((Below.refl _ _).alloc (Nat.le_refl _) _)) ((Below.refl _ _).alloc (Nat.le_refl _) _)) ((Below.refl _ _).alloc (Nat.le_refl _) _)).drew, (NB.later (NB.later y3 ((Below.refl _ _).alloc (Nat.le_refl _) _)) ((Below.refl _ _).alloc (Nat.le_refl _) _)).drew, (NB.later y4 ((Below.refl _ _).alloc (Nat.le_refl _) _)).drew, y5.drew⟩
 clear hw1
 go_wp2_with fail
 refine wp_region_held_drew (S := (fun W => W.cell? ⟨w.heap.size, 0, none⟩ = some (.float .f64 ax) ∧ W.cell? ⟨w.heap.size, 1, none⟩ = some (.float .f64 ay) ∧ W.cell? ⟨w.heap.size + 1, 0, none⟩ = some (.float .f64 bx) ∧ W.cell? ⟨w.heap.size + 1, 1, none⟩ = some (.float .f64 by') ∧ W.cell? ⟨w.heap.size + 1 + 1, 0, none⟩ = some (.float .f64 cx) ∧ W.cell? ⟨w.heap.size + 1 + 1, 1, none⟩ = some (.float .f64 cy) ∧ Below w.heap.size w W)) (by kernel_rfl) ⟨HB1p.out.a0, HB1p.out.a1, HB1p.out.b0, HB1p.out.b1, HB1p.out.c0, HB1p.out.c1, HB1.out.drew⟩ (fun hS => ?_)
 refine takA (i := 0) (d := some 20) (v := .agg #[.float .f64 ax, .float .f64 ay]) hS ?_
 simp only [AP]
 refine takA (i := 2) (d := some 22) (v := .agg #[.float .f64 bx, .float .f64 by']) hS ?_
 simp only [AP]
 refine takA (i := 4) (d := some 24) (v := .agg #[.float .f64 cx, .float .f64 cy]) hS ?_
 simp only [AP]
 refine frame_named (fun A hA => ?_)
 refine draw1 (f := 1) (n := 4) (al := 7) (fun k => if k = 0 then 1 else if k = 1 then 3 else if k = 2 then 5 else 6) (fun (xb : Bool) (kb : Nat) => #[true, decide (1 ≤ kb), true, decide (2 ≤ kb), true, decide (3 ≤ kb), decide (4 ≤ kb), xb, false]) (fun (xb : Bool) (kb : Nat) (aa : Act) (W : World) => ∃ (ea e1 e2 e3 e4 : Value), aa = (((((A.put (some 12) ea).put (some 21) e1).put (some 23) e2).put (some 25) e3).put (some 26) e4) ∧ (W.cell? ⟨w.heap.size, 0, none⟩ = some (.float .f64 ax) ∧ W.cell? ⟨w.heap.size, 1, none⟩ = some (.float .f64 ay) ∧ W.cell? ⟨w.heap.size + 1, 0, none⟩ = some (.float .f64 bx) ∧ W.cell? ⟨w.heap.size + 1, 1, none⟩ = some (.float .f64 by') ∧ W.cell? ⟨w.heap.size + 1 + 1, 0, none⟩ = some (.float .f64 cx) ∧ W.cell? ⟨w.heap.size + 1 + 1, 1, none⟩ = some (.float .f64 cy) ∧ Below w.heap.size w W) ∧ (NB W (w.heap.size + 1 + 1 + 1) 0 ∧ NB W (w.heap.size + 1 + 1 + 1 + 1) 0 ∧ NB W (w.heap.size + 1 + 1 + 1 + 1 + 1) 0 ∧ NB W (w.heap.size + 1 + 1 + 1 + 1 + 1 + 1) 0 ∧ NB W (w.heap.size + 1 + 1 + 1 + 1 + 1 + 1 + 1) 0 ∧ NB W (w.heap.size + 1 + 1 + 1 + 1 + 1 + 1 + 1 + 1) 0) ∧ (xb = true → ∃ bb, ea = .pointer (some ⟨bb, 0, none⟩) ∧ CB W bb #[.slice none 0 0, .int .i64 0, .bool false, .bool false, .slice none 0 0, .int .i64 0, .bool false, .bool false, .slice none 0 0, .int .i64 0, .bool false, .bool false, .slice none 0 0, .int .i64 0, .bool false, .bool false, .slice none 0 0, .int .i64 0, .bool false, .bool false, .slice none 0 0, .int .i64 0, .bool false, .bool false] 109 ∧ w.heap.size + 1 + 1 + 1 + 1 + 1 + 1 + 1 + 1 < bb) ∧ (1 ≤ kb → PF W e1 (fval ax) (fval ay)) ∧ (2 ≤ kb → PF W e2 (fval bx) (fval by')) ∧ (3 ≤ kb → PF W e3 (fval cx) (fval cy)) ∧ (4 ≤ kb → ∃ aA nA cA lA gA oA aB nB cB lB gB oB aC nC cC lC gC oC aD nD cD lD gD oD aE nE cE lE gE oE aF nF cF lF gF oF, e4 = .agg #[.slice aA nA cA, .int .i64 lA, .bool gA, .bool oA, .slice aB nB cB, .int .i64 lB, .bool gB, .bool oB, .slice aC nC cC, .int .i64 lC, .bool gC, .bool oC, .slice aD nD cD, .int .i64 lD, .bool gD, .bool oD, .slice aE nE cE, .int .i64 lE, .bool gE, .bool oE, .slice aF nF cF, .int .i64 lF, .bool gF, .bool oF] ∧ IsNum W (.agg #[.slice aA nA cA, .int .i64 lA, .bool gA, .bool oA]) (some (fval ax)) ∧ IsNum W (.agg #[.slice aB nB cB, .int .i64 lB, .bool gB, .bool oB]) (some (fval ay)) ∧ IsNum W (.agg #[.slice aC nC cC, .int .i64 lC, .bool gC, .bool oC]) (some (fval bx)) ∧ IsNum W (.agg #[.slice aD nD cD, .int .i64 lD, .bool gD, .bool oD]) (some (fval by')) ∧ IsNum W (.agg #[.slice aE nE cE, .int .i64 lE, .bool gE, .bool oE]) (some (fval cx)) ∧ IsNum W (.agg #[.slice aF nF cF, .int .i64 lF, .bool gF, .bool oF]) (some (fval cy)))) ?_ ?_ ?_ ?_ ?_ ?_ 5 false 0 _ _ (by omega) (by decide) ?_
 · intro xb kb hk hx
   have h5 : kb = 0 ∨ kb = 1 ∨ kb = 2 ∨ kb = 3 ∨ kb = 4 := by omega
   rcases h5 with rfl | rfl | rfl | rfl | rfl <;> cases xb <;> first | exact absurd (hx rfl) (by decide) | (show _ = _; kernel_rfl)
 · intro xb kb hk
   have h5 : kb = 0 ∨ kb = 1 ∨ kb = 2 ∨ kb = 3 := by omega
   rcases h5 with rfl | rfl | rfl | rfl <;> cases xb <;> rfl
 · intro kb hk
   have h5 : kb = 0 ∨ kb = 1 ∨ kb = 2 ∨ kb = 3 ∨ kb = 4 := by omega
   rcases h5 with rfl | rfl | rfl | rfl | rfl <;> rfl
 · intro xb kb hk
   have h5 : kb = 0 ∨ kb = 1 ∨ kb = 2 ∨ kb = 3 := by omega
   rcases h5 with rfl | rfl | rfl | rfl
   · refine ⟨_, rfl, ?_⟩
     intro aa W hI K' hK
     obtain ⟨ea, e1, e2, e3, e4, rfl, hS, hX, hv, k1, k2, k3, k4⟩ := hI
     have HV : Hid (xb = true → ∃ bb, ea = .pointer (some ⟨bb, 0, none⟩) ∧ CB W bb #[.slice none 0 0, .int .i64 0, .bool false, .bool false, .slice none 0 0, .int .i64 0, .bool false, .bool false, .slice none 0 0, .int .i64 0, .bool false, .bool false, .slice none 0 0, .int .i64 0, .bool false, .bool false, .slice none 0 0, .int .i64 0, .bool false, .bool false, .slice none 0 0, .int .i64 0, .bool false, .bool false] 109 ∧ w.heap.size + 1 + 1 + 1 + 1 + 1 + 1 + 1 + 1 < bb) := hv
     clear hv k1 k2 k3 k4
     rw [hA]
     simp only [AP]
     go_simp
     go_wp2_with fail
     refine (placeOf_any ax ay _ (HT.out.later hS.2.2.2.2.2.2) HW.out.1.1.1 HW.out.1.2.1 HW.out.1.1.2 HW.out.1.2.2).mono ?_
     rintro e wx ⟨aZ, nZ, cZ, lZ, gZ, oZ, aY, nY, cY, lY, gY, oY, rfl, hnew, hnew', hbx⟩
     have hS2 : (fun W => W.cell? ⟨w.heap.size, 0, none⟩ = some (.float .f64 ax) ∧ W.cell? ⟨w.heap.size, 1, none⟩ = some (.float .f64 ay) ∧ W.cell? ⟨w.heap.size + 1, 0, none⟩ = some (.float .f64 bx) ∧ W.cell? ⟨w.heap.size + 1, 1, none⟩ = some (.float .f64 by') ∧ W.cell? ⟨w.heap.size + 1 + 1, 0, none⟩ = some (.float .f64 cx) ∧ W.cell? ⟨w.heap.size + 1 + 1, 1, none⟩ = some (.float .f64 cy) ∧ Below w.heap.size w W) wx := (kp6 hbx hS)
     go_wp2_with fail
     exact hK.out _ _ hS2 ⟨ea, _, e2, e3, e4, by rw [hA]; rfl, hS2, ⟨hX.1.later hbx, hX.2.1.later hbx, hX.2.2.1.later hbx, hX.2.2.2.1.later hbx, hX.2.2.2.2.1.later hbx, hX.2.2.2.2.2.later hbx⟩, fun h => (by obtain ⟨bb, h1, h2, h3⟩ := (HV.out h); exact ⟨bb, h1, h2.later hbx, h3⟩), fun _ => ⟨aZ, nZ, cZ, lZ, gZ, oZ, aY, nY, cY, lY, gY, oY, rfl, hnew, hnew'⟩, fun h => by omega, fun h => by omega, fun h => by omega⟩
   · refine ⟨_, rfl, ?_⟩
     intro aa W hI K' hK
     obtain ⟨ea, e1, e2, e3, e4, rfl, hS, hX, hv, k1, k2, k3, k4⟩ := hI
     have r1 := k1 (by omega)
     have HV : Hid (xb = true → ∃ bb, ea = .pointer (some ⟨bb, 0, none⟩) ∧ CB W bb #[.slice none 0 0, .int .i64 0, .bool false, .bool false, .slice none 0 0, .int .i64 0, .bool false, .bool false, .slice none 0 0, .int .i64 0, .bool false, .bool false, .slice none 0 0, .int .i64 0, .bool false, .bool false, .slice none 0 0, .int .i64 0, .bool false, .bool false, .slice none 0 0, .int .i64 0, .bool false, .bool false] 109 ∧ w.heap.size + 1 + 1 + 1 + 1 + 1 + 1 + 1 + 1 < bb) := hv
     clear hv k1 k2 k3 k4
     have R1 : Hid (PF W e1 (fval ax) (fval ay)) := r1
     clear r1
     rw [hA]
     simp only [AP]
     go_simp
     go_wp2_with fail
     refine (placeOf_any bx by' _ (HT.out.later hS.2.2.2.2.2.2) HW.out.2.1.1.1 HW.out.2.1.2.1 HW.out.2.1.1.2 HW.out.2.1.2.2).mono ?_
     rintro e wx ⟨aZ, nZ, cZ, lZ, gZ, oZ, aY, nY, cY, lY, gY, oY, rfl, hnew, hnew', hbx⟩
     have hS2 : (fun W => W.cell? ⟨w.heap.size, 0, none⟩ = some (.float .f64 ax) ∧ W.cell? ⟨w.heap.size, 1, none⟩ = some (.float .f64 ay) ∧ W.cell? ⟨w.heap.size + 1, 0, none⟩ = some (.float .f64 bx) ∧ W.cell? ⟨w.heap.size + 1, 1, none⟩ = some (.float .f64 by') ∧ W.cell? ⟨w.heap.size + 1 + 1, 0, none⟩ = some (.float .f64 cx) ∧ W.cell? ⟨w.heap.size + 1 + 1, 1, none⟩ = some (.float .f64 cy) ∧ Below w.heap.size w W) wx := (kp6 hbx hS)
     go_wp2_with fail
     exact hK.out _ _ hS2 ⟨ea, _, _, e3, e4, by rw [hA]; rfl, hS2, ⟨hX.1.later hbx, hX.2.1.later hbx, hX.2.2.1.later hbx, hX.2.2.2.1.later hbx, hX.2.2.2.2.1.later hbx, hX.2.2.2.2.2.later hbx⟩, fun h => (by obtain ⟨bb, h1, h2, h3⟩ := (HV.out h); exact ⟨bb, h1, h2.later hbx, h3⟩), fun _ => R1.out.later hbx, fun _ => ⟨aZ, nZ, cZ, lZ, gZ, oZ, aY, nY, cY, lY, gY, oY, rfl, hnew, hnew'⟩, fun h => by omega, fun h => by omega⟩
   · refine ⟨_, rfl, ?_⟩
     intro aa W hI K' hK
     obtain ⟨ea, e1, e2, e3, e4, rfl, hS, hX, hv, k1, k2, k3, k4⟩ := hI
     have r1 := k1 (by omega)
     have r2 := k2 (by omega)
     have HV : Hid (xb = true → ∃ bb, ea = .pointer (some ⟨bb, 0, none⟩) ∧ CB W bb #[.slice none 0 0, .int .i64 0, .bool false, .bool false, .slice none 0 0, .int .i64 0, .bool false, .bool false, .slice none 0 0, .int .i64 0, .bool false, .bool false, .slice none 0 0, .int .i64 0, .bool false, .bool false, .slice none 0 0, .int .i64 0, .bool false, .bool false, .slice none 0 0, .int .i64 0, .bool false, .bool false] 109 ∧ w.heap.size + 1 + 1 + 1 + 1 + 1 + 1 + 1 + 1 < bb) := hv
     clear hv k1 k2 k3 k4
     have R1 : Hid (PF W e1 (fval ax) (fval ay)) := r1
     clear r1
     have R2 : Hid (PF W e2 (fval bx) (fval by')) := r2
     clear r2
     rw [hA]
     simp only [AP]
     go_simp
     go_wp2_with fail
     refine (placeOf_any cx cy _ (HT.out.later hS.2.2.2.2.2.2) HW.out.2.2.1.1 HW.out.2.2.2.1 HW.out.2.2.1.2 HW.out.2.2.2.2).mono ?_
     rintro e wx ⟨aZ, nZ, cZ, lZ, gZ, oZ, aY, nY, cY, lY, gY, oY, rfl, hnew, hnew', hbx⟩
     have hS2 : (fun W => W.cell? ⟨w.heap.size, 0, none⟩ = some (.float .f64 ax) ∧ W.cell? ⟨w.heap.size, 1, none⟩ = some (.float .f64 ay) ∧ W.cell? ⟨w.heap.size + 1, 0, none⟩ = some (.float .f64 bx) ∧ W.cell? ⟨w.heap.size + 1, 1, none⟩ = some (.float .f64 by') ∧ W.cell? ⟨w.heap.size + 1 + 1, 0, none⟩ = some (.float .f64 cx) ∧ W.cell? ⟨w.heap.size + 1 + 1, 1, none⟩ = some (.float .f64 cy) ∧ Below w.heap.size w W) wx := (kp6 hbx hS)
     go_wp2_with fail
     exact hK.out _ _ hS2 ⟨ea, _, _, _, e4, by rw [hA]; rfl, hS2, ⟨hX.1.later hbx, hX.2.1.later hbx, hX.2.2.1.later hbx, hX.2.2.2.1.later hbx, hX.2.2.2.2.1.later hbx, hX.2.2.2.2.2.later hbx⟩, fun h => (by obtain ⟨bb, h1, h2, h3⟩ := (HV.out h); exact ⟨bb, h1, h2.later hbx, h3⟩), fun _ => R1.out.later hbx, fun _ => R2.out.later hbx, fun _ => ⟨aZ, nZ, cZ, lZ, gZ, oZ, aY, nY, cY, lY, gY, oY, rfl, hnew, hnew'⟩, fun h => by omega⟩
   · refine ⟨_, rfl, ?_⟩
     intro aa W hI K' hK
     obtain ⟨ea, e1, e2, e3, e4, rfl, hS, hX, hv, k1, k2, k3, k4⟩ := hI
     have r1 := k1 (by omega)
     have r2 := k2 (by omega)
     have r3 := k3 (by omega)
     have HV : Hid (xb = true → ∃ bb, ea = .pointer (some ⟨bb, 0, none⟩) ∧ CB W bb #[.slice none 0 0, .int .i64 0, .bool false, .bool false, .slice none 0 0, .int .i64 0, .bool false, .bool false, .slice none 0 0, .int .i64 0, .bool false, .bool false, .slice none 0 0, .int .i64 0, .bool false, .bool false, .slice none 0 0, .int .i64 0, .bool false, .bool false, .slice none 0 0, .int .i64 0, .bool false, .bool false] 109 ∧ w.heap.size + 1 + 1 + 1 + 1 + 1 + 1 + 1 + 1 < bb) := hv
     clear hv k1 k2 k3 k4
     have s1 := r1
     obtain ⟨aA, nA, cA, lA, gA, oA, aB, nB, cB, lB, gB, oB, rfl, hnA, hnB⟩ := s1
     have s2 := r2
     obtain ⟨aC, nC, cC, lC, gC, oC, aD, nD, cD, lD, gD, oD, rfl, hnC, hnD⟩ := s2
     have s3 := r3
     obtain ⟨aE, nE, cE, lE, gE, oE, aF, nF, cF, lF, gF, oF, rfl, hnE, hnF⟩ := s3
     rw [hA]
     simp only [AP]
     go_simp
     go_wp2_with fail
     have hbx : Below W.heap.size W W := Below.refl _ _
     have hS2 := hS
     exact hK.out _ _ hS2 ⟨ea, _, _, _, _, by rw [hA]; rfl, hS2, ⟨hX.1.later hbx, hX.2.1.later hbx, hX.2.2.1.later hbx, hX.2.2.2.1.later hbx, hX.2.2.2.2.1.later hbx, hX.2.2.2.2.2.later hbx⟩, fun h => (by obtain ⟨bb, h1, h2, h3⟩ := (HV.out h); exact ⟨bb, h1, h2.later hbx, h3⟩), fun _ => r1.later hbx, fun _ => r2.later hbx, fun _ => r3.later hbx, fun _ => ⟨aA, nA, cA, lA, gA, oA, aB, nB, cB, lB, gB, oB, aC, nC, cC, lC, gC, oC, aD, nD, cD, lD, gD, oD, aE, nE, cE, lE, gE, oE, aF, nF, cF, lF, gF, oF, rfl, hnA, hnB, hnC, hnD, hnE, hnF⟩⟩
 · intro kb hk
   refine ⟨_, rfl, ?_⟩
   intro aa W hI K' hK
   obtain ⟨ea, e1, e2, e3, e4, rfl, hS, hX, hv, k1, k2, k3, k4⟩ := hI
   have HK : Hid ((1 ≤ kb → PF W e1 (fval ax) (fval ay)) ∧ (2 ≤ kb → PF W e2 (fval bx) (fval by')) ∧ (3 ≤ kb → PF W e3 (fval cx) (fval cy)) ∧ (4 ≤ kb → ∃ aA nA cA lA gA oA aB nB cB lB gB oB aC nC cC lC gC oC aD nD cD lD gD oD aE nE cE lE gE oE aF nF cF lF gF oF, e4 = .agg #[.slice aA nA cA, .int .i64 lA, .bool gA, .bool oA, .slice aB nB cB, .int .i64 lB, .bool gB, .bool oB, .slice aC nC cC, .int .i64 lC, .bool gC, .bool oC, .slice aD nD cD, .int .i64 lD, .bool gD, .bool oD, .slice aE nE cE, .int .i64 lE, .bool gE, .bool oE, .slice aF nF cF, .int .i64 lF, .bool gF, .bool oF] ∧ IsNum W (.agg #[.slice aA nA cA, .int .i64 lA, .bool gA, .bool oA]) (some (fval ax)) ∧ IsNum W (.agg #[.slice aB nB cB, .int .i64 lB, .bool gB, .bool oB]) (some (fval ay)) ∧ IsNum W (.agg #[.slice aC nC cC, .int .i64 lC, .bool gC, .bool oC]) (some (fval bx)) ∧ IsNum W (.agg #[.slice aD nD cD, .int .i64 lD, .bool gD, .bool oD]) (some (fval by')) ∧ IsNum W (.agg #[.slice aE nE cE, .int .i64 lE, .bool gE, .bool oE]) (some (fval cx)) ∧ IsNum W (.agg #[.slice aF nF cF, .int .i64 lF, .bool gF, .bool oF]) (some (fval cy)))) := ⟨k1, k2, k3, k4⟩
   clear hv k1 k2 k3 k4
   have hbx : Below W.heap.size W (W.alloc (.cells #[.slice none 0 0, .int .i64 0, .bool false, .bool false, .slice none 0 0, .int .i64 0, .bool false, .bool false, .slice none 0 0, .int .i64 0, .bool false, .bool false, .slice none 0 0, .int .i64 0, .bool false, .bool false, .slice none 0 0, .int .i64 0, .bool false, .bool false, .slice none 0 0, .int .i64 0, .bool false, .bool false] 109)) := (Below.refl _ W).alloc (Nat.le_refl _) _
   have hlt2 : w.heap.size + 1 + 1 + 1 + 1 + 1 + 1 + 1 + 1 < W.heap.size := hX.2.2.2.2.2.lt
   have hS2 : (fun W => W.cell? ⟨w.heap.size, 0, none⟩ = some (.float .f64 ax) ∧ W.cell? ⟨w.heap.size, 1, none⟩ = some (.float .f64 ay) ∧ W.cell? ⟨w.heap.size + 1, 0, none⟩ = some (.float .f64 bx) ∧ W.cell? ⟨w.heap.size + 1, 1, none⟩ = some (.float .f64 by') ∧ W.cell? ⟨w.heap.size + 1 + 1, 0, none⟩ = some (.float .f64 cx) ∧ W.cell? ⟨w.heap.size + 1 + 1, 1, none⟩ = some (.float .f64 cy) ∧ Below w.heap.size w W) (W.alloc (.cells #[.slice none 0 0, .int .i64 0, .bool false, .bool false, .slice none 0 0, .int .i64 0, .bool false, .bool false, .slice none 0 0, .int .i64 0, .bool false, .bool false, .slice none 0 0, .int .i64 0, .bool false, .bool false, .slice none 0 0, .int .i64 0, .bool false, .bool false, .slice none 0 0, .int .i64 0, .bool false, .bool false] 109)) := (kp6 hbx hS)
   rw [hA]
   simp only [AP]
   go_simp
   go_wp2_with fail
   exact hK.out _ _ hS2 ⟨_, e1, e2, e3, e4, by rw [hA]; rfl, hS2, ⟨hX.1.later hbx, hX.2.1.later hbx, hX.2.2.1.later hbx, hX.2.2.2.1.later hbx, hX.2.2.2.2.1.later hbx, hX.2.2.2.2.2.later hbx⟩, fun _ => ⟨W.heap.size, rfl, CB.new W _ _, hlt2⟩, fun h => (HK.out.1 h).later hbx, fun h => (HK.out.2.1 h).later hbx, fun h => (HK.out.2.2.1 h).later hbx, fun h => (by obtain ⟨aA, nA, cA, lA, gA, oA, aB, nB, cB, lB, gB, oB, aC, nC, cC, lC, gC, oC, aD, nD, cD, lD, gD, oD, aE, nE, cE, lE, gE, oE, aF, nF, cF, lF, gF, oF, h0, h1, h2, h3, h4, h5, h6⟩ := (HK.out.2.2.2 h); exact ⟨aA, nA, cA, lA, gA, oA, aB, nB, cB, lB, gB, oB, aC, nC, cC, lC, gC, oC, aD, nD, cD, lD, gD, oD, aE, nE, cE, lE, gE, oE, aF, nF, cF, lF, gF, oF, h0, h1.later hbx, h2.later hbx, h3.later hbx, h4.later hbx, h5.later hbx, h6.later hbx⟩)⟩
 · intro aa W hI
   obtain ⟨ea, e1, e2, e3, e4, rfl, hS, hX, hv, k1, k2, k3, k4⟩ := hI
   replace hv := hv rfl
   have r1 := k1 (by omega)
   have r2 := k2 (by omega)
   have r3 := k3 (by omega)
   have r4 := k4 (by omega)
   clear k1 k2 k3 k4
   obtain ⟨cb, rfl, hNB, hlow⟩ := hv
   obtain ⟨aA, nA, cA, lA, gA, oA, aB, nB, cB, lB, gB, oB, aC, nC, cC, lC, gC, oC, aD, nD, cD, lD, gD, oD, aE, nE, cE, lE, gE, oE, aF, nF, cF, lF, gF, oF, rfl, hnA, hnB, hnC, hnD, hnE, hnF⟩ := r4
   clear r1 r2 r3
   subst hA
   simp only [AP]
   have hkx : Kept W (W.setRow cb #[.slice aA nA cA, .int .i64 lA, .bool gA, .bool oA, .slice aB nB cB, .int .i64 lB, .bool gB, .bool oB, .slice aC nC cC, .int .i64 lC, .bool gC, .bool oC, .slice aD nD cD, .int .i64 lD, .bool gD, .bool oD, .slice aE nE cE, .int .i64 lE, .bool gE, .bool oE, .slice aF nF cF, .int .i64 lF, .bool gF, .bool oF]) cb := Kept.row #[.slice aA nA cA, .int .i64 lA, .bool gA, .bool oA, .slice aB nB cB, .int .i64 lB, .bool gB, .bool oB, .slice aC nC cC, .int .i64 lC, .bool gC, .bool oC, .slice aD nD cD, .int .i64 lD, .bool gD, .bool oD, .slice aE nE cE, .int .i64 lE, .bool gE, .bool oE, .slice aF nF cF, .int .i64 lF, .bool gF, .bool oF] hNB (noU24 none 0 0 0 false false none 0 0 0 false false none 0 0 0 false false none 0 0 0 false false none 0 0 0 false false none 0 0 0 false false)
   have hC24 : CB (W.setRow cb #[.slice aA nA cA, .int .i64 lA, .bool gA, .bool oA, .slice aB nB cB, .int .i64 lB, .bool gB, .bool oB, .slice aC nC cC, .int .i64 lC, .bool gC, .bool oC, .slice aD nD cD, .int .i64 lD, .bool gD, .bool oD, .slice aE nE cE, .int .i64 lE, .bool gE, .bool oE, .slice aF nF cF, .int .i64 lF, .bool gF, .bool oF]) cb #[.slice aA nA cA, .int .i64 lA, .bool gA, .bool oA, .slice aB nB cB, .int .i64 lB, .bool gB, .bool oB, .slice aC nC cC, .int .i64 lC, .bool gC, .bool oC, .slice aD nD cD, .int .i64 lD, .bool gD, .bool oD, .slice aE nE cE, .int .i64 lE, .bool gE, .bool oE, .slice aF nF cF, .int .i64 lF, .bool gF, .bool oF] 109 := setRow_heap _ _ _ _ _ _ hNB
   have hS2 : (fun W => W.cell? ⟨w.heap.size, 0, none⟩ = some (.float .f64 ax) ∧ W.cell? ⟨w.heap.size, 1, none⟩ = some (.float .f64 ay) ∧ W.cell? ⟨w.heap.size + 1, 0, none⟩ = some (.float .f64 bx) ∧ W.cell? ⟨w.heap.size + 1, 1, none⟩ = some (.float .f64 by') ∧ W.cell? ⟨w.heap.size + 1 + 1, 0, none⟩ = some (.float .f64 cx) ∧ W.cell? ⟨w.heap.size + 1 + 1, 1, none⟩ = some (.float .f64 cy) ∧ Below w.heap.size w W) (W.setRow cb #[.slice aA nA cA, .int .i64 lA, .bool gA, .bool oA, .slice aB nB cB, .int .i64 lB, .bool gB, .bool oB, .slice aC nC cC, .int .i64 lC, .bool gC, .bool oC, .slice aD nD cD, .int .i64 lD, .bool gD, .bool oD, .slice aE nE cE, .int .i64 lE, .bool gE, .bool oE, .slice aF nF cF, .int .i64 lF, .bool gF, .bool oF]) := ⟨hkx.cell _ _ _ (by omega) hS.1, hkx.cell _ _ _ (by omega) hS.2.1, hkx.cell _ _ _ (by omega) hS.2.2.1, hkx.cell _ _ _ (by omega) hS.2.2.2.1, hkx.cell _ _ _ (by omega) hS.2.2.2.2.1, hkx.cell _ _ _ (by omega) hS.2.2.2.2.2.1, hkx.bel _ _ (by omega) hS.2.2.2.2.2.2.size hS.2.2.2.2.2.2⟩
   refine calA 8 fun KF hK => ?_
   rw [if_pos (by rfl)]
   refine wp_store_row 109 _ _ rfl cb #[.slice aA nA cA, .int .i64 lA, .bool gA, .bool oA, .slice aB nB cB, .int .i64 lB, .bool gB, .bool oB, .slice aC nC cC, .int .i64 lC, .bool gC, .bool oC, .slice aD nD cD, .int .i64 lD, .bool gD, .bool oD, .slice aE nE cE, .int .i64 lE, .bool gE, .bool oE, .slice aF nF cF, .int .i64 lF, .bool gF, .bool oF] (by rfl) (by rfl) 109 _ hNB (by kernel_rfl) rfl (by simp [Value.oneCell']) ?_
   refine hK.out _ _ hS2 ?_
   clear hS hS2 hK KF
   intro hS
   try simp only [Act.put]
   try simp only [List.setIfInBounds_toArray, List.set_cons_zero, List.set_cons_succ]
   refine wpAnyH_done (by kernel_rfl) ?_ _
   generalize (W.setRow cb #[.slice aA nA cA, .int .i64 lA, .bool gA, .bool oA, .slice aB nB cB, .int .i64 lB, .bool gB, .bool oB, .slice aC nC cC, .int .i64 lC, .bool gC, .bool oC, .slice aD nD cD, .int .i64 lD, .bool gD, .bool oD, .slice aE nE cE, .int .i64 lE, .bool gE, .bool oE, .slice aF nF cF, .int .i64 lF, .bool gF, .bool oF]) = WL at *
   have hK24 := hkx
   clear hkx
   have HL : Hid (Corn WL cb aA nA cA lA gA oA aB nB cB lB gB oB aC nC cC lC gC oC aD nD cD lD gD oD aE nE cE lE gE oE aF nF cF lF gF oF (fval ax) (fval ay) (fval bx) (fval by') (fval cx) (fval cy) ∧ (NB WL (w.heap.size + 1 + 1 + 1) 0 ∧ NB WL (w.heap.size + 1 + 1 + 1 + 1) 0 ∧ NB WL (w.heap.size + 1 + 1 + 1 + 1 + 1) 0 ∧ NB WL (w.heap.size + 1 + 1 + 1 + 1 + 1 + 1) 0 ∧ NB WL (w.heap.size + 1 + 1 + 1 + 1 + 1 + 1 + 1) 0 ∧ NB WL (w.heap.size + 1 + 1 + 1 + 1 + 1 + 1 + 1 + 1) 0) ∧ w.heap.size + 1 + 1 + 1 + 1 + 1 + 1 + 1 + 1 < cb ∧ Below w.heap.size w WL) := ⟨⟨hC24, hK24.num _ _ hnA, hK24.num _ _ hnB, hK24.num _ _ hnC, hK24.num _ _ hnD, hK24.num _ _ hnE, hK24.num _ _ hnF⟩, ⟨hK24.nb hX.1 (by omega), hK24.nb hX.2.1 (by omega), hK24.nb hX.2.2.1 (by omega), hK24.nb hX.2.2.2.1 (by omega), hK24.nb hX.2.2.2.2.1 (by omega), hK24.nb hX.2.2.2.2.2 (by omega)⟩, hlow, hS.2.2.2.2.2.2⟩
   clear hC24 hK24 hS hNB hX hnA hnB hnC hnD hnE hnF
   have hrange : WL.rangeAt cb 0 [.slice aA nA cA, .int .i64 lA, .bool gA, .bool oA, .slice aB nB cB, .int .i64 lB, .bool gB, .bool oB, .slice aC nC cC, .int .i64 lC, .bool gC, .bool oC, .slice aD nD cD, .int .i64 lD, .bool gD, .bool oD, .slice aE nE cE, .int .i64 lE, .bool gE, .bool oE, .slice aF nF cF, .int .i64 lF, .bool gF, .bool oF] := fun j v hv => by
     rw [Nat.zero_add, HL.out.1.box.at]
     simpa using hv
   have wp0 : IntKind.i64.wrap 0 = 0 := by decide
   have wp1 : IntKind.i64.wrap 1 = 1 := by decide
   have wp2 : IntKind.i64.wrap 2 = 2 := by decide
   have wp3 : IntKind.i64.wrap 3 = 3 := by decide
   have wp4 : IntKind.i64.wrap 4 = 4 := by decide
   have wp5 : IntKind.i64.wrap 5 = 5 := by decide
   have ix0 : ∀ w, (Instr.index 109 (.agg #[.slice aA nA cA, .int .i64 lA, .bool gA, .bool oA, .slice aB nB cB, .int .i64 lB, .bool gB, .bool oB, .slice aC nC cC, .int .i64 lC, .bool gC, .bool oC, .slice aD nD cD, .int .i64 lD, .bool gD, .bool oD, .slice aE nE cE, .int .i64 lE, .bool gE, .bool oE, .slice aF nF cF, .int .i64 lF, .bool gF, .bool oF]) (.int .i64 0)).run Tryz.prog w = .ok (.agg #[.slice aA nA cA, .int .i64 lA, .bool gA, .bool oA, .slice aB nB cB, .int .i64 lB, .bool gB, .bool oB]) w := fun _ => by kernel_rfl
   have ix1 : ∀ w, (Instr.index 109 (.agg #[.slice aA nA cA, .int .i64 lA, .bool gA, .bool oA, .slice aB nB cB, .int .i64 lB, .bool gB, .bool oB, .slice aC nC cC, .int .i64 lC, .bool gC, .bool oC, .slice aD nD cD, .int .i64 lD, .bool gD, .bool oD, .slice aE nE cE, .int .i64 lE, .bool gE, .bool oE, .slice aF nF cF, .int .i64 lF, .bool gF, .bool oF]) (.int .i64 1)).run Tryz.prog w = .ok (.agg #[.slice aC nC cC, .int .i64 lC, .bool gC, .bool oC, .slice aD nD cD, .int .i64 lD, .bool gD, .bool oD]) w := fun _ => by kernel_rfl
   have ix2 : ∀ w, (Instr.index 109 (.agg #[.slice aA nA cA, .int .i64 lA, .bool gA, .bool oA, .slice aB nB cB, .int .i64 lB, .bool gB, .bool oB, .slice aC nC cC, .int .i64 lC, .bool gC, .bool oC, .slice aD nD cD, .int .i64 lD, .bool gD, .bool oD, .slice aE nE cE, .int .i64 lE, .bool gE, .bool oE, .slice aF nF cF, .int .i64 lF, .bool gF, .bool oF]) (.int .i64 2)).run Tryz.prog w = .ok (.agg #[.slice aE nE cE, .int .i64 lE, .bool gE, .bool oE, .slice aF nF cF, .int .i64 lF, .bool gF, .bool oF]) w := fun _ => by kernel_rfl
   have HRG : Hid (WL.rangeAt cb 0 [.slice aA nA cA, .int .i64 lA, .bool gA, .bool oA, .slice aB nB cB, .int .i64 lB, .bool gB, .bool oB, .slice aC nC cC, .int .i64 lC, .bool gC, .bool oC, .slice aD nD cD, .int .i64 lD, .bool gD, .bool oD, .slice aE nE cE, .int .i64 lE, .bool gE, .bool oE, .slice aF nF cF, .int .i64 lF, .bool gF, .bool oF]) := hrange
   clear hrange
   go_upto_region 3 with fail
   refine wp_region_lit ?_
   refine wpList_load_mid rfl 109 _ rfl cb 0 (by rfl) [.slice aA nA cA, .int .i64 lA, .bool gA, .bool oA, .slice aB nB cB, .int .i64 lB, .bool gB, .bool oB, .slice aC nC cC, .int .i64 lC, .bool gC, .bool oC, .slice aD nD cD, .int .i64 lD, .bool gD, .bool oD, .slice aE nE cE, .int .i64 lE, .bool gE, .bool oE, .slice aF nF cF, .int .i64 lF, .bool gF, .bool oF] (.array 3 52) HRG.out (by kernel_rfl) rfl (by kernel_rfl) ?_
   simp only [AP]
   clear HRG
   go_wp2_with fail
   go_loopw [28] (fun i wr => ∃ QX QY QW : Rat, ((i = .int .i64 0 ∧ QX = 0 ∧ QY = 0 ∧ QW = 0) ∨ (i = .int .i64 1 ∧ QX = (0 + (fval ax * fval ax + fval ay * fval ay) * (fval by' - fval cy)) ∧ QY = (0 + (fval ax * fval ax + fval ay * fval ay) * (-(fval bx - fval cx))) ∧ QW = (0 + 2 * fval ax * (fval by' - fval cy))) ∨ (i = .int .i64 2 ∧ QX = (0 + (fval ax * fval ax + fval ay * fval ay) * (fval by' - fval cy) + (fval bx * fval bx + fval by' * fval by') * (fval cy - fval ay)) ∧ QY = (0 + (fval ax * fval ax + fval ay * fval ay) * (-(fval bx - fval cx)) + (fval bx * fval bx + fval by' * fval by') * (-(fval cx - fval ax))) ∧ QW = (0 + 2 * fval ax * (fval by' - fval cy) + 2 * fval bx * (fval cy - fval ay))) ∨ (i = .int .i64 3 ∧ QX = (0 + (fval ax * fval ax + fval ay * fval ay) * (fval by' - fval cy) + (fval bx * fval bx + fval by' * fval by') * (fval cy - fval ay) + (fval cx * fval cx + fval cy * fval cy) * (fval ay - fval by')) ∧ QY = (0 + (fval ax * fval ax + fval ay * fval ay) * (-(fval bx - fval cx)) + (fval bx * fval bx + fval by' * fval by') * (-(fval cx - fval ax)) + (fval cx * fval cx + fval cy * fval cy) * (-(fval ax - fval bx))) ∧ QW = (0 + 2 * fval ax * (fval by' - fval cy) + 2 * fval bx * (fval cy - fval ay) + 2 * fval cx * (fval ay - fval by')))) ∧ Hid (Corn wr cb aA nA cA lA gA oA aB nB cB lB gB oB aC nC cC lC gC oC aD nD cD lD gD oD aE nE cE lE gE oE aF nF cF lF gF oF (fval ax) (fval ay) (fval bx) (fval by') (fval cx) (fval cy) ∧ (NB wr (w.heap.size + 1 + 1 + 1) QX ∧ NB wr (w.heap.size + 1 + 1 + 1 + 1) QY ∧ NB wr (w.heap.size + 1 + 1 + 1 + 1 + 1) QW ∧ NB wr (w.heap.size + 1 + 1 + 1 + 1 + 1 + 1) QX ∧ NB wr (w.heap.size + 1 + 1 + 1 + 1 + 1 + 1 + 1) QY ∧ NB wr (w.heap.size + 1 + 1 + 1 + 1 + 1 + 1 + 1 + 1) QW) ∧ w.heap.size + 1 + 1 + 1 + 1 + 1 + 1 + 1 + 1 < cb ∧ Below w.heap.size w wr)) (fun i _ => 3 - (intOf i).toNat)
   case atStart => exact ⟨_, _, _, Or.inl ⟨rfl, rfl, rfl, rfl⟩, HL.out⟩
   case round =>
     obtain ⟨QX, QY, QW, hcase, hB⟩ := hrel
     clear HL
     rcases hcase with ⟨rfl, rfl, rfl, rfl⟩ | ⟨rfl, rfl, rfl, rfl⟩ | ⟨rfl, rfl, rfl, rfl⟩ | ⟨rfl, rfl, rfl, rfl⟩
     · have hlr : Hid (w.heap.size + 1 + 1 + 1 + 1 + 1 + 1 + 1 + 1 < wr.heap.size) := hB.out.2.1.2.2.2.2.2.lt
       obtain ⟨W1, hW1⟩ : ∃ W1, W1 = wr.alloc (.cells #[.slice aA nA cA, .int .i64 lA, .bool gA, .bool oA, .slice aB nB cB, .int .i64 lB, .bool gB, .bool oB] 52) := ⟨_, rfl⟩
       have hb1 : Below wr.heap.size wr W1.drew := by rw [hW1]; exact ((Below.refl _ wr).alloc (Nat.le_refl _) _).drew
       have hB1 : Below w.heap.size w W1.drew := below_step hB.out.2.2.2 hb1
       have hltc := hB.out.1.box.lt
       have hlow := hB.out.2.2.1
       have hX : (Corn W1.drew cb aA nA cA lA gA oA aB nB cB lB gB oB aC nC cC lC gC oC aD nD cD lD gD oD aE nE cE lE gE oE aF nF cF lF gF oF (fval ax) (fval ay) (fval bx) (fval by') (fval cx) (fval cy) ∧ NB W1.drew (w.heap.size + 1 + 1 + 1) 0 ∧ NB W1.drew (w.heap.size + 1 + 1 + 1 + 1) 0 ∧ NB W1.drew (w.heap.size + 1 + 1 + 1 + 1 + 1) 0 ∧ NB W1.drew (w.heap.size + 1 + 1 + 1 + 1 + 1 + 1) 0 ∧ NB W1.drew (w.heap.size + 1 + 1 + 1 + 1 + 1 + 1 + 1) 0 ∧ NB W1.drew (w.heap.size + 1 + 1 + 1 + 1 + 1 + 1 + 1 + 1) 0 ∧ PB W1.drew wr.heap.size (fval ax) (fval ay)) := ⟨hB.out.1.later hb1, hB.out.2.1.1.later hb1, hB.out.2.1.2.1.later hb1, hB.out.2.1.2.2.1.later hb1, hB.out.2.1.2.2.2.1.later hb1, hB.out.2.1.2.2.2.2.1.later hb1, hB.out.2.1.2.2.2.2.2.later hb1, ⟨⟨aA, nA, cA, lA, gA, oA, aB, nB, cB, lB, gB, oB, by rw [hW1]; exact (CB.new wr _ _).drew, (hB.out.1.n0).later hb1, (hB.out.1.m0).later hb1⟩⟩⟩
       have z8 := hX.1.box.cell 8 (by simp)
       have z9 := hX.1.box.cell 9 (by simp)
       have z10 := hX.1.box.cell 10 (by simp)
       have z11 := hX.1.box.cell 11 (by simp)
       have z12 := hX.1.box.cell 12 (by simp)
       have z13 := hX.1.box.cell 13 (by simp)
       have z14 := hX.1.box.cell 14 (by simp)
       have z15 := hX.1.box.cell 15 (by simp)
       have z16 := hX.1.box.cell 16 (by simp)
       have z17 := hX.1.box.cell 17 (by simp)
       have z18 := hX.1.box.cell 18 (by simp)
       have z19 := hX.1.box.cell 19 (by simp)
       have z20 := hX.1.box.cell 20 (by simp)
       have z21 := hX.1.box.cell 21 (by simp)
       have z22 := hX.1.box.cell 22 (by simp)
       have z23 := hX.1.box.cell 23 (by simp)
       have zp : W1.drew.cell? ⟨wr.heap.size, 0, none⟩ = some (.slice aA nA cA) := by rw [hW1]; go_simp
       go_wp2_with fail
       rw [← hW1]
       clear hW1 hb1
       refine wp_region_held_drew (S := (fun W => W.cell? ⟨cb, 8, none⟩ = some (.slice aC nC cC) ∧ W.cell? ⟨cb, 9, none⟩ = some (.int .i64 lC) ∧ W.cell? ⟨cb, 10, none⟩ = some (.bool gC) ∧ W.cell? ⟨cb, 11, none⟩ = some (.bool oC) ∧ W.cell? ⟨cb, 12, none⟩ = some (.slice aD nD cD) ∧ W.cell? ⟨cb, 13, none⟩ = some (.int .i64 lD) ∧ W.cell? ⟨cb, 14, none⟩ = some (.bool gD) ∧ W.cell? ⟨cb, 15, none⟩ = some (.bool oD) ∧ W.cell? ⟨cb, 16, none⟩ = some (.slice aE nE cE) ∧ W.cell? ⟨cb, 17, none⟩ = some (.int .i64 lE) ∧ W.cell? ⟨cb, 18, none⟩ = some (.bool gE) ∧ W.cell? ⟨cb, 19, none⟩ = some (.bool oE) ∧ W.cell? ⟨cb, 20, none⟩ = some (.slice aF nF cF) ∧ W.cell? ⟨cb, 21, none⟩ = some (.int .i64 lF) ∧ W.cell? ⟨cb, 22, none⟩ = some (.bool gF) ∧ W.cell? ⟨cb, 23, none⟩ = some (.bool oF) ∧ W.cell? ⟨wr.heap.size, 0, none⟩ = some (.slice aA nA cA) ∧ Below w.heap.size w W)) (by kernel_rfl) ⟨z8, z9, z10, z11, z12, z13, z14, z15, z16, z17, z18, z19, z20, z21, z22, z23, zp, hB1⟩ (fun hS => ?_)
       refine takA (i := 0) (d := some 32) (v := .int .i64 0) hS ?_
       simp only [AP]
       refine takA (i := 1) (d := some 33) (v := .int .i64 1) hS ?_
       simp only [AP]
       refine takA (i := 2) (d := some 34) (v := .int .i64 1) hS ?_
       simp only [AP]
       refine takA (i := 3) (d := some 35) (v := .pointer (some ⟨cb, 8, none⟩)) hS ?_
       simp only [AP]
       refine takA (i := 4) (d := some 36) (v := .agg #[.slice aC nC cC, .int .i64 lC, .bool gC, .bool oC, .slice aD nD cD, .int .i64 lD, .bool gD, .bool oD]) hS ?_
       simp only [AP]
       refine takA (i := 5) (d := some 37) (v := .int .i64 0) hS ?_
       simp only [AP]
       refine takA (i := 6) (d := some 38) (v := .int .i64 2) hS ?_
       simp only [AP]
       refine takA (i := 7) (d := some 39) (v := .int .i64 2) hS ?_
       simp only [AP]
       refine takA (i := 8) (d := some 40) (v := .pointer (some ⟨cb, 16, none⟩)) hS ?_
       simp only [AP]
       refine takA (i := 9) (d := some 41) (v := .agg #[.slice aE nE cE, .int .i64 lE, .bool gE, .bool oE, .slice aF nF cF, .int .i64 lF, .bool gF, .bool oF]) hS ?_
       simp only [AP]
       clear z8 z9 z10 z11 z12 z13 z14 z15 z16 z17 z18 z19 z20 z21 z22 z23 zp hB1
       refine frame_named (fun A hA => ?_)
       refine draw1 (f := 1) (n := 2) (al := 12) (fun k => if k = 0 then 10 else 11) (fun (xb : Bool) (kb : Nat) => #[true, true, true, true, true, true, true, true, true, true, decide (1 ≤ kb), decide (2 ≤ kb), xb, false]) (fun (xb : Bool) (kb : Nat) (aa : Act) (W : World) => ∃ (ea e1 e2 : Value), aa = (((A.put (some 15) ea).put (some 42) e1).put (some 43) e2) ∧ (W.cell? ⟨cb, 8, none⟩ = some (.slice aC nC cC) ∧ W.cell? ⟨cb, 9, none⟩ = some (.int .i64 lC) ∧ W.cell? ⟨cb, 10, none⟩ = some (.bool gC) ∧ W.cell? ⟨cb, 11, none⟩ = some (.bool oC) ∧ W.cell? ⟨cb, 12, none⟩ = some (.slice aD nD cD) ∧ W.cell? ⟨cb, 13, none⟩ = some (.int .i64 lD) ∧ W.cell? ⟨cb, 14, none⟩ = some (.bool gD) ∧ W.cell? ⟨cb, 15, none⟩ = some (.bool oD) ∧ W.cell? ⟨cb, 16, none⟩ = some (.slice aE nE cE) ∧ W.cell? ⟨cb, 17, none⟩ = some (.int .i64 lE) ∧ W.cell? ⟨cb, 18, none⟩ = some (.bool gE) ∧ W.cell? ⟨cb, 19, none⟩ = some (.bool oE) ∧ W.cell? ⟨cb, 20, none⟩ = some (.slice aF nF cF) ∧ W.cell? ⟨cb, 21, none⟩ = some (.int .i64 lF) ∧ W.cell? ⟨cb, 22, none⟩ = some (.bool gF) ∧ W.cell? ⟨cb, 23, none⟩ = some (.bool oF) ∧ W.cell? ⟨wr.heap.size, 0, none⟩ = some (.slice aA nA cA) ∧ Below w.heap.size w W) ∧ (Corn W cb aA nA cA lA gA oA aB nB cB lB gB oB aC nC cC lC gC oC aD nD cD lD gD oD aE nE cE lE gE oE aF nF cF lF gF oF (fval ax) (fval ay) (fval bx) (fval by') (fval cx) (fval cy) ∧ NB W (w.heap.size + 1 + 1 + 1) 0 ∧ NB W (w.heap.size + 1 + 1 + 1 + 1) 0 ∧ NB W (w.heap.size + 1 + 1 + 1 + 1 + 1) 0 ∧ NB W (w.heap.size + 1 + 1 + 1 + 1 + 1 + 1) 0 ∧ NB W (w.heap.size + 1 + 1 + 1 + 1 + 1 + 1 + 1) 0 ∧ NB W (w.heap.size + 1 + 1 + 1 + 1 + 1 + 1 + 1 + 1) 0 ∧ PB W wr.heap.size (fval ax) (fval ay)) ∧ (xb = true → ∃ bb, ea = .pointer (some ⟨bb, 0, none⟩) ∧ PB W bb 0 0 ∧ wr.heap.size < bb) ∧ (1 ≤ kb → PF W e1 (fval bx - fval cx) (fval by' - fval cy)) ∧ (2 ≤ kb → PF W e2 ((fval by' - fval cy)) ((-(fval bx - fval cx))))) ?_ ?_ ?_ ?_ ?_ ?_ 3 false 0 _ _ (by omega) (by decide) ?_
       · intro xb kb hk hx
         have h5 : kb = 0 ∨ kb = 1 ∨ kb = 2 := by omega
         rcases h5 with rfl | rfl | rfl <;> cases xb <;> first | exact absurd (hx rfl) (by decide) | (show _ = _; kernel_rfl)
       · intro xb kb hk
         have h5 : kb = 0 ∨ kb = 1 := by omega
         rcases h5 with rfl | rfl <;> cases xb <;> rfl
       · intro kb hk
         have h5 : kb = 0 ∨ kb = 1 ∨ kb = 2 := by omega
         rcases h5 with rfl | rfl | rfl <;> rfl
       · intro xb kb hk
         have h5 : kb = 0 ∨ kb = 1 := by omega
         rcases h5 with rfl | rfl
         · refine ⟨_, rfl, ?_⟩
           intro aa W hI K' hK
           obtain ⟨ea, e1, e2, rfl, hS, hX, hv, k1, k2⟩ := hI
           have HV : Hid (xb = true → ∃ bb, ea = .pointer (some ⟨bb, 0, none⟩) ∧ PB W bb 0 0 ∧ wr.heap.size < bb) := hv
           clear hv k1 k2
           rw [hA]
           simp only [AP]
           go_simp
           go_wp2_with fail
           refine (less_any _ _ _ _ _ _ _ _ _ _ _ _ _ _ _ _ _ _ _ _ _ _ _ _ _ (HT.out.later hS.2.2.2.2.2.2.2.2.2.2.2.2.2.2.2.2.2) hX.1.n1 hX.1.m1 hX.1.n2 hX.1.m2 (HMy.out.1.1) (HMy.out.1.2)).mono ?_
           rintro e wx ⟨aZ, nZ, cZ, lZ, gZ, oZ, aY, nY, cY, lY, gY, oY, rfl, hnew, hnew', hbx⟩
           have hS2 : (fun W => W.cell? ⟨cb, 8, none⟩ = some (.slice aC nC cC) ∧ W.cell? ⟨cb, 9, none⟩ = some (.int .i64 lC) ∧ W.cell? ⟨cb, 10, none⟩ = some (.bool gC) ∧ W.cell? ⟨cb, 11, none⟩ = some (.bool oC) ∧ W.cell? ⟨cb, 12, none⟩ = some (.slice aD nD cD) ∧ W.cell? ⟨cb, 13, none⟩ = some (.int .i64 lD) ∧ W.cell? ⟨cb, 14, none⟩ = some (.bool gD) ∧ W.cell? ⟨cb, 15, none⟩ = some (.bool oD) ∧ W.cell? ⟨cb, 16, none⟩ = some (.slice aE nE cE) ∧ W.cell? ⟨cb, 17, none⟩ = some (.int .i64 lE) ∧ W.cell? ⟨cb, 18, none⟩ = some (.bool gE) ∧ W.cell? ⟨cb, 19, none⟩ = some (.bool oE) ∧ W.cell? ⟨cb, 20, none⟩ = some (.slice aF nF cF) ∧ W.cell? ⟨cb, 21, none⟩ = some (.int .i64 lF) ∧ W.cell? ⟨cb, 22, none⟩ = some (.bool gF) ∧ W.cell? ⟨cb, 23, none⟩ = some (.bool oF) ∧ W.cell? ⟨wr.heap.size, 0, none⟩ = some (.slice aA nA cA) ∧ Below w.heap.size w W) wx := (kp17 hbx hS)
           go_wp2_with fail
           exact hK.out _ _ hS2 ⟨ea, _, e2, by rw [hA]; rfl, hS2, ⟨hX.1.later hbx, hX.2.1.later hbx, hX.2.2.1.later hbx, hX.2.2.2.1.later hbx, hX.2.2.2.2.1.later hbx, hX.2.2.2.2.2.1.later hbx, hX.2.2.2.2.2.2.1.later hbx, hX.2.2.2.2.2.2.2.later hbx⟩, fun h => (by obtain ⟨bb, h1, h2, h3⟩ := (HV.out h); exact ⟨bb, h1, h2.later hbx, h3⟩), fun _ => ⟨aZ, nZ, cZ, lZ, gZ, oZ, aY, nY, cY, lY, gY, oY, rfl, hnew, hnew'⟩, fun h => by omega⟩
         · refine ⟨_, rfl, ?_⟩
           intro aa W hI K' hK
           obtain ⟨ea, e1, e2, rfl, hS, hX, hv, k1, k2⟩ := hI
           have r1 := k1 (by omega)
           have HV : Hid (xb = true → ∃ bb, ea = .pointer (some ⟨bb, 0, none⟩) ∧ PB W bb 0 0 ∧ wr.heap.size < bb) := hv
           clear hv k1 k2
           have s1 := r1
           obtain ⟨aG, nG, cG, lG, gG, oG, aH, nH, cH, lH, gH, oH, rfl, hnG, hnH⟩ := s1
           rw [hA]
           simp only [AP]
           go_simp
           go_wp2_with fail
           refine (across_any _ _ _ _ _ _ _ _ _ _ _ _ _ hnG hnH).mono ?_
           rintro e wx ⟨aZ, nZ, cZ, lZ, gZ, oZ, aY, nY, cY, lY, gY, oY, rfl, hnew, hnew', hbx⟩
           have hS2 : (fun W => W.cell? ⟨cb, 8, none⟩ = some (.slice aC nC cC) ∧ W.cell? ⟨cb, 9, none⟩ = some (.int .i64 lC) ∧ W.cell? ⟨cb, 10, none⟩ = some (.bool gC) ∧ W.cell? ⟨cb, 11, none⟩ = some (.bool oC) ∧ W.cell? ⟨cb, 12, none⟩ = some (.slice aD nD cD) ∧ W.cell? ⟨cb, 13, none⟩ = some (.int .i64 lD) ∧ W.cell? ⟨cb, 14, none⟩ = some (.bool gD) ∧ W.cell? ⟨cb, 15, none⟩ = some (.bool oD) ∧ W.cell? ⟨cb, 16, none⟩ = some (.slice aE nE cE) ∧ W.cell? ⟨cb, 17, none⟩ = some (.int .i64 lE) ∧ W.cell? ⟨cb, 18, none⟩ = some (.bool gE) ∧ W.cell? ⟨cb, 19, none⟩ = some (.bool oE) ∧ W.cell? ⟨cb, 20, none⟩ = some (.slice aF nF cF) ∧ W.cell? ⟨cb, 21, none⟩ = some (.int .i64 lF) ∧ W.cell? ⟨cb, 22, none⟩ = some (.bool gF) ∧ W.cell? ⟨cb, 23, none⟩ = some (.bool oF) ∧ W.cell? ⟨wr.heap.size, 0, none⟩ = some (.slice aA nA cA) ∧ Below w.heap.size w W) wx := (kp17 hbx hS)
           go_wp2_with fail
           exact hK.out _ _ hS2 ⟨ea, _, _, by rw [hA]; rfl, hS2, ⟨hX.1.later hbx, hX.2.1.later hbx, hX.2.2.1.later hbx, hX.2.2.2.1.later hbx, hX.2.2.2.2.1.later hbx, hX.2.2.2.2.2.1.later hbx, hX.2.2.2.2.2.2.1.later hbx, hX.2.2.2.2.2.2.2.later hbx⟩, fun h => (by obtain ⟨bb, h1, h2, h3⟩ := (HV.out h); exact ⟨bb, h1, h2.later hbx, h3⟩), fun _ => r1.later hbx, fun _ => ⟨aZ, nZ, cZ, lZ, gZ, oZ, aY, nY, cY, lY, gY, oY, rfl, hnew, hnew'⟩⟩
       · intro kb hk
         refine ⟨_, rfl, ?_⟩
         intro aa W hI K' hK
         obtain ⟨ea, e1, e2, rfl, hS, hX, hv, k1, k2⟩ := hI
         have HK : Hid ((1 ≤ kb → PF W e1 (fval bx - fval cx) (fval by' - fval cy)) ∧ (2 ≤ kb → PF W e2 ((fval by' - fval cy)) ((-(fval bx - fval cx))))) := ⟨k1, k2⟩
         clear hv k1 k2
         have hbx : Below W.heap.size W (W.alloc (.cells #[.slice none 0 0, .int .i64 0, .bool false, .bool false, .slice none 0 0, .int .i64 0, .bool false, .bool false] 52)) := (Below.refl _ W).alloc (Nat.le_refl _) _
         have hlt2 : wr.heap.size < W.heap.size := World.block_lt_of_cell? _ _ hS.2.2.2.2.2.2.2.2.2.2.2.2.2.2.2.2.1
         have hS2 : (fun W => W.cell? ⟨cb, 8, none⟩ = some (.slice aC nC cC) ∧ W.cell? ⟨cb, 9, none⟩ = some (.int .i64 lC) ∧ W.cell? ⟨cb, 10, none⟩ = some (.bool gC) ∧ W.cell? ⟨cb, 11, none⟩ = some (.bool oC) ∧ W.cell? ⟨cb, 12, none⟩ = some (.slice aD nD cD) ∧ W.cell? ⟨cb, 13, none⟩ = some (.int .i64 lD) ∧ W.cell? ⟨cb, 14, none⟩ = some (.bool gD) ∧ W.cell? ⟨cb, 15, none⟩ = some (.bool oD) ∧ W.cell? ⟨cb, 16, none⟩ = some (.slice aE nE cE) ∧ W.cell? ⟨cb, 17, none⟩ = some (.int .i64 lE) ∧ W.cell? ⟨cb, 18, none⟩ = some (.bool gE) ∧ W.cell? ⟨cb, 19, none⟩ = some (.bool oE) ∧ W.cell? ⟨cb, 20, none⟩ = some (.slice aF nF cF) ∧ W.cell? ⟨cb, 21, none⟩ = some (.int .i64 lF) ∧ W.cell? ⟨cb, 22, none⟩ = some (.bool gF) ∧ W.cell? ⟨cb, 23, none⟩ = some (.bool oF) ∧ W.cell? ⟨wr.heap.size, 0, none⟩ = some (.slice aA nA cA) ∧ Below w.heap.size w W) (W.alloc (.cells #[.slice none 0 0, .int .i64 0, .bool false, .bool false, .slice none 0 0, .int .i64 0, .bool false, .bool false] 52)) := (kp17 hbx hS)
         rw [hA]
         simp only [AP]
         go_simp
         go_wp2_with fail
         exact hK.out _ _ hS2 ⟨_, e1, e2, by rw [hA]; rfl, hS2, ⟨hX.1.later hbx, hX.2.1.later hbx, hX.2.2.1.later hbx, hX.2.2.2.1.later hbx, hX.2.2.2.2.1.later hbx, hX.2.2.2.2.2.1.later hbx, hX.2.2.2.2.2.2.1.later hbx, hX.2.2.2.2.2.2.2.later hbx⟩, fun _ => ⟨W.heap.size, rfl, PB.zero W, hlt2⟩, fun h => (HK.out.1 h).later hbx, fun h => (HK.out.2 h).later hbx⟩
       · intro aa W hI
         obtain ⟨ea, e1, e2, rfl, hS, hX, hv, k1, k2⟩ := hI
         replace hv := hv rfl
         have r1 := k1 (by omega)
         have r2 := k2 (by omega)
         clear k1 k2
         obtain ⟨bb, rfl, hNB, hlb⟩ := hv
         obtain ⟨aJ, nJ, cJ, lJ, gJ, oJ, aK, nK, cK, lK, gK, oK, rfl, hnJ, hnK⟩ := r2
         clear r1
         subst hA
         simp only [AP]
         obtain ⟨_, _, _, _, _, _, _, _, _, _, _, _, ⟨k0, k1, k2, k3, k4, k5, k6, k7⟩, _, _, hfr⟩ := hNB.cells
         have f0 := hfr 0
         have f1 := hfr 1
         have f2 := hfr 2
         have f3 := hfr 3
         have f4 := hfr 4
         have f5 := hfr 5
         have f6 := hfr 6
         have f7 := hfr 7
         have hP : (fun W' => PB W' (bb) _ _ ∧ Kept W W' (bb) ∧ IsNum W' (.agg #[.slice aJ nJ cJ, .int .i64 lJ, .bool gJ, .bool oJ]) _ ∧ IsNum W' (.agg #[.slice aK nK cK, .int .i64 lK, .bool gK, .bool oK]) _ ∧ CB W' (bb) #[.slice aJ nJ cJ, .int .i64 lJ, .bool gJ, .bool oJ, .slice aK nK cK, .int .i64 lK, .bool gK, .bool oK] 52) ((((((((W.setCell ⟨bb, 0, none⟩ (.slice aJ nJ cJ)).setCell ⟨bb, 1, none⟩ (.int .i64 lJ)).setCell ⟨bb, 2, none⟩ (.bool gJ)).setCell ⟨bb, 3, none⟩ (.bool oJ)).setCell ⟨bb, 4, none⟩ (.slice aK nK cK)).setCell ⟨bb, 5, none⟩ (.int .i64 lK)).setCell ⟨bb, 6, none⟩ (.bool gK)).setCell ⟨bb, 7, none⟩ (.bool oK)) := hNB.put hnJ hnK
         have hS2 : (fun W => W.cell? ⟨cb, 8, none⟩ = some (.slice aC nC cC) ∧ W.cell? ⟨cb, 9, none⟩ = some (.int .i64 lC) ∧ W.cell? ⟨cb, 10, none⟩ = some (.bool gC) ∧ W.cell? ⟨cb, 11, none⟩ = some (.bool oC) ∧ W.cell? ⟨cb, 12, none⟩ = some (.slice aD nD cD) ∧ W.cell? ⟨cb, 13, none⟩ = some (.int .i64 lD) ∧ W.cell? ⟨cb, 14, none⟩ = some (.bool gD) ∧ W.cell? ⟨cb, 15, none⟩ = some (.bool oD) ∧ W.cell? ⟨cb, 16, none⟩ = some (.slice aE nE cE) ∧ W.cell? ⟨cb, 17, none⟩ = some (.int .i64 lE) ∧ W.cell? ⟨cb, 18, none⟩ = some (.bool gE) ∧ W.cell? ⟨cb, 19, none⟩ = some (.bool oE) ∧ W.cell? ⟨cb, 20, none⟩ = some (.slice aF nF cF) ∧ W.cell? ⟨cb, 21, none⟩ = some (.int .i64 lF) ∧ W.cell? ⟨cb, 22, none⟩ = some (.bool gF) ∧ W.cell? ⟨cb, 23, none⟩ = some (.bool oF) ∧ W.cell? ⟨wr.heap.size, 0, none⟩ = some (.slice aA nA cA) ∧ Below w.heap.size w W) ((((((((W.setCell ⟨bb, 0, none⟩ (.slice aJ nJ cJ)).setCell ⟨bb, 1, none⟩ (.int .i64 lJ)).setCell ⟨bb, 2, none⟩ (.bool gJ)).setCell ⟨bb, 3, none⟩ (.bool oJ)).setCell ⟨bb, 4, none⟩ (.slice aK nK cK)).setCell ⟨bb, 5, none⟩ (.int .i64 lK)).setCell ⟨bb, 6, none⟩ (.bool gK)).setCell ⟨bb, 7, none⟩ (.bool oK)) := ⟨Sets.cell (by omega) [(0, .slice aJ nJ cJ), (1, .int .i64 lJ), (2, .bool gJ), (3, .bool oJ), (4, .slice aK nK cK), (5, .int .i64 lK), (6, .bool gK), (7, .bool oK)] hS.1, Sets.cell (by omega) [(0, .slice aJ nJ cJ), (1, .int .i64 lJ), (2, .bool gJ), (3, .bool oJ), (4, .slice aK nK cK), (5, .int .i64 lK), (6, .bool gK), (7, .bool oK)] hS.2.1, Sets.cell (by omega) [(0, .slice aJ nJ cJ), (1, .int .i64 lJ), (2, .bool gJ), (3, .bool oJ), (4, .slice aK nK cK), (5, .int .i64 lK), (6, .bool gK), (7, .bool oK)] hS.2.2.1, Sets.cell (by omega) [(0, .slice aJ nJ cJ), (1, .int .i64 lJ), (2, .bool gJ), (3, .bool oJ), (4, .slice aK nK cK), (5, .int .i64 lK), (6, .bool gK), (7, .bool oK)] hS.2.2.2.1, Sets.cell (by omega) [(0, .slice aJ nJ cJ), (1, .int .i64 lJ), (2, .bool gJ), (3, .bool oJ), (4, .slice aK nK cK), (5, .int .i64 lK), (6, .bool gK), (7, .bool oK)] hS.2.2.2.2.1, Sets.cell (by omega) [(0, .slice aJ nJ cJ), (1, .int .i64 lJ), (2, .bool gJ), (3, .bool oJ), (4, .slice aK nK cK), (5, .int .i64 lK), (6, .bool gK), (7, .bool oK)] hS.2.2.2.2.2.1, Sets.cell (by omega) [(0, .slice aJ nJ cJ), (1, .int .i64 lJ), (2, .bool gJ), (3, .bool oJ), (4, .slice aK nK cK), (5, .int .i64 lK), (6, .bool gK), (7, .bool oK)] hS.2.2.2.2.2.2.1, Sets.cell (by omega) [(0, .slice aJ nJ cJ), (1, .int .i64 lJ), (2, .bool gJ), (3, .bool oJ), (4, .slice aK nK cK), (5, .int .i64 lK), (6, .bool gK), (7, .bool oK)] hS.2.2.2.2.2.2.2.1, Sets.cell (by omega) [(0, .slice aJ nJ cJ), (1, .int .i64 lJ), (2, .bool gJ), (3, .bool oJ), (4, .slice aK nK cK), (5, .int .i64 lK), (6, .bool gK), (7, .bool oK)] hS.2.2.2.2.2.2.2.2.1, Sets.cell (by omega) [(0, .slice aJ nJ cJ), (1, .int .i64 lJ), (2, .bool gJ), (3, .bool oJ), (4, .slice aK nK cK), (5, .int .i64 lK), (6, .bool gK), (7, .bool oK)] hS.2.2.2.2.2.2.2.2.2.1, Sets.cell (by omega) [(0, .slice aJ nJ cJ), (1, .int .i64 lJ), (2, .bool gJ), (3, .bool oJ), (4, .slice aK nK cK), (5, .int .i64 lK), (6, .bool gK), (7, .bool oK)] hS.2.2.2.2.2.2.2.2.2.2.1, Sets.cell (by omega) [(0, .slice aJ nJ cJ), (1, .int .i64 lJ), (2, .bool gJ), (3, .bool oJ), (4, .slice aK nK cK), (5, .int .i64 lK), (6, .bool gK), (7, .bool oK)] hS.2.2.2.2.2.2.2.2.2.2.2.1, Sets.cell (by omega) [(0, .slice aJ nJ cJ), (1, .int .i64 lJ), (2, .bool gJ), (3, .bool oJ), (4, .slice aK nK cK), (5, .int .i64 lK), (6, .bool gK), (7, .bool oK)] hS.2.2.2.2.2.2.2.2.2.2.2.2.1, Sets.cell (by omega) [(0, .slice aJ nJ cJ), (1, .int .i64 lJ), (2, .bool gJ), (3, .bool oJ), (4, .slice aK nK cK), (5, .int .i64 lK), (6, .bool gK), (7, .bool oK)] hS.2.2.2.2.2.2.2.2.2.2.2.2.2.1, Sets.cell (by omega) [(0, .slice aJ nJ cJ), (1, .int .i64 lJ), (2, .bool gJ), (3, .bool oJ), (4, .slice aK nK cK), (5, .int .i64 lK), (6, .bool gK), (7, .bool oK)] hS.2.2.2.2.2.2.2.2.2.2.2.2.2.2.1, Sets.cell (by omega) [(0, .slice aJ nJ cJ), (1, .int .i64 lJ), (2, .bool gJ), (3, .bool oJ), (4, .slice aK nK cK), (5, .int .i64 lK), (6, .bool gK), (7, .bool oK)] hS.2.2.2.2.2.2.2.2.2.2.2.2.2.2.2.1, Sets.cell (by omega) [(0, .slice aJ nJ cJ), (1, .int .i64 lJ), (2, .bool gJ), (3, .bool oJ), (4, .slice aK nK cK), (5, .int .i64 lK), (6, .bool gK), (7, .bool oK)] hS.2.2.2.2.2.2.2.2.2.2.2.2.2.2.2.2.1, Sets.below (by omega) [(0, .slice aJ nJ cJ), (1, .int .i64 lJ), (2, .bool gJ), (3, .bool oJ), (4, .slice aK nK cK), (5, .int .i64 lK), (6, .bool gK), (7, .bool oK)] hS.2.2.2.2.2.2.2.2.2.2.2.2.2.2.2.2.2⟩
         refine calA 13 fun KF hK => ?_
         go_simp
         go_wp2_with fail
         refine hK.out _ _ hS2 ?_
         clear hS
         intro hS
         clear hK KF k0 k1 k2 k3 k4 k5 k6 k7 f0 f1 f2 f3 f4 f5 f6 f7 hfr
         try simp only [Act.put]
         try simp only [List.setIfInBounds_toArray, List.set_cons_zero, List.set_cons_succ]
         refine wpAnyH_done (by kernel_rfl) ?_ _
         generalize ((((((((W.setCell ⟨bb, 0, none⟩ (.slice aJ nJ cJ)).setCell ⟨bb, 1, none⟩ (.int .i64 lJ)).setCell ⟨bb, 2, none⟩ (.bool gJ)).setCell ⟨bb, 3, none⟩ (.bool oJ)).setCell ⟨bb, 4, none⟩ (.slice aK nK cK)).setCell ⟨bb, 5, none⟩ (.int .i64 lK)).setCell ⟨bb, 6, none⟩ (.bool gK)).setCell ⟨bb, 7, none⟩ (.bool oK)) = WL at *
         obtain ⟨hC, nX, nY, nW, aX, aY, aW, pP⟩ := hX
         have hla := aW.lt
         have HBW : Hid (Below w.heap.size w WL) := hS2.2.2.2.2.2.2.2.2.2.2.2.2.2.2.2.2.2
         have hlw : w.heap.size + 1 + 1 + 1 + 1 + 1 + 1 + 1 + 1 < wr.heap.size := hlr.out
         replace hC := hP.2.1.corn hC (by omega)
         replace nX := hP.2.1.nb nX (by omega)
         replace nY := hP.2.1.nb nY (by omega)
         replace nW := hP.2.1.nb nW (by omega)
         replace aX := hP.2.1.nb aX (by omega)
         replace aY := hP.2.1.nb aY (by omega)
         replace aW := hP.2.1.nb aW (by omega)
         replace pP := hP.2.1.pb pP (by omega)
         have pB := hP.1
         clear hP hS2 hS hNB hnJ hnK
         obtain ⟨aP, nP, cP, lP, gP, oP, aQ, nQ, cQ, lQ, gQ, oQ, ⟨k0, k1, k2, k3, k4, k5, k6, k7⟩, hnP, hnQ, _⟩ := pP.cells
         have HPn : Hid (IsNum WL (.agg #[.slice aP nP cP, .int .i64 lP, .bool gP, .bool oP]) (some (fval ax)) ∧ IsNum WL (.agg #[.slice aQ nQ cQ, .int .i64 lQ, .bool gQ, .bool oQ]) (some (fval ay))) := ⟨hnP, hnQ⟩
         clear hnP hnQ
         have HA : Hid (Corn WL cb aA nA cA lA gA oA aB nB cB lB gB oB aC nC cC lC gC oC aD nD cD lD gD oD aE nE cE lE gE oE aF nF cF lF gF oF (fval ax) (fval ay) (fval bx) (fval by') (fval cx) (fval cy) ∧ NB WL (w.heap.size + 1 + 1 + 1) 0 ∧ NB WL (w.heap.size + 1 + 1 + 1 + 1) 0 ∧ NB WL (w.heap.size + 1 + 1 + 1 + 1 + 1) 0 ∧ NB WL (w.heap.size + 1 + 1 + 1 + 1 + 1 + 1) 0 ∧ NB WL (w.heap.size + 1 + 1 + 1 + 1 + 1 + 1 + 1) 0 ∧ NB WL (w.heap.size + 1 + 1 + 1 + 1 + 1 + 1 + 1 + 1) 0 ∧ PB WL wr.heap.size (fval ax) (fval ay) ∧ PB WL bb (fval by' - fval cy) (-(fval bx - fval cx))) := ⟨hC, nX, nY, nW, aX, aY, aW, pP, pB⟩
         clear hC nX nY nW aX aY aW pP pB
         go_wp2_with fail
         refine (square_any _ _ _ _ _ _ _ _ _ _ _ _ _ (HT.out.later HBW.out) HPn.out.1 HPn.out.2 HWy.out.1.1 HWy.out.1.2).mono ?_
         rintro e w7 ⟨aS, nS, cS, lS, gS, oS, rfl, hnS, hb7⟩
         clear k0 k1 k2 k3 k4 k5 k6 k7 HPn
         obtain ⟨W8, hW8⟩ : ∃ W8, w7.alloc (.cells #[.slice aS nS cS, .int .i64 lS, .bool gS, .bool oS] 49) = W8 := ⟨_, rfl⟩
         have hb8 : Below w7.heap.size w7 W8 := by rw [← hW8]; exact (Below.refl _ w7).alloc (Nat.le_refl _) _
         have hb78 : Below WL.heap.size WL W8 := below_step hb7 hb8
         obtain ⟨hC, nX, nY, nW, aX, aY, aW, pP, pB⟩ := HA.out
         have hlbW := pB.lt
         have hls : WL.heap.size ≤ w7.heap.size := hb7.size
         replace hC := hC.later hb78
         replace nX := nX.later hb78
         replace nY := nY.later hb78
         replace nW := nW.later hb78
         replace aX := aX.later hb78
         replace aY := aY.later hb78
         replace aW := aW.later hb78
         replace pP := pP.later hb78
         replace pB := pB.later hb78
         have zS : NB W8 w7.heap.size (fval ax * fval ax + fval ay * fval ay) := ⟨⟨aS, nS, cS, lS, gS, oS, by rw [← hW8]; exact CB.new w7 _ _, hnS.later hb8⟩⟩
         have HB8 : Hid (Below w.heap.size w W8) := below_step HBW.out hb78
         clear hnS hb7 hb8 hb78 HA HBW
         obtain ⟨aS, nS, cS, lS, gS, oS, ⟨k0, k1, k2, k3⟩, hnS, _⟩ := zS.cells
         obtain ⟨aJ, nJ, cJ, lJ, gJ, oJ, aK, nK, cK, lK, gK, oK, ⟨m0, m1, m2, m3, m4, m5, m6, m7⟩, hnJ, hnK, _⟩ := pB.cells
         have HQ0 : Hid (Corn W8 cb aA nA cA lA gA oA aB nB cB lB gB oB aC nC cC lC gC oC aD nD cD lD gD oD aE nE cE lE gE oE aF nF cF lF gF oF (fval ax) (fval ay) (fval bx) (fval by') (fval cx) (fval cy) ∧ NB W8 (w.heap.size + 1 + 1 + 1) 0 ∧ NB W8 (w.heap.size + 1 + 1 + 1 + 1) 0 ∧ NB W8 (w.heap.size + 1 + 1 + 1 + 1 + 1) 0 ∧ NB W8 (w.heap.size + 1 + 1 + 1 + 1 + 1 + 1) 0 ∧ NB W8 (w.heap.size + 1 + 1 + 1 + 1 + 1 + 1 + 1) 0 ∧ NB W8 (w.heap.size + 1 + 1 + 1 + 1 + 1 + 1 + 1 + 1) 0 ∧ PB W8 wr.heap.size (fval ax) (fval ay) ∧ PB W8 bb (fval by' - fval cy) (-(fval bx - fval cx)) ∧ NB W8 w7.heap.size (fval ax * fval ax + fval ay * fval ay)) := ⟨hC, nX, nY, nW, aX, aY, aW, pP, pB, zS⟩
         have HS0 : Hid (IsNum W8 (.agg #[.slice aS nS cS, .int .i64 lS, .bool gS, .bool oS]) (some (fval ax * fval ax + fval ay * fval ay)) ∧ IsNum W8 (.agg #[.slice aJ nJ cJ, .int .i64 lJ, .bool gJ, .bool oJ]) (some (fval by' - fval cy))) := ⟨hnS, hnJ⟩
         clear hC nX nY nW aX aY aW pP pB zS hnS hnJ hnK
         go_wp2_with fail
         refine (adder1_any (w.heap.size + 1 + 1 + 1 + 1 + 1 + 1) _ _ _ _ _ _ _ _ _ _ _ _ _ (HT.out.later HB8.out) HQ0.out.2.2.2.2.1 HS0.out.1 HS0.out.2 (by have := HT.out.lt; omega) (may_acc HAc0.out.1 HSz.out.1 HDd.out.1.1 (by omega) (by omega)).2.1 (may_acc HAc0.out.1 HSz.out.1 HDd.out.1.1 (by omega) (by omega)).2.2).mono ?_
         rintro e w9 ⟨aD0, nD0, cD0, lD0, gD0, oD0, rfl, hnD, hA2, hkx, hsz⟩
         obtain ⟨hC, nX, nY, nW, aX, aY, aW, pP, pB, zS⟩ := HQ0.out
         replace hC := hkx.corn hC (by omega)
         replace nX := hkx.nb nX (by omega)
         replace nY := hkx.nb nY (by omega)
         replace nW := hkx.nb nW (by omega)
         replace aY := hkx.nb aY (by omega)
         replace aW := hkx.nb aW (by omega)
         replace pP := hkx.pb pP (by omega)
         replace pB := hkx.pb pB (by omega)
         replace zS := hkx.nb zS (by omega)
         replace aX := hA2
         have HBk : Hid (Below w.heap.size w w9) := hkx.bel _ _ (by omega) HB8.out.size HB8.out
         clear k0 k1 k2 k3 m0 m1 m2 m3 m4 m5 m6 m7 HQ0 HS0 HB8 hkx hA2
         clear hW8
         obtain ⟨_, _, _, _, _, _, ⟨k0, k1, k2, k3⟩, _, hfr⟩ := nX.cells
         have f0 := hfr 0
         have f1 := hfr 1
         have f2 := hfr 2
         have f3 := hfr 3
         obtain ⟨V0, hE0⟩ : ∃ V, ((((w9.setCell ⟨w.heap.size + 1 + 1 + 1, 0, none⟩ (.slice aD0 nD0 cD0)).setCell ⟨w.heap.size + 1 + 1 + 1, 1, none⟩ (.int .i64 lD0)).setCell ⟨w.heap.size + 1 + 1 + 1, 2, none⟩ (.bool gD0)).setCell ⟨w.heap.size + 1 + 1 + 1, 3, none⟩ (.bool oD0)) = V := ⟨_, rfl⟩
         have hP : NB V0 (w.heap.size + 1 + 1 + 1) (0 + (fval ax * fval ax + fval ay * fval ay) * (fval by' - fval cy)) ∧ Kept w9 V0 (w.heap.size + 1 + 1 + 1) := by rw [← hE0]; exact nX.put hnD
         replace hC := hP.2.corn hC (by omega)
         replace nY := hP.2.nb nY (by omega)
         replace nW := hP.2.nb nW (by omega)
         replace aX := hP.2.nb aX (by omega)
         replace aY := hP.2.nb aY (by omega)
         replace aW := hP.2.nb aW (by omega)
         replace pP := hP.2.pb pP (by omega)
         replace pB := hP.2.pb pB (by omega)
         replace zS := hP.2.nb zS (by omega)
         replace nX := hP.1
         have HB9 : Hid (Below w.heap.size w V0) := hP.2.bel _ _ (by omega) HBk.out.size HBk.out
         clear hP HBk hnD
         obtain ⟨aS, nS, cS, lS, gS, oS, ⟨k0, k1, k2, k3⟩, hnS, _⟩ := zS.cells
         obtain ⟨aJ, nJ, cJ, lJ, gJ, oJ, aK, nK, cK, lK, gK, oK, ⟨m0, m1, m2, m3, m4, m5, m6, m7⟩, hnJ, hnK, _⟩ := pB.cells
         have HQ1 : Hid (Corn V0 cb aA nA cA lA gA oA aB nB cB lB gB oB aC nC cC lC gC oC aD nD cD lD gD oD aE nE cE lE gE oE aF nF cF lF gF oF (fval ax) (fval ay) (fval bx) (fval by') (fval cx) (fval cy) ∧ NB V0 (w.heap.size + 1 + 1 + 1) (0 + (fval ax * fval ax + fval ay * fval ay) * (fval by' - fval cy)) ∧ NB V0 (w.heap.size + 1 + 1 + 1 + 1) 0 ∧ NB V0 (w.heap.size + 1 + 1 + 1 + 1 + 1) 0 ∧ NB V0 (w.heap.size + 1 + 1 + 1 + 1 + 1 + 1) (0 + (fval ax * fval ax + fval ay * fval ay) * (fval by' - fval cy)) ∧ NB V0 (w.heap.size + 1 + 1 + 1 + 1 + 1 + 1 + 1) 0 ∧ NB V0 (w.heap.size + 1 + 1 + 1 + 1 + 1 + 1 + 1 + 1) 0 ∧ PB V0 wr.heap.size (fval ax) (fval ay) ∧ PB V0 bb (fval by' - fval cy) (-(fval bx - fval cx)) ∧ NB V0 w7.heap.size (fval ax * fval ax + fval ay * fval ay)) := ⟨hC, nX, nY, nW, aX, aY, aW, pP, pB, zS⟩
         have HS1 : Hid (IsNum V0 (.agg #[.slice aS nS cS, .int .i64 lS, .bool gS, .bool oS]) (some (fval ax * fval ax + fval ay * fval ay)) ∧ IsNum V0 (.agg #[.slice aK nK cK, .int .i64 lK, .bool gK, .bool oK]) (some (-(fval bx - fval cx)))) := ⟨hnS, hnK⟩
         clear hC nX nY nW aX aY aW pP pB zS hnS hnJ hnK
         go_wp2_with fail
         refine (adder1_any (w.heap.size + 1 + 1 + 1 + 1 + 1 + 1 + 1) _ _ _ _ _ _ _ _ _ _ _ _ _ (HT.out.later HB9.out) HQ1.out.2.2.2.2.2.1 HS1.out.1 HS1.out.2 (by have := HT.out.lt; omega) (may_acc HAc1.out.1 HSz.out.1 HDd.out.1.2 (by omega) (by omega)).2.1 (may_acc HAc1.out.1 HSz.out.1 HDd.out.1.2 (by omega) (by omega)).2.2).mono ?_
         rintro e w9 ⟨aD1, nD1, cD1, lD1, gD1, oD1, rfl, hnD, hA2, hkx, hsz⟩
         obtain ⟨hC, nX, nY, nW, aX, aY, aW, pP, pB, zS⟩ := HQ1.out
         replace hC := hkx.corn hC (by omega)
         replace nX := hkx.nb nX (by omega)
         replace nY := hkx.nb nY (by omega)
         replace nW := hkx.nb nW (by omega)
         replace aX := hkx.nb aX (by omega)
         replace aW := hkx.nb aW (by omega)
         replace pP := hkx.pb pP (by omega)
         replace pB := hkx.pb pB (by omega)
         replace zS := hkx.nb zS (by omega)
         replace aY := hA2
         have HBk : Hid (Below w.heap.size w w9) := hkx.bel _ _ (by omega) HB9.out.size HB9.out
         clear k0 k1 k2 k3 m0 m1 m2 m3 m4 m5 m6 m7 HQ1 HS1 HB9 hkx hA2
         obtain ⟨_, _, _, _, _, _, ⟨k0, k1, k2, k3⟩, _, hfr⟩ := nY.cells
         have f0 := hfr 0
         have f1 := hfr 1
         have f2 := hfr 2
         have f3 := hfr 3
         obtain ⟨V1, hE1⟩ : ∃ V, ((((w9.setCell ⟨w.heap.size + 1 + 1 + 1 + 1, 0, none⟩ (.slice aD1 nD1 cD1)).setCell ⟨w.heap.size + 1 + 1 + 1 + 1, 1, none⟩ (.int .i64 lD1)).setCell ⟨w.heap.size + 1 + 1 + 1 + 1, 2, none⟩ (.bool gD1)).setCell ⟨w.heap.size + 1 + 1 + 1 + 1, 3, none⟩ (.bool oD1)) = V := ⟨_, rfl⟩
         have hP : NB V1 (w.heap.size + 1 + 1 + 1 + 1) (0 + (fval ax * fval ax + fval ay * fval ay) * (-(fval bx - fval cx))) ∧ Kept w9 V1 (w.heap.size + 1 + 1 + 1 + 1) := by rw [← hE1]; exact nY.put hnD
         replace hC := hP.2.corn hC (by omega)
         replace nX := hP.2.nb nX (by omega)
         replace nW := hP.2.nb nW (by omega)
         replace aX := hP.2.nb aX (by omega)
         replace aY := hP.2.nb aY (by omega)
         replace aW := hP.2.nb aW (by omega)
         replace pP := hP.2.pb pP (by omega)
         replace pB := hP.2.pb pB (by omega)
         replace zS := hP.2.nb zS (by omega)
         replace nY := hP.1
         have HB10 : Hid (Below w.heap.size w V1) := hP.2.bel _ _ (by omega) HBk.out.size HBk.out
         clear hP HBk hnD
         obtain ⟨aP, nP, cP, lP, gP, oP, aQ, nQ, cQ, lQ, gQ, oQ, ⟨m0, m1, m2, m3, _, _, _, _⟩, hnP, hnQ, _⟩ := (pP.later (Below.refl _ _).drew).cells
         obtain ⟨aJ, nJ, cJ, lJ, gJ, oJ, aK, nK, cK, lK, gK, oK, ⟨j0, j1, j2, j3, _, _, _, _⟩, hnJ, hnK, _⟩ := (pB.later (Below.refl _ _).drew).cells
         replace hC := hC.later (Below.refl _ _).drew
         replace nX := nX.drew
         replace nY := nY.drew
         replace nW := nW.drew
         replace aX := aX.drew
         replace aY := aY.drew
         replace aW := aW.drew
         clear pP pB zS hnQ hnK
         go_wp2_with fail
         clear k0 k1 k2 k3 f0 f1 f2 f3 hfr hE0 hE1
         refine wp_region_held_drew (S := (fun W => W.cell? ⟨wr.heap.size, 0, none⟩ = some (.slice aP nP cP) ∧ W.cell? ⟨wr.heap.size, 1, none⟩ = some (.int .i64 lP) ∧ W.cell? ⟨wr.heap.size, 2, none⟩ = some (.bool gP) ∧ W.cell? ⟨wr.heap.size, 3, none⟩ = some (.bool oP) ∧ W.cell? ⟨bb, 0, none⟩ = some (.slice aJ nJ cJ) ∧ W.cell? ⟨bb, 1, none⟩ = some (.int .i64 lJ) ∧ W.cell? ⟨bb, 2, none⟩ = some (.bool gJ) ∧ W.cell? ⟨bb, 3, none⟩ = some (.bool oJ) ∧ Below w.heap.size w W)) (by kernel_rfl) ⟨m0, m1, m2, m3, j0, j1, j2, j3, HB10.out.drew⟩ (fun hS => ?_)
         refine takA (i := 0) (d := some 56) (v := (.func (Fn.func 107) #[] #[.pointer (some ⟨w.heap.size + 1 + 1 + 1 + 1 + 1 + 1 + 1 + 1, 0, none⟩)])) hS ?_
         simp only [AP]
         refine takA (i := 1) (d := some 57) (v := .pointer (some ⟨wr.heap.size, 0, none⟩)) hS ?_
         simp only [AP]
         refine takA (i := 2) (d := some 58) (v := .agg #[.slice aP nP cP, .int .i64 lP, .bool gP, .bool oP]) hS ?_
         simp only [AP]
         refine takA (i := 4) (d := some 60) (v := .pointer (some ⟨bb, 0, none⟩)) hS ?_
         simp only [AP]
         refine takA (i := 5) (d := some 61) (v := .agg #[.slice aJ nJ cJ, .int .i64 lJ, .bool gJ, .bool oJ]) hS ?_
         simp only [AP]
         refine calA 3 fun KF hK => ?_
         go_simp
         refine (shiftQ hnP (HM2.out.1)).mono ?_
         rintro e wx ⟨aT, nT, cT, lT, gT, oT, rfl, hnT, hbx⟩
         replace hC := hC.later hbx
         replace nX := nX.later hbx
         replace nY := nY.later hbx
         replace nW := nW.later hbx
         replace aX := aX.later hbx
         replace aY := aY.later hbx
         replace aW := aW.later hbx
         replace hnJ := hnJ.later hbx
         go_wp2_with fail
         refine hK.out _ _ (kp8 hbx hS) ?_
         clear hS hbx
         intro hS
         clear hK KF
         try simp only [AP]
         refine calA 6 fun KF hK => ?_
         go_simp
         go_wp2_with fail
         refine (adder1_any (w.heap.size + 1 + 1 + 1 + 1 + 1 + 1 + 1 + 1) _ _ _ _ _ _ _ _ _ _ _ _ _ (HT.out.later hS.2.2.2.2.2.2.2.2) aW hnT hnJ (by have := HT.out.lt; omega) (may_acc HAc2.out.1 HS2.out.1 HDd.out.1.1 (by omega) (by omega)).2.1 (may_acc HAc2.out.1 HS2.out.1 HDd.out.1.1 (by omega) (by omega)).2.2).mono ?_
         rintro e wx ⟨aV, nV, cV, lV, gV, oV, rfl, hnV, aW2, hkx, hsz⟩
         replace hC := hkx.corn hC (by omega)
         replace nX := hkx.nb nX (by omega)
         replace nY := hkx.nb nY (by omega)
         replace nW := hkx.nb nW (by omega)
         replace aX := hkx.nb aX (by omega)
         replace aY := hkx.nb aY (by omega)
         go_wp2_with fail
         refine hK.out _ _ ⟨hkx.cell _ _ _ (by omega) hS.1, hkx.cell _ _ _ (by omega) hS.2.1, hkx.cell _ _ _ (by omega) hS.2.2.1, hkx.cell _ _ _ (by omega) hS.2.2.2.1, hkx.cell _ _ _ (by omega) hS.2.2.2.2.1, hkx.cell _ _ _ (by omega) hS.2.2.2.2.2.1, hkx.cell _ _ _ (by omega) hS.2.2.2.2.2.2.1, hkx.cell _ _ _ (by omega) hS.2.2.2.2.2.2.2.1, hkx.bel _ _ (by omega) hS.2.2.2.2.2.2.2.2.size hS.2.2.2.2.2.2.2.2⟩ ?_
         clear hS
         intro hS
         clear hK KF aW hkx hsz hnP hnJ hnT
         try simp only [Act.put]
         try simp only [List.setIfInBounds_toArray, List.set_cons_zero, List.set_cons_succ]
         obtain ⟨_, _, _, _, _, _, ⟨k0, k1, k2, k3⟩, _, hfr⟩ := nW.cells
         have f0 := hfr 0
         have f1 := hfr 1
         have f2 := hfr 2
         have f3 := hfr 3
         have hP : (fun W' => NB W' (w.heap.size + 1 + 1 + 1 + 1 + 1) _ ∧ Kept wx W' (w.heap.size + 1 + 1 + 1 + 1 + 1) ∧ IsNum W' (.agg #[.slice aV nV cV, .int .i64 lV, .bool gV, .bool oV]) _ ∧ CB W' (w.heap.size + 1 + 1 + 1 + 1 + 1) #[.slice aV nV cV, .int .i64 lV, .bool gV, .bool oV] 49) ((((wx.setCell ⟨w.heap.size + 1 + 1 + 1 + 1 + 1, 0, none⟩ (.slice aV nV cV)).setCell ⟨w.heap.size + 1 + 1 + 1 + 1 + 1, 1, none⟩ (.int .i64 lV)).setCell ⟨w.heap.size + 1 + 1 + 1 + 1 + 1, 2, none⟩ (.bool gV)).setCell ⟨w.heap.size + 1 + 1 + 1 + 1 + 1, 3, none⟩ (.bool oV)) := nW.put' hnV
         have hS2 : (fun W => W.cell? ⟨wr.heap.size, 0, none⟩ = some (.slice aP nP cP) ∧ W.cell? ⟨wr.heap.size, 1, none⟩ = some (.int .i64 lP) ∧ W.cell? ⟨wr.heap.size, 2, none⟩ = some (.bool gP) ∧ W.cell? ⟨wr.heap.size, 3, none⟩ = some (.bool oP) ∧ W.cell? ⟨bb, 0, none⟩ = some (.slice aJ nJ cJ) ∧ W.cell? ⟨bb, 1, none⟩ = some (.int .i64 lJ) ∧ W.cell? ⟨bb, 2, none⟩ = some (.bool gJ) ∧ W.cell? ⟨bb, 3, none⟩ = some (.bool oJ) ∧ Below w.heap.size w W) ((((wx.setCell ⟨w.heap.size + 1 + 1 + 1 + 1 + 1, 0, none⟩ (.slice aV nV cV)).setCell ⟨w.heap.size + 1 + 1 + 1 + 1 + 1, 1, none⟩ (.int .i64 lV)).setCell ⟨w.heap.size + 1 + 1 + 1 + 1 + 1, 2, none⟩ (.bool gV)).setCell ⟨w.heap.size + 1 + 1 + 1 + 1 + 1, 3, none⟩ (.bool oV)) := ⟨Sets.cell (by omega) [(0, .slice aV nV cV), (1, .int .i64 lV), (2, .bool gV), (3, .bool oV)] hS.1, Sets.cell (by omega) [(0, .slice aV nV cV), (1, .int .i64 lV), (2, .bool gV), (3, .bool oV)] hS.2.1, Sets.cell (by omega) [(0, .slice aV nV cV), (1, .int .i64 lV), (2, .bool gV), (3, .bool oV)] hS.2.2.1, Sets.cell (by omega) [(0, .slice aV nV cV), (1, .int .i64 lV), (2, .bool gV), (3, .bool oV)] hS.2.2.2.1, Sets.cell (by omega) [(0, .slice aV nV cV), (1, .int .i64 lV), (2, .bool gV), (3, .bool oV)] hS.2.2.2.2.1, Sets.cell (by omega) [(0, .slice aV nV cV), (1, .int .i64 lV), (2, .bool gV), (3, .bool oV)] hS.2.2.2.2.2.1, Sets.cell (by omega) [(0, .slice aV nV cV), (1, .int .i64 lV), (2, .bool gV), (3, .bool oV)] hS.2.2.2.2.2.2.1, Sets.cell (by omega) [(0, .slice aV nV cV), (1, .int .i64 lV), (2, .bool gV), (3, .bool oV)] hS.2.2.2.2.2.2.2.1, Sets.below (by omega) [(0, .slice aV nV cV), (1, .int .i64 lV), (2, .bool gV), (3, .bool oV)] hS.2.2.2.2.2.2.2.2⟩
         refine calA 7 fun KF hK => ?_
         go_simp
         go_wp2_with fail
         refine hK.out _ _ hS2 ?_
         clear hS
         intro hS
         clear hK KF k0 k1 k2 k3 f0 f1 f2 f3 hfr
         try simp only [Act.put]
         try simp only [List.setIfInBounds_toArray, List.set_cons_zero, List.set_cons_succ]
         refine wpAnyH_done (by kernel_rfl) ?_ _
         generalize ((((wx.setCell ⟨w.heap.size + 1 + 1 + 1 + 1 + 1, 0, none⟩ (.slice aV nV cV)).setCell ⟨w.heap.size + 1 + 1 + 1 + 1 + 1, 1, none⟩ (.int .i64 lV)).setCell ⟨w.heap.size + 1 + 1 + 1 + 1 + 1, 2, none⟩ (.bool gV)).setCell ⟨w.heap.size + 1 + 1 + 1 + 1 + 1, 3, none⟩ (.bool oV)) = WL at *
         have HL : Hid (Corn WL cb aA nA cA lA gA oA aB nB cB lB gB oB aC nC cC lC gC oC aD nD cD lD gD oD aE nE cE lE gE oE aF nF cF lF gF oF (fval ax) (fval ay) (fval bx) (fval by') (fval cx) (fval cy) ∧ (NB WL (w.heap.size + 1 + 1 + 1) (0 + (fval ax * fval ax + fval ay * fval ay) * (fval by' - fval cy)) ∧ NB WL (w.heap.size + 1 + 1 + 1 + 1) (0 + (fval ax * fval ax + fval ay * fval ay) * (-(fval bx - fval cx))) ∧ NB WL (w.heap.size + 1 + 1 + 1 + 1 + 1) (0 + 2 * fval ax * (fval by' - fval cy)) ∧ NB WL (w.heap.size + 1 + 1 + 1 + 1 + 1 + 1) (0 + (fval ax * fval ax + fval ay * fval ay) * (fval by' - fval cy)) ∧ NB WL (w.heap.size + 1 + 1 + 1 + 1 + 1 + 1 + 1) (0 + (fval ax * fval ax + fval ay * fval ay) * (-(fval bx - fval cx))) ∧ NB WL (w.heap.size + 1 + 1 + 1 + 1 + 1 + 1 + 1 + 1) (0 + 2 * fval ax * (fval by' - fval cy))) ∧ w.heap.size + 1 + 1 + 1 + 1 + 1 + 1 + 1 + 1 < cb ∧ Below w.heap.size w WL) := ⟨hP.2.1.corn hC (by omega), ⟨hP.2.1.nb nX (by omega), hP.2.1.nb nY (by omega), hP.1, hP.2.1.nb aX (by omega), hP.2.1.nb aY (by omega), hP.2.1.nb aW2 (by omega)⟩, hlow, hS2.2.2.2.2.2.2.2.2⟩
         clear hP hS2 hS hC nX nY nW aX aY aW2 hnV
         go_wp2
         exact ⟨⟨_, _, _, Or.inr (Or.inl ⟨by go_num, rfl, rfl, rfl⟩), HL.out⟩, by simp [intOf]⟩
       · exact ⟨_, _, _, by rw [hA]; rfl, hS, hX, fun h => Bool.noConfusion h, fun h => by omega, fun h => by omega⟩
     · have hlr : Hid (w.heap.size + 1 + 1 + 1 + 1 + 1 + 1 + 1 + 1 < wr.heap.size) := hB.out.2.1.2.2.2.2.2.lt
       obtain ⟨W1, hW1⟩ : ∃ W1, W1 = wr.alloc (.cells #[.slice aC nC cC, .int .i64 lC, .bool gC, .bool oC, .slice aD nD cD, .int .i64 lD, .bool gD, .bool oD] 52) := ⟨_, rfl⟩
       have hb1 : Below wr.heap.size wr W1.drew := by rw [hW1]; exact ((Below.refl _ wr).alloc (Nat.le_refl _) _).drew
       have hB1 : Below w.heap.size w W1.drew := below_step hB.out.2.2.2 hb1
       have hltc := hB.out.1.box.lt
       have hlow := hB.out.2.2.1
       have hX : (Corn W1.drew cb aA nA cA lA gA oA aB nB cB lB gB oB aC nC cC lC gC oC aD nD cD lD gD oD aE nE cE lE gE oE aF nF cF lF gF oF (fval ax) (fval ay) (fval bx) (fval by') (fval cx) (fval cy) ∧ NB W1.drew (w.heap.size + 1 + 1 + 1) (0 + (fval ax * fval ax + fval ay * fval ay) * (fval by' - fval cy)) ∧ NB W1.drew (w.heap.size + 1 + 1 + 1 + 1) (0 + (fval ax * fval ax + fval ay * fval ay) * (-(fval bx - fval cx))) ∧ NB W1.drew (w.heap.size + 1 + 1 + 1 + 1 + 1) (0 + 2 * fval ax * (fval by' - fval cy)) ∧ NB W1.drew (w.heap.size + 1 + 1 + 1 + 1 + 1 + 1) (0 + (fval ax * fval ax + fval ay * fval ay) * (fval by' - fval cy)) ∧ NB W1.drew (w.heap.size + 1 + 1 + 1 + 1 + 1 + 1 + 1) (0 + (fval ax * fval ax + fval ay * fval ay) * (-(fval bx - fval cx))) ∧ NB W1.drew (w.heap.size + 1 + 1 + 1 + 1 + 1 + 1 + 1 + 1) (0 + 2 * fval ax * (fval by' - fval cy)) ∧ PB W1.drew wr.heap.size (fval bx) (fval by')) := ⟨hB.out.1.later hb1, hB.out.2.1.1.later hb1, hB.out.2.1.2.1.later hb1, hB.out.2.1.2.2.1.later hb1, hB.out.2.1.2.2.2.1.later hb1, hB.out.2.1.2.2.2.2.1.later hb1, hB.out.2.1.2.2.2.2.2.later hb1, ⟨⟨aC, nC, cC, lC, gC, oC, aD, nD, cD, lD, gD, oD, by rw [hW1]; exact (CB.new wr _ _).drew, (hB.out.1.n1).later hb1, (hB.out.1.m1).later hb1⟩⟩⟩
       have z16 := hX.1.box.cell 16 (by simp)
       have z17 := hX.1.box.cell 17 (by simp)
       have z18 := hX.1.box.cell 18 (by simp)
       have z19 := hX.1.box.cell 19 (by simp)
       have z20 := hX.1.box.cell 20 (by simp)
       have z21 := hX.1.box.cell 21 (by simp)
       have z22 := hX.1.box.cell 22 (by simp)
       have z23 := hX.1.box.cell 23 (by simp)
       have z0 := hX.1.box.cell 0 (by simp)
       have z1 := hX.1.box.cell 1 (by simp)
       have z2 := hX.1.box.cell 2 (by simp)
       have z3 := hX.1.box.cell 3 (by simp)
       have z4 := hX.1.box.cell 4 (by simp)
       have z5 := hX.1.box.cell 5 (by simp)
       have z6 := hX.1.box.cell 6 (by simp)
       have z7 := hX.1.box.cell 7 (by simp)
       have zp : W1.drew.cell? ⟨wr.heap.size, 0, none⟩ = some (.slice aC nC cC) := by rw [hW1]; go_simp
       go_wp2_with fail
       rw [← hW1]
       clear hW1 hb1
       refine wp_region_held_drew (S := (fun W => W.cell? ⟨cb, 16, none⟩ = some (.slice aE nE cE) ∧ W.cell? ⟨cb, 17, none⟩ = some (.int .i64 lE) ∧ W.cell? ⟨cb, 18, none⟩ = some (.bool gE) ∧ W.cell? ⟨cb, 19, none⟩ = some (.bool oE) ∧ W.cell? ⟨cb, 20, none⟩ = some (.slice aF nF cF) ∧ W.cell? ⟨cb, 21, none⟩ = some (.int .i64 lF) ∧ W.cell? ⟨cb, 22, none⟩ = some (.bool gF) ∧ W.cell? ⟨cb, 23, none⟩ = some (.bool oF) ∧ W.cell? ⟨cb, 0, none⟩ = some (.slice aA nA cA) ∧ W.cell? ⟨cb, 1, none⟩ = some (.int .i64 lA) ∧ W.cell? ⟨cb, 2, none⟩ = some (.bool gA) ∧ W.cell? ⟨cb, 3, none⟩ = some (.bool oA) ∧ W.cell? ⟨cb, 4, none⟩ = some (.slice aB nB cB) ∧ W.cell? ⟨cb, 5, none⟩ = some (.int .i64 lB) ∧ W.cell? ⟨cb, 6, none⟩ = some (.bool gB) ∧ W.cell? ⟨cb, 7, none⟩ = some (.bool oB) ∧ W.cell? ⟨wr.heap.size, 0, none⟩ = some (.slice aC nC cC) ∧ Below w.heap.size w W)) (by kernel_rfl) ⟨z16, z17, z18, z19, z20, z21, z22, z23, z0, z1, z2, z3, z4, z5, z6, z7, zp, hB1⟩ (fun hS => ?_)
       refine takA (i := 0) (d := some 32) (v := .int .i64 1) hS ?_
       simp only [AP]
       refine takA (i := 1) (d := some 33) (v := .int .i64 2) hS ?_
       simp only [AP]
       refine takA (i := 2) (d := some 34) (v := .int .i64 2) hS ?_
       simp only [AP]
       refine takA (i := 3) (d := some 35) (v := .pointer (some ⟨cb, 16, none⟩)) hS ?_
       simp only [AP]
       refine takA (i := 4) (d := some 36) (v := .agg #[.slice aE nE cE, .int .i64 lE, .bool gE, .bool oE, .slice aF nF cF, .int .i64 lF, .bool gF, .bool oF]) hS ?_
       simp only [AP]
       refine takA (i := 5) (d := some 37) (v := .int .i64 1) hS ?_
       simp only [AP]
       refine takA (i := 6) (d := some 38) (v := .int .i64 3) hS ?_
       simp only [AP]
       refine takA (i := 7) (d := some 39) (v := .int .i64 0) hS ?_
       simp only [AP]
       refine takA (i := 8) (d := some 40) (v := .pointer (some ⟨cb, 0, none⟩)) hS ?_
       simp only [AP]
       refine takA (i := 9) (d := some 41) (v := .agg #[.slice aA nA cA, .int .i64 lA, .bool gA, .bool oA, .slice aB nB cB, .int .i64 lB, .bool gB, .bool oB]) hS ?_
       simp only [AP]
       clear z16 z17 z18 z19 z20 z21 z22 z23 z0 z1 z2 z3 z4 z5 z6 z7 zp hB1
       refine frame_named (fun A hA => ?_)
       refine draw1 (f := 1) (n := 2) (al := 12) (fun k => if k = 0 then 10 else 11) (fun (xb : Bool) (kb : Nat) => #[true, true, true, true, true, true, true, true, true, true, decide (1 ≤ kb), decide (2 ≤ kb), xb, false]) (fun (xb : Bool) (kb : Nat) (aa : Act) (W : World) => ∃ (ea e1 e2 : Value), aa = (((A.put (some 15) ea).put (some 42) e1).put (some 43) e2) ∧ (W.cell? ⟨cb, 16, none⟩ = some (.slice aE nE cE) ∧ W.cell? ⟨cb, 17, none⟩ = some (.int .i64 lE) ∧ W.cell? ⟨cb, 18, none⟩ = some (.bool gE) ∧ W.cell? ⟨cb, 19, none⟩ = some (.bool oE) ∧ W.cell? ⟨cb, 20, none⟩ = some (.slice aF nF cF) ∧ W.cell? ⟨cb, 21, none⟩ = some (.int .i64 lF) ∧ W.cell? ⟨cb, 22, none⟩ = some (.bool gF) ∧ W.cell? ⟨cb, 23, none⟩ = some (.bool oF) ∧ W.cell? ⟨cb, 0, none⟩ = some (.slice aA nA cA) ∧ W.cell? ⟨cb, 1, none⟩ = some (.int .i64 lA) ∧ W.cell? ⟨cb, 2, none⟩ = some (.bool gA) ∧ W.cell? ⟨cb, 3, none⟩ = some (.bool oA) ∧ W.cell? ⟨cb, 4, none⟩ = some (.slice aB nB cB) ∧ W.cell? ⟨cb, 5, none⟩ = some (.int .i64 lB) ∧ W.cell? ⟨cb, 6, none⟩ = some (.bool gB) ∧ W.cell? ⟨cb, 7, none⟩ = some (.bool oB) ∧ W.cell? ⟨wr.heap.size, 0, none⟩ = some (.slice aC nC cC) ∧ Below w.heap.size w W) ∧ (Corn W cb aA nA cA lA gA oA aB nB cB lB gB oB aC nC cC lC gC oC aD nD cD lD gD oD aE nE cE lE gE oE aF nF cF lF gF oF (fval ax) (fval ay) (fval bx) (fval by') (fval cx) (fval cy) ∧ NB W (w.heap.size + 1 + 1 + 1) (0 + (fval ax * fval ax + fval ay * fval ay) * (fval by' - fval cy)) ∧ NB W (w.heap.size + 1 + 1 + 1 + 1) (0 + (fval ax * fval ax + fval ay * fval ay) * (-(fval bx - fval cx))) ∧ NB W (w.heap.size + 1 + 1 + 1 + 1 + 1) (0 + 2 * fval ax * (fval by' - fval cy)) ∧ NB W (w.heap.size + 1 + 1 + 1 + 1 + 1 + 1) (0 + (fval ax * fval ax + fval ay * fval ay) * (fval by' - fval cy)) ∧ NB W (w.heap.size + 1 + 1 + 1 + 1 + 1 + 1 + 1) (0 + (fval ax * fval ax + fval ay * fval ay) * (-(fval bx - fval cx))) ∧ NB W (w.heap.size + 1 + 1 + 1 + 1 + 1 + 1 + 1 + 1) (0 + 2 * fval ax * (fval by' - fval cy)) ∧ PB W wr.heap.size (fval bx) (fval by')) ∧ (xb = true → ∃ bb, ea = .pointer (some ⟨bb, 0, none⟩) ∧ PB W bb 0 0 ∧ wr.heap.size < bb) ∧ (1 ≤ kb → PF W e1 (fval cx - fval ax) (fval cy - fval ay)) ∧ (2 ≤ kb → PF W e2 ((fval cy - fval ay)) ((-(fval cx - fval ax))))) ?_ ?_ ?_ ?_ ?_ ?_ 3 false 0 _ _ (by omega) (by decide) ?_
       · intro xb kb hk hx
         have h5 : kb = 0 ∨ kb = 1 ∨ kb = 2 := by omega
         rcases h5 with rfl | rfl | rfl <;> cases xb <;> first | exact absurd (hx rfl) (by decide) | (show _ = _; kernel_rfl)
       · intro xb kb hk
         have h5 : kb = 0 ∨ kb = 1 := by omega
         rcases h5 with rfl | rfl <;> cases xb <;> rfl
       · intro kb hk
         have h5 : kb = 0 ∨ kb = 1 ∨ kb = 2 := by omega
         rcases h5 with rfl | rfl | rfl <;> rfl
       · intro xb kb hk
         have h5 : kb = 0 ∨ kb = 1 := by omega
         rcases h5 with rfl | rfl
         · refine ⟨_, rfl, ?_⟩
           intro aa W hI K' hK
           obtain ⟨ea, e1, e2, rfl, hS, hX, hv, k1, k2⟩ := hI
           have HV : Hid (xb = true → ∃ bb, ea = .pointer (some ⟨bb, 0, none⟩) ∧ PB W bb 0 0 ∧ wr.heap.size < bb) := hv
           clear hv k1 k2
           rw [hA]
           simp only [AP]
           go_simp
           go_wp2_with fail
           refine (less_any _ _ _ _ _ _ _ _ _ _ _ _ _ _ _ _ _ _ _ _ _ _ _ _ _ (HT.out.later hS.2.2.2.2.2.2.2.2.2.2.2.2.2.2.2.2.2) hX.1.n2 hX.1.m2 hX.1.n0 hX.1.m0 (HMy.out.2.1.1) (HMy.out.2.1.2)).mono ?_
           rintro e wx ⟨aZ, nZ, cZ, lZ, gZ, oZ, aY, nY, cY, lY, gY, oY, rfl, hnew, hnew', hbx⟩
           have hS2 : (fun W => W.cell? ⟨cb, 16, none⟩ = some (.slice aE nE cE) ∧ W.cell? ⟨cb, 17, none⟩ = some (.int .i64 lE) ∧ W.cell? ⟨cb, 18, none⟩ = some (.bool gE) ∧ W.cell? ⟨cb, 19, none⟩ = some (.bool oE) ∧ W.cell? ⟨cb, 20, none⟩ = some (.slice aF nF cF) ∧ W.cell? ⟨cb, 21, none⟩ = some (.int .i64 lF) ∧ W.cell? ⟨cb, 22, none⟩ = some (.bool gF) ∧ W.cell? ⟨cb, 23, none⟩ = some (.bool oF) ∧ W.cell? ⟨cb, 0, none⟩ = some (.slice aA nA cA) ∧ W.cell? ⟨cb, 1, none⟩ = some (.int .i64 lA) ∧ W.cell? ⟨cb, 2, none⟩ = some (.bool gA) ∧ W.cell? ⟨cb, 3, none⟩ = some (.bool oA) ∧ W.cell? ⟨cb, 4, none⟩ = some (.slice aB nB cB) ∧ W.cell? ⟨cb, 5, none⟩ = some (.int .i64 lB) ∧ W.cell? ⟨cb, 6, none⟩ = some (.bool gB) ∧ W.cell? ⟨cb, 7, none⟩ = some (.bool oB) ∧ W.cell? ⟨wr.heap.size, 0, none⟩ = some (.slice aC nC cC) ∧ Below w.heap.size w W) wx := (kp17 hbx hS)
           go_wp2_with fail
           exact hK.out _ _ hS2 ⟨ea, _, e2, by rw [hA]; rfl, hS2, ⟨hX.1.later hbx, hX.2.1.later hbx, hX.2.2.1.later hbx, hX.2.2.2.1.later hbx, hX.2.2.2.2.1.later hbx, hX.2.2.2.2.2.1.later hbx, hX.2.2.2.2.2.2.1.later hbx, hX.2.2.2.2.2.2.2.later hbx⟩, fun h => (by obtain ⟨bb, h1, h2, h3⟩ := (HV.out h); exact ⟨bb, h1, h2.later hbx, h3⟩), fun _ => ⟨aZ, nZ, cZ, lZ, gZ, oZ, aY, nY, cY, lY, gY, oY, rfl, hnew, hnew'⟩, fun h => by omega⟩
         · refine ⟨_, rfl, ?_⟩
           intro aa W hI K' hK
           obtain ⟨ea, e1, e2, rfl, hS, hX, hv, k1, k2⟩ := hI
           have r1 := k1 (by omega)
           have HV : Hid (xb = true → ∃ bb, ea = .pointer (some ⟨bb, 0, none⟩) ∧ PB W bb 0 0 ∧ wr.heap.size < bb) := hv
           clear hv k1 k2
           have s1 := r1
           obtain ⟨aG, nG, cG, lG, gG, oG, aH, nH, cH, lH, gH, oH, rfl, hnG, hnH⟩ := s1
           rw [hA]
           simp only [AP]
           go_simp
           go_wp2_with fail
           refine (across_any _ _ _ _ _ _ _ _ _ _ _ _ _ hnG hnH).mono ?_
           rintro e wx ⟨aZ, nZ, cZ, lZ, gZ, oZ, aY, nY, cY, lY, gY, oY, rfl, hnew, hnew', hbx⟩
           have hS2 : (fun W => W.cell? ⟨cb, 16, none⟩ = some (.slice aE nE cE) ∧ W.cell? ⟨cb, 17, none⟩ = some (.int .i64 lE) ∧ W.cell? ⟨cb, 18, none⟩ = some (.bool gE) ∧ W.cell? ⟨cb, 19, none⟩ = some (.bool oE) ∧ W.cell? ⟨cb, 20, none⟩ = some (.slice aF nF cF) ∧ W.cell? ⟨cb, 21, none⟩ = some (.int .i64 lF) ∧ W.cell? ⟨cb, 22, none⟩ = some (.bool gF) ∧ W.cell? ⟨cb, 23, none⟩ = some (.bool oF) ∧ W.cell? ⟨cb, 0, none⟩ = some (.slice aA nA cA) ∧ W.cell? ⟨cb, 1, none⟩ = some (.int .i64 lA) ∧ W.cell? ⟨cb, 2, none⟩ = some (.bool gA) ∧ W.cell? ⟨cb, 3, none⟩ = some (.bool oA) ∧ W.cell? ⟨cb, 4, none⟩ = some (.slice aB nB cB) ∧ W.cell? ⟨cb, 5, none⟩ = some (.int .i64 lB) ∧ W.cell? ⟨cb, 6, none⟩ = some (.bool gB) ∧ W.cell? ⟨cb, 7, none⟩ = some (.bool oB) ∧ W.cell? ⟨wr.heap.size, 0, none⟩ = some (.slice aC nC cC) ∧ Below w.heap.size w W) wx := (kp17 hbx hS)
           go_wp2_with fail
           exact hK.out _ _ hS2 ⟨ea, _, _, by rw [hA]; rfl, hS2, ⟨hX.1.later hbx, hX.2.1.later hbx, hX.2.2.1.later hbx, hX.2.2.2.1.later hbx, hX.2.2.2.2.1.later hbx, hX.2.2.2.2.2.1.later hbx, hX.2.2.2.2.2.2.1.later hbx, hX.2.2.2.2.2.2.2.later hbx⟩, fun h => (by obtain ⟨bb, h1, h2, h3⟩ := (HV.out h); exact ⟨bb, h1, h2.later hbx, h3⟩), fun _ => r1.later hbx, fun _ => ⟨aZ, nZ, cZ, lZ, gZ, oZ, aY, nY, cY, lY, gY, oY, rfl, hnew, hnew'⟩⟩
       · intro kb hk
         refine ⟨_, rfl, ?_⟩
         intro aa W hI K' hK
         obtain ⟨ea, e1, e2, rfl, hS, hX, hv, k1, k2⟩ := hI
         have HK : Hid ((1 ≤ kb → PF W e1 (fval cx - fval ax) (fval cy - fval ay)) ∧ (2 ≤ kb → PF W e2 ((fval cy - fval ay)) ((-(fval cx - fval ax))))) := ⟨k1, k2⟩
         clear hv k1 k2
         have hbx : Below W.heap.size W (W.alloc (.cells #[.slice none 0 0, .int .i64 0, .bool false, .bool false, .slice none 0 0, .int .i64 0, .bool false, .bool false] 52)) := (Below.refl _ W).alloc (Nat.le_refl _) _
         have hlt2 : wr.heap.size < W.heap.size := World.block_lt_of_cell? _ _ hS.2.2.2.2.2.2.2.2.2.2.2.2.2.2.2.2.1
         have hS2 : (fun W => W.cell? ⟨cb, 16, none⟩ = some (.slice aE nE cE) ∧ W.cell? ⟨cb, 17, none⟩ = some (.int .i64 lE) ∧ W.cell? ⟨cb, 18, none⟩ = some (.bool gE) ∧ W.cell? ⟨cb, 19, none⟩ = some (.bool oE) ∧ W.cell? ⟨cb, 20, none⟩ = some (.slice aF nF cF) ∧ W.cell? ⟨cb, 21, none⟩ = some (.int .i64 lF) ∧ W.cell? ⟨cb, 22, none⟩ = some (.bool gF) ∧ W.cell? ⟨cb, 23, none⟩ = some (.bool oF) ∧ W.cell? ⟨cb, 0, none⟩ = some (.slice aA nA cA) ∧ W.cell? ⟨cb, 1, none⟩ = some (.int .i64 lA) ∧ W.cell? ⟨cb, 2, none⟩ = some (.bool gA) ∧ W.cell? ⟨cb, 3, none⟩ = some (.bool oA) ∧ W.cell? ⟨cb, 4, none⟩ = some (.slice aB nB cB) ∧ W.cell? ⟨cb, 5, none⟩ = some (.int .i64 lB) ∧ W.cell? ⟨cb, 6, none⟩ = some (.bool gB) ∧ W.cell? ⟨cb, 7, none⟩ = some (.bool oB) ∧ W.cell? ⟨wr.heap.size, 0, none⟩ = some (.slice aC nC cC) ∧ Below w.heap.size w W) (W.alloc (.cells #[.slice none 0 0, .int .i64 0, .bool false, .bool false, .slice none 0 0, .int .i64 0, .bool false, .bool false] 52)) := (kp17 hbx hS)
         rw [hA]
         simp only [AP]
         go_simp
         go_wp2_with fail
         exact hK.out _ _ hS2 ⟨_, e1, e2, by rw [hA]; rfl, hS2, ⟨hX.1.later hbx, hX.2.1.later hbx, hX.2.2.1.later hbx, hX.2.2.2.1.later hbx, hX.2.2.2.2.1.later hbx, hX.2.2.2.2.2.1.later hbx, hX.2.2.2.2.2.2.1.later hbx, hX.2.2.2.2.2.2.2.later hbx⟩, fun _ => ⟨W.heap.size, rfl, PB.zero W, hlt2⟩, fun h => (HK.out.1 h).later hbx, fun h => (HK.out.2 h).later hbx⟩
       · intro aa W hI
         obtain ⟨ea, e1, e2, rfl, hS, hX, hv, k1, k2⟩ := hI
         replace hv := hv rfl
         have r1 := k1 (by omega)
         have r2 := k2 (by omega)
         clear k1 k2
         obtain ⟨bb, rfl, hNB, hlb⟩ := hv
         obtain ⟨aJ, nJ, cJ, lJ, gJ, oJ, aK, nK, cK, lK, gK, oK, rfl, hnJ, hnK⟩ := r2
         clear r1
         subst hA
         simp only [AP]
         obtain ⟨_, _, _, _, _, _, _, _, _, _, _, _, ⟨k0, k1, k2, k3, k4, k5, k6, k7⟩, _, _, hfr⟩ := hNB.cells
         have f0 := hfr 0
         have f1 := hfr 1
         have f2 := hfr 2
         have f3 := hfr 3
         have f4 := hfr 4
         have f5 := hfr 5
         have f6 := hfr 6
         have f7 := hfr 7
         have hP : (fun W' => PB W' (bb) _ _ ∧ Kept W W' (bb) ∧ IsNum W' (.agg #[.slice aJ nJ cJ, .int .i64 lJ, .bool gJ, .bool oJ]) _ ∧ IsNum W' (.agg #[.slice aK nK cK, .int .i64 lK, .bool gK, .bool oK]) _ ∧ CB W' (bb) #[.slice aJ nJ cJ, .int .i64 lJ, .bool gJ, .bool oJ, .slice aK nK cK, .int .i64 lK, .bool gK, .bool oK] 52) ((((((((W.setCell ⟨bb, 0, none⟩ (.slice aJ nJ cJ)).setCell ⟨bb, 1, none⟩ (.int .i64 lJ)).setCell ⟨bb, 2, none⟩ (.bool gJ)).setCell ⟨bb, 3, none⟩ (.bool oJ)).setCell ⟨bb, 4, none⟩ (.slice aK nK cK)).setCell ⟨bb, 5, none⟩ (.int .i64 lK)).setCell ⟨bb, 6, none⟩ (.bool gK)).setCell ⟨bb, 7, none⟩ (.bool oK)) := hNB.put hnJ hnK
         have hS2 : (fun W => W.cell? ⟨cb, 16, none⟩ = some (.slice aE nE cE) ∧ W.cell? ⟨cb, 17, none⟩ = some (.int .i64 lE) ∧ W.cell? ⟨cb, 18, none⟩ = some (.bool gE) ∧ W.cell? ⟨cb, 19, none⟩ = some (.bool oE) ∧ W.cell? ⟨cb, 20, none⟩ = some (.slice aF nF cF) ∧ W.cell? ⟨cb, 21, none⟩ = some (.int .i64 lF) ∧ W.cell? ⟨cb, 22, none⟩ = some (.bool gF) ∧ W.cell? ⟨cb, 23, none⟩ = some (.bool oF) ∧ W.cell? ⟨cb, 0, none⟩ = some (.slice aA nA cA) ∧ W.cell? ⟨cb, 1, none⟩ = some (.int .i64 lA) ∧ W.cell? ⟨cb, 2, none⟩ = some (.bool gA) ∧ W.cell? ⟨cb, 3, none⟩ = some (.bool oA) ∧ W.cell? ⟨cb, 4, none⟩ = some (.slice aB nB cB) ∧ W.cell? ⟨cb, 5, none⟩ = some (.int .i64 lB) ∧ W.cell? ⟨cb, 6, none⟩ = some (.bool gB) ∧ W.cell? ⟨cb, 7, none⟩ = some (.bool oB) ∧ W.cell? ⟨wr.heap.size, 0, none⟩ = some (.slice aC nC cC) ∧ Below w.heap.size w W) ((((((((W.setCell ⟨bb, 0, none⟩ (.slice aJ nJ cJ)).setCell ⟨bb, 1, none⟩ (.int .i64 lJ)).setCell ⟨bb, 2, none⟩ (.bool gJ)).setCell ⟨bb, 3, none⟩ (.bool oJ)).setCell ⟨bb, 4, none⟩ (.slice aK nK cK)).setCell ⟨bb, 5, none⟩ (.int .i64 lK)).setCell ⟨bb, 6, none⟩ (.bool gK)).setCell ⟨bb, 7, none⟩ (.bool oK)) := ⟨Sets.cell (by omega) [(0, .slice aJ nJ cJ), (1, .int .i64 lJ), (2, .bool gJ), (3, .bool oJ), (4, .slice aK nK cK), (5, .int .i64 lK), (6, .bool gK), (7, .bool oK)] hS.1, Sets.cell (by omega) [(0, .slice aJ nJ cJ), (1, .int .i64 lJ), (2, .bool gJ), (3, .bool oJ), (4, .slice aK nK cK), (5, .int .i64 lK), (6, .bool gK), (7, .bool oK)] hS.2.1, Sets.cell (by omega) [(0, .slice aJ nJ cJ), (1, .int .i64 lJ), (2, .bool gJ), (3, .bool oJ), (4, .slice aK nK cK), (5, .int .i64 lK), (6, .bool gK), (7, .bool oK)] hS.2.2.1, Sets.cell (by omega) [(0, .slice aJ nJ cJ), (1, .int .i64 lJ), (2, .bool gJ), (3, .bool oJ), (4, .slice aK nK cK), (5, .int .i64 lK), (6, .bool gK), (7, .bool oK)] hS.2.2.2.1, Sets.cell (by omega) [(0, .slice aJ nJ cJ), (1, .int .i64 lJ), (2, .bool gJ), (3, .bool oJ), (4, .slice aK nK cK), (5, .int .i64 lK), (6, .bool gK), (7, .bool oK)] hS.2.2.2.2.1, Sets.cell (by omega) [(0, .slice aJ nJ cJ), (1, .int .i64 lJ), (2, .bool gJ), (3, .bool oJ), (4, .slice aK nK cK), (5, .int .i64 lK), (6, .bool gK), (7, .bool oK)] hS.2.2.2.2.2.1, Sets.cell (by omega) [(0, .slice aJ nJ cJ), (1, .int .i64 lJ), (2, .bool gJ), (3, .bool oJ), (4, .slice aK nK cK), (5, .int .i64 lK), (6, .bool gK), (7, .bool oK)] hS.2.2.2.2.2.2.1, Sets.cell (by omega) [(0, .slice aJ nJ cJ), (1, .int .i64 lJ), (2, .bool gJ), (3, .bool oJ), (4, .slice aK nK cK), (5, .int .i64 lK), (6, .bool gK), (7, .bool oK)] hS.2.2.2.2.2.2.2.1, Sets.cell (by omega) [(0, .slice aJ nJ cJ), (1, .int .i64 lJ), (2, .bool gJ), (3, .bool oJ), (4, .slice aK nK cK), (5, .int .i64 lK), (6, .bool gK), (7, .bool oK)] hS.2.2.2.2.2.2.2.2.1, Sets.cell (by omega) [(0, .slice aJ nJ cJ), (1, .int .i64 lJ), (2, .bool gJ), (3, .bool oJ), (4, .slice aK nK cK), (5, .int .i64 lK), (6, .bool gK), (7, .bool oK)] hS.2.2.2.2.2.2.2.2.2.1, Sets.cell (by omega) [(0, .slice aJ nJ cJ), (1, .int .i64 lJ), (2, .bool gJ), (3, .bool oJ), (4, .slice aK nK cK), (5, .int .i64 lK), (6, .bool gK), (7, .bool oK)] hS.2.2.2.2.2.2.2.2.2.2.1, Sets.cell (by omega) [(0, .slice aJ nJ cJ), (1, .int .i64 lJ), (2, .bool gJ), (3, .bool oJ), (4, .slice aK nK cK), (5, .int .i64 lK), (6, .bool gK), (7, .bool oK)] hS.2.2.2.2.2.2.2.2.2.2.2.1, Sets.cell (by omega) [(0, .slice aJ nJ cJ), (1, .int .i64 lJ), (2, .bool gJ), (3, .bool oJ), (4, .slice aK nK cK), (5, .int .i64 lK), (6, .bool gK), (7, .bool oK)] hS.2.2.2.2.2.2.2.2.2.2.2.2.1, Sets.cell (by omega) [(0, .slice aJ nJ cJ), (1, .int .i64 lJ), (2, .bool gJ), (3, .bool oJ), (4, .slice aK nK cK), (5, .int .i64 lK), (6, .bool gK), (7, .bool oK)] hS.2.2.2.2.2.2.2.2.2.2.2.2.2.1, Sets.cell (by omega) [(0, .slice aJ nJ cJ), (1, .int .i64 lJ), (2, .bool gJ), (3, .bool oJ), (4, .slice aK nK cK), (5, .int .i64 lK), (6, .bool gK), (7, .bool oK)] hS.2.2.2.2.2.2.2.2.2.2.2.2.2.2.1, Sets.cell (by omega) [(0, .slice aJ nJ cJ), (1, .int .i64 lJ), (2, .bool gJ), (3, .bool oJ), (4, .slice aK nK cK), (5, .int .i64 lK), (6, .bool gK), (7, .bool oK)] hS.2.2.2.2.2.2.2.2.2.2.2.2.2.2.2.1, Sets.cell (by omega) [(0, .slice aJ nJ cJ), (1, .int .i64 lJ), (2, .bool gJ), (3, .bool oJ), (4, .slice aK nK cK), (5, .int .i64 lK), (6, .bool gK), (7, .bool oK)] hS.2.2.2.2.2.2.2.2.2.2.2.2.2.2.2.2.1, Sets.below (by omega) [(0, .slice aJ nJ cJ), (1, .int .i64 lJ), (2, .bool gJ), (3, .bool oJ), (4, .slice aK nK cK), (5, .int .i64 lK), (6, .bool gK), (7, .bool oK)] hS.2.2.2.2.2.2.2.2.2.2.2.2.2.2.2.2.2⟩
         refine calA 13 fun KF hK => ?_
         go_simp
         go_wp2_with fail
         refine hK.out _ _ hS2 ?_
         clear hS
         intro hS
         clear hK KF k0 k1 k2 k3 k4 k5 k6 k7 f0 f1 f2 f3 f4 f5 f6 f7 hfr
         try simp only [Act.put]
         try simp only [List.setIfInBounds_toArray, List.set_cons_zero, List.set_cons_succ]
         refine wpAnyH_done (by kernel_rfl) ?_ _
         generalize ((((((((W.setCell ⟨bb, 0, none⟩ (.slice aJ nJ cJ)).setCell ⟨bb, 1, none⟩ (.int .i64 lJ)).setCell ⟨bb, 2, none⟩ (.bool gJ)).setCell ⟨bb, 3, none⟩ (.bool oJ)).setCell ⟨bb, 4, none⟩ (.slice aK nK cK)).setCell ⟨bb, 5, none⟩ (.int .i64 lK)).setCell ⟨bb, 6, none⟩ (.bool gK)).setCell ⟨bb, 7, none⟩ (.bool oK)) = WL at *
         obtain ⟨hC, nX, nY, nW, aX, aY, aW, pP⟩ := hX
         have hla := aW.lt
         have HBW : Hid (Below w.heap.size w WL) := hS2.2.2.2.2.2.2.2.2.2.2.2.2.2.2.2.2.2
         have hlw : w.heap.size + 1 + 1 + 1 + 1 + 1 + 1 + 1 + 1 < wr.heap.size := hlr.out
         replace hC := hP.2.1.corn hC (by omega)
         replace nX := hP.2.1.nb nX (by omega)
         replace nY := hP.2.1.nb nY (by omega)
         replace nW := hP.2.1.nb nW (by omega)
         replace aX := hP.2.1.nb aX (by omega)
         replace aY := hP.2.1.nb aY (by omega)
         replace aW := hP.2.1.nb aW (by omega)
         replace pP := hP.2.1.pb pP (by omega)
         have pB := hP.1
         clear hP hS2 hS hNB hnJ hnK
         obtain ⟨aP, nP, cP, lP, gP, oP, aQ, nQ, cQ, lQ, gQ, oQ, ⟨k0, k1, k2, k3, k4, k5, k6, k7⟩, hnP, hnQ, _⟩ := pP.cells
         have HPn : Hid (IsNum WL (.agg #[.slice aP nP cP, .int .i64 lP, .bool gP, .bool oP]) (some (fval bx)) ∧ IsNum WL (.agg #[.slice aQ nQ cQ, .int .i64 lQ, .bool gQ, .bool oQ]) (some (fval by'))) := ⟨hnP, hnQ⟩
         clear hnP hnQ
         have HA : Hid (Corn WL cb aA nA cA lA gA oA aB nB cB lB gB oB aC nC cC lC gC oC aD nD cD lD gD oD aE nE cE lE gE oE aF nF cF lF gF oF (fval ax) (fval ay) (fval bx) (fval by') (fval cx) (fval cy) ∧ NB WL (w.heap.size + 1 + 1 + 1) (0 + (fval ax * fval ax + fval ay * fval ay) * (fval by' - fval cy)) ∧ NB WL (w.heap.size + 1 + 1 + 1 + 1) (0 + (fval ax * fval ax + fval ay * fval ay) * (-(fval bx - fval cx))) ∧ NB WL (w.heap.size + 1 + 1 + 1 + 1 + 1) (0 + 2 * fval ax * (fval by' - fval cy)) ∧ NB WL (w.heap.size + 1 + 1 + 1 + 1 + 1 + 1) (0 + (fval ax * fval ax + fval ay * fval ay) * (fval by' - fval cy)) ∧ NB WL (w.heap.size + 1 + 1 + 1 + 1 + 1 + 1 + 1) (0 + (fval ax * fval ax + fval ay * fval ay) * (-(fval bx - fval cx))) ∧ NB WL (w.heap.size + 1 + 1 + 1 + 1 + 1 + 1 + 1 + 1) (0 + 2 * fval ax * (fval by' - fval cy)) ∧ PB WL wr.heap.size (fval bx) (fval by') ∧ PB WL bb (fval cy - fval ay) (-(fval cx - fval ax))) := ⟨hC, nX, nY, nW, aX, aY, aW, pP, pB⟩
         clear hC nX nY nW aX aY aW pP pB
         go_wp2_with fail
         refine (square_any _ _ _ _ _ _ _ _ _ _ _ _ _ (HT.out.later HBW.out) HPn.out.1 HPn.out.2 HWy.out.2.1.1 HWy.out.2.1.2).mono ?_
         rintro e w7 ⟨aS, nS, cS, lS, gS, oS, rfl, hnS, hb7⟩
         clear k0 k1 k2 k3 k4 k5 k6 k7 HPn
         obtain ⟨W8, hW8⟩ : ∃ W8, w7.alloc (.cells #[.slice aS nS cS, .int .i64 lS, .bool gS, .bool oS] 49) = W8 := ⟨_, rfl⟩
         have hb8 : Below w7.heap.size w7 W8 := by rw [← hW8]; exact (Below.refl _ w7).alloc (Nat.le_refl _) _
         have hb78 : Below WL.heap.size WL W8 := below_step hb7 hb8
         obtain ⟨hC, nX, nY, nW, aX, aY, aW, pP, pB⟩ := HA.out
         have hlbW := pB.lt
         have hls : WL.heap.size ≤ w7.heap.size := hb7.size
         replace hC := hC.later hb78
         replace nX := nX.later hb78
         replace nY := nY.later hb78
         replace nW := nW.later hb78
         replace aX := aX.later hb78
         replace aY := aY.later hb78
         replace aW := aW.later hb78
         replace pP := pP.later hb78
         replace pB := pB.later hb78
         have zS : NB W8 w7.heap.size (fval bx * fval bx + fval by' * fval by') := ⟨⟨aS, nS, cS, lS, gS, oS, by rw [← hW8]; exact CB.new w7 _ _, hnS.later hb8⟩⟩
         have HB8 : Hid (Below w.heap.size w W8) := below_step HBW.out hb78
         clear hnS hb7 hb8 hb78 HA HBW
         obtain ⟨aS, nS, cS, lS, gS, oS, ⟨k0, k1, k2, k3⟩, hnS, _⟩ := zS.cells
         obtain ⟨aJ, nJ, cJ, lJ, gJ, oJ, aK, nK, cK, lK, gK, oK, ⟨m0, m1, m2, m3, m4, m5, m6, m7⟩, hnJ, hnK, _⟩ := pB.cells
         have HQ0 : Hid (Corn W8 cb aA nA cA lA gA oA aB nB cB lB gB oB aC nC cC lC gC oC aD nD cD lD gD oD aE nE cE lE gE oE aF nF cF lF gF oF (fval ax) (fval ay) (fval bx) (fval by') (fval cx) (fval cy) ∧ NB W8 (w.heap.size + 1 + 1 + 1) (0 + (fval ax * fval ax + fval ay * fval ay) * (fval by' - fval cy)) ∧ NB W8 (w.heap.size + 1 + 1 + 1 + 1) (0 + (fval ax * fval ax + fval ay * fval ay) * (-(fval bx - fval cx))) ∧ NB W8 (w.heap.size + 1 + 1 + 1 + 1 + 1) (0 + 2 * fval ax * (fval by' - fval cy)) ∧ NB W8 (w.heap.size + 1 + 1 + 1 + 1 + 1 + 1) (0 + (fval ax * fval ax + fval ay * fval ay) * (fval by' - fval cy)) ∧ NB W8 (w.heap.size + 1 + 1 + 1 + 1 + 1 + 1 + 1) (0 + (fval ax * fval ax + fval ay * fval ay) * (-(fval bx - fval cx))) ∧ NB W8 (w.heap.size + 1 + 1 + 1 + 1 + 1 + 1 + 1 + 1) (0 + 2 * fval ax * (fval by' - fval cy)) ∧ PB W8 wr.heap.size (fval bx) (fval by') ∧ PB W8 bb (fval cy - fval ay) (-(fval cx - fval ax)) ∧ NB W8 w7.heap.size (fval bx * fval bx + fval by' * fval by')) := ⟨hC, nX, nY, nW, aX, aY, aW, pP, pB, zS⟩
         have HS0 : Hid (IsNum W8 (.agg #[.slice aS nS cS, .int .i64 lS, .bool gS, .bool oS]) (some (fval bx * fval bx + fval by' * fval by')) ∧ IsNum W8 (.agg #[.slice aJ nJ cJ, .int .i64 lJ, .bool gJ, .bool oJ]) (some (fval cy - fval ay))) := ⟨hnS, hnJ⟩
         clear hC nX nY nW aX aY aW pP pB zS hnS hnJ hnK
         go_wp2_with fail
         refine (adder1_any (w.heap.size + 1 + 1 + 1 + 1 + 1 + 1) _ _ _ _ _ _ _ _ _ _ _ _ _ (HT.out.later HB8.out) HQ0.out.2.2.2.2.1 HS0.out.1 HS0.out.2 (by have := HT.out.lt; omega) (may_acc HAc0.out.2.1 HSz.out.2.1 HDd.out.2.1.1 (by omega) (by omega)).2.1 (may_acc HAc0.out.2.1 HSz.out.2.1 HDd.out.2.1.1 (by omega) (by omega)).2.2).mono ?_
         rintro e w9 ⟨aD0, nD0, cD0, lD0, gD0, oD0, rfl, hnD, hA2, hkx, hsz⟩
         obtain ⟨hC, nX, nY, nW, aX, aY, aW, pP, pB, zS⟩ := HQ0.out
         replace hC := hkx.corn hC (by omega)
         replace nX := hkx.nb nX (by omega)
         replace nY := hkx.nb nY (by omega)
         replace nW := hkx.nb nW (by omega)
         replace aY := hkx.nb aY (by omega)
         replace aW := hkx.nb aW (by omega)
         replace pP := hkx.pb pP (by omega)
         replace pB := hkx.pb pB (by omega)
         replace zS := hkx.nb zS (by omega)
         replace aX := hA2
         have HBk : Hid (Below w.heap.size w w9) := hkx.bel _ _ (by omega) HB8.out.size HB8.out
         clear k0 k1 k2 k3 m0 m1 m2 m3 m4 m5 m6 m7 HQ0 HS0 HB8 hkx hA2
         clear hW8
         obtain ⟨_, _, _, _, _, _, ⟨k0, k1, k2, k3⟩, _, hfr⟩ := nX.cells
         have f0 := hfr 0
         have f1 := hfr 1
         have f2 := hfr 2
         have f3 := hfr 3
         obtain ⟨V0, hE0⟩ : ∃ V, ((((w9.setCell ⟨w.heap.size + 1 + 1 + 1, 0, none⟩ (.slice aD0 nD0 cD0)).setCell ⟨w.heap.size + 1 + 1 + 1, 1, none⟩ (.int .i64 lD0)).setCell ⟨w.heap.size + 1 + 1 + 1, 2, none⟩ (.bool gD0)).setCell ⟨w.heap.size + 1 + 1 + 1, 3, none⟩ (.bool oD0)) = V := ⟨_, rfl⟩
         have hP : NB V0 (w.heap.size + 1 + 1 + 1) (0 + (fval ax * fval ax + fval ay * fval ay) * (fval by' - fval cy) + (fval bx * fval bx + fval by' * fval by') * (fval cy - fval ay)) ∧ Kept w9 V0 (w.heap.size + 1 + 1 + 1) := by rw [← hE0]; exact nX.put hnD
         replace hC := hP.2.corn hC (by omega)
         replace nY := hP.2.nb nY (by omega)
         replace nW := hP.2.nb nW (by omega)
         replace aX := hP.2.nb aX (by omega)
         replace aY := hP.2.nb aY (by omega)
         replace aW := hP.2.nb aW (by omega)
         replace pP := hP.2.pb pP (by omega)
         replace pB := hP.2.pb pB (by omega)
         replace zS := hP.2.nb zS (by omega)
         replace nX := hP.1
         have HB9 : Hid (Below w.heap.size w V0) := hP.2.bel _ _ (by omega) HBk.out.size HBk.out
         clear hP HBk hnD
         obtain ⟨aS, nS, cS, lS, gS, oS, ⟨k0, k1, k2, k3⟩, hnS, _⟩ := zS.cells
         obtain ⟨aJ, nJ, cJ, lJ, gJ, oJ, aK, nK, cK, lK, gK, oK, ⟨m0, m1, m2, m3, m4, m5, m6, m7⟩, hnJ, hnK, _⟩ := pB.cells
         have HQ1 : Hid (Corn V0 cb aA nA cA lA gA oA aB nB cB lB gB oB aC nC cC lC gC oC aD nD cD lD gD oD aE nE cE lE gE oE aF nF cF lF gF oF (fval ax) (fval ay) (fval bx) (fval by') (fval cx) (fval cy) ∧ NB V0 (w.heap.size + 1 + 1 + 1) (0 + (fval ax * fval ax + fval ay * fval ay) * (fval by' - fval cy) + (fval bx * fval bx + fval by' * fval by') * (fval cy - fval ay)) ∧ NB V0 (w.heap.size + 1 + 1 + 1 + 1) (0 + (fval ax * fval ax + fval ay * fval ay) * (-(fval bx - fval cx))) ∧ NB V0 (w.heap.size + 1 + 1 + 1 + 1 + 1) (0 + 2 * fval ax * (fval by' - fval cy)) ∧ NB V0 (w.heap.size + 1 + 1 + 1 + 1 + 1 + 1) (0 + (fval ax * fval ax + fval ay * fval ay) * (fval by' - fval cy) + (fval bx * fval bx + fval by' * fval by') * (fval cy - fval ay)) ∧ NB V0 (w.heap.size + 1 + 1 + 1 + 1 + 1 + 1 + 1) (0 + (fval ax * fval ax + fval ay * fval ay) * (-(fval bx - fval cx))) ∧ NB V0 (w.heap.size + 1 + 1 + 1 + 1 + 1 + 1 + 1 + 1) (0 + 2 * fval ax * (fval by' - fval cy)) ∧ PB V0 wr.heap.size (fval bx) (fval by') ∧ PB V0 bb (fval cy - fval ay) (-(fval cx - fval ax)) ∧ NB V0 w7.heap.size (fval bx * fval bx + fval by' * fval by')) := ⟨hC, nX, nY, nW, aX, aY, aW, pP, pB, zS⟩
         have HS1 : Hid (IsNum V0 (.agg #[.slice aS nS cS, .int .i64 lS, .bool gS, .bool oS]) (some (fval bx * fval bx + fval by' * fval by')) ∧ IsNum V0 (.agg #[.slice aK nK cK, .int .i64 lK, .bool gK, .bool oK]) (some (-(fval cx - fval ax)))) := ⟨hnS, hnK⟩
         clear hC nX nY nW aX aY aW pP pB zS hnS hnJ hnK
         go_wp2_with fail
         refine (adder1_any (w.heap.size + 1 + 1 + 1 + 1 + 1 + 1 + 1) _ _ _ _ _ _ _ _ _ _ _ _ _ (HT.out.later HB9.out) HQ1.out.2.2.2.2.2.1 HS1.out.1 HS1.out.2 (by have := HT.out.lt; omega) (may_acc HAc1.out.2.1 HSz.out.2.1 HDd.out.2.1.2 (by omega) (by omega)).2.1 (may_acc HAc1.out.2.1 HSz.out.2.1 HDd.out.2.1.2 (by omega) (by omega)).2.2).mono ?_
         rintro e w9 ⟨aD1, nD1, cD1, lD1, gD1, oD1, rfl, hnD, hA2, hkx, hsz⟩
         obtain ⟨hC, nX, nY, nW, aX, aY, aW, pP, pB, zS⟩ := HQ1.out
         replace hC := hkx.corn hC (by omega)
         replace nX := hkx.nb nX (by omega)
         replace nY := hkx.nb nY (by omega)
         replace nW := hkx.nb nW (by omega)
         replace aX := hkx.nb aX (by omega)
         replace aW := hkx.nb aW (by omega)
         replace pP := hkx.pb pP (by omega)
         replace pB := hkx.pb pB (by omega)
         replace zS := hkx.nb zS (by omega)
         replace aY := hA2
         have HBk : Hid (Below w.heap.size w w9) := hkx.bel _ _ (by omega) HB9.out.size HB9.out
         clear k0 k1 k2 k3 m0 m1 m2 m3 m4 m5 m6 m7 HQ1 HS1 HB9 hkx hA2
         obtain ⟨_, _, _, _, _, _, ⟨k0, k1, k2, k3⟩, _, hfr⟩ := nY.cells
         have f0 := hfr 0
         have f1 := hfr 1
         have f2 := hfr 2
         have f3 := hfr 3
         obtain ⟨V1, hE1⟩ : ∃ V, ((((w9.setCell ⟨w.heap.size + 1 + 1 + 1 + 1, 0, none⟩ (.slice aD1 nD1 cD1)).setCell ⟨w.heap.size + 1 + 1 + 1 + 1, 1, none⟩ (.int .i64 lD1)).setCell ⟨w.heap.size + 1 + 1 + 1 + 1, 2, none⟩ (.bool gD1)).setCell ⟨w.heap.size + 1 + 1 + 1 + 1, 3, none⟩ (.bool oD1)) = V := ⟨_, rfl⟩
         have hP : NB V1 (w.heap.size + 1 + 1 + 1 + 1) (0 + (fval ax * fval ax + fval ay * fval ay) * (-(fval bx - fval cx)) + (fval bx * fval bx + fval by' * fval by') * (-(fval cx - fval ax))) ∧ Kept w9 V1 (w.heap.size + 1 + 1 + 1 + 1) := by rw [← hE1]; exact nY.put hnD
         replace hC := hP.2.corn hC (by omega)
         replace nX := hP.2.nb nX (by omega)
         replace nW := hP.2.nb nW (by omega)
         replace aX := hP.2.nb aX (by omega)
         replace aY := hP.2.nb aY (by omega)
         replace aW := hP.2.nb aW (by omega)
         replace pP := hP.2.pb pP (by omega)
         replace pB := hP.2.pb pB (by omega)
         replace zS := hP.2.nb zS (by omega)
         replace nY := hP.1
         have HB10 : Hid (Below w.heap.size w V1) := hP.2.bel _ _ (by omega) HBk.out.size HBk.out
         clear hP HBk hnD
         obtain ⟨aP, nP, cP, lP, gP, oP, aQ, nQ, cQ, lQ, gQ, oQ, ⟨m0, m1, m2, m3, _, _, _, _⟩, hnP, hnQ, _⟩ := (pP.later (Below.refl _ _).drew).cells
         obtain ⟨aJ, nJ, cJ, lJ, gJ, oJ, aK, nK, cK, lK, gK, oK, ⟨j0, j1, j2, j3, _, _, _, _⟩, hnJ, hnK, _⟩ := (pB.later (Below.refl _ _).drew).cells
         replace hC := hC.later (Below.refl _ _).drew
         replace nX := nX.drew
         replace nY := nY.drew
         replace nW := nW.drew
         replace aX := aX.drew
         replace aY := aY.drew
         replace aW := aW.drew
         clear pP pB zS hnQ hnK
         go_wp2_with fail
         clear k0 k1 k2 k3 f0 f1 f2 f3 hfr hE0 hE1
         refine wp_region_held_drew (S := (fun W => W.cell? ⟨wr.heap.size, 0, none⟩ = some (.slice aP nP cP) ∧ W.cell? ⟨wr.heap.size, 1, none⟩ = some (.int .i64 lP) ∧ W.cell? ⟨wr.heap.size, 2, none⟩ = some (.bool gP) ∧ W.cell? ⟨wr.heap.size, 3, none⟩ = some (.bool oP) ∧ W.cell? ⟨bb, 0, none⟩ = some (.slice aJ nJ cJ) ∧ W.cell? ⟨bb, 1, none⟩ = some (.int .i64 lJ) ∧ W.cell? ⟨bb, 2, none⟩ = some (.bool gJ) ∧ W.cell? ⟨bb, 3, none⟩ = some (.bool oJ) ∧ Below w.heap.size w W)) (by kernel_rfl) ⟨m0, m1, m2, m3, j0, j1, j2, j3, HB10.out.drew⟩ (fun hS => ?_)
         refine takA (i := 0) (d := some 56) (v := (.func (Fn.func 107) #[] #[.pointer (some ⟨w.heap.size + 1 + 1 + 1 + 1 + 1 + 1 + 1 + 1, 0, none⟩)])) hS ?_
         simp only [AP]
         refine takA (i := 1) (d := some 57) (v := .pointer (some ⟨wr.heap.size, 0, none⟩)) hS ?_
         simp only [AP]
         refine takA (i := 2) (d := some 58) (v := .agg #[.slice aP nP cP, .int .i64 lP, .bool gP, .bool oP]) hS ?_
         simp only [AP]
         refine takA (i := 4) (d := some 60) (v := .pointer (some ⟨bb, 0, none⟩)) hS ?_
         simp only [AP]
         refine takA (i := 5) (d := some 61) (v := .agg #[.slice aJ nJ cJ, .int .i64 lJ, .bool gJ, .bool oJ]) hS ?_
         simp only [AP]
         refine calA 3 fun KF hK => ?_
         go_simp
         refine (shiftQ hnP (HM2.out.2.1)).mono ?_
         rintro e wx ⟨aT, nT, cT, lT, gT, oT, rfl, hnT, hbx⟩
         replace hC := hC.later hbx
         replace nX := nX.later hbx
         replace nY := nY.later hbx
         replace nW := nW.later hbx
         replace aX := aX.later hbx
         replace aY := aY.later hbx
         replace aW := aW.later hbx
         replace hnJ := hnJ.later hbx
         go_wp2_with fail
         refine hK.out _ _ (kp8 hbx hS) ?_
         clear hS hbx
         intro hS
         clear hK KF
         try simp only [AP]
         refine calA 6 fun KF hK => ?_
         go_simp
         go_wp2_with fail
         refine (adder1_any (w.heap.size + 1 + 1 + 1 + 1 + 1 + 1 + 1 + 1) _ _ _ _ _ _ _ _ _ _ _ _ _ (HT.out.later hS.2.2.2.2.2.2.2.2) aW hnT hnJ (by have := HT.out.lt; omega) (may_acc HAc2.out.2.1 HS2.out.2.1 HDd.out.2.1.1 (by omega) (by omega)).2.1 (may_acc HAc2.out.2.1 HS2.out.2.1 HDd.out.2.1.1 (by omega) (by omega)).2.2).mono ?_
         rintro e wx ⟨aV, nV, cV, lV, gV, oV, rfl, hnV, aW2, hkx, hsz⟩
         replace hC := hkx.corn hC (by omega)
         replace nX := hkx.nb nX (by omega)
         replace nY := hkx.nb nY (by omega)
         replace nW := hkx.nb nW (by omega)
         replace aX := hkx.nb aX (by omega)
         replace aY := hkx.nb aY (by omega)
         go_wp2_with fail
         refine hK.out _ _ ⟨hkx.cell _ _ _ (by omega) hS.1, hkx.cell _ _ _ (by omega) hS.2.1, hkx.cell _ _ _ (by omega) hS.2.2.1, hkx.cell _ _ _ (by omega) hS.2.2.2.1, hkx.cell _ _ _ (by omega) hS.2.2.2.2.1, hkx.cell _ _ _ (by omega) hS.2.2.2.2.2.1, hkx.cell _ _ _ (by omega) hS.2.2.2.2.2.2.1, hkx.cell _ _ _ (by omega) hS.2.2.2.2.2.2.2.1, hkx.bel _ _ (by omega) hS.2.2.2.2.2.2.2.2.size hS.2.2.2.2.2.2.2.2⟩ ?_
         clear hS
         intro hS
         clear hK KF aW hkx hsz hnP hnJ hnT
         try simp only [Act.put]
         try simp only [List.setIfInBounds_toArray, List.set_cons_zero, List.set_cons_succ]
         obtain ⟨_, _, _, _, _, _, ⟨k0, k1, k2, k3⟩, _, hfr⟩ := nW.cells
         have f0 := hfr 0
         have f1 := hfr 1
         have f2 := hfr 2
         have f3 := hfr 3
         have hP : (fun W' => NB W' (w.heap.size + 1 + 1 + 1 + 1 + 1) _ ∧ Kept wx W' (w.heap.size + 1 + 1 + 1 + 1 + 1) ∧ IsNum W' (.agg #[.slice aV nV cV, .int .i64 lV, .bool gV, .bool oV]) _ ∧ CB W' (w.heap.size + 1 + 1 + 1 + 1 + 1) #[.slice aV nV cV, .int .i64 lV, .bool gV, .bool oV] 49) ((((wx.setCell ⟨w.heap.size + 1 + 1 + 1 + 1 + 1, 0, none⟩ (.slice aV nV cV)).setCell ⟨w.heap.size + 1 + 1 + 1 + 1 + 1, 1, none⟩ (.int .i64 lV)).setCell ⟨w.heap.size + 1 + 1 + 1 + 1 + 1, 2, none⟩ (.bool gV)).setCell ⟨w.heap.size + 1 + 1 + 1 + 1 + 1, 3, none⟩ (.bool oV)) := nW.put' hnV
         have hS2 : (fun W => W.cell? ⟨wr.heap.size, 0, none⟩ = some (.slice aP nP cP) ∧ W.cell? ⟨wr.heap.size, 1, none⟩ = some (.int .i64 lP) ∧ W.cell? ⟨wr.heap.size, 2, none⟩ = some (.bool gP) ∧ W.cell? ⟨wr.heap.size, 3, none⟩ = some (.bool oP) ∧ W.cell? ⟨bb, 0, none⟩ = some (.slice aJ nJ cJ) ∧ W.cell? ⟨bb, 1, none⟩ = some (.int .i64 lJ) ∧ W.cell? ⟨bb, 2, none⟩ = some (.bool gJ) ∧ W.cell? ⟨bb, 3, none⟩ = some (.bool oJ) ∧ Below w.heap.size w W) ((((wx.setCell ⟨w.heap.size + 1 + 1 + 1 + 1 + 1, 0, none⟩ (.slice aV nV cV)).setCell ⟨w.heap.size + 1 + 1 + 1 + 1 + 1, 1, none⟩ (.int .i64 lV)).setCell ⟨w.heap.size + 1 + 1 + 1 + 1 + 1, 2, none⟩ (.bool gV)).setCell ⟨w.heap.size + 1 + 1 + 1 + 1 + 1, 3, none⟩ (.bool oV)) := ⟨Sets.cell (by omega) [(0, .slice aV nV cV), (1, .int .i64 lV), (2, .bool gV), (3, .bool oV)] hS.1, Sets.cell (by omega) [(0, .slice aV nV cV), (1, .int .i64 lV), (2, .bool gV), (3, .bool oV)] hS.2.1, Sets.cell (by omega) [(0, .slice aV nV cV), (1, .int .i64 lV), (2, .bool gV), (3, .bool oV)] hS.2.2.1, Sets.cell (by omega) [(0, .slice aV nV cV), (1, .int .i64 lV), (2, .bool gV), (3, .bool oV)] hS.2.2.2.1, Sets.cell (by omega) [(0, .slice aV nV cV), (1, .int .i64 lV), (2, .bool gV), (3, .bool oV)] hS.2.2.2.2.1, Sets.cell (by omega) [(0, .slice aV nV cV), (1, .int .i64 lV), (2, .bool gV), (3, .bool oV)] hS.2.2.2.2.2.1, Sets.cell (by omega) [(0, .slice aV nV cV), (1, .int .i64 lV), (2, .bool gV), (3, .bool oV)] hS.2.2.2.2.2.2.1, Sets.cell (by omega) [(0, .slice aV nV cV), (1, .int .i64 lV), (2, .bool gV), (3, .bool oV)] hS.2.2.2.2.2.2.2.1, Sets.below (by omega) [(0, .slice aV nV cV), (1, .int .i64 lV), (2, .bool gV), (3, .bool oV)] hS.2.2.2.2.2.2.2.2⟩
         refine calA 7 fun KF hK => ?_
         go_simp
         go_wp2_with fail
         refine hK.out _ _ hS2 ?_
         clear hS
         intro hS
         clear hK KF k0 k1 k2 k3 f0 f1 f2 f3 hfr
         try simp only [Act.put]
         try simp only [List.setIfInBounds_toArray, List.set_cons_zero, List.set_cons_succ]
         refine wpAnyH_done (by kernel_rfl) ?_ _
         generalize ((((wx.setCell ⟨w.heap.size + 1 + 1 + 1 + 1 + 1, 0, none⟩ (.slice aV nV cV)).setCell ⟨w.heap.size + 1 + 1 + 1 + 1 + 1, 1, none⟩ (.int .i64 lV)).setCell ⟨w.heap.size + 1 + 1 + 1 + 1 + 1, 2, none⟩ (.bool gV)).setCell ⟨w.heap.size + 1 + 1 + 1 + 1 + 1, 3, none⟩ (.bool oV)) = WL at *
         have HL : Hid (Corn WL cb aA nA cA lA gA oA aB nB cB lB gB oB aC nC cC lC gC oC aD nD cD lD gD oD aE nE cE lE gE oE aF nF cF lF gF oF (fval ax) (fval ay) (fval bx) (fval by') (fval cx) (fval cy) ∧ (NB WL (w.heap.size + 1 + 1 + 1) (0 + (fval ax * fval ax + fval ay * fval ay) * (fval by' - fval cy) + (fval bx * fval bx + fval by' * fval by') * (fval cy - fval ay)) ∧ NB WL (w.heap.size + 1 + 1 + 1 + 1) (0 + (fval ax * fval ax + fval ay * fval ay) * (-(fval bx - fval cx)) + (fval bx * fval bx + fval by' * fval by') * (-(fval cx - fval ax))) ∧ NB WL (w.heap.size + 1 + 1 + 1 + 1 + 1) (0 + 2 * fval ax * (fval by' - fval cy) + 2 * fval bx * (fval cy - fval ay)) ∧ NB WL (w.heap.size + 1 + 1 + 1 + 1 + 1 + 1) (0 + (fval ax * fval ax + fval ay * fval ay) * (fval by' - fval cy) + (fval bx * fval bx + fval by' * fval by') * (fval cy - fval ay)) ∧ NB WL (w.heap.size + 1 + 1 + 1 + 1 + 1 + 1 + 1) (0 + (fval ax * fval ax + fval ay * fval ay) * (-(fval bx - fval cx)) + (fval bx * fval bx + fval by' * fval by') * (-(fval cx - fval ax))) ∧ NB WL (w.heap.size + 1 + 1 + 1 + 1 + 1 + 1 + 1 + 1) (0 + 2 * fval ax * (fval by' - fval cy) + 2 * fval bx * (fval cy - fval ay))) ∧ w.heap.size + 1 + 1 + 1 + 1 + 1 + 1 + 1 + 1 < cb ∧ Below w.heap.size w WL) := ⟨hP.2.1.corn hC (by omega), ⟨hP.2.1.nb nX (by omega), hP.2.1.nb nY (by omega), hP.1, hP.2.1.nb aX (by omega), hP.2.1.nb aY (by omega), hP.2.1.nb aW2 (by omega)⟩, hlow, hS2.2.2.2.2.2.2.2.2⟩
         clear hP hS2 hS hC nX nY nW aX aY aW2 hnV
         go_wp2
         exact ⟨⟨_, _, _, Or.inr (Or.inr (Or.inl ⟨by go_num, rfl, rfl, rfl⟩)), HL.out⟩, by simp [intOf]⟩
       · exact ⟨_, _, _, by rw [hA]; rfl, hS, hX, fun h => Bool.noConfusion h, fun h => by omega, fun h => by omega⟩
     · have hlr : Hid (w.heap.size + 1 + 1 + 1 + 1 + 1 + 1 + 1 + 1 < wr.heap.size) := hB.out.2.1.2.2.2.2.2.lt
       obtain ⟨W1, hW1⟩ : ∃ W1, W1 = wr.alloc (.cells #[.slice aE nE cE, .int .i64 lE, .bool gE, .bool oE, .slice aF nF cF, .int .i64 lF, .bool gF, .bool oF] 52) := ⟨_, rfl⟩
       have hb1 : Below wr.heap.size wr W1.drew := by rw [hW1]; exact ((Below.refl _ wr).alloc (Nat.le_refl _) _).drew
       have hB1 : Below w.heap.size w W1.drew := below_step hB.out.2.2.2 hb1
       have hltc := hB.out.1.box.lt
       have hlow := hB.out.2.2.1
       have hX : (Corn W1.drew cb aA nA cA lA gA oA aB nB cB lB gB oB aC nC cC lC gC oC aD nD cD lD gD oD aE nE cE lE gE oE aF nF cF lF gF oF (fval ax) (fval ay) (fval bx) (fval by') (fval cx) (fval cy) ∧ NB W1.drew (w.heap.size + 1 + 1 + 1) (0 + (fval ax * fval ax + fval ay * fval ay) * (fval by' - fval cy) + (fval bx * fval bx + fval by' * fval by') * (fval cy - fval ay)) ∧ NB W1.drew (w.heap.size + 1 + 1 + 1 + 1) (0 + (fval ax * fval ax + fval ay * fval ay) * (-(fval bx - fval cx)) + (fval bx * fval bx + fval by' * fval by') * (-(fval cx - fval ax))) ∧ NB W1.drew (w.heap.size + 1 + 1 + 1 + 1 + 1) (0 + 2 * fval ax * (fval by' - fval cy) + 2 * fval bx * (fval cy - fval ay)) ∧ NB W1.drew (w.heap.size + 1 + 1 + 1 + 1 + 1 + 1) (0 + (fval ax * fval ax + fval ay * fval ay) * (fval by' - fval cy) + (fval bx * fval bx + fval by' * fval by') * (fval cy - fval ay)) ∧ NB W1.drew (w.heap.size + 1 + 1 + 1 + 1 + 1 + 1 + 1) (0 + (fval ax * fval ax + fval ay * fval ay) * (-(fval bx - fval cx)) + (fval bx * fval bx + fval by' * fval by') * (-(fval cx - fval ax))) ∧ NB W1.drew (w.heap.size + 1 + 1 + 1 + 1 + 1 + 1 + 1 + 1) (0 + 2 * fval ax * (fval by' - fval cy) + 2 * fval bx * (fval cy - fval ay)) ∧ PB W1.drew wr.heap.size (fval cx) (fval cy)) := ⟨hB.out.1.later hb1, hB.out.2.1.1.later hb1, hB.out.2.1.2.1.later hb1, hB.out.2.1.2.2.1.later hb1, hB.out.2.1.2.2.2.1.later hb1, hB.out.2.1.2.2.2.2.1.later hb1, hB.out.2.1.2.2.2.2.2.later hb1, ⟨⟨aE, nE, cE, lE, gE, oE, aF, nF, cF, lF, gF, oF, by rw [hW1]; exact (CB.new wr _ _).drew, (hB.out.1.n2).later hb1, (hB.out.1.m2).later hb1⟩⟩⟩
       have z0 := hX.1.box.cell 0 (by simp)
       have z1 := hX.1.box.cell 1 (by simp)
       have z2 := hX.1.box.cell 2 (by simp)
       have z3 := hX.1.box.cell 3 (by simp)
       have z4 := hX.1.box.cell 4 (by simp)
       have z5 := hX.1.box.cell 5 (by simp)
       have z6 := hX.1.box.cell 6 (by simp)
       have z7 := hX.1.box.cell 7 (by simp)
       have z8 := hX.1.box.cell 8 (by simp)
       have z9 := hX.1.box.cell 9 (by simp)
       have z10 := hX.1.box.cell 10 (by simp)
       have z11 := hX.1.box.cell 11 (by simp)
       have z12 := hX.1.box.cell 12 (by simp)
       have z13 := hX.1.box.cell 13 (by simp)
       have z14 := hX.1.box.cell 14 (by simp)
       have z15 := hX.1.box.cell 15 (by simp)
       have zp : W1.drew.cell? ⟨wr.heap.size, 0, none⟩ = some (.slice aE nE cE) := by rw [hW1]; go_simp
       go_wp2_with fail
       rw [← hW1]
       clear hW1 hb1
       refine wp_region_held_drew (S := (fun W => W.cell? ⟨cb, 0, none⟩ = some (.slice aA nA cA) ∧ W.cell? ⟨cb, 1, none⟩ = some (.int .i64 lA) ∧ W.cell? ⟨cb, 2, none⟩ = some (.bool gA) ∧ W.cell? ⟨cb, 3, none⟩ = some (.bool oA) ∧ W.cell? ⟨cb, 4, none⟩ = some (.slice aB nB cB) ∧ W.cell? ⟨cb, 5, none⟩ = some (.int .i64 lB) ∧ W.cell? ⟨cb, 6, none⟩ = some (.bool gB) ∧ W.cell? ⟨cb, 7, none⟩ = some (.bool oB) ∧ W.cell? ⟨cb, 8, none⟩ = some (.slice aC nC cC) ∧ W.cell? ⟨cb, 9, none⟩ = some (.int .i64 lC) ∧ W.cell? ⟨cb, 10, none⟩ = some (.bool gC) ∧ W.cell? ⟨cb, 11, none⟩ = some (.bool oC) ∧ W.cell? ⟨cb, 12, none⟩ = some (.slice aD nD cD) ∧ W.cell? ⟨cb, 13, none⟩ = some (.int .i64 lD) ∧ W.cell? ⟨cb, 14, none⟩ = some (.bool gD) ∧ W.cell? ⟨cb, 15, none⟩ = some (.bool oD) ∧ W.cell? ⟨wr.heap.size, 0, none⟩ = some (.slice aE nE cE) ∧ Below w.heap.size w W)) (by kernel_rfl) ⟨z0, z1, z2, z3, z4, z5, z6, z7, z8, z9, z10, z11, z12, z13, z14, z15, zp, hB1⟩ (fun hS => ?_)
       refine takA (i := 0) (d := some 32) (v := .int .i64 2) hS ?_
       simp only [AP]
       refine takA (i := 1) (d := some 33) (v := .int .i64 3) hS ?_
       simp only [AP]
       refine takA (i := 2) (d := some 34) (v := .int .i64 0) hS ?_
       simp only [AP]
       refine takA (i := 3) (d := some 35) (v := .pointer (some ⟨cb, 0, none⟩)) hS ?_
       simp only [AP]
       refine takA (i := 4) (d := some 36) (v := .agg #[.slice aA nA cA, .int .i64 lA, .bool gA, .bool oA, .slice aB nB cB, .int .i64 lB, .bool gB, .bool oB]) hS ?_
       simp only [AP]
       refine takA (i := 5) (d := some 37) (v := .int .i64 2) hS ?_
       simp only [AP]
       refine takA (i := 6) (d := some 38) (v := .int .i64 4) hS ?_
       simp only [AP]
       refine takA (i := 7) (d := some 39) (v := .int .i64 1) hS ?_
       simp only [AP]
       refine takA (i := 8) (d := some 40) (v := .pointer (some ⟨cb, 8, none⟩)) hS ?_
       simp only [AP]
       refine takA (i := 9) (d := some 41) (v := .agg #[.slice aC nC cC, .int .i64 lC, .bool gC, .bool oC, .slice aD nD cD, .int .i64 lD, .bool gD, .bool oD]) hS ?_
       simp only [AP]
       clear z0 z1 z2 z3 z4 z5 z6 z7 z8 z9 z10 z11 z12 z13 z14 z15 zp hB1
       refine frame_named (fun A hA => ?_)
       refine draw1 (f := 1) (n := 2) (al := 12) (fun k => if k = 0 then 10 else 11) (fun (xb : Bool) (kb : Nat) => #[true, true, true, true, true, true, true, true, true, true, decide (1 ≤ kb), decide (2 ≤ kb), xb, false]) (fun (xb : Bool) (kb : Nat) (aa : Act) (W : World) => ∃ (ea e1 e2 : Value), aa = (((A.put (some 15) ea).put (some 42) e1).put (some 43) e2) ∧ (W.cell? ⟨cb, 0, none⟩ = some (.slice aA nA cA) ∧ W.cell? ⟨cb, 1, none⟩ = some (.int .i64 lA) ∧ W.cell? ⟨cb, 2, none⟩ = some (.bool gA) ∧ W.cell? ⟨cb, 3, none⟩ = some (.bool oA) ∧ W.cell? ⟨cb, 4, none⟩ = some (.slice aB nB cB) ∧ W.cell? ⟨cb, 5, none⟩ = some (.int .i64 lB) ∧ W.cell? ⟨cb, 6, none⟩ = some (.bool gB) ∧ W.cell? ⟨cb, 7, none⟩ = some (.bool oB) ∧ W.cell? ⟨cb, 8, none⟩ = some (.slice aC nC cC) ∧ W.cell? ⟨cb, 9, none⟩ = some (.int .i64 lC) ∧ W.cell? ⟨cb, 10, none⟩ = some (.bool gC) ∧ W.cell? ⟨cb, 11, none⟩ = some (.bool oC) ∧ W.cell? ⟨cb, 12, none⟩ = some (.slice aD nD cD) ∧ W.cell? ⟨cb, 13, none⟩ = some (.int .i64 lD) ∧ W.cell? ⟨cb, 14, none⟩ = some (.bool gD) ∧ W.cell? ⟨cb, 15, none⟩ = some (.bool oD) ∧ W.cell? ⟨wr.heap.size, 0, none⟩ = some (.slice aE nE cE) ∧ Below w.heap.size w W) ∧ (Corn W cb aA nA cA lA gA oA aB nB cB lB gB oB aC nC cC lC gC oC aD nD cD lD gD oD aE nE cE lE gE oE aF nF cF lF gF oF (fval ax) (fval ay) (fval bx) (fval by') (fval cx) (fval cy) ∧ NB W (w.heap.size + 1 + 1 + 1) (0 + (fval ax * fval ax + fval ay * fval ay) * (fval by' - fval cy) + (fval bx * fval bx + fval by' * fval by') * (fval cy - fval ay)) ∧ NB W (w.heap.size + 1 + 1 + 1 + 1) (0 + (fval ax * fval ax + fval ay * fval ay) * (-(fval bx - fval cx)) + (fval bx * fval bx + fval by' * fval by') * (-(fval cx - fval ax))) ∧ NB W (w.heap.size + 1 + 1 + 1 + 1 + 1) (0 + 2 * fval ax * (fval by' - fval cy) + 2 * fval bx * (fval cy - fval ay)) ∧ NB W (w.heap.size + 1 + 1 + 1 + 1 + 1 + 1) (0 + (fval ax * fval ax + fval ay * fval ay) * (fval by' - fval cy) + (fval bx * fval bx + fval by' * fval by') * (fval cy - fval ay)) ∧ NB W (w.heap.size + 1 + 1 + 1 + 1 + 1 + 1 + 1) (0 + (fval ax * fval ax + fval ay * fval ay) * (-(fval bx - fval cx)) + (fval bx * fval bx + fval by' * fval by') * (-(fval cx - fval ax))) ∧ NB W (w.heap.size + 1 + 1 + 1 + 1 + 1 + 1 + 1 + 1) (0 + 2 * fval ax * (fval by' - fval cy) + 2 * fval bx * (fval cy - fval ay)) ∧ PB W wr.heap.size (fval cx) (fval cy)) ∧ (xb = true → ∃ bb, ea = .pointer (some ⟨bb, 0, none⟩) ∧ PB W bb 0 0 ∧ wr.heap.size < bb) ∧ (1 ≤ kb → PF W e1 (fval ax - fval bx) (fval ay - fval by')) ∧ (2 ≤ kb → PF W e2 ((fval ay - fval by')) ((-(fval ax - fval bx))))) ?_ ?_ ?_ ?_ ?_ ?_ 3 false 0 _ _ (by omega) (by decide) ?_
       · intro xb kb hk hx
         have h5 : kb = 0 ∨ kb = 1 ∨ kb = 2 := by omega
         rcases h5 with rfl | rfl | rfl <;> cases xb <;> first | exact absurd (hx rfl) (by decide) | (show _ = _; kernel_rfl)
       · intro xb kb hk
         have h5 : kb = 0 ∨ kb = 1 := by omega
         rcases h5 with rfl | rfl <;> cases xb <;> rfl
       · intro kb hk
         have h5 : kb = 0 ∨ kb = 1 ∨ kb = 2 := by omega
         rcases h5 with rfl | rfl | rfl <;> rfl
       · intro xb kb hk
         have h5 : kb = 0 ∨ kb = 1 := by omega
         rcases h5 with rfl | rfl
         · refine ⟨_, rfl, ?_⟩
           intro aa W hI K' hK
           obtain ⟨ea, e1, e2, rfl, hS, hX, hv, k1, k2⟩ := hI
           have HV : Hid (xb = true → ∃ bb, ea = .pointer (some ⟨bb, 0, none⟩) ∧ PB W bb 0 0 ∧ wr.heap.size < bb) := hv
           clear hv k1 k2
           rw [hA]
           simp only [AP]
           go_simp
           go_wp2_with fail
           refine (less_any _ _ _ _ _ _ _ _ _ _ _ _ _ _ _ _ _ _ _ _ _ _ _ _ _ (HT.out.later hS.2.2.2.2.2.2.2.2.2.2.2.2.2.2.2.2.2) hX.1.n0 hX.1.m0 hX.1.n1 hX.1.m1 (HMy.out.2.2.1) (HMy.out.2.2.2)).mono ?_
           rintro e wx ⟨aZ, nZ, cZ, lZ, gZ, oZ, aY, nY, cY, lY, gY, oY, rfl, hnew, hnew', hbx⟩
           have hS2 : (fun W => W.cell? ⟨cb, 0, none⟩ = some (.slice aA nA cA) ∧ W.cell? ⟨cb, 1, none⟩ = some (.int .i64 lA) ∧ W.cell? ⟨cb, 2, none⟩ = some (.bool gA) ∧ W.cell? ⟨cb, 3, none⟩ = some (.bool oA) ∧ W.cell? ⟨cb, 4, none⟩ = some (.slice aB nB cB) ∧ W.cell? ⟨cb, 5, none⟩ = some (.int .i64 lB) ∧ W.cell? ⟨cb, 6, none⟩ = some (.bool gB) ∧ W.cell? ⟨cb, 7, none⟩ = some (.bool oB) ∧ W.cell? ⟨cb, 8, none⟩ = some (.slice aC nC cC) ∧ W.cell? ⟨cb, 9, none⟩ = some (.int .i64 lC) ∧ W.cell? ⟨cb, 10, none⟩ = some (.bool gC) ∧ W.cell? ⟨cb, 11, none⟩ = some (.bool oC) ∧ W.cell? ⟨cb, 12, none⟩ = some (.slice aD nD cD) ∧ W.cell? ⟨cb, 13, none⟩ = some (.int .i64 lD) ∧ W.cell? ⟨cb, 14, none⟩ = some (.bool gD) ∧ W.cell? ⟨cb, 15, none⟩ = some (.bool oD) ∧ W.cell? ⟨wr.heap.size, 0, none⟩ = some (.slice aE nE cE) ∧ Below w.heap.size w W) wx := (kp17 hbx hS)
           go_wp2_with fail
           exact hK.out _ _ hS2 ⟨ea, _, e2, by rw [hA]; rfl, hS2, ⟨hX.1.later hbx, hX.2.1.later hbx, hX.2.2.1.later hbx, hX.2.2.2.1.later hbx, hX.2.2.2.2.1.later hbx, hX.2.2.2.2.2.1.later hbx, hX.2.2.2.2.2.2.1.later hbx, hX.2.2.2.2.2.2.2.later hbx⟩, fun h => (by obtain ⟨bb, h1, h2, h3⟩ := (HV.out h); exact ⟨bb, h1, h2.later hbx, h3⟩), fun _ => ⟨aZ, nZ, cZ, lZ, gZ, oZ, aY, nY, cY, lY, gY, oY, rfl, hnew, hnew'⟩, fun h => by omega⟩
         · refine ⟨_, rfl, ?_⟩
           intro aa W hI K' hK
           obtain ⟨ea, e1, e2, rfl, hS, hX, hv, k1, k2⟩ := hI
           have r1 := k1 (by omega)
           have HV : Hid (xb = true → ∃ bb, ea = .pointer (some ⟨bb, 0, none⟩) ∧ PB W bb 0 0 ∧ wr.heap.size < bb) := hv
           clear hv k1 k2
           have s1 := r1
           obtain ⟨aG, nG, cG, lG, gG, oG, aH, nH, cH, lH, gH, oH, rfl, hnG, hnH⟩ := s1
           rw [hA]
           simp only [AP]
           go_simp
           go_wp2_with fail
           refine (across_any _ _ _ _ _ _ _ _ _ _ _ _ _ hnG hnH).mono ?_
           rintro e wx ⟨aZ, nZ, cZ, lZ, gZ, oZ, aY, nY, cY, lY, gY, oY, rfl, hnew, hnew', hbx⟩
           have hS2 : (fun W => W.cell? ⟨cb, 0, none⟩ = some (.slice aA nA cA) ∧ W.cell? ⟨cb, 1, none⟩ = some (.int .i64 lA) ∧ W.cell? ⟨cb, 2, none⟩ = some (.bool gA) ∧ W.cell? ⟨cb, 3, none⟩ = some (.bool oA) ∧ W.cell? ⟨cb, 4, none⟩ = some (.slice aB nB cB) ∧ W.cell? ⟨cb, 5, none⟩ = some (.int .i64 lB) ∧ W.cell? ⟨cb, 6, none⟩ = some (.bool gB) ∧ W.cell? ⟨cb, 7, none⟩ = some (.bool oB) ∧ W.cell? ⟨cb, 8, none⟩ = some (.slice aC nC cC) ∧ W.cell? ⟨cb, 9, none⟩ = some (.int .i64 lC) ∧ W.cell? ⟨cb, 10, none⟩ = some (.bool gC) ∧ W.cell? ⟨cb, 11, none⟩ = some (.bool oC) ∧ W.cell? ⟨cb, 12, none⟩ = some (.slice aD nD cD) ∧ W.cell? ⟨cb, 13, none⟩ = some (.int .i64 lD) ∧ W.cell? ⟨cb, 14, none⟩ = some (.bool gD) ∧ W.cell? ⟨cb, 15, none⟩ = some (.bool oD) ∧ W.cell? ⟨wr.heap.size, 0, none⟩ = some (.slice aE nE cE) ∧ Below w.heap.size w W) wx := (kp17 hbx hS)
           go_wp2_with fail
           exact hK.out _ _ hS2 ⟨ea, _, _, by rw [hA]; rfl, hS2, ⟨hX.1.later hbx, hX.2.1.later hbx, hX.2.2.1.later hbx, hX.2.2.2.1.later hbx, hX.2.2.2.2.1.later hbx, hX.2.2.2.2.2.1.later hbx, hX.2.2.2.2.2.2.1.later hbx, hX.2.2.2.2.2.2.2.later hbx⟩, fun h => (by obtain ⟨bb, h1, h2, h3⟩ := (HV.out h); exact ⟨bb, h1, h2.later hbx, h3⟩), fun _ => r1.later hbx, fun _ => ⟨aZ, nZ, cZ, lZ, gZ, oZ, aY, nY, cY, lY, gY, oY, rfl, hnew, hnew'⟩⟩
       · intro kb hk
         refine ⟨_, rfl, ?_⟩
         intro aa W hI K' hK
         obtain ⟨ea, e1, e2, rfl, hS, hX, hv, k1, k2⟩ := hI
         have HK : Hid ((1 ≤ kb → PF W e1 (fval ax - fval bx) (fval ay - fval by')) ∧ (2 ≤ kb → PF W e2 ((fval ay - fval by')) ((-(fval ax - fval bx))))) := ⟨k1, k2⟩
         clear hv k1 k2
         have hbx : Below W.heap.size W (W.alloc (.cells #[.slice none 0 0, .int .i64 0, .bool false, .bool false, .slice none 0 0, .int .i64 0, .bool false, .bool false] 52)) := (Below.refl _ W).alloc (Nat.le_refl _) _
         have hlt2 : wr.heap.size < W.heap.size := World.block_lt_of_cell? _ _ hS.2.2.2.2.2.2.2.2.2.2.2.2.2.2.2.2.1
         have hS2 : (fun W => W.cell? ⟨cb, 0, none⟩ = some (.slice aA nA cA) ∧ W.cell? ⟨cb, 1, none⟩ = some (.int .i64 lA) ∧ W.cell? ⟨cb, 2, none⟩ = some (.bool gA) ∧ W.cell? ⟨cb, 3, none⟩ = some (.bool oA) ∧ W.cell? ⟨cb, 4, none⟩ = some (.slice aB nB cB) ∧ W.cell? ⟨cb, 5, none⟩ = some (.int .i64 lB) ∧ W.cell? ⟨cb, 6, none⟩ = some (.bool gB) ∧ W.cell? ⟨cb, 7, none⟩ = some (.bool oB) ∧ W.cell? ⟨cb, 8, none⟩ = some (.slice aC nC cC) ∧ W.cell? ⟨cb, 9, none⟩ = some (.int .i64 lC) ∧ W.cell? ⟨cb, 10, none⟩ = some (.bool gC) ∧ W.cell? ⟨cb, 11, none⟩ = some (.bool oC) ∧ W.cell? ⟨cb, 12, none⟩ = some (.slice aD nD cD) ∧ W.cell? ⟨cb, 13, none⟩ = some (.int .i64 lD) ∧ W.cell? ⟨cb, 14, none⟩ = some (.bool gD) ∧ W.cell? ⟨cb, 15, none⟩ = some (.bool oD) ∧ W.cell? ⟨wr.heap.size, 0, none⟩ = some (.slice aE nE cE) ∧ Below w.heap.size w W) (W.alloc (.cells #[.slice none 0 0, .int .i64 0, .bool false, .bool false, .slice none 0 0, .int .i64 0, .bool false, .bool false] 52)) := (kp17 hbx hS)
         rw [hA]
         simp only [AP]
         go_simp
         go_wp2_with fail
         exact hK.out _ _ hS2 ⟨_, e1, e2, by rw [hA]; rfl, hS2, ⟨hX.1.later hbx, hX.2.1.later hbx, hX.2.2.1.later hbx, hX.2.2.2.1.later hbx, hX.2.2.2.2.1.later hbx, hX.2.2.2.2.2.1.later hbx, hX.2.2.2.2.2.2.1.later hbx, hX.2.2.2.2.2.2.2.later hbx⟩, fun _ => ⟨W.heap.size, rfl, PB.zero W, hlt2⟩, fun h => (HK.out.1 h).later hbx, fun h => (HK.out.2 h).later hbx⟩
       · intro aa W hI
         obtain ⟨ea, e1, e2, rfl, hS, hX, hv, k1, k2⟩ := hI
         replace hv := hv rfl
         have r1 := k1 (by omega)
         have r2 := k2 (by omega)
         clear k1 k2
         obtain ⟨bb, rfl, hNB, hlb⟩ := hv
         obtain ⟨aJ, nJ, cJ, lJ, gJ, oJ, aK, nK, cK, lK, gK, oK, rfl, hnJ, hnK⟩ := r2
         clear r1
         subst hA
         simp only [AP]
         obtain ⟨_, _, _, _, _, _, _, _, _, _, _, _, ⟨k0, k1, k2, k3, k4, k5, k6, k7⟩, _, _, hfr⟩ := hNB.cells
         have f0 := hfr 0
         have f1 := hfr 1
         have f2 := hfr 2
         have f3 := hfr 3
         have f4 := hfr 4
         have f5 := hfr 5
         have f6 := hfr 6
         have f7 := hfr 7
         have hP : (fun W' => PB W' (bb) _ _ ∧ Kept W W' (bb) ∧ IsNum W' (.agg #[.slice aJ nJ cJ, .int .i64 lJ, .bool gJ, .bool oJ]) _ ∧ IsNum W' (.agg #[.slice aK nK cK, .int .i64 lK, .bool gK, .bool oK]) _ ∧ CB W' (bb) #[.slice aJ nJ cJ, .int .i64 lJ, .bool gJ, .bool oJ, .slice aK nK cK, .int .i64 lK, .bool gK, .bool oK] 52) ((((((((W.setCell ⟨bb, 0, none⟩ (.slice aJ nJ cJ)).setCell ⟨bb, 1, none⟩ (.int .i64 lJ)).setCell ⟨bb, 2, none⟩ (.bool gJ)).setCell ⟨bb, 3, none⟩ (.bool oJ)).setCell ⟨bb, 4, none⟩ (.slice aK nK cK)).setCell ⟨bb, 5, none⟩ (.int .i64 lK)).setCell ⟨bb, 6, none⟩ (.bool gK)).setCell ⟨bb, 7, none⟩ (.bool oK)) := hNB.put hnJ hnK
         have hS2 : (fun W => W.cell? ⟨cb, 0, none⟩ = some (.slice aA nA cA) ∧ W.cell? ⟨cb, 1, none⟩ = some (.int .i64 lA) ∧ W.cell? ⟨cb, 2, none⟩ = some (.bool gA) ∧ W.cell? ⟨cb, 3, none⟩ = some (.bool oA) ∧ W.cell? ⟨cb, 4, none⟩ = some (.slice aB nB cB) ∧ W.cell? ⟨cb, 5, none⟩ = some (.int .i64 lB) ∧ W.cell? ⟨cb, 6, none⟩ = some (.bool gB) ∧ W.cell? ⟨cb, 7, none⟩ = some (.bool oB) ∧ W.cell? ⟨cb, 8, none⟩ = some (.slice aC nC cC) ∧ W.cell? ⟨cb, 9, none⟩ = some (.int .i64 lC) ∧ W.cell? ⟨cb, 10, none⟩ = some (.bool gC) ∧ W.cell? ⟨cb, 11, none⟩ = some (.bool oC) ∧ W.cell? ⟨cb, 12, none⟩ = some (.slice aD nD cD) ∧ W.cell? ⟨cb, 13, none⟩ = some (.int .i64 lD) ∧ W.cell? ⟨cb, 14, none⟩ = some (.bool gD) ∧ W.cell? ⟨cb, 15, none⟩ = some (.bool oD) ∧ W.cell? ⟨wr.heap.size, 0, none⟩ = some (.slice aE nE cE) ∧ Below w.heap.size w W) ((((((((W.setCell ⟨bb, 0, none⟩ (.slice aJ nJ cJ)).setCell ⟨bb, 1, none⟩ (.int .i64 lJ)).setCell ⟨bb, 2, none⟩ (.bool gJ)).setCell ⟨bb, 3, none⟩ (.bool oJ)).setCell ⟨bb, 4, none⟩ (.slice aK nK cK)).setCell ⟨bb, 5, none⟩ (.int .i64 lK)).setCell ⟨bb, 6, none⟩ (.bool gK)).setCell ⟨bb, 7, none⟩ (.bool oK)) := ⟨Sets.cell (by omega) [(0, .slice aJ nJ cJ), (1, .int .i64 lJ), (2, .bool gJ), (3, .bool oJ), (4, .slice aK nK cK), (5, .int .i64 lK), (6, .bool gK), (7, .bool oK)] hS.1, Sets.cell (by omega) [(0, .slice aJ nJ cJ), (1, .int .i64 lJ), (2, .bool gJ), (3, .bool oJ), (4, .slice aK nK cK), (5, .int .i64 lK), (6, .bool gK), (7, .bool oK)] hS.2.1, Sets.cell (by omega) [(0, .slice aJ nJ cJ), (1, .int .i64 lJ), (2, .bool gJ), (3, .bool oJ), (4, .slice aK nK cK), (5, .int .i64 lK), (6, .bool gK), (7, .bool oK)] hS.2.2.1, Sets.cell (by omega) [(0, .slice aJ nJ cJ), (1, .int .i64 lJ), (2, .bool gJ), (3, .bool oJ), (4, .slice aK nK cK), (5, .int .i64 lK), (6, .bool gK), (7, .bool oK)] hS.2.2.2.1, Sets.cell (by omega) [(0, .slice aJ nJ cJ), (1, .int .i64 lJ), (2, .bool gJ), (3, .bool oJ), (4, .slice aK nK cK), (5, .int .i64 lK), (6, .bool gK), (7, .bool oK)] hS.2.2.2.2.1, Sets.cell (by omega) [(0, .slice aJ nJ cJ), (1, .int .i64 lJ), (2, .bool gJ), (3, .bool oJ), (4, .slice aK nK cK), (5, .int .i64 lK), (6, .bool gK), (7, .bool oK)] hS.2.2.2.2.2.1, Sets.cell (by omega) [(0, .slice aJ nJ cJ), (1, .int .i64 lJ), (2, .bool gJ), (3, .bool oJ), (4, .slice aK nK cK), (5, .int .i64 lK), (6, .bool gK), (7, .bool oK)] hS.2.2.2.2.2.2.1, Sets.cell (by omega) [(0, .slice aJ nJ cJ), (1, .int .i64 lJ), (2, .bool gJ), (3, .bool oJ), (4, .slice aK nK cK), (5, .int .i64 lK), (6, .bool gK), (7, .bool oK)] hS.2.2.2.2.2.2.2.1, Sets.cell (by omega) [(0, .slice aJ nJ cJ), (1, .int .i64 lJ), (2, .bool gJ), (3, .bool oJ), (4, .slice aK nK cK), (5, .int .i64 lK), (6, .bool gK), (7, .bool oK)] hS.2.2.2.2.2.2.2.2.1, Sets.cell (by omega) [(0, .slice aJ nJ cJ), (1, .int .i64 lJ), (2, .bool gJ), (3, .bool oJ), (4, .slice aK nK cK), (5, .int .i64 lK), (6, .bool gK), (7, .bool oK)] hS.2.2.2.2.2.2.2.2.2.1, Sets.cell (by omega) [(0, .slice aJ nJ cJ), (1, .int .i64 lJ), (2, .bool gJ), (3, .bool oJ), (4, .slice aK nK cK), (5, .int .i64 lK), (6, .bool gK), (7, .bool oK)] hS.2.2.2.2.2.2.2.2.2.2.1, Sets.cell (by omega) [(0, .slice aJ nJ cJ), (1, .int .i64 lJ), (2, .bool gJ), (3, .bool oJ), (4, .slice aK nK cK), (5, .int .i64 lK), (6, .bool gK), (7, .bool oK)] hS.2.2.2.2.2.2.2.2.2.2.2.1, Sets.cell (by omega) [(0, .slice aJ nJ cJ), (1, .int .i64 lJ), (2, .bool gJ), (3, .bool oJ), (4, .slice aK nK cK), (5, .int .i64 lK), (6, .bool gK), (7, .bool oK)] hS.2.2.2.2.2.2.2.2.2.2.2.2.1, Sets.cell (by omega) [(0, .slice aJ nJ cJ), (1, .int .i64 lJ), (2, .bool gJ), (3, .bool oJ), (4, .slice aK nK cK), (5, .int .i64 lK), (6, .bool gK), (7, .bool oK)] hS.2.2.2.2.2.2.2.2.2.2.2.2.2.1, Sets.cell (by omega) [(0, .slice aJ nJ cJ), (1, .int .i64 lJ), (2, .bool gJ), (3, .bool oJ), (4, .slice aK nK cK), (5, .int .i64 lK), (6, .bool gK), (7, .bool oK)] hS.2.2.2.2.2.2.2.2.2.2.2.2.2.2.1, Sets.cell (by omega) [(0, .slice aJ nJ cJ), (1, .int .i64 lJ), (2, .bool gJ), (3, .bool oJ), (4, .slice aK nK cK), (5, .int .i64 lK), (6, .bool gK), (7, .bool oK)] hS.2.2.2.2.2.2.2.2.2.2.2.2.2.2.2.1, Sets.cell (by omega) [(0, .slice aJ nJ cJ), (1, .int .i64 lJ), (2, .bool gJ), (3, .bool oJ), (4, .slice aK nK cK), (5, .int .i64 lK), (6, .bool gK), (7, .bool oK)] hS.2.2.2.2.2.2.2.2.2.2.2.2.2.2.2.2.1, Sets.below (by omega) [(0, .slice aJ nJ cJ), (1, .int .i64 lJ), (2, .bool gJ), (3, .bool oJ), (4, .slice aK nK cK), (5, .int .i64 lK), (6, .bool gK), (7, .bool oK)] hS.2.2.2.2.2.2.2.2.2.2.2.2.2.2.2.2.2⟩
         refine calA 13 fun KF hK => ?_
         go_simp
         go_wp2_with fail
         refine hK.out _ _ hS2 ?_
         clear hS
         intro hS
         clear hK KF k0 k1 k2 k3 k4 k5 k6 k7 f0 f1 f2 f3 f4 f5 f6 f7 hfr
         try simp only [Act.put]
         try simp only [List.setIfInBounds_toArray, List.set_cons_zero, List.set_cons_succ]
         refine wpAnyH_done (by kernel_rfl) ?_ _
         generalize ((((((((W.setCell ⟨bb, 0, none⟩ (.slice aJ nJ cJ)).setCell ⟨bb, 1, none⟩ (.int .i64 lJ)).setCell ⟨bb, 2, none⟩ (.bool gJ)).setCell ⟨bb, 3, none⟩ (.bool oJ)).setCell ⟨bb, 4, none⟩ (.slice aK nK cK)).setCell ⟨bb, 5, none⟩ (.int .i64 lK)).setCell ⟨bb, 6, none⟩ (.bool gK)).setCell ⟨bb, 7, none⟩ (.bool oK)) = WL at *
         obtain ⟨hC, nX, nY, nW, aX, aY, aW, pP⟩ := hX
         have hla := aW.lt
         have HBW : Hid (Below w.heap.size w WL) := hS2.2.2.2.2.2.2.2.2.2.2.2.2.2.2.2.2.2
         have hlw : w.heap.size + 1 + 1 + 1 + 1 + 1 + 1 + 1 + 1 < wr.heap.size := hlr.out
         replace hC := hP.2.1.corn hC (by omega)
         replace nX := hP.2.1.nb nX (by omega)
         replace nY := hP.2.1.nb nY (by omega)
         replace nW := hP.2.1.nb nW (by omega)
         replace aX := hP.2.1.nb aX (by omega)
         replace aY := hP.2.1.nb aY (by omega)
         replace aW := hP.2.1.nb aW (by omega)
         replace pP := hP.2.1.pb pP (by omega)
         have pB := hP.1
         clear hP hS2 hS hNB hnJ hnK
         obtain ⟨aP, nP, cP, lP, gP, oP, aQ, nQ, cQ, lQ, gQ, oQ, ⟨k0, k1, k2, k3, k4, k5, k6, k7⟩, hnP, hnQ, _⟩ := pP.cells
         have HPn : Hid (IsNum WL (.agg #[.slice aP nP cP, .int .i64 lP, .bool gP, .bool oP]) (some (fval cx)) ∧ IsNum WL (.agg #[.slice aQ nQ cQ, .int .i64 lQ, .bool gQ, .bool oQ]) (some (fval cy))) := ⟨hnP, hnQ⟩
         clear hnP hnQ
         have HA : Hid (Corn WL cb aA nA cA lA gA oA aB nB cB lB gB oB aC nC cC lC gC oC aD nD cD lD gD oD aE nE cE lE gE oE aF nF cF lF gF oF (fval ax) (fval ay) (fval bx) (fval by') (fval cx) (fval cy) ∧ NB WL (w.heap.size + 1 + 1 + 1) (0 + (fval ax * fval ax + fval ay * fval ay) * (fval by' - fval cy) + (fval bx * fval bx + fval by' * fval by') * (fval cy - fval ay)) ∧ NB WL (w.heap.size + 1 + 1 + 1 + 1) (0 + (fval ax * fval ax + fval ay * fval ay) * (-(fval bx - fval cx)) + (fval bx * fval bx + fval by' * fval by') * (-(fval cx - fval ax))) ∧ NB WL (w.heap.size + 1 + 1 + 1 + 1 + 1) (0 + 2 * fval ax * (fval by' - fval cy) + 2 * fval bx * (fval cy - fval ay)) ∧ NB WL (w.heap.size + 1 + 1 + 1 + 1 + 1 + 1) (0 + (fval ax * fval ax + fval ay * fval ay) * (fval by' - fval cy) + (fval bx * fval bx + fval by' * fval by') * (fval cy - fval ay)) ∧ NB WL (w.heap.size + 1 + 1 + 1 + 1 + 1 + 1 + 1) (0 + (fval ax * fval ax + fval ay * fval ay) * (-(fval bx - fval cx)) + (fval bx * fval bx + fval by' * fval by') * (-(fval cx - fval ax))) ∧ NB WL (w.heap.size + 1 + 1 + 1 + 1 + 1 + 1 + 1 + 1) (0 + 2 * fval ax * (fval by' - fval cy) + 2 * fval bx * (fval cy - fval ay)) ∧ PB WL wr.heap.size (fval cx) (fval cy) ∧ PB WL bb (fval ay - fval by') (-(fval ax - fval bx))) := ⟨hC, nX, nY, nW, aX, aY, aW, pP, pB⟩
         clear hC nX nY nW aX aY aW pP pB
         go_wp2_with fail
         refine (square_any _ _ _ _ _ _ _ _ _ _ _ _ _ (HT.out.later HBW.out) HPn.out.1 HPn.out.2 HWy.out.2.2.1 HWy.out.2.2.2).mono ?_
         rintro e w7 ⟨aS, nS, cS, lS, gS, oS, rfl, hnS, hb7⟩
         clear k0 k1 k2 k3 k4 k5 k6 k7 HPn
         obtain ⟨W8, hW8⟩ : ∃ W8, w7.alloc (.cells #[.slice aS nS cS, .int .i64 lS, .bool gS, .bool oS] 49) = W8 := ⟨_, rfl⟩
         have hb8 : Below w7.heap.size w7 W8 := by rw [← hW8]; exact (Below.refl _ w7).alloc (Nat.le_refl _) _
         have hb78 : Below WL.heap.size WL W8 := below_step hb7 hb8
         obtain ⟨hC, nX, nY, nW, aX, aY, aW, pP, pB⟩ := HA.out
         have hlbW := pB.lt
         have hls : WL.heap.size ≤ w7.heap.size := hb7.size
         replace hC := hC.later hb78
         replace nX := nX.later hb78
         replace nY := nY.later hb78
         replace nW := nW.later hb78
         replace aX := aX.later hb78
         replace aY := aY.later hb78
         replace aW := aW.later hb78
         replace pP := pP.later hb78
         replace pB := pB.later hb78
         have zS : NB W8 w7.heap.size (fval cx * fval cx + fval cy * fval cy) := ⟨⟨aS, nS, cS, lS, gS, oS, by rw [← hW8]; exact CB.new w7 _ _, hnS.later hb8⟩⟩
         have HB8 : Hid (Below w.heap.size w W8) := below_step HBW.out hb78
         clear hnS hb7 hb8 hb78 HA HBW
         obtain ⟨aS, nS, cS, lS, gS, oS, ⟨k0, k1, k2, k3⟩, hnS, _⟩ := zS.cells
         obtain ⟨aJ, nJ, cJ, lJ, gJ, oJ, aK, nK, cK, lK, gK, oK, ⟨m0, m1, m2, m3, m4, m5, m6, m7⟩, hnJ, hnK, _⟩ := pB.cells
         have HQ0 : Hid (Corn W8 cb aA nA cA lA gA oA aB nB cB lB gB oB aC nC cC lC gC oC aD nD cD lD gD oD aE nE cE lE gE oE aF nF cF lF gF oF (fval ax) (fval ay) (fval bx) (fval by') (fval cx) (fval cy) ∧ NB W8 (w.heap.size + 1 + 1 + 1) (0 + (fval ax * fval ax + fval ay * fval ay) * (fval by' - fval cy) + (fval bx * fval bx + fval by' * fval by') * (fval cy - fval ay)) ∧ NB W8 (w.heap.size + 1 + 1 + 1 + 1) (0 + (fval ax * fval ax + fval ay * fval ay) * (-(fval bx - fval cx)) + (fval bx * fval bx + fval by' * fval by') * (-(fval cx - fval ax))) ∧ NB W8 (w.heap.size + 1 + 1 + 1 + 1 + 1) (0 + 2 * fval ax * (fval by' - fval cy) + 2 * fval bx * (fval cy - fval ay)) ∧ NB W8 (w.heap.size + 1 + 1 + 1 + 1 + 1 + 1) (0 + (fval ax * fval ax + fval ay * fval ay) * (fval by' - fval cy) + (fval bx * fval bx + fval by' * fval by') * (fval cy - fval ay)) ∧ NB W8 (w.heap.size + 1 + 1 + 1 + 1 + 1 + 1 + 1) (0 + (fval ax * fval ax + fval ay * fval ay) * (-(fval bx - fval cx)) + (fval bx * fval bx + fval by' * fval by') * (-(fval cx - fval ax))) ∧ NB W8 (w.heap.size + 1 + 1 + 1 + 1 + 1 + 1 + 1 + 1) (0 + 2 * fval ax * (fval by' - fval cy) + 2 * fval bx * (fval cy - fval ay)) ∧ PB W8 wr.heap.size (fval cx) (fval cy) ∧ PB W8 bb (fval ay - fval by') (-(fval ax - fval bx)) ∧ NB W8 w7.heap.size (fval cx * fval cx + fval cy * fval cy)) := ⟨hC, nX, nY, nW, aX, aY, aW, pP, pB, zS⟩
         have HS0 : Hid (IsNum W8 (.agg #[.slice aS nS cS, .int .i64 lS, .bool gS, .bool oS]) (some (fval cx * fval cx + fval cy * fval cy)) ∧ IsNum W8 (.agg #[.slice aJ nJ cJ, .int .i64 lJ, .bool gJ, .bool oJ]) (some (fval ay - fval by'))) := ⟨hnS, hnJ⟩
         clear hC nX nY nW aX aY aW pP pB zS hnS hnJ hnK
         go_wp2_with fail
         refine (adder1_any (w.heap.size + 1 + 1 + 1 + 1 + 1 + 1) _ _ _ _ _ _ _ _ _ _ _ _ _ (HT.out.later HB8.out) HQ0.out.2.2.2.2.1 HS0.out.1 HS0.out.2 (by have := HT.out.lt; omega) (may_acc HAc0.out.2.2 HSz.out.2.2 HDd.out.2.2.1 (by omega) (by omega)).2.1 (may_acc HAc0.out.2.2 HSz.out.2.2 HDd.out.2.2.1 (by omega) (by omega)).2.2).mono ?_
         rintro e w9 ⟨aD0, nD0, cD0, lD0, gD0, oD0, rfl, hnD, hA2, hkx, hsz⟩
         obtain ⟨hC, nX, nY, nW, aX, aY, aW, pP, pB, zS⟩ := HQ0.out
         replace hC := hkx.corn hC (by omega)
         replace nX := hkx.nb nX (by omega)
         replace nY := hkx.nb nY (by omega)
         replace nW := hkx.nb nW (by omega)
         replace aY := hkx.nb aY (by omega)
         replace aW := hkx.nb aW (by omega)
         replace pP := hkx.pb pP (by omega)
         replace pB := hkx.pb pB (by omega)
         replace zS := hkx.nb zS (by omega)
         replace aX := hA2
         have HBk : Hid (Below w.heap.size w w9) := hkx.bel _ _ (by omega) HB8.out.size HB8.out
         clear k0 k1 k2 k3 m0 m1 m2 m3 m4 m5 m6 m7 HQ0 HS0 HB8 hkx hA2
         clear hW8
         obtain ⟨_, _, _, _, _, _, ⟨k0, k1, k2, k3⟩, _, hfr⟩ := nX.cells
         have f0 := hfr 0
         have f1 := hfr 1
         have f2 := hfr 2
         have f3 := hfr 3
         obtain ⟨V0, hE0⟩ : ∃ V, ((((w9.setCell ⟨w.heap.size + 1 + 1 + 1, 0, none⟩ (.slice aD0 nD0 cD0)).setCell ⟨w.heap.size + 1 + 1 + 1, 1, none⟩ (.int .i64 lD0)).setCell ⟨w.heap.size + 1 + 1 + 1, 2, none⟩ (.bool gD0)).setCell ⟨w.heap.size + 1 + 1 + 1, 3, none⟩ (.bool oD0)) = V := ⟨_, rfl⟩
         have hP : NB V0 (w.heap.size + 1 + 1 + 1) (0 + (fval ax * fval ax + fval ay * fval ay) * (fval by' - fval cy) + (fval bx * fval bx + fval by' * fval by') * (fval cy - fval ay) + (fval cx * fval cx + fval cy * fval cy) * (fval ay - fval by')) ∧ Kept w9 V0 (w.heap.size + 1 + 1 + 1) := by rw [← hE0]; exact nX.put hnD
         replace hC := hP.2.corn hC (by omega)
         replace nY := hP.2.nb nY (by omega)
         replace nW := hP.2.nb nW (by omega)
         replace aX := hP.2.nb aX (by omega)
         replace aY := hP.2.nb aY (by omega)
         replace aW := hP.2.nb aW (by omega)
         replace pP := hP.2.pb pP (by omega)
         replace pB := hP.2.pb pB (by omega)
         replace zS := hP.2.nb zS (by omega)
         replace nX := hP.1
         have HB9 : Hid (Below w.heap.size w V0) := hP.2.bel _ _ (by omega) HBk.out.size HBk.out
         clear hP HBk hnD
         obtain ⟨aS, nS, cS, lS, gS, oS, ⟨k0, k1, k2, k3⟩, hnS, _⟩ := zS.cells
         obtain ⟨aJ, nJ, cJ, lJ, gJ, oJ, aK, nK, cK, lK, gK, oK, ⟨m0, m1, m2, m3, m4, m5, m6, m7⟩, hnJ, hnK, _⟩ := pB.cells
         have HQ1 : Hid (Corn V0 cb aA nA cA lA gA oA aB nB cB lB gB oB aC nC cC lC gC oC aD nD cD lD gD oD aE nE cE lE gE oE aF nF cF lF gF oF (fval ax) (fval ay) (fval bx) (fval by') (fval cx) (fval cy) ∧ NB V0 (w.heap.size + 1 + 1 + 1) (0 + (fval ax * fval ax + fval ay * fval ay) * (fval by' - fval cy) + (fval bx * fval bx + fval by' * fval by') * (fval cy - fval ay) + (fval cx * fval cx + fval cy * fval cy) * (fval ay - fval by')) ∧ NB V0 (w.heap.size + 1 + 1 + 1 + 1) (0 + (fval ax * fval ax + fval ay * fval ay) * (-(fval bx - fval cx)) + (fval bx * fval bx + fval by' * fval by') * (-(fval cx - fval ax))) ∧ NB V0 (w.heap.size + 1 + 1 + 1 + 1 + 1) (0 + 2 * fval ax * (fval by' - fval cy) + 2 * fval bx * (fval cy - fval ay)) ∧ NB V0 (w.heap.size + 1 + 1 + 1 + 1 + 1 + 1) (0 + (fval ax * fval ax + fval ay * fval ay) * (fval by' - fval cy) + (fval bx * fval bx + fval by' * fval by') * (fval cy - fval ay) + (fval cx * fval cx + fval cy * fval cy) * (fval ay - fval by')) ∧ NB V0 (w.heap.size + 1 + 1 + 1 + 1 + 1 + 1 + 1) (0 + (fval ax * fval ax + fval ay * fval ay) * (-(fval bx - fval cx)) + (fval bx * fval bx + fval by' * fval by') * (-(fval cx - fval ax))) ∧ NB V0 (w.heap.size + 1 + 1 + 1 + 1 + 1 + 1 + 1 + 1) (0 + 2 * fval ax * (fval by' - fval cy) + 2 * fval bx * (fval cy - fval ay)) ∧ PB V0 wr.heap.size (fval cx) (fval cy) ∧ PB V0 bb (fval ay - fval by') (-(fval ax - fval bx)) ∧ NB V0 w7.heap.size (fval cx * fval cx + fval cy * fval cy)) := ⟨hC, nX, nY, nW, aX, aY, aW, pP, pB, zS⟩
         have HS1 : Hid (IsNum V0 (.agg #[.slice aS nS cS, .int .i64 lS, .bool gS, .bool oS]) (some (fval cx * fval cx + fval cy * fval cy)) ∧ IsNum V0 (.agg #[.slice aK nK cK, .int .i64 lK, .bool gK, .bool oK]) (some (-(fval ax - fval bx)))) := ⟨hnS, hnK⟩
         clear hC nX nY nW aX aY aW pP pB zS hnS hnJ hnK
         go_wp2_with fail
         refine (adder1_any (w.heap.size + 1 + 1 + 1 + 1 + 1 + 1 + 1) _ _ _ _ _ _ _ _ _ _ _ _ _ (HT.out.later HB9.out) HQ1.out.2.2.2.2.2.1 HS1.out.1 HS1.out.2 (by have := HT.out.lt; omega) (may_acc HAc1.out.2.2 HSz.out.2.2 HDd.out.2.2.2 (by omega) (by omega)).2.1 (may_acc HAc1.out.2.2 HSz.out.2.2 HDd.out.2.2.2 (by omega) (by omega)).2.2).mono ?_
         rintro e w9 ⟨aD1, nD1, cD1, lD1, gD1, oD1, rfl, hnD, hA2, hkx, hsz⟩
         obtain ⟨hC, nX, nY, nW, aX, aY, aW, pP, pB, zS⟩ := HQ1.out
         replace hC := hkx.corn hC (by omega)
         replace nX := hkx.nb nX (by omega)
         replace nY := hkx.nb nY (by omega)
         replace nW := hkx.nb nW (by omega)
         replace aX := hkx.nb aX (by omega)
         replace aW := hkx.nb aW (by omega)
         replace pP := hkx.pb pP (by omega)
         replace pB := hkx.pb pB (by omega)
         replace zS := hkx.nb zS (by omega)
         replace aY := hA2
         have HBk : Hid (Below w.heap.size w w9) := hkx.bel _ _ (by omega) HB9.out.size HB9.out
         clear k0 k1 k2 k3 m0 m1 m2 m3 m4 m5 m6 m7 HQ1 HS1 HB9 hkx hA2
         obtain ⟨_, _, _, _, _, _, ⟨k0, k1, k2, k3⟩, _, hfr⟩ := nY.cells
         have f0 := hfr 0
         have f1 := hfr 1
         have f2 := hfr 2
         have f3 := hfr 3
         obtain ⟨V1, hE1⟩ : ∃ V, ((((w9.setCell ⟨w.heap.size + 1 + 1 + 1 + 1, 0, none⟩ (.slice aD1 nD1 cD1)).setCell ⟨w.heap.size + 1 + 1 + 1 + 1, 1, none⟩ (.int .i64 lD1)).setCell ⟨w.heap.size + 1 + 1 + 1 + 1, 2, none⟩ (.bool gD1)).setCell ⟨w.heap.size + 1 + 1 + 1 + 1, 3, none⟩ (.bool oD1)) = V := ⟨_, rfl⟩
         have hP : NB V1 (w.heap.size + 1 + 1 + 1 + 1) (0 + (fval ax * fval ax + fval ay * fval ay) * (-(fval bx - fval cx)) + (fval bx * fval bx + fval by' * fval by') * (-(fval cx - fval ax)) + (fval cx * fval cx + fval cy * fval cy) * (-(fval ax - fval bx))) ∧ Kept w9 V1 (w.heap.size + 1 + 1 + 1 + 1) := by rw [← hE1]; exact nY.put hnD
         replace hC := hP.2.corn hC (by omega)
         replace nX := hP.2.nb nX (by omega)
         replace nW := hP.2.nb nW (by omega)
         replace aX := hP.2.nb aX (by omega)
         replace aY := hP.2.nb aY (by omega)
         replace aW := hP.2.nb aW (by omega)
         replace pP := hP.2.pb pP (by omega)
         replace pB := hP.2.pb pB (by omega)
         replace zS := hP.2.nb zS (by omega)
         replace nY := hP.1
         have HB10 : Hid (Below w.heap.size w V1) := hP.2.bel _ _ (by omega) HBk.out.size HBk.out
         clear hP HBk hnD
         obtain ⟨aP, nP, cP, lP, gP, oP, aQ, nQ, cQ, lQ, gQ, oQ, ⟨m0, m1, m2, m3, _, _, _, _⟩, hnP, hnQ, _⟩ := (pP.later (Below.refl _ _).drew).cells
         obtain ⟨aJ, nJ, cJ, lJ, gJ, oJ, aK, nK, cK, lK, gK, oK, ⟨j0, j1, j2, j3, _, _, _, _⟩, hnJ, hnK, _⟩ := (pB.later (Below.refl _ _).drew).cells
         replace hC := hC.later (Below.refl _ _).drew
         replace nX := nX.drew
         replace nY := nY.drew
         replace nW := nW.drew
         replace aX := aX.drew
         replace aY := aY.drew
         replace aW := aW.drew
         clear pP pB zS hnQ hnK
         go_wp2_with fail
         clear k0 k1 k2 k3 f0 f1 f2 f3 hfr hE0 hE1
         refine wp_region_held_drew (S := (fun W => W.cell? ⟨wr.heap.size, 0, none⟩ = some (.slice aP nP cP) ∧ W.cell? ⟨wr.heap.size, 1, none⟩ = some (.int .i64 lP) ∧ W.cell? ⟨wr.heap.size, 2, none⟩ = some (.bool gP) ∧ W.cell? ⟨wr.heap.size, 3, none⟩ = some (.bool oP) ∧ W.cell? ⟨bb, 0, none⟩ = some (.slice aJ nJ cJ) ∧ W.cell? ⟨bb, 1, none⟩ = some (.int .i64 lJ) ∧ W.cell? ⟨bb, 2, none⟩ = some (.bool gJ) ∧ W.cell? ⟨bb, 3, none⟩ = some (.bool oJ) ∧ Below w.heap.size w W)) (by kernel_rfl) ⟨m0, m1, m2, m3, j0, j1, j2, j3, HB10.out.drew⟩ (fun hS => ?_)
         refine takA (i := 0) (d := some 56) (v := (.func (Fn.func 107) #[] #[.pointer (some ⟨w.heap.size + 1 + 1 + 1 + 1 + 1 + 1 + 1 + 1, 0, none⟩)])) hS ?_
         simp only [AP]
         refine takA (i := 1) (d := some 57) (v := .pointer (some ⟨wr.heap.size, 0, none⟩)) hS ?_
         simp only [AP]
         refine takA (i := 2) (d := some 58) (v := .agg #[.slice aP nP cP, .int .i64 lP, .bool gP, .bool oP]) hS ?_
         simp only [AP]
         refine takA (i := 4) (d := some 60) (v := .pointer (some ⟨bb, 0, none⟩)) hS ?_
         simp only [AP]
         refine takA (i := 5) (d := some 61) (v := .agg #[.slice aJ nJ cJ, .int .i64 lJ, .bool gJ, .bool oJ]) hS ?_
         simp only [AP]
         refine calA 3 fun KF hK => ?_
         go_simp
         refine (shiftQ hnP (HM2.out.2.2)).mono ?_
         rintro e wx ⟨aT, nT, cT, lT, gT, oT, rfl, hnT, hbx⟩
         replace hC := hC.later hbx
         replace nX := nX.later hbx
         replace nY := nY.later hbx
         replace nW := nW.later hbx
         replace aX := aX.later hbx
         replace aY := aY.later hbx
         replace aW := aW.later hbx
         replace hnJ := hnJ.later hbx
         go_wp2_with fail
         refine hK.out _ _ (kp8 hbx hS) ?_
         clear hS hbx
         intro hS
         clear hK KF
         try simp only [AP]
         refine calA 6 fun KF hK => ?_
         go_simp
         go_wp2_with fail
         refine (adder1_any (w.heap.size + 1 + 1 + 1 + 1 + 1 + 1 + 1 + 1) _ _ _ _ _ _ _ _ _ _ _ _ _ (HT.out.later hS.2.2.2.2.2.2.2.2) aW hnT hnJ (by have := HT.out.lt; omega) (may_acc HAc2.out.2.2 HS2.out.2.2 HDd.out.2.2.1 (by omega) (by omega)).2.1 (may_acc HAc2.out.2.2 HS2.out.2.2 HDd.out.2.2.1 (by omega) (by omega)).2.2).mono ?_
         rintro e wx ⟨aV, nV, cV, lV, gV, oV, rfl, hnV, aW2, hkx, hsz⟩
         replace hC := hkx.corn hC (by omega)
         replace nX := hkx.nb nX (by omega)
         replace nY := hkx.nb nY (by omega)
         replace nW := hkx.nb nW (by omega)
         replace aX := hkx.nb aX (by omega)
         replace aY := hkx.nb aY (by omega)
         go_wp2_with fail
         refine hK.out _ _ ⟨hkx.cell _ _ _ (by omega) hS.1, hkx.cell _ _ _ (by omega) hS.2.1, hkx.cell _ _ _ (by omega) hS.2.2.1, hkx.cell _ _ _ (by omega) hS.2.2.2.1, hkx.cell _ _ _ (by omega) hS.2.2.2.2.1, hkx.cell _ _ _ (by omega) hS.2.2.2.2.2.1, hkx.cell _ _ _ (by omega) hS.2.2.2.2.2.2.1, hkx.cell _ _ _ (by omega) hS.2.2.2.2.2.2.2.1, hkx.bel _ _ (by omega) hS.2.2.2.2.2.2.2.2.size hS.2.2.2.2.2.2.2.2⟩ ?_
         clear hS
         intro hS
         clear hK KF aW hkx hsz hnP hnJ hnT
         try simp only [Act.put]
         try simp only [List.setIfInBounds_toArray, List.set_cons_zero, List.set_cons_succ]
         obtain ⟨_, _, _, _, _, _, ⟨k0, k1, k2, k3⟩, _, hfr⟩ := nW.cells
         have f0 := hfr 0
         have f1 := hfr 1
         have f2 := hfr 2
         have f3 := hfr 3
         have hP : (fun W' => NB W' (w.heap.size + 1 + 1 + 1 + 1 + 1) _ ∧ Kept wx W' (w.heap.size + 1 + 1 + 1 + 1 + 1) ∧ IsNum W' (.agg #[.slice aV nV cV, .int .i64 lV, .bool gV, .bool oV]) _ ∧ CB W' (w.heap.size + 1 + 1 + 1 + 1 + 1) #[.slice aV nV cV, .int .i64 lV, .bool gV, .bool oV] 49) ((((wx.setCell ⟨w.heap.size + 1 + 1 + 1 + 1 + 1, 0, none⟩ (.slice aV nV cV)).setCell ⟨w.heap.size + 1 + 1 + 1 + 1 + 1, 1, none⟩ (.int .i64 lV)).setCell ⟨w.heap.size + 1 + 1 + 1 + 1 + 1, 2, none⟩ (.bool gV)).setCell ⟨w.heap.size + 1 + 1 + 1 + 1 + 1, 3, none⟩ (.bool oV)) := nW.put' hnV
         have hS2 : (fun W => W.cell? ⟨wr.heap.size, 0, none⟩ = some (.slice aP nP cP) ∧ W.cell? ⟨wr.heap.size, 1, none⟩ = some (.int .i64 lP) ∧ W.cell? ⟨wr.heap.size, 2, none⟩ = some (.bool gP) ∧ W.cell? ⟨wr.heap.size, 3, none⟩ = some (.bool oP) ∧ W.cell? ⟨bb, 0, none⟩ = some (.slice aJ nJ cJ) ∧ W.cell? ⟨bb, 1, none⟩ = some (.int .i64 lJ) ∧ W.cell? ⟨bb, 2, none⟩ = some (.bool gJ) ∧ W.cell? ⟨bb, 3, none⟩ = some (.bool oJ) ∧ Below w.heap.size w W) ((((wx.setCell ⟨w.heap.size + 1 + 1 + 1 + 1 + 1, 0, none⟩ (.slice aV nV cV)).setCell ⟨w.heap.size + 1 + 1 + 1 + 1 + 1, 1, none⟩ (.int .i64 lV)).setCell ⟨w.heap.size + 1 + 1 + 1 + 1 + 1, 2, none⟩ (.bool gV)).setCell ⟨w.heap.size + 1 + 1 + 1 + 1 + 1, 3, none⟩ (.bool oV)) := ⟨Sets.cell (by omega) [(0, .slice aV nV cV), (1, .int .i64 lV), (2, .bool gV), (3, .bool oV)] hS.1, Sets.cell (by omega) [(0, .slice aV nV cV), (1, .int .i64 lV), (2, .bool gV), (3, .bool oV)] hS.2.1, Sets.cell (by omega) [(0, .slice aV nV cV), (1, .int .i64 lV), (2, .bool gV), (3, .bool oV)] hS.2.2.1, Sets.cell (by omega) [(0, .slice aV nV cV), (1, .int .i64 lV), (2, .bool gV), (3, .bool oV)] hS.2.2.2.1, Sets.cell (by omega) [(0, .slice aV nV cV), (1, .int .i64 lV), (2, .bool gV), (3, .bool oV)] hS.2.2.2.2.1, Sets.cell (by omega) [(0, .slice aV nV cV), (1, .int .i64 lV), (2, .bool gV), (3, .bool oV)] hS.2.2.2.2.2.1, Sets.cell (by omega) [(0, .slice aV nV cV), (1, .int .i64 lV), (2, .bool gV), (3, .bool oV)] hS.2.2.2.2.2.2.1, Sets.cell (by omega) [(0, .slice aV nV cV), (1, .int .i64 lV), (2, .bool gV), (3, .bool oV)] hS.2.2.2.2.2.2.2.1, Sets.below (by omega) [(0, .slice aV nV cV), (1, .int .i64 lV), (2, .bool gV), (3, .bool oV)] hS.2.2.2.2.2.2.2.2⟩
         refine calA 7 fun KF hK => ?_
         go_simp
         go_wp2_with fail
         refine hK.out _ _ hS2 ?_
         clear hS
         intro hS
         clear hK KF k0 k1 k2 k3 f0 f1 f2 f3 hfr
         try simp only [Act.put]
         try simp only [List.setIfInBounds_toArray, List.set_cons_zero, List.set_cons_succ]
         refine wpAnyH_done (by kernel_rfl) ?_ _
         generalize ((((wx.setCell ⟨w.heap.size + 1 + 1 + 1 + 1 + 1, 0, none⟩ (.slice aV nV cV)).setCell ⟨w.heap.size + 1 + 1 + 1 + 1 + 1, 1, none⟩ (.int .i64 lV)).setCell ⟨w.heap.size + 1 + 1 + 1 + 1 + 1, 2, none⟩ (.bool gV)).setCell ⟨w.heap.size + 1 + 1 + 1 + 1 + 1, 3, none⟩ (.bool oV)) = WL at *
         have HL : Hid (Corn WL cb aA nA cA lA gA oA aB nB cB lB gB oB aC nC cC lC gC oC aD nD cD lD gD oD aE nE cE lE gE oE aF nF cF lF gF oF (fval ax) (fval ay) (fval bx) (fval by') (fval cx) (fval cy) ∧ (NB WL (w.heap.size + 1 + 1 + 1) (0 + (fval ax * fval ax + fval ay * fval ay) * (fval by' - fval cy) + (fval bx * fval bx + fval by' * fval by') * (fval cy - fval ay) + (fval cx * fval cx + fval cy * fval cy) * (fval ay - fval by')) ∧ NB WL (w.heap.size + 1 + 1 + 1 + 1) (0 + (fval ax * fval ax + fval ay * fval ay) * (-(fval bx - fval cx)) + (fval bx * fval bx + fval by' * fval by') * (-(fval cx - fval ax)) + (fval cx * fval cx + fval cy * fval cy) * (-(fval ax - fval bx))) ∧ NB WL (w.heap.size + 1 + 1 + 1 + 1 + 1) (0 + 2 * fval ax * (fval by' - fval cy) + 2 * fval bx * (fval cy - fval ay) + 2 * fval cx * (fval ay - fval by')) ∧ NB WL (w.heap.size + 1 + 1 + 1 + 1 + 1 + 1) (0 + (fval ax * fval ax + fval ay * fval ay) * (fval by' - fval cy) + (fval bx * fval bx + fval by' * fval by') * (fval cy - fval ay) + (fval cx * fval cx + fval cy * fval cy) * (fval ay - fval by')) ∧ NB WL (w.heap.size + 1 + 1 + 1 + 1 + 1 + 1 + 1) (0 + (fval ax * fval ax + fval ay * fval ay) * (-(fval bx - fval cx)) + (fval bx * fval bx + fval by' * fval by') * (-(fval cx - fval ax)) + (fval cx * fval cx + fval cy * fval cy) * (-(fval ax - fval bx))) ∧ NB WL (w.heap.size + 1 + 1 + 1 + 1 + 1 + 1 + 1 + 1) (0 + 2 * fval ax * (fval by' - fval cy) + 2 * fval bx * (fval cy - fval ay) + 2 * fval cx * (fval ay - fval by'))) ∧ w.heap.size + 1 + 1 + 1 + 1 + 1 + 1 + 1 + 1 < cb ∧ Below w.heap.size w WL) := ⟨hP.2.1.corn hC (by omega), ⟨hP.2.1.nb nX (by omega), hP.2.1.nb nY (by omega), hP.1, hP.2.1.nb aX (by omega), hP.2.1.nb aY (by omega), hP.2.1.nb aW2 (by omega)⟩, hlow, hS2.2.2.2.2.2.2.2.2⟩
         clear hP hS2 hS hC nX nY nW aX aY aW2 hnV
         go_wp2
         exact ⟨⟨_, _, _, Or.inr (Or.inr (Or.inr (⟨by go_num, rfl, rfl, rfl⟩))), HL.out⟩, by simp [intOf]⟩
       · exact ⟨_, _, _, by rw [hA]; rfl, hS, hX, fun h => Bool.noConfusion h, fun h => by omega, fun h => by omega⟩
     · have hlr : Hid (w.heap.size + 1 + 1 + 1 + 1 + 1 + 1 + 1 + 1 < wr.heap.size) := hB.out.2.1.2.2.2.2.2.lt
       obtain ⟨aX, nX, cX, lX, gX, oX, ⟨x0, x1, x2, x3⟩, hnX, _⟩ := ((hB.out.2.1.1).later (Below.refl _ wr).drew).cells
       have n0 := ((hB.out.2.1.1).later (Below.refl _ wr).drew)
       obtain ⟨aY, nY, cY, lY, gY, oY, ⟨y0, y1, y2, y3⟩, hnY, _⟩ := ((hB.out.2.1.2.1).later (Below.refl _ wr).drew).cells
       have n1 := ((hB.out.2.1.2.1).later (Below.refl _ wr).drew)
       obtain ⟨aU, nU, cU, lU, gU, oU, ⟨u0, u1, u2, u3⟩, hnU, _⟩ := ((hB.out.2.1.2.2.1).later (Below.refl _ wr).drew).cells
       have n2 := ((hB.out.2.1.2.2.1).later (Below.refl _ wr).drew)
       go_wp2_with fail
       refine wp_region_held_drew (S := (fun W => W.cell? ⟨w.heap.size + 1 + 1 + 1, 0, none⟩ = some (.slice aX nX cX) ∧ W.cell? ⟨w.heap.size + 1 + 1 + 1, 1, none⟩ = some (.int .i64 lX) ∧ W.cell? ⟨w.heap.size + 1 + 1 + 1, 2, none⟩ = some (.bool gX) ∧ W.cell? ⟨w.heap.size + 1 + 1 + 1, 3, none⟩ = some (.bool oX) ∧ W.cell? ⟨w.heap.size + 1 + 1 + 1 + 1, 0, none⟩ = some (.slice aY nY cY) ∧ W.cell? ⟨w.heap.size + 1 + 1 + 1 + 1, 1, none⟩ = some (.int .i64 lY) ∧ W.cell? ⟨w.heap.size + 1 + 1 + 1 + 1, 2, none⟩ = some (.bool gY) ∧ W.cell? ⟨w.heap.size + 1 + 1 + 1 + 1, 3, none⟩ = some (.bool oY) ∧ W.cell? ⟨w.heap.size + 1 + 1 + 1 + 1 + 1, 0, none⟩ = some (.slice aU nU cU) ∧ W.cell? ⟨w.heap.size + 1 + 1 + 1 + 1 + 1, 1, none⟩ = some (.int .i64 lU) ∧ W.cell? ⟨w.heap.size + 1 + 1 + 1 + 1 + 1, 2, none⟩ = some (.bool gU) ∧ W.cell? ⟨w.heap.size + 1 + 1 + 1 + 1 + 1, 3, none⟩ = some (.bool oU) ∧ Below w.heap.size w W)) (by kernel_rfl) ⟨x0, x1, x2, x3, y0, y1, y2, y3, u0, u1, u2, u3, hB.out.2.2.2.drew⟩ (fun hS => ?_)
       refine takA (i := 0) (d := some 64) (v := .agg #[.slice aX nX cX, .int .i64 lX, .bool gX, .bool oX]) hS ?_
       simp only [AP]
       refine takA (i := 1) (d := some 65) (v := .agg #[.slice aY nY cY, .int .i64 lY, .bool gY, .bool oY]) hS ?_
       simp only [AP]
       refine takA (i := 2) (d := some 66) (v := .agg #[.slice aU nU cU, .int .i64 lU, .bool gU, .bool oU]) hS ?_
       simp only [AP]
       generalize wr.drew = Wd at *
       obtain ⟨_, _, _, _, _, _, ⟨k0, k1, k2, k3⟩, _, hfr⟩ := n0.cells
       have f0 := hfr 0
       have f1 := hfr 1
       have f2 := hfr 2
       have f3 := hfr 3
       have hP : (fun W' => NB W' (w.heap.size + 1 + 1 + 1) _ ∧ Kept (Wd) W' (w.heap.size + 1 + 1 + 1) ∧ IsNum W' (.agg #[.slice aX nX cX, .int .i64 lX, .bool gX, .bool oX]) _ ∧ CB W' (w.heap.size + 1 + 1 + 1) #[.slice aX nX cX, .int .i64 lX, .bool gX, .bool oX] 49) ((((Wd.setCell ⟨w.heap.size + 1 + 1 + 1, 0, none⟩ (.slice aX nX cX)).setCell ⟨w.heap.size + 1 + 1 + 1, 1, none⟩ (.int .i64 lX)).setCell ⟨w.heap.size + 1 + 1 + 1, 2, none⟩ (.bool gX)).setCell ⟨w.heap.size + 1 + 1 + 1, 3, none⟩ (.bool oX)) := n0.put' hnX
       have hS2 : (fun W => W.cell? ⟨w.heap.size + 1 + 1 + 1, 0, none⟩ = some (.slice aX nX cX) ∧ W.cell? ⟨w.heap.size + 1 + 1 + 1, 1, none⟩ = some (.int .i64 lX) ∧ W.cell? ⟨w.heap.size + 1 + 1 + 1, 2, none⟩ = some (.bool gX) ∧ W.cell? ⟨w.heap.size + 1 + 1 + 1, 3, none⟩ = some (.bool oX) ∧ W.cell? ⟨w.heap.size + 1 + 1 + 1 + 1, 0, none⟩ = some (.slice aY nY cY) ∧ W.cell? ⟨w.heap.size + 1 + 1 + 1 + 1, 1, none⟩ = some (.int .i64 lY) ∧ W.cell? ⟨w.heap.size + 1 + 1 + 1 + 1, 2, none⟩ = some (.bool gY) ∧ W.cell? ⟨w.heap.size + 1 + 1 + 1 + 1, 3, none⟩ = some (.bool oY) ∧ W.cell? ⟨w.heap.size + 1 + 1 + 1 + 1 + 1, 0, none⟩ = some (.slice aU nU cU) ∧ W.cell? ⟨w.heap.size + 1 + 1 + 1 + 1 + 1, 1, none⟩ = some (.int .i64 lU) ∧ W.cell? ⟨w.heap.size + 1 + 1 + 1 + 1 + 1, 2, none⟩ = some (.bool gU) ∧ W.cell? ⟨w.heap.size + 1 + 1 + 1 + 1 + 1, 3, none⟩ = some (.bool oU) ∧ Below w.heap.size w W) ((((Wd.setCell ⟨w.heap.size + 1 + 1 + 1, 0, none⟩ (.slice aX nX cX)).setCell ⟨w.heap.size + 1 + 1 + 1, 1, none⟩ (.int .i64 lX)).setCell ⟨w.heap.size + 1 + 1 + 1, 2, none⟩ (.bool gX)).setCell ⟨w.heap.size + 1 + 1 + 1, 3, none⟩ (.bool oX)) := ⟨hP.2.2.2.cell 0 (by simp), hP.2.2.2.cell 1 (by simp), hP.2.2.2.cell 2 (by simp), hP.2.2.2.cell 3 (by simp), Sets.cell (by omega) [(0, .slice aX nX cX), (1, .int .i64 lX), (2, .bool gX), (3, .bool oX)] hS.2.2.2.2.1, Sets.cell (by omega) [(0, .slice aX nX cX), (1, .int .i64 lX), (2, .bool gX), (3, .bool oX)] hS.2.2.2.2.2.1, Sets.cell (by omega) [(0, .slice aX nX cX), (1, .int .i64 lX), (2, .bool gX), (3, .bool oX)] hS.2.2.2.2.2.2.1, Sets.cell (by omega) [(0, .slice aX nX cX), (1, .int .i64 lX), (2, .bool gX), (3, .bool oX)] hS.2.2.2.2.2.2.2.1, Sets.cell (by omega) [(0, .slice aX nX cX), (1, .int .i64 lX), (2, .bool gX), (3, .bool oX)] hS.2.2.2.2.2.2.2.2.1, Sets.cell (by omega) [(0, .slice aX nX cX), (1, .int .i64 lX), (2, .bool gX), (3, .bool oX)] hS.2.2.2.2.2.2.2.2.2.1, Sets.cell (by omega) [(0, .slice aX nX cX), (1, .int .i64 lX), (2, .bool gX), (3, .bool oX)] hS.2.2.2.2.2.2.2.2.2.2.1, Sets.cell (by omega) [(0, .slice aX nX cX), (1, .int .i64 lX), (2, .bool gX), (3, .bool oX)] hS.2.2.2.2.2.2.2.2.2.2.2.1, Sets.below (by omega) [(0, .slice aX nX cX), (1, .int .i64 lX), (2, .bool gX), (3, .bool oX)] hS.2.2.2.2.2.2.2.2.2.2.2.2⟩
       refine calA 3 fun KF hK => ?_
       go_simp
       go_wp2_with fail
       refine hK.out _ _ hS2 ?_
       clear hS
       intro hS
       clear hK KF k0 k1 k2 k3 f0 f1 f2 f3 hfr hS2
       try simp only [Act.put]
       try simp only [List.setIfInBounds_toArray, List.set_cons_zero, List.set_cons_succ]
       generalize ((((Wd.setCell ⟨w.heap.size + 1 + 1 + 1, 0, none⟩ (.slice aX nX cX)).setCell ⟨w.heap.size + 1 + 1 + 1, 1, none⟩ (.int .i64 lX)).setCell ⟨w.heap.size + 1 + 1 + 1, 2, none⟩ (.bool gX)).setCell ⟨w.heap.size + 1 + 1 + 1, 3, none⟩ (.bool oX)) = E0 at *
       replace hnX := hP.2.1.num _ _ hnX
       replace n1 := hP.2.1.nb n1 (by omega)
       replace hnY := hP.2.1.num _ _ hnY
       replace n2 := hP.2.1.nb n2 (by omega)
       replace hnU := hP.2.1.num _ _ hnU
       replace n0 := hP.1
       clear hP
       obtain ⟨_, _, _, _, _, _, ⟨k0, k1, k2, k3⟩, _, hfr⟩ := n1.cells
       have f0 := hfr 0
       have f1 := hfr 1
       have f2 := hfr 2
       have f3 := hfr 3
       have hP : (fun W' => NB W' (w.heap.size + 1 + 1 + 1 + 1) _ ∧ Kept (E0) W' (w.heap.size + 1 + 1 + 1 + 1) ∧ IsNum W' (.agg #[.slice aY nY cY, .int .i64 lY, .bool gY, .bool oY]) _ ∧ CB W' (w.heap.size + 1 + 1 + 1 + 1) #[.slice aY nY cY, .int .i64 lY, .bool gY, .bool oY] 49) ((((E0.setCell ⟨w.heap.size + 1 + 1 + 1 + 1, 0, none⟩ (.slice aY nY cY)).setCell ⟨w.heap.size + 1 + 1 + 1 + 1, 1, none⟩ (.int .i64 lY)).setCell ⟨w.heap.size + 1 + 1 + 1 + 1, 2, none⟩ (.bool gY)).setCell ⟨w.heap.size + 1 + 1 + 1 + 1, 3, none⟩ (.bool oY)) := n1.put' hnY
       have hS2 : (fun W => W.cell? ⟨w.heap.size + 1 + 1 + 1, 0, none⟩ = some (.slice aX nX cX) ∧ W.cell? ⟨w.heap.size + 1 + 1 + 1, 1, none⟩ = some (.int .i64 lX) ∧ W.cell? ⟨w.heap.size + 1 + 1 + 1, 2, none⟩ = some (.bool gX) ∧ W.cell? ⟨w.heap.size + 1 + 1 + 1, 3, none⟩ = some (.bool oX) ∧ W.cell? ⟨w.heap.size + 1 + 1 + 1 + 1, 0, none⟩ = some (.slice aY nY cY) ∧ W.cell? ⟨w.heap.size + 1 + 1 + 1 + 1, 1, none⟩ = some (.int .i64 lY) ∧ W.cell? ⟨w.heap.size + 1 + 1 + 1 + 1, 2, none⟩ = some (.bool gY) ∧ W.cell? ⟨w.heap.size + 1 + 1 + 1 + 1, 3, none⟩ = some (.bool oY) ∧ W.cell? ⟨w.heap.size + 1 + 1 + 1 + 1 + 1, 0, none⟩ = some (.slice aU nU cU) ∧ W.cell? ⟨w.heap.size + 1 + 1 + 1 + 1 + 1, 1, none⟩ = some (.int .i64 lU) ∧ W.cell? ⟨w.heap.size + 1 + 1 + 1 + 1 + 1, 2, none⟩ = some (.bool gU) ∧ W.cell? ⟨w.heap.size + 1 + 1 + 1 + 1 + 1, 3, none⟩ = some (.bool oU) ∧ Below w.heap.size w W) ((((E0.setCell ⟨w.heap.size + 1 + 1 + 1 + 1, 0, none⟩ (.slice aY nY cY)).setCell ⟨w.heap.size + 1 + 1 + 1 + 1, 1, none⟩ (.int .i64 lY)).setCell ⟨w.heap.size + 1 + 1 + 1 + 1, 2, none⟩ (.bool gY)).setCell ⟨w.heap.size + 1 + 1 + 1 + 1, 3, none⟩ (.bool oY)) := ⟨Sets.cell (by omega) [(0, .slice aY nY cY), (1, .int .i64 lY), (2, .bool gY), (3, .bool oY)] hS.1, Sets.cell (by omega) [(0, .slice aY nY cY), (1, .int .i64 lY), (2, .bool gY), (3, .bool oY)] hS.2.1, Sets.cell (by omega) [(0, .slice aY nY cY), (1, .int .i64 lY), (2, .bool gY), (3, .bool oY)] hS.2.2.1, Sets.cell (by omega) [(0, .slice aY nY cY), (1, .int .i64 lY), (2, .bool gY), (3, .bool oY)] hS.2.2.2.1, hP.2.2.2.cell 0 (by simp), hP.2.2.2.cell 1 (by simp), hP.2.2.2.cell 2 (by simp), hP.2.2.2.cell 3 (by simp), Sets.cell (by omega) [(0, .slice aY nY cY), (1, .int .i64 lY), (2, .bool gY), (3, .bool oY)] hS.2.2.2.2.2.2.2.2.1, Sets.cell (by omega) [(0, .slice aY nY cY), (1, .int .i64 lY), (2, .bool gY), (3, .bool oY)] hS.2.2.2.2.2.2.2.2.2.1, Sets.cell (by omega) [(0, .slice aY nY cY), (1, .int .i64 lY), (2, .bool gY), (3, .bool oY)] hS.2.2.2.2.2.2.2.2.2.2.1, Sets.cell (by omega) [(0, .slice aY nY cY), (1, .int .i64 lY), (2, .bool gY), (3, .bool oY)] hS.2.2.2.2.2.2.2.2.2.2.2.1, Sets.below (by omega) [(0, .slice aY nY cY), (1, .int .i64 lY), (2, .bool gY), (3, .bool oY)] hS.2.2.2.2.2.2.2.2.2.2.2.2⟩
       refine calA 4 fun KF hK => ?_
       go_simp
       go_wp2_with fail
       refine hK.out _ _ hS2 ?_
       clear hS
       intro hS
       clear hK KF k0 k1 k2 k3 f0 f1 f2 f3 hfr hS2
       try simp only [Act.put]
       try simp only [List.setIfInBounds_toArray, List.set_cons_zero, List.set_cons_succ]
       generalize ((((E0.setCell ⟨w.heap.size + 1 + 1 + 1 + 1, 0, none⟩ (.slice aY nY cY)).setCell ⟨w.heap.size + 1 + 1 + 1 + 1, 1, none⟩ (.int .i64 lY)).setCell ⟨w.heap.size + 1 + 1 + 1 + 1, 2, none⟩ (.bool gY)).setCell ⟨w.heap.size + 1 + 1 + 1 + 1, 3, none⟩ (.bool oY)) = E1 at *
       replace n0 := hP.2.1.nb n0 (by omega)
       replace hnX := hP.2.1.num _ _ hnX
       replace hnY := hP.2.1.num _ _ hnY
       replace n2 := hP.2.1.nb n2 (by omega)
       replace hnU := hP.2.1.num _ _ hnU
       replace n1 := hP.1
       clear hP
       obtain ⟨_, _, _, _, _, _, ⟨k0, k1, k2, k3⟩, _, hfr⟩ := n2.cells
       have f0 := hfr 0
       have f1 := hfr 1
       have f2 := hfr 2
       have f3 := hfr 3
       have hP : (fun W' => NB W' (w.heap.size + 1 + 1 + 1 + 1 + 1) _ ∧ Kept (E1) W' (w.heap.size + 1 + 1 + 1 + 1 + 1) ∧ IsNum W' (.agg #[.slice aU nU cU, .int .i64 lU, .bool gU, .bool oU]) _ ∧ CB W' (w.heap.size + 1 + 1 + 1 + 1 + 1) #[.slice aU nU cU, .int .i64 lU, .bool gU, .bool oU] 49) ((((E1.setCell ⟨w.heap.size + 1 + 1 + 1 + 1 + 1, 0, none⟩ (.slice aU nU cU)).setCell ⟨w.heap.size + 1 + 1 + 1 + 1 + 1, 1, none⟩ (.int .i64 lU)).setCell ⟨w.heap.size + 1 + 1 + 1 + 1 + 1, 2, none⟩ (.bool gU)).setCell ⟨w.heap.size + 1 + 1 + 1 + 1 + 1, 3, none⟩ (.bool oU)) := n2.put' hnU
       have hS2 : (fun W => W.cell? ⟨w.heap.size + 1 + 1 + 1, 0, none⟩ = some (.slice aX nX cX) ∧ W.cell? ⟨w.heap.size + 1 + 1 + 1, 1, none⟩ = some (.int .i64 lX) ∧ W.cell? ⟨w.heap.size + 1 + 1 + 1, 2, none⟩ = some (.bool gX) ∧ W.cell? ⟨w.heap.size + 1 + 1 + 1, 3, none⟩ = some (.bool oX) ∧ W.cell? ⟨w.heap.size + 1 + 1 + 1 + 1, 0, none⟩ = some (.slice aY nY cY) ∧ W.cell? ⟨w.heap.size + 1 + 1 + 1 + 1, 1, none⟩ = some (.int .i64 lY) ∧ W.cell? ⟨w.heap.size + 1 + 1 + 1 + 1, 2, none⟩ = some (.bool gY) ∧ W.cell? ⟨w.heap.size + 1 + 1 + 1 + 1, 3, none⟩ = some (.bool oY) ∧ W.cell? ⟨w.heap.size + 1 + 1 + 1 + 1 + 1, 0, none⟩ = some (.slice aU nU cU) ∧ W.cell? ⟨w.heap.size + 1 + 1 + 1 + 1 + 1, 1, none⟩ = some (.int .i64 lU) ∧ W.cell? ⟨w.heap.size + 1 + 1 + 1 + 1 + 1, 2, none⟩ = some (.bool gU) ∧ W.cell? ⟨w.heap.size + 1 + 1 + 1 + 1 + 1, 3, none⟩ = some (.bool oU) ∧ Below w.heap.size w W) ((((E1.setCell ⟨w.heap.size + 1 + 1 + 1 + 1 + 1, 0, none⟩ (.slice aU nU cU)).setCell ⟨w.heap.size + 1 + 1 + 1 + 1 + 1, 1, none⟩ (.int .i64 lU)).setCell ⟨w.heap.size + 1 + 1 + 1 + 1 + 1, 2, none⟩ (.bool gU)).setCell ⟨w.heap.size + 1 + 1 + 1 + 1 + 1, 3, none⟩ (.bool oU)) := ⟨Sets.cell (by omega) [(0, .slice aU nU cU), (1, .int .i64 lU), (2, .bool gU), (3, .bool oU)] hS.1, Sets.cell (by omega) [(0, .slice aU nU cU), (1, .int .i64 lU), (2, .bool gU), (3, .bool oU)] hS.2.1, Sets.cell (by omega) [(0, .slice aU nU cU), (1, .int .i64 lU), (2, .bool gU), (3, .bool oU)] hS.2.2.1, Sets.cell (by omega) [(0, .slice aU nU cU), (1, .int .i64 lU), (2, .bool gU), (3, .bool oU)] hS.2.2.2.1, Sets.cell (by omega) [(0, .slice aU nU cU), (1, .int .i64 lU), (2, .bool gU), (3, .bool oU)] hS.2.2.2.2.1, Sets.cell (by omega) [(0, .slice aU nU cU), (1, .int .i64 lU), (2, .bool gU), (3, .bool oU)] hS.2.2.2.2.2.1, Sets.cell (by omega) [(0, .slice aU nU cU), (1, .int .i64 lU), (2, .bool gU), (3, .bool oU)] hS.2.2.2.2.2.2.1, Sets.cell (by omega) [(0, .slice aU nU cU), (1, .int .i64 lU), (2, .bool gU), (3, .bool oU)] hS.2.2.2.2.2.2.2.1, hP.2.2.2.cell 0 (by simp), hP.2.2.2.cell 1 (by simp), hP.2.2.2.cell 2 (by simp), hP.2.2.2.cell 3 (by simp), Sets.below (by omega) [(0, .slice aU nU cU), (1, .int .i64 lU), (2, .bool gU), (3, .bool oU)] hS.2.2.2.2.2.2.2.2.2.2.2.2⟩
       refine calA 5 fun KF hK => ?_
       go_simp
       go_wp2_with fail
       refine hK.out _ _ hS2 ?_
       clear hS
       intro hS
       clear hK KF k0 k1 k2 k3 f0 f1 f2 f3 hfr hS2
       try simp only [Act.put]
       try simp only [List.setIfInBounds_toArray, List.set_cons_zero, List.set_cons_succ]
       generalize ((((E1.setCell ⟨w.heap.size + 1 + 1 + 1 + 1 + 1, 0, none⟩ (.slice aU nU cU)).setCell ⟨w.heap.size + 1 + 1 + 1 + 1 + 1, 1, none⟩ (.int .i64 lU)).setCell ⟨w.heap.size + 1 + 1 + 1 + 1 + 1, 2, none⟩ (.bool gU)).setCell ⟨w.heap.size + 1 + 1 + 1 + 1 + 1, 3, none⟩ (.bool oU)) = E2 at *
       replace n0 := hP.2.1.nb n0 (by omega)
       replace hnX := hP.2.1.num _ _ hnX
       replace n1 := hP.2.1.nb n1 (by omega)
       replace hnY := hP.2.1.num _ _ hnY
       replace hnU := hP.2.1.num _ _ hnU
       replace n2 := hP.1
       clear hP
       refine wpAnyH_done (by kernel_rfl) ?_ _
       have HH : Hid (IsNum E2 (.agg #[.slice aX nX cX, .int .i64 lX, .bool gX, .bool oX]) _ ∧ IsNum E2 (.agg #[.slice aY nY cY, .int .i64 lY, .bool gY, .bool oY]) _ ∧ IsNum E2 (.agg #[.slice aU nU cU, .int .i64 lU, .bool gU, .bool oU]) _ ∧ Below w.heap.size w E2) := ⟨hnX, hnY, hnU, hS.2.2.2.2.2.2.2.2.2.2.2.2⟩
       have q0 := hS.1
       have q1 := hS.2.1
       have q2 := hS.2.2.1
       have q3 := hS.2.2.2.1
       have q4 := hS.2.2.2.2.1
       have q5 := hS.2.2.2.2.2.1
       have q6 := hS.2.2.2.2.2.2.1
       have q7 := hS.2.2.2.2.2.2.2.1
       have q8 := hS.2.2.2.2.2.2.2.2.1
       have q9 := hS.2.2.2.2.2.2.2.2.2.1
       have q10 := hS.2.2.2.2.2.2.2.2.2.2.1
       have q11 := hS.2.2.2.2.2.2.2.2.2.2.2.1
       clear hS hnX hnY hnU
       go_wp2
       refine bodyPost_ret (v := .tuple #[(.agg #[.slice aX nX cX, .int .i64 lX, .bool gX, .bool oX]), (.agg #[.slice aY nY cY, .int .i64 lY, .bool gY, .bool oY]), (.agg #[.slice aU nU cU, .int .i64 lU, .bool gU, .bool oU])]) (by simp [results, Tryz.results53, go_sem, q0, q1, q2, q3, q4, q5, q6, q7, q8, q9, q10, q11]) rfl ?_
       exact ⟨aX, nX, cX, lX, gX, oX, aY, nY, cY, lY, gY, oY, aU, nU, cU, lU, gU, oU, rfl, HH.out.1, HH.out.2.1, HH.out.2.2.1, HH.out.2.2.2⟩
 · exact ⟨_, _, _, _, _, by rw [hA]; rfl, hS, hX, fun h => Bool.noConfusion h, fun h => by omega, fun h => by omega, fun h => by omega, fun h => by omega⟩
end Go.Proofs.YtocnkgfoffpbfaaGreatDoor
