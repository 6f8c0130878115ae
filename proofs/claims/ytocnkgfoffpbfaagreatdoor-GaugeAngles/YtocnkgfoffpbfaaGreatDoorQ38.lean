/- Own texts, put together: Gw Gr Gx. -/
import Derived.Test.YtocnkgfoffpbfaaGreatDoorQ4
import Derived.Test.YtocnkgfoffpbfaaGreatDoorQ24
import Derived.Test.YtocnkgfoffpbfaaGreatDoorQ26
import Derived.Test.YtocnkgfoffpbfaaGreatDoorQ33
import Derived.Test.YtocnkgfoffpbfaaGreatDoorQ35
import Derived.Test.YtocnkgfoffpbfaaGreatDoorQ36
namespace Go.Proofs.YtocnkgfoffpbfaaGreatDoor
/- The middle of a circle: Center. -/
section
open Go.RowKit Go.Shelf
attribute [local go_sem ↓] Go.wp_at_zero Go.wp_at_succ
attribute [local go_sem] run_store_float
def cenX (ax ay bx by' cx cy : Nat) : Rat := midX (fval ax) (fval ay) (fval bx) (fval by') (fval cx) (fval cy) / (2 * turnR (fval ax) (fval ay) (fval bx) (fval by') (fval cx) (fval cy))
def cenY (ax ay bx by' cx cy : Nat) : Rat := midY (fval ax) (fval ay) (fval bx) (fval by') (fval cx) (fval cy) / (2 * turnR (fval ax) (fval ay) (fval bx) (fval by') (fval cx) (fval cy))
def GCt (ax ay bx by' cx cy u v : Nat) (ok : Bool) : Prop := (P3 ax ay bx by' cx cy ∧ turnR (fval ax) (fval ay) (fval bx) (fval by') (fval cx) (fval cy) ≠ 0 → ∃ x y, NearV (cenX ax ay bx by' cx cy) x ∧ NearV (cenY ax ay bx by' cx cy) y ∧ StR x y u v ok) ∧ (¬ (P3 ax ay bx by' cx cy ∧ turnR (fval ax) (fval ay) (fval bx) (fval by') (fval cx) (fval cy) ≠ 0) → u = 0 ∧ v = 0 ∧ ok = false)
theorem StR.nm {x y x' y' u v : Nat} {t : Bool} (h : StR x y u v t) (h1 : nm0 x = nm0 x') (h2 : nm0 y = nm0 y') : StR x' y' u v t := by
 unfold StR at *
 rw [← h1, ← h2]; exact h
theorem GCt.one {ax ay bx by' cx cy u v u' v' : Nat} {k k' : Bool} (h1 : GCt ax ay bx by' cx cy u v k) (h2 : GCt ax ay bx by' cx cy u' v' k') : u = u' ∧ v = v' ∧ k = k' := by
 by_cases h : P3 ax ay bx by' cx cy ∧ turnR (fval ax) (fval ay) (fval bx) (fval by') (fval cx) (fval cy) ≠ 0
 · obtain ⟨x, y, a1, a2, a3⟩ := h1.1 h
   obtain ⟨x', y', b1, b2, b3⟩ := h2.1 h
   exact (a3.nm (a1.one b1) (a2.one b2)).one b3
 · obtain ⟨a1, a2, a3⟩ := h1.2 h
   obtain ⟨b1, b2, b3⟩ := h2.2 h
   exact ⟨by rw [a1, b1], by rw [a2, b2], by rw [a3, b3]⟩
theorem acc_x (ax ay bx by' cx cy : Nat) : (0 + (fval ax * fval ax + fval ay * fval ay) * (fval by' - fval cy) + (fval bx * fval bx + fval by' * fval by') * (fval cy - fval ay) + (fval cx * fval cx + fval cy * fval cy) * (fval ay - fval by')) = midX (fval ax) (fval ay) (fval bx) (fval by') (fval cx) (fval cy) := by unfold midX turnR lenR; grind
theorem acc_y (ax ay bx by' cx cy : Nat) : (0 + (fval ax * fval ax + fval ay * fval ay) * (-(fval bx - fval cx)) + (fval bx * fval bx + fval by' * fval by') * (-(fval cx - fval ax)) + (fval cx * fval cx + fval cy * fval cy) * (-(fval ax - fval bx))) = midY (fval ax) (fval ay) (fval bx) (fval by') (fval cx) (fval cy) := by unfold midY turnR lenR; grind
theorem acc_w (ax ay bx by' cx cy : Nat) : (0 + 2 * fval ax * (fval by' - fval cy) + 2 * fval bx * (fval cy - fval ay) + 2 * fval cx * (fval ay - fval by')) = 2 * turnR (fval ax) (fval ay) (fval bx) (fval by') (fval cx) (fval cy) := by unfold turnR; grind
theorem bd_turn {ax ay bx by' cx cy : Nat} (h : (Fin64 ax ∧ Fin64 ay) ∧ (Fin64 bx ∧ Fin64 by') ∧ Fin64 cx ∧ Fin64 cy) : Bd 2060 (-2200) (turnR (fval ax) (fval ay) (fval bx) (fval by') (fval cx) (fval cy)) := by
 have h1 := (fval_bd h.2.1.1).sub (fval_bd h.1.1)
 have h2 := (fval_bd h.2.2.2).sub (fval_bd h.1.2)
 have h3 := (fval_bd h.2.1.2).sub (fval_bd h.1.2)
 have h4 := (fval_bd h.2.2.1).sub (fval_bd h.1.1)
 exact ((h1.mul h2).sub (h3.mul h4)).mono (by omega) (by omega)
theorem bd_len {p q r s : Nat} (h1 : Fin64 p) (h2 : Fin64 q) (h3 : Fin64 r) (h4 : Fin64 s) : Bd 2060 (-2200) (lenR (fval p) (fval q) (fval r) (fval s)) := by
 have a := (fval_bd h3).sub (fval_bd h1)
 have b := (fval_bd h4).sub (fval_bd h2)
 exact ((a.mul a).add (b.mul b)).mono (by omega) (by omega)
theorem bd_2 {q : Rat} {h l : Int} (hb : Bd h l q) : Bd (h + 1) l (2 * q) := by
 rw [show 2 * q = q + q by grind]; exact hb.add hb
theorem bd_mid {ax ay bx by' cx cy : Nat} (h : (Fin64 ax ∧ Fin64 ay) ∧ (Fin64 bx ∧ Fin64 by') ∧ Fin64 cx ∧ Fin64 cy) : Bd 5000 (-9000) (midX (fval ax) (fval ay) (fval bx) (fval by') (fval cx) (fval cy)) ∧ Bd 5000 (-9000) (midY (fval ax) (fval ay) (fval bx) (fval by') (fval cx) (fval cy)) ∧ Bd 5000 (-9000) (2 * turnR (fval ax) (fval ay) (fval bx) (fval by') (fval cx) (fval cy)) := by
 have T := bd_2 (bd_turn h)
 have l1 := bd_len h.1.1 h.1.2 h.2.1.1 h.2.1.2
 have l2 := bd_len h.1.1 h.1.2 h.2.2.1 h.2.2.2
 have d1 := (fval_bd h.2.2.2).sub (fval_bd h.1.2)
 have d2 := (fval_bd h.2.1.2).sub (fval_bd h.1.2)
 have d3 := (fval_bd h.2.1.1).sub (fval_bd h.1.1)
 have d4 := (fval_bd h.2.2.1).sub (fval_bd h.1.1)
 refine ⟨?_, ?_, T.mono (by omega) (by omega)⟩
 · have a := ((d1.mul l1).sub (d2.mul l2)).mono (h' := 4000) (l' := -5000) (by omega) (by omega)
   have b := (T.mul (fval_bd h.1.1)).mono (h' := 4000) (l' := -5000) (by omega) (by omega)
   exact (a.add b).mono (by omega) (by omega)
 · have a := ((d3.mul l2).sub (d4.mul l1)).mono (h' := 4000) (l' := -5000) (by omega) (by omega)
   have b := (T.mul (fval_bd h.1.2)).mono (h' := 4000) (l' := -5000) (by omega) (by omega)
   exact (a.add b).mono (by omega) (by omega)
theorem crd_d {a b : Nat} (ha : Crd a) (hb : Crd b) : ab (fval b - fval a) ≤ U 1175 ∧ M (U 974) (fval b - fval a) := by
 obtain ⟨_, _, _, _, _, m, l⟩ := diff_word ha hb
 exact ⟨l, m⟩
theorem ab_sum {x y : Rat} {p : Nat} (h1 : ab x ≤ U p) (h2 : ab y ≤ U p) : ab (x + y) ≤ U (p + 1) ∧ ab (x - y) ≤ U (p + 1) := by
 have a := ab_add x y
 have b := ab_sub x y
 have c := U_two' p
 exact ⟨by grind, by grind⟩
theorem mid_lim {ax ay bx by' cx cy : Nat} (h : P3 ax ay bx by' cx cy) : ab (midX (fval ax) (fval ay) (fval bx) (fval by') (fval cx) (fval cy)) ≤ U 1380 ∧ ab (midY (fval ax) (fval ay) (fval bx) (fval by') (fval cx) (fval cy)) ≤ U 1380 ∧ ab (2 * turnR (fval ax) (fval ay) (fval bx) (fval by') (fval cx) (fval cy)) ≤ U 1380 ∧ M (U 874) (2 * turnR (fval ax) (fval ay) (fval bx) (fval by') (fval cx) (fval cy)) := by
 have x1 := crd_d h.1.1 h.2.1.1
 have y1 := crd_d h.1.2 h.2.1.2
 have x2 := crd_d h.1.1 h.2.2.1
 have y2 := crd_d h.1.2 h.2.2.2
 have l1 : ab (lenR (fval ax) (fval ay) (fval bx) (fval by')) ≤ U 1277 := (ab_sum (mul_le_U x1.1 x1.1 (r := 1276) (by omega)) (mul_le_U y1.1 y1.1 (r := 1276) (by omega))).1
 have l2 : ab (lenR (fval ax) (fval ay) (fval cx) (fval cy)) ≤ U 1277 := (ab_sum (mul_le_U x2.1 x2.1 (r := 1276) (by omega)) (mul_le_U y2.1 y2.1 (r := 1276) (by omega))).1
 have tu : ab (turnR (fval ax) (fval ay) (fval bx) (fval by') (fval cx) (fval cy)) ≤ U 1277 := (ab_sum (mul_le_U x1.1 y2.1 (r := 1276) (by omega)) (mul_le_U y1.1 x2.1 (r := 1276) (by omega))).2
 have mu : M (U 874) (turnR (fval ax) (fval ay) (fval bx) (fval by') (fval cx) (fval cy)) := by
   have a := x1.2.mul y2.2
   have b := y1.2.mul x2.2
   rw [U_mulX' (s := 974) (t := 974) (r := 874) (by omega)] at a b
   exact a.sub b
 have tt : 2 * turnR (fval ax) (fval ay) (fval bx) (fval by') (fval cx) (fval cy) = turnR (fval ax) (fval ay) (fval bx) (fval by') (fval cx) (fval cy) + turnR (fval ax) (fval ay) (fval bx) (fval by') (fval cx) (fval cy) := by grind
 have t2 : ab (2 * turnR (fval ax) (fval ay) (fval bx) (fval by') (fval cx) (fval cy)) ≤ U 1278 := by rw [tt]; exact (ab_sum tu tu).1
 have ca := crd_ab h.1.1.1
 have ca' := crd_ab h.1.2.1
 have u1 := U_mono (show 1378 ≤ 1379 by omega)
 refine ⟨?_, ?_, Rat.le_trans t2 (U_mono (by omega)), by rw [tt]; exact mu.add mu⟩
 · have a := (ab_sum (mul_le_U y2.1 l1 (r := 1378) (by omega)) (mul_le_U y1.1 l2 (r := 1378) (by omega))).2
   have b := mul_le_U t2 ca (r := 1378) (by omega)
   exact (ab_sum a (Rat.le_trans b u1)).1
 · have a := (ab_sum (mul_le_U x1.1 l2 (r := 1378) (by omega)) (mul_le_U x2.1 l1 (r := 1378) (by omega))).2
   have b := mul_le_U t2 ca' (r := 1378) (by omega)
   exact (ab_sum a (Rat.le_trans b u1)).1
set_option maxRecDepth 100000 in
set_option maxHeartbeats 4000000 in
theorem sign_small (ax ay bx by' cx cy : Nat) (w : World) (z : Int) (hw : W6 ax ay bx by' cx cy) (hp : P3 ax ay bx by' cx cy) (hs : Sm ax ∧ Sm ay ∧ Sm bx ∧ Sm by' ∧ Sm cx ∧ Sm cy) (hn : S3 ax ay bx by' cx cy ≠ 0) (hz : sg3 ax ay bx by' cx cy = z) :
   Calls Tryz.prog 23 #[pv ax ay, pv bx by', pv cx cy] w fun e w' => e = .returned (.int .i64 z) ∧ Below w.heap.size w w' := by
 have HW : Hid (W6 ax ay bx by' cx cy) := hw
 have HS : Hid (B3 w _ ax ay bx by' cx cy) := B3.start w ax ay bx by' cx cy
 have HH : Hid (P3 ax ay bx by' cx cy ∧ (Sm ax ∧ Sm ay ∧ Sm bx ∧ Sm by' ∧ Sm cx ∧ Sm cy) ∧ S3 ax ay bx by' cx cy ≠ 0 ∧ sg3 ax ay bx by' cx cy = z) := ⟨hp, hs, hn, hz⟩
 clear hw hp hs hn hz
 go_enter Tryz.func23, Tryz.ntmps23
 go_wp2_with fail
 refine (fast_any ax ay bx by' cx cy _ HW.out).mono ?_
 rintro e w1 ⟨⟨y, t, rfl, hr⟩, hb1⟩
 have ht : t = true := hr.2.2 HH.out.1 HH.out.2.1.1 HH.out.2.1.2.1 HH.out.2.1.2.2.1 HH.out.2.1.2.2.2.1 HH.out.2.1.2.2.2.2.1 HH.out.2.1.2.2.2.2.2 HH.out.2.2.1
 subst ht
 have hy : y = z := by rw [← HH.out.2.2.2, sg3_yes HH.out.1]; exact (hr.1 rfl).2
 subst hy
 have HB : Hid (Below w.heap.size w w1) := (HS.out.later hb1).bel
 clear hr hb1 HS HH
 go_wp2
 go_ret
 exact ⟨rfl, HB.out⟩
set_option maxRecDepth 100000 in
set_option maxHeartbeats 4000000 in
theorem gcenter_of (ax ay bx by' cx cy : Nat) (w : World) (z : Int) (hT : Tab w) (hw : W6 ax ay bx by' cx cy) (hz : sg3 ax ay bx by' cx cy = z) (hsg : (∀ W, Calls Tryz.prog 23 #[pv ax ay, pv bx by', pv cx cy] W fun e W' => e = .returned (.int .i64 z) ∧ Below W.heap.size W W')) :
   Calls Tryz.prog 18 #[pv ax ay, pv bx by', pv cx cy] w fun e w' => (∃ u v ok, e = .returned (.tuple #[pv u v, .bool ok]) ∧ GCt ax ay bx by' cx cy u v ok) ∧ Below w.heap.size w w' := by
 have HT : Hid (Tab w) := hT
 have HW : Hid (W6 ax ay bx by' cx cy) := hw
 have HZ : Hid (sg3 ax ay bx by' cx cy = z) := hz
 have HSG : Hid (∀ W, Calls Tryz.prog 23 #[pv ax ay, pv bx by', pv cx cy] W fun e W' => e = .returned (.int .i64 z) ∧ Below W.heap.size W W') := hsg
 have HB0 : Hid (Below w.heap.size w ((((w.alloc (.cells #[.float .f64 ax, .float .f64 ay] 24)).alloc (.cells #[.float .f64 bx, .float .f64 by'] 24)).alloc (.cells #[.float .f64 cx, .float .f64 cy] 24)).alloc (.cells #[.float .f64 0, .float .f64 0] 24))) := ((((Below.refl _ w).alloc (Nat.le_refl _) _).alloc (by simp) _).alloc (by simp; omega) _).alloc (by simp; omega) _
 have HR0 : Hid (CB ((((w.alloc (.cells #[.float .f64 ax, .float .f64 ay] 24)).alloc (.cells #[.float .f64 bx, .float .f64 by'] 24)).alloc (.cells #[.float .f64 cx, .float .f64 cy] 24)).alloc (.cells #[.float .f64 0, .float .f64 0] 24)) (w.heap.size + 1 + 1 + 1) #[.float .f64 0, .float .f64 0] 24) := by
   have := CB.new ((((w.alloc (.cells #[.float .f64 ax, .float .f64 ay] 24)).alloc (.cells #[.float .f64 bx, .float .f64 by'] 24)).alloc (.cells #[.float .f64 cx, .float .f64 cy] 24))) #[.float .f64 0, .float .f64 0] 24
   show CB _ _ _ _
   simpa using this
 clear hT hw hz hsg
 go_enter Tryz.func18, Tryz.ntmps18
 go_wp2_with fail
 refine (HSG.out _).mono ?_
 rintro e w1 ⟨rfl, hb1⟩
 have HB1 : Hid (Below w.heap.size w w1) := below_step HB0.out hb1
 have HR := HR0.out.later hb1
 have c0 : w1.cell? ⟨w.heap.size, 0, none⟩ = some (.float .f64 ax) := box_cell hb1 (by go_simp)
 have c1 : w1.cell? ⟨w.heap.size, 1, none⟩ = some (.float .f64 ay) := box_cell hb1 (by go_simp)
 have c2 : w1.cell? ⟨w.heap.size + 1, 0, none⟩ = some (.float .f64 bx) := box_cell hb1 (by go_simp)
 have c3 : w1.cell? ⟨w.heap.size + 1, 1, none⟩ = some (.float .f64 by') := box_cell hb1 (by go_simp)
 have c4 : w1.cell? ⟨w.heap.size + 1 + 1, 0, none⟩ = some (.float .f64 cx) := box_cell hb1 (by go_simp)
 have c5 : w1.cell? ⟨w.heap.size + 1 + 1, 1, none⟩ = some (.float .f64 cy) := box_cell hb1 (by go_simp)
 clear hb1 HB0 HR0
 by_cases hz0 : z = 0
 · have HNO : ¬ (P3 ax ay bx by' cx cy ∧ turnR (fval ax) (fval ay) (fval bx) (fval by') (fval cx) (fval cy) ≠ 0) := fun h => by
     have := HZ.out
     rw [sg3_yes h.1, hz0] at this
     exact h.2 (sgq_zero.1 this)
   subst hz0
   have f0 := HR.frozen 0
   have f1 := HR.frozen 1
   have k0 := HR.cell 0 (by decide)
   have k1 := HR.cell 1 (by decide)
   go_wp2
   have Y := HR.set2 (.float .f64 0) (.float .f64 0)
   have y0 := Y.cell 0 (by simp)
   have y1 := Y.cell 1 (by simp)
   refine bodyPost_ret (v := .tuple #[.agg #[.float .f64 0, .float .f64 0], .bool false]) (by simp [results, Tryz.results18, go_sem, y0, y1]) rfl ?_
   exact ⟨⟨0, 0, false, rfl, fun h => absurd h HNO, fun _ => ⟨rfl, rfl, rfl⟩⟩, below_set2 HB1.out (by omega) _ _⟩
 · have HC : Hid (P3 ax ay bx by' cx cy ∧ turnR (fval ax) (fval ay) (fval bx) (fval by') (fval cx) (fval cy) ≠ 0) := by
     have hz := HZ.out
     by_cases hp : P3 ax ay bx by' cx cy
     · rw [sg3_yes hp] at hz
       exact ⟨hp, fun e => hz0 (by rw [← hz]; exact sgq_zero.2 e)⟩
     · rw [sg3_no hp] at hz
       exact absurd hz.symm hz0
   have wa := HC.out.1.1.w HW.out.1
   have wb := HC.out.1.2.1.w HW.out.2.1
   have wc := HC.out.1.2.2.w HW.out.2.2
   have HF : Hid ((Wfl ax ∧ Wfl ay) ∧ (Wfl bx ∧ Wfl by') ∧ Wfl cx ∧ Wfl cy) := ⟨wa, wb, wc⟩
   have ml := mid_lim HC.out.1
   have t2 : 2 * turnR (fval ax) (fval ay) (fval bx) (fval by') (fval cx) (fval cy) ≠ 0 := fun e => HC.out.2 (by grind)
   have HL : Hid (ab (midX (fval ax) (fval ay) (fval bx) (fval by') (fval cx) (fval cy)) ≤ U 1380 ∧ ab (midY (fval ax) (fval ay) (fval bx) (fval by') (fval cx) (fval cy)) ≤ U 1380 ∧ ab (2 * turnR (fval ax) (fval ay) (fval bx) (fval by') (fval cx) (fval cy)) ≤ U 1380 ∧ M (U 874) (2 * turnR (fval ax) (fval ay) (fval bx) (fval by') (fval cx) (fval cy)) ∧ 2 * turnR (fval ax) (fval ay) (fval bx) (fval by') (fval cx) (fval cy) ≠ 0 ∧ cenX ax ay bx by' cx cy * (2 * turnR (fval ax) (fval ay) (fval bx) (fval by') (fval cx) (fval cy)) = midX (fval ax) (fval ay) (fval bx) (fval by') (fval cx) (fval cy) ∧ cenY ax ay bx by' cx cy * (2 * turnR (fval ax) (fval ay) (fval bx) (fval by') (fval cx) (fval cy)) = midY (fval ax) (fval ay) (fval bx) (fval by') (fval cx) (fval cy)) := ⟨ml.1, ml.2.1, ml.2.2.1, ml.2.2.2, t2, Rat.div_mul_cancel t2, Rat.div_mul_cancel t2⟩
   have HBd : Hid (Bd 5000 (-9000) (midX (fval ax) (fval ay) (fval bx) (fval by') (fval cx) (fval cy)) ∧ Bd 5000 (-9000) (midY (fval ax) (fval ay) (fval bx) (fval by') (fval cx) (fval cy)) ∧ Bd 5000 (-9000) (2 * turnR (fval ax) (fval ay) (fval bx) (fval by') (fval cx) (fval cy))) := bd_mid ⟨⟨wa.1.2, wa.2.2⟩, ⟨wb.1.2, wb.2.2⟩, wc.1.2, wc.2.2⟩
   have hzd : (z == 0) = false := by simpa using hz0
   clear wa wb wc ml t2
   go_wp2_with fail
   refine (middle_any ax ay bx by' cx cy _ (HT.out.later HB1.out) HF.out).mono ?_
   rintro e w2 ⟨aX, nX, cX, lX, gX, oX, aY, nY, cY, lY, gY, oY, aU, nU, cU, lU, gU, oU, rfl, hnX, hnY, hnU, hb2⟩
   rw [acc_x] at hnX
   rw [acc_y] at hnY
   rw [acc_w] at hnU
   replace HR := HR.later hb2
   have hrl2 := HR.lt
   have HB2 : Hid (Below w.heap.size w w2) := below_step HB1.out hb2
   clear hb2 c0 c1 c2 c3 c4 c5 HB1
   obtain ⟨W3, hW3⟩ : ∃ W3, W3 = ((w2.alloc (.cells #[.slice aX nX cX, .int .i64 lX, .bool gX, .bool oX] 49)).alloc (.cells #[.slice aY nY cY, .int .i64 lY, .bool gY, .bool oY] 49)).alloc (.cells #[.slice aU nU cU, .int .i64 lU, .bool gU, .bool oU] 49) := ⟨_, rfl⟩
   have hb3 : Below w2.heap.size w2 W3.drew := by
     rw [hW3]
     exact ((((Below.refl _ w2).alloc (Nat.le_refl _) _).alloc (by simp) _).alloc (by simp; omega) _).drew
   have z0 : W3.drew.cell? ⟨w2.heap.size, 0, none⟩ = some (.slice aX nX cX) := by rw [hW3]; go_simp
   have z1 : W3.drew.cell? ⟨w2.heap.size, 1, none⟩ = some (.int .i64 lX) := by rw [hW3]; go_simp
   have z2 : W3.drew.cell? ⟨w2.heap.size, 2, none⟩ = some (.bool gX) := by rw [hW3]; go_simp
   have z3 : W3.drew.cell? ⟨w2.heap.size, 3, none⟩ = some (.bool oX) := by rw [hW3]; go_simp
   have z4 : W3.drew.cell? ⟨w2.heap.size + 1, 0, none⟩ = some (.slice aY nY cY) := by rw [hW3]; go_simp
   have z5 : W3.drew.cell? ⟨w2.heap.size + 1, 1, none⟩ = some (.int .i64 lY) := by rw [hW3]; go_simp
   have z6 : W3.drew.cell? ⟨w2.heap.size + 1, 2, none⟩ = some (.bool gY) := by rw [hW3]; go_simp
   have z7 : W3.drew.cell? ⟨w2.heap.size + 1, 3, none⟩ = some (.bool oY) := by rw [hW3]; go_simp
   have z8 : W3.drew.cell? ⟨w2.heap.size + 1 + 1, 0, none⟩ = some (.slice aU nU cU) := by rw [hW3]; go_simp
   have z9 : W3.drew.cell? ⟨w2.heap.size + 1 + 1, 1, none⟩ = some (.int .i64 lU) := by rw [hW3]; go_simp
   have z10 : W3.drew.cell? ⟨w2.heap.size + 1 + 1, 2, none⟩ = some (.bool gU) := by rw [hW3]; go_simp
   have z11 : W3.drew.cell? ⟨w2.heap.size + 1 + 1, 3, none⟩ = some (.bool oU) := by rw [hW3]; go_simp
   replace HR := HR.later hb3
   replace hnX := hnX.later hb3
   replace hnY := hnY.later hb3
   replace hnU := hnU.later hb3
   have HB3 : Hid (Below w.heap.size w W3.drew) := below_step HB2.out hb3
   go_wp2_with fail
   rw [← hW3]
   clear hW3 hb3 HB2
   refine wp_region_held_drew (S := (fun W => W.cell? ⟨w2.heap.size, 0, none⟩ = some (.slice aX nX cX) ∧ W.cell? ⟨w2.heap.size, 1, none⟩ = some (.int .i64 lX) ∧ W.cell? ⟨w2.heap.size, 2, none⟩ = some (.bool gX) ∧ W.cell? ⟨w2.heap.size, 3, none⟩ = some (.bool oX) ∧ W.cell? ⟨w2.heap.size + 1, 0, none⟩ = some (.slice aY nY cY) ∧ W.cell? ⟨w2.heap.size + 1, 1, none⟩ = some (.int .i64 lY) ∧ W.cell? ⟨w2.heap.size + 1, 2, none⟩ = some (.bool gY) ∧ W.cell? ⟨w2.heap.size + 1, 3, none⟩ = some (.bool oY) ∧ W.cell? ⟨w2.heap.size + 1 + 1, 0, none⟩ = some (.slice aU nU cU) ∧ W.cell? ⟨w2.heap.size + 1 + 1, 1, none⟩ = some (.int .i64 lU) ∧ W.cell? ⟨w2.heap.size + 1 + 1, 2, none⟩ = some (.bool gU) ∧ W.cell? ⟨w2.heap.size + 1 + 1, 3, none⟩ = some (.bool oU) ∧ Below w.heap.size w W)) (by kernel_rfl) ⟨z0, z1, z2, z3, z4, z5, z6, z7, z8, z9, z10, z11, HB3.out⟩ (fun hS => ?_)
   refine takA (i := 0) (d := some 25) (v := .agg #[.slice aX nX cX, .int .i64 lX, .bool gX, .bool oX]) hS ?_
   simp only [AP]
   refine takA (i := 1) (d := some 26) (v := .agg #[.slice aU nU cU, .int .i64 lU, .bool gU, .bool oU]) hS ?_
   simp only [AP]
   refine takA (i := 3) (d := some 28) (v := .agg #[.slice aY nY cY, .int .i64 lY, .bool gY, .bool oY]) hS ?_
   simp only [AP]
   refine takA (i := 4) (d := some 29) (v := .agg #[.slice aU nU cU, .int .i64 lU, .bool gU, .bool oU]) hS ?_
   simp only [AP]
   refine calA 2 fun KF hK => ?_
   go_simp
   refine (gnearest_any (q := cenX ax ay bx by' cx cy) _ _ _ _ _ _ _ _ _ _ _ _ _ (HT.out.later hS.2.2.2.2.2.2.2.2.2.2.2.2) hnX hnU HL.out.1 HL.out.2.2.1 HL.out.2.2.2.1 HL.out.2.2.2.2.1 HL.out.2.2.2.2.2.1 HBd.out.1 HBd.out.2.2).mono ?_
   rintro e wx ⟨⟨px, rfl, hwpx, hvpx⟩, hbx⟩
   replace HR := HR.later hbx
   replace hnX := hnX.later hbx
   replace hnY := hnY.later hbx
   replace hnU := hnU.later hbx
   go_wp2_with fail
   refine hK.out _ _ (kp12 hbx hS) ?_
   clear hS hbx
   intro hS
   clear hK KF
   try simp only [AP]
   refine calA 5 fun KF hK => ?_
   go_simp
   refine (gnearest_any (q := cenY ax ay bx by' cx cy) _ _ _ _ _ _ _ _ _ _ _ _ _ (HT.out.later hS.2.2.2.2.2.2.2.2.2.2.2.2) hnY hnU HL.out.2.1 HL.out.2.2.1 HL.out.2.2.2.1 HL.out.2.2.2.2.1 HL.out.2.2.2.2.2.2 HBd.out.2.1 HBd.out.2.2).mono ?_
   rintro e wx ⟨⟨py, rfl, hwpy, hvpy⟩, hbx⟩
   replace HR := HR.later hbx
   replace hnX := hnX.later hbx
   replace hnY := hnY.later hbx
   replace hnU := hnU.later hbx
   go_wp2_with fail
   refine hK.out _ _ (kp12 hbx hS) ?_
   clear hS hbx
   intro hS
   clear hK KF
   try simp only [AP]
   refine calA 6 fun KF hK => ?_
   go_simp
   refine (standing_any px py _ hwpx hwpy).mono ?_
   rintro e wx ⟨⟨u, v, ok, rfl, hst⟩, hbx⟩
   replace HR := HR.later hbx
   go_wp2_with fail
   refine hK.out _ _ (kp12 hbx hS) ?_
   clear hS hbx
   intro hS
   clear hK KF
   try simp only [AP]
   refine takA (i := 7) (d := some 32) (v := .agg #[.float .f64 u, .float .f64 v]) hS ?_
   simp only [AP]
   refine takA (i := 8) (d := some 33) (v := .bool ok) hS ?_
   simp only [AP]
   clear z0 z1 z2 z3 z4 z5 z6 z7 z8 z9 z10 z11
   have f0 := HR.frozen 0
   have f1 := HR.frozen 1
   have k0 := HR.cell 0 (by decide)
   have k1 := HR.cell 1 (by decide)
   have hP : (fun W' => CB W' (w.heap.size + 1 + 1 + 1) #[.float .f64 u, .float .f64 v] 24) ((wx.setCell ⟨w.heap.size + 1 + 1 + 1, 0, none⟩ (.float .f64 u)).setCell ⟨w.heap.size + 1 + 1 + 1, 1, none⟩ (.float .f64 v)) := HR.set2 _ _
   have hS2 : (fun W => W.cell? ⟨w2.heap.size, 0, none⟩ = some (.slice aX nX cX) ∧ W.cell? ⟨w2.heap.size, 1, none⟩ = some (.int .i64 lX) ∧ W.cell? ⟨w2.heap.size, 2, none⟩ = some (.bool gX) ∧ W.cell? ⟨w2.heap.size, 3, none⟩ = some (.bool oX) ∧ W.cell? ⟨w2.heap.size + 1, 0, none⟩ = some (.slice aY nY cY) ∧ W.cell? ⟨w2.heap.size + 1, 1, none⟩ = some (.int .i64 lY) ∧ W.cell? ⟨w2.heap.size + 1, 2, none⟩ = some (.bool gY) ∧ W.cell? ⟨w2.heap.size + 1, 3, none⟩ = some (.bool oY) ∧ W.cell? ⟨w2.heap.size + 1 + 1, 0, none⟩ = some (.slice aU nU cU) ∧ W.cell? ⟨w2.heap.size + 1 + 1, 1, none⟩ = some (.int .i64 lU) ∧ W.cell? ⟨w2.heap.size + 1 + 1, 2, none⟩ = some (.bool gU) ∧ W.cell? ⟨w2.heap.size + 1 + 1, 3, none⟩ = some (.bool oU) ∧ Below w.heap.size w W) ((wx.setCell ⟨w.heap.size + 1 + 1 + 1, 0, none⟩ (.float .f64 u)).setCell ⟨w.heap.size + 1 + 1 + 1, 1, none⟩ (.float .f64 v)) := ⟨Sets.cell (by omega) [(0, .float .f64 u), (1, .float .f64 v)] hS.1, Sets.cell (by omega) [(0, .float .f64 u), (1, .float .f64 v)] hS.2.1, Sets.cell (by omega) [(0, .float .f64 u), (1, .float .f64 v)] hS.2.2.1, Sets.cell (by omega) [(0, .float .f64 u), (1, .float .f64 v)] hS.2.2.2.1, Sets.cell (by omega) [(0, .float .f64 u), (1, .float .f64 v)] hS.2.2.2.2.1, Sets.cell (by omega) [(0, .float .f64 u), (1, .float .f64 v)] hS.2.2.2.2.2.1, Sets.cell (by omega) [(0, .float .f64 u), (1, .float .f64 v)] hS.2.2.2.2.2.2.1, Sets.cell (by omega) [(0, .float .f64 u), (1, .float .f64 v)] hS.2.2.2.2.2.2.2.1, Sets.cell (by omega) [(0, .float .f64 u), (1, .float .f64 v)] hS.2.2.2.2.2.2.2.2.1, Sets.cell (by omega) [(0, .float .f64 u), (1, .float .f64 v)] hS.2.2.2.2.2.2.2.2.2.1, Sets.cell (by omega) [(0, .float .f64 u), (1, .float .f64 v)] hS.2.2.2.2.2.2.2.2.2.2.1, Sets.cell (by omega) [(0, .float .f64 u), (1, .float .f64 v)] hS.2.2.2.2.2.2.2.2.2.2.2.1, Sets.below (by omega) [(0, .float .f64 u), (1, .float .f64 v)] hS.2.2.2.2.2.2.2.2.2.2.2.2⟩
   refine calA 9 fun KF hK => ?_
   go_simp
   go_wp2_with fail
   refine hK.out _ _ hS2 ?_
   clear hS
   intro hS
   clear hK KF f0 f1 k0 k1
   try simp only [Act.put]
   try simp only [List.setIfInBounds_toArray, List.set_cons_zero, List.set_cons_succ]
   generalize ((wx.setCell ⟨w.heap.size + 1 + 1 + 1, 0, none⟩ (.float .f64 u)).setCell ⟨w.heap.size + 1 + 1 + 1, 1, none⟩ (.float .f64 v)) = WL at *
   refine calA 10 fun KF hK => ?_
   go_simp
   go_wp2_with fail
   refine hK.out _ _ hS ?_
   clear hS
   intro hS
   clear hK KF 
   try simp only [Act.put]
   try simp only [List.setIfInBounds_toArray, List.set_cons_zero, List.set_cons_succ]
   refine wpAnyH_done (by kernel_rfl) ?_ _
   have HBE : Hid (Below w.heap.size w WL) := hS.2.2.2.2.2.2.2.2.2.2.2.2
   clear hS hS2 HR
   go_wp2
   have y0 := hP.cell 0 (by simp)
   have y1 := hP.cell 1 (by simp)
   refine bodyPost_ret (v := .tuple #[.agg #[.float .f64 u, .float .f64 v], .bool ok]) (by simp [results, Tryz.results18, go_sem, y0, y1]) rfl ?_
   exact ⟨⟨u, v, ok, rfl, fun _ => ⟨px, py, hvpx, hvpy, hst⟩, fun h => absurd HC.out h⟩, HBE.out⟩
end

/- Angles that are small: Sharp. -/
section
open Go.RowKit Go.Shelf
attribute [local go_sem ↓] Go.wp_at_zero Go.wp_at_succ
attribute [local go_sem] run_store_float
def GS (ax ay bx by' cx cy g : Nat) : Prop := (P3 ax ay bx by' cx cy ∧ Fin64 g) ∧ 0 < dotR (fval bx) (fval by') (fval cx) (fval cy) (fval ax) (fval ay) ∧ 0 < cosE ax ay bx by' cx cy g
theorem sgq_pos {q : Rat} : 0 < sgq q ↔ 0 < q := by
 unfold sgq
 split
 · constructor
   · intro h; omega
   · intro h; grind
 · split
   · constructor
     · intro h; omega
     · intro h; grind
   · constructor
     · intro h; grind
     · intro h; omega
set_option maxRecDepth 100000 in
set_option maxHeartbeats 4000000 in
theorem gsharp_any (ax ay bx by' cx cy g : Nat) (w : World) (tb : Bool) (hT : Tab w) (hw : W6 ax ay bx by' cx cy) (hg : g < 18446744073709551616) (hb : tb = true ↔ GS ax ay bx by' cx cy g) :
   Calls Tryz.prog 16 #[pv ax ay, pv bx by', pv cx cy, .float .f64 g] w fun e w' => e = .returned (.bool tb) ∧ Below w.heap.size w w' := by
 have HT : Hid (Tab w) := hT
 have HW : Hid (W6 ax ay bx by' cx cy ∧ g < 18446744073709551616) := ⟨hw, hg⟩
 have HTB : Hid (tb = true ↔ GS ax ay bx by' cx cy g) := hb
 have HB0 : Hid (Below w.heap.size w (((w.alloc (.cells #[.float .f64 ax, .float .f64 ay] 24)).alloc (.cells #[.float .f64 bx, .float .f64 by'] 24)).alloc (.cells #[.float .f64 cx, .float .f64 cy] 24))) := (((Below.refl _ w).alloc (Nat.le_refl _) _).alloc (by simp) _).alloc (by simp; omega) _
 clear hT hw hg hb
 go_enter Tryz.func16, Tryz.ntmps16
 go_wp2_with fail
 refine (finite_any g _ HW.out.2).mono ?_
 rintro e wx ⟨⟨tg, rfl, htg⟩, hbx⟩
 subst hbx
 have HTg : Hid (tg = true ↔ Fin64 g) := htg
 clear htg
 cases tg
 · go_wp2
   go_ret
   have e0 : tb = false := by
     cases tb
     · rfl
     · exact absurd (HTg.out.2 (HTB.out.1 rfl).1.2) (by decide)
   exact ⟨by rw [e0]; rfl, HB0.out⟩
 · have HFg : Hid (Fin64 g) := HTg.out.1 rfl
   obtain ⟨z, hz⟩ : ∃ z, gdot bx by' cx cy ax ay = z := ⟨_, rfl⟩
   have HZ : Hid (gdot bx by' cx cy ax ay = z) := hz
   clear hz
   go_wp2_with fail
   refine (gdot_any bx by' cx cy ax ay _ z (HT.out.later HB0.out) ⟨HW.out.1.2.1, HW.out.1.2.2, HW.out.1.1⟩ HZ.out).mono ?_
   rintro e w1 ⟨rfl, hb1⟩
   have HB1 : Hid (Below w.heap.size w w1) := below_step HB0.out hb1
   have z0 : w1.cell? ⟨w.heap.size, 0, none⟩ = some (.float .f64 ax) := box_cell hb1 (by go_simp)
   have z1 : w1.cell? ⟨w.heap.size, 1, none⟩ = some (.float .f64 ay) := box_cell hb1 (by go_simp)
   have z2 : w1.cell? ⟨w.heap.size + 1, 0, none⟩ = some (.float .f64 bx) := box_cell hb1 (by go_simp)
   have z3 : w1.cell? ⟨w.heap.size + 1, 1, none⟩ = some (.float .f64 by') := box_cell hb1 (by go_simp)
   have z4 : w1.cell? ⟨w.heap.size + 1 + 1, 0, none⟩ = some (.float .f64 cx) := box_cell hb1 (by go_simp)
   have z5 : w1.cell? ⟨w.heap.size + 1 + 1, 1, none⟩ = some (.float .f64 cy) := box_cell hb1 (by go_simp)
   clear hb1 HB0
   obtain ⟨td, htd⟩ : ∃ t, decide (0 < z) = t := ⟨_, rfl⟩
   cases td
   · go_wp2
     go_ret
     have e0 : tb = false := by
       cases tb
       · rfl
       · have h := HTB.out.1 rfl
         have hz := gdot_yes (ax := bx) (ay := by') (bx := cx) (by' := cy) (cx := ax) (cy := ay) ⟨h.1.1.2.1, h.1.1.2.2, h.1.1.1⟩
         rw [HZ.out] at hz
         have : 0 < z := by rw [hz]; exact sgq_pos.2 h.2.1
         exact absurd this (of_decide_eq_false htd)
     exact ⟨by rw [e0]; rfl, HB1.out⟩
   · have hzp := of_decide_eq_true htd
     have HPD : Hid (P3 ax ay bx by' cx cy ∧ 0 < dotR (fval bx) (fval by') (fval cx) (fval cy) (fval ax) (fval ay)) := by
       by_cases hp : P3 bx by' cx cy ax ay
       · have := gdot_yes hp
         rw [HZ.out] at this
         rw [this] at hzp
         exact ⟨⟨hp.2.2, hp.1, hp.2.1⟩, sgq_pos.1 hzp⟩
       · have := gdot_no hp
         rw [HZ.out] at this
         omega
     have HCB : Hid (decide (0 < sgq (cosE ax ay bx by' cx cy g)) = tb) := by
       cases tb
       · refine decide_eq_false (fun h => ?_)
         have := HTB.out.2 ⟨⟨HPD.out.1, HFg.out⟩, HPD.out.2, sgq_pos.1 h⟩
         cases this
       · exact decide_eq_true (sgq_pos.2 (HTB.out.1 rfl).2.2)
     clear hzp
     go_wp2_with fail
     refine (cosine_any ax ay bx by' cx cy g _ tb (HT.out.later HB1.out) HW.out.1 HPD.out.1 HW.out.2 HFg.out (fun h => by
       have h2 := HPD.out.2
       unfold dotR at h2
       grind) HCB.out).mono ?_
     rintro e w2 ⟨rfl, hb2⟩
     have HB2 : Hid (Below w.heap.size w w2) := below_step HB1.out hb2
     clear hb2
     go_wp2
     go_ret
     exact ⟨rfl, HB2.out⟩
end

/- The statements' helpers: at, awake. -/
section
open Go.RowKit Go.Shelf
attribute [local go_sem ↓] Go.wp_at_zero Go.wp_at_succ
attribute [local go_sem] run_store_float
set_option maxRecDepth 100000 in
theorem at6_any (x y : Nat) (w : World) : Calls Tryz.prog 24 #[.float .f64 x, .float .f64 y] w fun e w' => e = .returned (pv x y) ∧ Below w.heap.size w w' := by
 go_enter Tryz.func24, Tryz.ntmps24
 go_wp2
 refine bodyPost_ret (v := pv x y) (by simp [results, Tryz.results24, go_sem]) rfl ?_
 exact ⟨rfl, (Below.refl _ _).alloc (Nat.le_refl _) _⟩
instance decP4 (ax ay bx by' cx cy dx dy : Nat) : Decidable (P4 ax ay bx by' cx cy dx dy) := by unfold P4; exact inferInstance
instance decFin (x : Nat) : Decidable (Fin64 x) := by unfold Fin64; exact inferInstance
instance decGS (ax ay bx by' cx cy g : Nat) : Decidable (GS ax ay bx by' cx cy g) := by unfold GS; exact inferInstance
theorem NearV.exact {b : Nat} (hb : b < 9218868437227405312) (h0 : 0 < fval b) : NearV (fval b) b := by
 have e : frung b = b := by unfold frung; omega
 refine ⟨fun _ => ?_, fun h => by exfalso; grind⟩
 rw [e]
 exact ⟨NQ.exact hb, Or.inl rfl⟩
theorem awS : sg3 0 0 4616189618054758400 0 0 4611686018427387904 = 1 := sg3_is (by decide +kernel)
theorem awM : Sm 0 ∧ Sm 0 ∧ Sm 4616189618054758400 ∧ Sm 0 ∧ Sm 0 ∧ Sm 4611686018427387904 := by
 refine ⟨⟨0, ?_, by omega, by omega⟩, ⟨0, ?_, by omega, by omega⟩, ⟨4, ?_, by omega, by omega⟩, ⟨0, ?_, by omega, by omega⟩, ⟨0, ?_, by omega, by omega⟩, ⟨2, ?_, by omega, by omega⟩⟩ <;> decide +kernel
theorem awC : GCt 0 0 4616189618054758400 0 0 4611686018427387904 4611686018427387904 4607182418800017408 true := by
 refine ⟨fun _ => ⟨4611686018427387904, 4607182418800017408, ?_, ?_, Or.inl ⟨rfl, by decide +kernel, by decide, by decide⟩⟩, fun h => absurd (by decide +kernel) h⟩
 · rw [show cenX 0 0 4616189618054758400 0 0 4611686018427387904 = fval 4611686018427387904 by decide +kernel]
   exact NearV.exact (by omega) (by decide +kernel)
 · rw [show cenY 0 0 4616189618054758400 0 0 4611686018427387904 = fval 4607182418800017408 by decide +kernel]
   exact NearV.exact (by omega) (by decide +kernel)
theorem awP : GPt 0 0 4616189618054758400 0 4598175219545276416 4607182418800017408 0 true := by
 refine ⟨fun _ => ⟨4607182418800017408, 0, ⟨4616189618054758400, 4607182418800017408, by decide +kernel, by decide +kernel, by decide +kernel⟩, ⟨0, 0, by decide +kernel, by decide +kernel, by decide +kernel⟩, Or.inl ⟨rfl, by decide +kernel, by decide, by decide⟩⟩, fun h => absurd ⟨⟨by decide +kernel, by decide +kernel⟩, by unfold Fin64 frung; decide, by decide +kernel, by decide +kernel⟩ h⟩
theorem aw0 : gcmp 0 0 4616189618054758400 0 4616189618054758400 0 0 4611686018427387904 = -1 := (gcmp_yes (by decide +kernel)).trans (by decide +kernel)
theorem awd0 : gdot 0 0 4616189618054758400 0 4607182418800017408 4607182418800017408 = -1 := (gdot_yes (by decide +kernel)).trans (by decide +kernel)
theorem awd1 : gdot 0 0 4616189618054758400 0 4611686018427387904 4611686018427387904 = 0 := (gdot_yes (by decide +kernel)).trans (by decide +kernel)
theorem awd2 : gdot 0 0 4616189618054758400 0 4617315517961601024 4607182418800017408 = 1 := (gdot_yes (by decide +kernel)).trans (by decide +kernel)
theorem awa0 : garea 0 0 4616189618054758400 0 0 4611686018427387904 4616189618054758400 = 0 := (garea_yes (by decide +kernel)).trans (by decide +kernel)
theorem awa1 : garea 0 0 4616189618054758400 0 0 4611686018427387904 4615063718147915776 = 1 := (garea_yes (by decide +kernel)).trans (by decide +kernel)
theorem aws0 : false = true ↔ GS 0 0 4616189618054758400 0 0 4611686018427387904 0 := ⟨fun h => (by cases h), fun h => absurd h (by decide +kernel)⟩
theorem aws1 : true = true ↔ GS 4616189618054758400 0 0 0 0 4611686018427387904 4604930618986332160 := ⟨fun _ => by decide +kernel, fun _ => rfl⟩
set_option maxRecDepth 100000 in
set_option maxHeartbeats 8000000 in
theorem awake6_any (w : World) (hT : Tab w) : Calls Tryz.prog 13 #[] w fun e w' => e = .returned (.bool true) ∧ Below w.heap.size w w' := by
 have HT : Hid (Tab w) := hT
 clear hT
 have em : ∀ w, (binOp .eql 24 (.agg #[.float .f64 4611686018427387904, .float .f64 4607182418800017408]) (.agg #[.float .f64 4611686018427387904, .float .f64 4607182418800017408])).run Tryz.prog w = .ok (.bool true) w := fun _ => by kernel_rfl
 have ep : ∀ w, (binOp .eql 24 (.agg #[.float .f64 4607182418800017408, .float .f64 0]) (.agg #[.float .f64 4607182418800017408, .float .f64 0])).run Tryz.prog w = .ok (.bool true) w := fun _ => by kernel_rfl
 go_enter Tryz.func13, Tryz.ntmps13
 go_wp2_with fail
 refine (at6_any 0 0 _).mono ?_
 rintro e w1 ⟨rfl, hb1⟩
 go_wp2_with fail
 refine (at6_any 4616189618054758400 0 _).mono ?_
 rintro e w2 ⟨rfl, hb2⟩
 go_wp2_with fail
 refine (at6_any 0 4611686018427387904 _).mono ?_
 rintro e w3 ⟨rfl, hb3⟩
 have HB3 : Hid (Below w.heap.size w w3) := below_step (below_step hb1 hb2) hb3
 clear hb1 hb2 hb3
 have HB4 : Hid (Below w3.heap.size w3 (((w3.alloc (.cells #[.float .f64 0, .float .f64 0] 24)).alloc (.cells #[.float .f64 4616189618054758400, .float .f64 0] 24)).alloc (.cells #[.float .f64 0, .float .f64 4611686018427387904] 24))) := (((Below.refl _ w3).alloc (Nat.le_refl _) _).alloc (by simp) _).alloc (by simp; omega) _
 go_wp2_with fail
 refine (gcenter_of 0 0 4616189618054758400 0 0 4611686018427387904 _ 1 (HT.out.later (below_step HB3.out HB4.out)) ⟨⟨by omega, by omega⟩, ⟨by omega, by omega⟩, by omega, by omega⟩ awS (fun W => sign_small 0 0 4616189618054758400 0 0 4611686018427387904 W 1 ⟨⟨by omega, by omega⟩, ⟨by omega, by omega⟩, by omega, by omega⟩ (by decide +kernel) awM (by decide +kernel) awS)).mono ?_
 rintro e w4 ⟨⟨u, v, ok, rfl, hc⟩, hb4⟩
 obtain ⟨rfl, rfl, rfl⟩ := hc.one awC
 clear hc
 obtain ⟨n0, hn0⟩ : ∃ n0, n0 = w3.heap.size := ⟨_, rfl⟩
 have c0 : w4.cell? ⟨n0, 0, none⟩ = some (.float .f64 0) := by rw [hn0]; exact box_cell hb4 (by go_simp)
 have c1 : w4.cell? ⟨n0, 1, none⟩ = some (.float .f64 0) := by rw [hn0]; exact box_cell hb4 (by go_simp)
 have c2 : w4.cell? ⟨n0 + 1, 0, none⟩ = some (.float .f64 4616189618054758400) := by rw [hn0]; exact box_cell hb4 (by go_simp)
 have c3 : w4.cell? ⟨n0 + 1, 1, none⟩ = some (.float .f64 0) := by rw [hn0]; exact box_cell hb4 (by go_simp)
 have c4 : w4.cell? ⟨n0 + 1 + 1, 0, none⟩ = some (.float .f64 0) := by rw [hn0]; exact box_cell hb4 (by go_simp)
 have c5 : w4.cell? ⟨n0 + 1 + 1, 1, none⟩ = some (.float .f64 4611686018427387904) := by rw [hn0]; exact box_cell hb4 (by go_simp)
 have HB5 : Hid (Below w.heap.size w w4) := below_step (below_step HB3.out HB4.out) hb4
 rw [← hn0]
 clear hb4 HB3 HB4 hn0
 obtain ⟨n4, hn4⟩ : ∃ n4, n4 = w4.heap.size := ⟨_, rfl⟩
 obtain ⟨W5, hW5⟩ : ∃ W5, w4.alloc (.cells #[.float .f64 4611686018427387904, .float .f64 4607182418800017408] 24) = W5 := ⟨_, rfl⟩
 have hb45 : Below w4.heap.size w4 W5 := by rw [← hW5]; exact (Below.refl _ w4).alloc (Nat.le_refl _) _
 replace c0 := box_cell hb45 c0
 replace c1 := box_cell hb45 c1
 replace c2 := box_cell hb45 c2
 replace c3 := box_cell hb45 c3
 replace c4 := box_cell hb45 c4
 replace c5 := box_cell hb45 c5
 have hcb : CB W5 n4 #[.float .f64 4611686018427387904, .float .f64 4607182418800017408] 24 := by rw [hn4, ← hW5]; exact CB.new w4 _ _
 have c6 : W5.cell? ⟨n4, 0, none⟩ = some (.float .f64 4611686018427387904) := hcb.cell 0 (by simp)
 have c7 : W5.cell? ⟨n4, 1, none⟩ = some (.float .f64 4607182418800017408) := hcb.cell 1 (by simp)
 clear hcb
 have HB6 : Hid (Below w.heap.size w W5) := below_step HB5.out hb45
 have Hn4 : Hid (n4 = w4.heap.size) := hn4
 clear hn4 hb45 HB5
 go_wp2_with fail
 refine (gpoint_any 0 0 4616189618054758400 0 4598175219545276416 _ ⟨by omega, by omega⟩ ⟨by omega, by omega⟩).mono ?_
 rintro e w5 ⟨⟨u, v, ok, rfl, hc⟩, hb5⟩
 obtain ⟨rfl, rfl, rfl⟩ := hc.one awP
 clear hc
 rw [← Hn4.out]
 replace c0 := box_cell hb5 c0
 replace c1 := box_cell hb5 c1
 replace c2 := box_cell hb5 c2
 replace c3 := box_cell hb5 c3
 replace c4 := box_cell hb5 c4
 replace c5 := box_cell hb5 c5
 replace c6 := box_cell hb5 c6
 replace c7 := box_cell hb5 c7
 replace HB6 : Hid (Below w.heap.size w w5) := below_step HB6.out hb5
 clear hb5 Hn4 hW5
 obtain ⟨W6, hW6⟩ : ∃ W6, W6 = w5.alloc (.cells #[.float .f64 4607182418800017408, .float .f64 0] 24) := ⟨_, rfl⟩
 have hb6 : Below w5.heap.size w5 W6.drew := by rw [hW6]; exact ((Below.refl _ w5).alloc (Nat.le_refl _) _).drew
 obtain ⟨n6, hn6⟩ : ∃ n6, n6 = w5.heap.size := ⟨_, rfl⟩
 replace c0 := box_cell hb6 c0
 replace c1 := box_cell hb6 c1
 replace c2 := box_cell hb6 c2
 replace c3 := box_cell hb6 c3
 replace c4 := box_cell hb6 c4
 replace c5 := box_cell hb6 c5
 replace c6 := box_cell hb6 c6
 replace c7 := box_cell hb6 c7
 have c8 : W6.drew.cell? ⟨n6, 0, none⟩ = some (.float .f64 4607182418800017408) := by rw [hn6, hW6]; go_simp
 have c9 : W6.drew.cell? ⟨n6, 1, none⟩ = some (.float .f64 0) := by rw [hn6, hW6]; go_simp
 have HB7 : Hid (Below w.heap.size w W6.drew) := below_step HB6.out hb6
 go_wp2_with fail
 try rw [← hn6]
 rw [← hW6]
 clear hb6 hn6 hW6 HB6
 refine wp_region_held_drew (S := (fun W => W.cell? ⟨n0, 0, none⟩ = some (.float .f64 0) ∧ W.cell? ⟨n0, 1, none⟩ = some (.float .f64 0) ∧ W.cell? ⟨n0 + 1, 0, none⟩ = some (.float .f64 4616189618054758400) ∧ W.cell? ⟨n0 + 1, 1, none⟩ = some (.float .f64 0) ∧ W.cell? ⟨n0 + 1 + 1, 0, none⟩ = some (.float .f64 0) ∧ W.cell? ⟨n0 + 1 + 1, 1, none⟩ = some (.float .f64 4611686018427387904) ∧ W.cell? ⟨n4, 0, none⟩ = some (.float .f64 4611686018427387904) ∧ W.cell? ⟨n4, 1, none⟩ = some (.float .f64 4607182418800017408) ∧ W.cell? ⟨n6, 0, none⟩ = some (.float .f64 4607182418800017408) ∧ W.cell? ⟨n6, 1, none⟩ = some (.float .f64 0) ∧ Below w.heap.size w W)) (by kernel_rfl) ⟨c0, c1, c2, c3, c4, c5, c6, c7, c8, c9, HB7.out⟩ (fun hS => ?_)
 refine takB (i := 0) (d := some 24) (v := .agg #[.float .f64 0, .float .f64 0]) hS ?_
 simp only [AP]
 refine takB (i := 1) (d := some 25) (v := .agg #[.float .f64 4616189618054758400, .float .f64 0]) hS ?_
 simp only [AP]
 refine takB (i := 2) (d := some 26) (v := .agg #[.float .f64 4616189618054758400, .float .f64 0]) hS ?_
 simp only [AP]
 refine takB (i := 3) (d := some 27) (v := .agg #[.float .f64 0, .float .f64 4611686018427387904]) hS ?_
 simp only [AP]
 refine call_at 4 (by kernel_rfl) (by kernel_rfl) ?_
 intro o ho
 replace ho := Option.some.inj (Eq.trans (Eq.symm ho) rfl)
 subst ho
 intro KF hK
 go_simp
 refine (gcmp_any 0 0 4616189618054758400 0 4616189618054758400 0 0 4611686018427387904 _ (-1) (HT.out.later hS.2.2.2.2.2.2.2.2.2.2) ⟨⟨⟨by omega, by omega⟩, ⟨by omega, by omega⟩, by omega, by omega⟩, by omega, by omega⟩ aw0).mono ?_
 rintro e wx ⟨rfl, hbx⟩
 go_wp2_with fail
 refine hK.out _ _ (kp10 hbx hS) ?_
 clear hS hbx
 intro hS
 clear hK KF
 try simp only [AP]
 refine takB (i := 5) (d := some 29) (v := .bool true) hS ?_
 simp only [AP]
 refine takB (i := 6) (d := some 30) (v := .bool true) hS ?_
 simp only [AP]
 refine takB (i := 7) (d := some 31) (v := .agg #[.float .f64 0, .float .f64 0]) hS ?_
 simp only [AP]
 refine takB (i := 8) (d := some 32) (v := .agg #[.float .f64 4616189618054758400, .float .f64 0]) hS ?_
 simp only [AP]
 refine call_at 9 (by kernel_rfl) (by kernel_rfl) ?_
 intro o ho
 replace ho := Option.some.inj (Eq.trans (Eq.symm ho) rfl)
 subst ho
 intro KF hK
 go_simp
 refine (at6_any 4607182418800017408 4607182418800017408 _).mono ?_
 rintro e wx ⟨rfl, hbx⟩
 go_wp2_with fail
 refine hK.out _ _ (kp10 hbx hS) ?_
 clear hS hbx
 intro hS
 clear hK KF
 try simp only [AP]
 refine call_at 10 (by kernel_rfl) (by kernel_rfl) ?_
 intro o ho
 replace ho := Option.some.inj (Eq.trans (Eq.symm ho) rfl)
 subst ho
 intro KF hK
 go_simp
 refine (gdot_any 0 0 4616189618054758400 0 4607182418800017408 4607182418800017408 _ (-1) (HT.out.later hS.2.2.2.2.2.2.2.2.2.2) ⟨⟨by omega, by omega⟩, ⟨by omega, by omega⟩, by omega, by omega⟩ awd0).mono ?_
 rintro e wx ⟨rfl, hbx⟩
 go_wp2_with fail
 refine hK.out _ _ (kp10 hbx hS) ?_
 clear hS hbx
 intro hS
 clear hK KF
 try simp only [AP]
 refine takB (i := 11) (d := some 35) (v := .bool true) hS ?_
 simp only [AP]
 refine takB (i := 12) (d := some 36) (v := .bool true) hS ?_
 simp only [AP]
 refine takB (i := 13) (d := some 37) (v := .bool true) hS ?_
 simp only [AP]
 refine takB (i := 14) (d := some 38) (v := .agg #[.float .f64 0, .float .f64 0]) hS ?_
 simp only [AP]
 refine takB (i := 15) (d := some 39) (v := .agg #[.float .f64 4616189618054758400, .float .f64 0]) hS ?_
 simp only [AP]
 refine call_at 16 (by kernel_rfl) (by kernel_rfl) ?_
 intro o ho
 replace ho := Option.some.inj (Eq.trans (Eq.symm ho) rfl)
 subst ho
 intro KF hK
 go_simp
 refine (at6_any 4611686018427387904 4611686018427387904 _).mono ?_
 rintro e wx ⟨rfl, hbx⟩
 go_wp2_with fail
 refine hK.out _ _ (kp10 hbx hS) ?_
 clear hS hbx
 intro hS
 clear hK KF
 try simp only [AP]
 refine call_at 17 (by kernel_rfl) (by kernel_rfl) ?_
 intro o ho
 replace ho := Option.some.inj (Eq.trans (Eq.symm ho) rfl)
 subst ho
 intro KF hK
 go_simp
 refine (gdot_any 0 0 4616189618054758400 0 4611686018427387904 4611686018427387904 _ (0) (HT.out.later hS.2.2.2.2.2.2.2.2.2.2) ⟨⟨by omega, by omega⟩, ⟨by omega, by omega⟩, by omega, by omega⟩ awd1).mono ?_
 rintro e wx ⟨rfl, hbx⟩
 go_wp2_with fail
 refine hK.out _ _ (kp10 hbx hS) ?_
 clear hS hbx
 intro hS
 clear hK KF
 try simp only [AP]
 refine takB (i := 18) (d := some 42) (v := .bool true) hS ?_
 simp only [AP]
 refine takB (i := 19) (d := some 43) (v := .bool true) hS ?_
 simp only [AP]
 refine takB (i := 20) (d := some 44) (v := .bool true) hS ?_
 simp only [AP]
 refine takB (i := 21) (d := some 45) (v := .agg #[.float .f64 0, .float .f64 0]) hS ?_
 simp only [AP]
 refine takB (i := 22) (d := some 46) (v := .agg #[.float .f64 4616189618054758400, .float .f64 0]) hS ?_
 simp only [AP]
 refine call_at 23 (by kernel_rfl) (by kernel_rfl) ?_
 intro o ho
 replace ho := Option.some.inj (Eq.trans (Eq.symm ho) rfl)
 subst ho
 intro KF hK
 go_simp
 refine (at6_any 4617315517961601024 4607182418800017408 _).mono ?_
 rintro e wx ⟨rfl, hbx⟩
 go_wp2_with fail
 refine hK.out _ _ (kp10 hbx hS) ?_
 clear hS hbx
 intro hS
 clear hK KF
 try simp only [AP]
 refine call_at 24 (by kernel_rfl) (by kernel_rfl) ?_
 intro o ho
 replace ho := Option.some.inj (Eq.trans (Eq.symm ho) rfl)
 subst ho
 intro KF hK
 go_simp
 refine (gdot_any 0 0 4616189618054758400 0 4617315517961601024 4607182418800017408 _ (1) (HT.out.later hS.2.2.2.2.2.2.2.2.2.2) ⟨⟨by omega, by omega⟩, ⟨by omega, by omega⟩, by omega, by omega⟩ awd2).mono ?_
 rintro e wx ⟨rfl, hbx⟩
 go_wp2_with fail
 refine hK.out _ _ (kp10 hbx hS) ?_
 clear hS hbx
 intro hS
 clear hK KF
 try simp only [AP]
 refine takB (i := 25) (d := some 49) (v := .bool true) hS ?_
 simp only [AP]
 refine takB (i := 26) (d := some 50) (v := .bool true) hS ?_
 simp only [AP]
 refine takB (i := 27) (d := some 51) (v := .bool true) hS ?_
 simp only [AP]
 refine takB (i := 28) (d := some 52) (v := .agg #[.float .f64 0, .float .f64 0]) hS ?_
 simp only [AP]
 refine takB (i := 29) (d := some 53) (v := .agg #[.float .f64 4616189618054758400, .float .f64 0]) hS ?_
 simp only [AP]
 refine takB (i := 30) (d := some 54) (v := .agg #[.float .f64 0, .float .f64 4611686018427387904]) hS ?_
 simp only [AP]
 refine call_at 31 (by kernel_rfl) (by kernel_rfl) ?_
 intro o ho
 replace ho := Option.some.inj (Eq.trans (Eq.symm ho) rfl)
 subst ho
 intro KF hK
 go_simp
 refine (garea_any 0 0 4616189618054758400 0 0 4611686018427387904 4616189618054758400 _ (0) (HT.out.later hS.2.2.2.2.2.2.2.2.2.2) ⟨⟨by omega, by omega⟩, ⟨by omega, by omega⟩, by omega, by omega⟩ (by omega) awa0).mono ?_
 rintro e wx ⟨rfl, hbx⟩
 go_wp2_with fail
 refine hK.out _ _ (kp10 hbx hS) ?_
 clear hS hbx
 intro hS
 clear hK KF
 try simp only [AP]
 refine takB (i := 32) (d := some 56) (v := .bool true) hS ?_
 simp only [AP]
 refine takB (i := 33) (d := some 57) (v := .bool true) hS ?_
 simp only [AP]
 refine takB (i := 34) (d := some 58) (v := .bool true) hS ?_
 simp only [AP]
 refine takB (i := 35) (d := some 59) (v := .agg #[.float .f64 0, .float .f64 0]) hS ?_
 simp only [AP]
 refine takB (i := 36) (d := some 60) (v := .agg #[.float .f64 4616189618054758400, .float .f64 0]) hS ?_
 simp only [AP]
 refine takB (i := 37) (d := some 61) (v := .agg #[.float .f64 0, .float .f64 4611686018427387904]) hS ?_
 simp only [AP]
 refine call_at 38 (by kernel_rfl) (by kernel_rfl) ?_
 intro o ho
 replace ho := Option.some.inj (Eq.trans (Eq.symm ho) rfl)
 subst ho
 intro KF hK
 go_simp
 refine (garea_any 0 0 4616189618054758400 0 0 4611686018427387904 4615063718147915776 _ (1) (HT.out.later hS.2.2.2.2.2.2.2.2.2.2) ⟨⟨by omega, by omega⟩, ⟨by omega, by omega⟩, by omega, by omega⟩ (by omega) awa1).mono ?_
 rintro e wx ⟨rfl, hbx⟩
 go_wp2_with fail
 refine hK.out _ _ (kp10 hbx hS) ?_
 clear hS hbx
 intro hS
 clear hK KF
 try simp only [AP]
 refine takB (i := 39) (d := some 63) (v := .bool true) hS ?_
 simp only [AP]
 refine takB (i := 40) (d := some 64) (v := .bool true) hS ?_
 simp only [AP]
 refine takB (i := 41) (d := some 65) (v := .bool true) hS ?_
 simp only [AP]
 refine takB (i := 42) (d := some 66) (v := .agg #[.float .f64 0, .float .f64 0]) hS ?_
 simp only [AP]
 refine takB (i := 43) (d := some 67) (v := .agg #[.float .f64 4616189618054758400, .float .f64 0]) hS ?_
 simp only [AP]
 refine takB (i := 44) (d := some 68) (v := .agg #[.float .f64 0, .float .f64 4611686018427387904]) hS ?_
 simp only [AP]
 refine call_at 45 (by kernel_rfl) (by kernel_rfl) ?_
 intro o ho
 replace ho := Option.some.inj (Eq.trans (Eq.symm ho) rfl)
 subst ho
 intro KF hK
 go_simp
 refine (gsharp_any 0 0 4616189618054758400 0 0 4611686018427387904 0 _ false (HT.out.later hS.2.2.2.2.2.2.2.2.2.2) ⟨⟨by omega, by omega⟩, ⟨by omega, by omega⟩, by omega, by omega⟩ (by omega) aws0).mono ?_
 rintro e wx ⟨rfl, hbx⟩
 go_wp2_with fail
 refine hK.out _ _ (kp10 hbx hS) ?_
 clear hS hbx
 intro hS
 clear hK KF
 try simp only [AP]
 refine takB (i := 46) (d := some 70) (v := .bool true) hS ?_
 simp only [AP]
 refine takB (i := 47) (d := some 71) (v := .bool true) hS ?_
 simp only [AP]
 refine takB (i := 48) (d := some 72) (v := .bool true) hS ?_
 simp only [AP]
 refine takB (i := 49) (d := some 73) (v := .agg #[.float .f64 4616189618054758400, .float .f64 0]) hS ?_
 simp only [AP]
 refine takB (i := 50) (d := some 74) (v := .agg #[.float .f64 0, .float .f64 0]) hS ?_
 simp only [AP]
 refine takB (i := 51) (d := some 75) (v := .agg #[.float .f64 0, .float .f64 4611686018427387904]) hS ?_
 simp only [AP]
 refine call_at 52 (by kernel_rfl) (by kernel_rfl) ?_
 intro o ho
 replace ho := Option.some.inj (Eq.trans (Eq.symm ho) rfl)
 subst ho
 intro KF hK
 go_simp
 refine (gsharp_any 4616189618054758400 0 0 0 0 4611686018427387904 4604930618986332160 _ true (HT.out.later hS.2.2.2.2.2.2.2.2.2.2) ⟨⟨by omega, by omega⟩, ⟨by omega, by omega⟩, by omega, by omega⟩ (by omega) aws1).mono ?_
 rintro e wx ⟨rfl, hbx⟩
 go_wp2_with fail
 refine hK.out _ _ (kp10 hbx hS) ?_
 clear hS hbx
 intro hS
 clear hK KF
 try simp only [AP]
 refine takB (i := 53) (d := some 77) (v := .bool true) hS ?_
 simp only [AP]
 refine takB (i := 54) (d := some 78) (v := .bool true) hS ?_
 simp only [AP]
 refine takB (i := 55) (d := some 79) (v := .bool true) hS ?_
 simp only [AP]
 refine takB (i := 56) (d := some 80) (v := .bool true) hS ?_
 simp only [AP]
 refine takB (i := 57) (d := some 81) (v := .bool true) hS ?_
 simp only [AP]
 refine takB (i := 58) (d := some 82) (v := .agg #[.float .f64 4611686018427387904, .float .f64 4607182418800017408]) hS ?_
 simp only [AP]
 refine call_at 59 (by kernel_rfl) (by kernel_rfl) ?_
 intro o ho
 replace ho := Option.some.inj (Eq.trans (Eq.symm ho) rfl)
 subst ho
 intro KF hK
 go_simp
 refine (at6_any 4611686018427387904 4607182418800017408 _).mono ?_
 rintro e wx ⟨rfl, hbx⟩
 go_wp2_with fail
 refine hK.out _ _ (kp10 hbx hS) ?_
 clear hS hbx
 intro hS
 clear hK KF
 try simp only [AP]
 refine takB (i := 60) (d := some 84) (v := .bool true) hS ?_
 simp only [AP]
 refine takB (i := 61) (d := some 85) (v := .bool true) hS ?_
 simp only [AP]
 refine takB (i := 62) (d := some 86) (v := .bool true) hS ?_
 simp only [AP]
 refine takB (i := 63) (d := some 87) (v := .bool true) hS ?_
 simp only [AP]
 refine takB (i := 64) (d := some 88) (v := .bool true) hS ?_
 simp only [AP]
 refine takB (i := 65) (d := some 89) (v := .bool true) hS ?_
 simp only [AP]
 refine takB (i := 66) (d := some 90) (v := .agg #[.float .f64 4607182418800017408, .float .f64 0]) hS ?_
 simp only [AP]
 refine call_at 67 (by kernel_rfl) (by kernel_rfl) ?_
 intro o ho
 replace ho := Option.some.inj (Eq.trans (Eq.symm ho) rfl)
 subst ho
 intro KF hK
 go_simp
 refine (at6_any 4607182418800017408 0 _).mono ?_
 rintro e wx ⟨rfl, hbx⟩
 go_wp2_with fail
 refine hK.out _ _ (kp10 hbx hS) ?_
 clear hS hbx
 intro hS
 clear hK KF
 try simp only [AP]
 refine takB (i := 68) (d := some 92) (v := .bool true) hS ?_
 simp only [AP]
 refine takB (i := 69) (d := some 93) (v := .bool true) hS ?_
 simp only [AP]
 refine takB (i := 70) (d := some 0) (v := .bool true) hS ?_
 simp only [Act.put, List.setIfInBounds_toArray, List.set_cons_zero]
 refine wpAnyH_done (by kernel_rfl) ?_ _
 go_wp2
 go_ret
 exact ⟨rfl, hS.2.2.2.2.2.2.2.2.2.2⟩
end
end Go.Proofs.YtocnkgfoffpbfaaGreatDoor
