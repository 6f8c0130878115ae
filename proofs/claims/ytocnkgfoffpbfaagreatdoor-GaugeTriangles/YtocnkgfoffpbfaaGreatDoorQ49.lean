/- Own texts, put together: Gw. -/
import Derived.Test.YtocnkgfoffpbfaaGreatDoorQ3
import Derived.Test.YtocnkgfoffpbfaaGreatDoorQ37
import Derived.Test.YtocnkgfoffpbfaaGreatDoorQ44
import Derived.Test.YtocnkgfoffpbfaaGreatDoorQ47
/- The middle of a circle: Center. -/
namespace Go.Proofs.YtocnkgfoffpbfaaGreatDoor
open Go.RowKit Go.Shelf
attribute [local go_sem ↓] Go.wp_at_zero Go.wp_at_succ
attribute [local go_sem] run_store_float

def cenX (ax ay bx by' cx cy : Nat) : Rat := midX (fval ax) (fval ay) (fval bx) (fval by') (fval cx) (fval cy) / (2 * turnR (fval ax) (fval ay) (fval bx) (fval by') (fval cx) (fval cy))
def cenY (ax ay bx by' cx cy : Nat) : Rat := midY (fval ax) (fval ay) (fval bx) (fval by') (fval cx) (fval cy) / (2 * turnR (fval ax) (fval ay) (fval bx) (fval by') (fval cx) (fval cy))
def GCt (ax ay bx by' cx cy u v : Nat) (ok : Bool) : Prop := (P3 ax ay bx by' cx cy ∧ turnR (fval ax) (fval ay) (fval bx) (fval by') (fval cx) (fval cy) ≠ 0 → ∃ x y, NearV (cenX ax ay bx by' cx cy) x ∧ NearV (cenY ax ay bx by' cx cy) y ∧ StR x y u v ok) ∧ (¬ (P3 ax ay bx by' cx cy ∧ turnR (fval ax) (fval ay) (fval bx) (fval by') (fval cx) (fval cy) ≠ 0) → u = 0 ∧ v = 0 ∧ ok = false)
theorem StR.nm {x y x' y' u v : Nat} {t : Bool} (h : StR x y u v t) (h1 : nm0 x = nm0 x') (h2 : nm0 y = nm0 y') : StR x' y' u v t := by
 unfold StR at *
 rw [← h1, ← h2]; exact h
theorem GCt.one {ax ay bx by' cx cy u v u' v' : Nat} {k k' : Bool} (h1 : GCt ax ay bx by' cx cy u v k) (h2 : GCt ax ay bx by' cx cy u' v' k') : u = u' ∧ v = v' ∧ k = k' := by
 by_cases h : P3 ax ay bx by' cx cy ∧ turnR (fval ax) (fval ay) (fval bx) (fval by') (fval cx) (fval cy) ≠ 0
 · obtain ⟨x, y, a1, a2, a3⟩ := h1.1 h
   obtain ⟨x', y', b1, b2, b3⟩ := h2.1 h
   exact (a3.nm (a1.one b1) (a2.one b2)).one b3
 · obtain ⟨a1, a2, a3⟩ := h1.2 h
   obtain ⟨b1, b2, b3⟩ := h2.2 h
   exact ⟨by rw [a1, b1], by rw [a2, b2], by rw [a3, b3]⟩

theorem acc_x (ax ay bx by' cx cy : Nat) : (0 + (fval ax * fval ax + fval ay * fval ay) * (fval by' - fval cy) + (fval bx * fval bx + fval by' * fval by') * (fval cy - fval ay) + (fval cx * fval cx + fval cy * fval cy) * (fval ay - fval by')) = midX (fval ax) (fval ay) (fval bx) (fval by') (fval cx) (fval cy) := by unfold midX turnR lenR; grind
theorem acc_y (ax ay bx by' cx cy : Nat) : (0 + (fval ax * fval ax + fval ay * fval ay) * (-(fval bx - fval cx)) + (fval bx * fval bx + fval by' * fval by') * (-(fval cx - fval ax)) + (fval cx * fval cx + fval cy * fval cy) * (-(fval ax - fval bx))) = midY (fval ax) (fval ay) (fval bx) (fval by') (fval cx) (fval cy) := by unfold midY turnR lenR; grind
theorem acc_w (ax ay bx by' cx cy : Nat) : (0 + 2 * fval ax * (fval by' - fval cy) + 2 * fval bx * (fval cy - fval ay) + 2 * fval cx * (fval ay - fval by')) = 2 * turnR (fval ax) (fval ay) (fval bx) (fval by') (fval cx) (fval cy) := by unfold turnR; grind
theorem bd_turn {ax ay bx by' cx cy : Nat} (h : (Fin64 ax ∧ Fin64 ay) ∧ (Fin64 bx ∧ Fin64 by') ∧ Fin64 cx ∧ Fin64 cy) : Bd 2060 (-2200) (turnR (fval ax) (fval ay) (fval bx) (fval by') (fval cx) (fval cy)) := by
 have h1 := (fval_bd h.2.1.1).sub (fval_bd h.1.1)
 have h2 := (fval_bd h.2.2.2).sub (fval_bd h.1.2)
 have h3 := (fval_bd h.2.1.2).sub (fval_bd h.1.2)
 have h4 := (fval_bd h.2.2.1).sub (fval_bd h.1.1)
 exact ((h1.mul h2).sub (h3.mul h4)).mono (by omega) (by omega)
theorem bd_len {p q r s : Nat} (h1 : Fin64 p) (h2 : Fin64 q) (h3 : Fin64 r) (h4 : Fin64 s) : Bd 2060 (-2200) (lenR (fval p) (fval q) (fval r) (fval s)) := by
 have a := (fval_bd h3).sub (fval_bd h1)
 have b := (fval_bd h4).sub (fval_bd h2)
 exact ((a.mul a).add (b.mul b)).mono (by omega) (by omega)
theorem bd_2 {q : Rat} {h l : Int} (hb : Bd h l q) : Bd (h + 1) l (2 * q) := by
 rw [show 2 * q = q + q by grind]; exact hb.add hb
theorem bd_mid {ax ay bx by' cx cy : Nat} (h : (Fin64 ax ∧ Fin64 ay) ∧ (Fin64 bx ∧ Fin64 by') ∧ Fin64 cx ∧ Fin64 cy) : Bd 5000 (-9000) (midX (fval ax) (fval ay) (fval bx) (fval by') (fval cx) (fval cy)) ∧ Bd 5000 (-9000) (midY (fval ax) (fval ay) (fval bx) (fval by') (fval cx) (fval cy)) ∧ Bd 5000 (-9000) (2 * turnR (fval ax) (fval ay) (fval bx) (fval by') (fval cx) (fval cy)) := by
 have T := bd_2 (bd_turn h)
 have l1 := bd_len h.1.1 h.1.2 h.2.1.1 h.2.1.2
 have l2 := bd_len h.1.1 h.1.2 h.2.2.1 h.2.2.2
 have d1 := (fval_bd h.2.2.2).sub (fval_bd h.1.2)
 have d2 := (fval_bd h.2.1.2).sub (fval_bd h.1.2)
 have d3 := (fval_bd h.2.1.1).sub (fval_bd h.1.1)
 have d4 := (fval_bd h.2.2.1).sub (fval_bd h.1.1)
 refine ⟨?_, ?_, T.mono (by omega) (by omega)⟩
 · have a := ((d1.mul l1).sub (d2.mul l2)).mono (h' := 4000) (l' := -5000) (by omega) (by omega)
   have b := (T.mul (fval_bd h.1.1)).mono (h' := 4000) (l' := -5000) (by omega) (by omega)
   exact (a.add b).mono (by omega) (by omega)
 · have a := ((d3.mul l2).sub (d4.mul l1)).mono (h' := 4000) (l' := -5000) (by omega) (by omega)
   have b := (T.mul (fval_bd h.1.2)).mono (h' := 4000) (l' := -5000) (by omega) (by omega)
   exact (a.add b).mono (by omega) (by omega)
theorem crd_d {a b : Nat} (ha : Crd a) (hb : Crd b) : ab (fval b - fval a) ≤ U 1175 ∧ M (U 974) (fval b - fval a) := by
 obtain ⟨_, _, _, _, _, m, l⟩ := diff_word ha hb
 exact ⟨l, m⟩
theorem ab_sum {x y : Rat} {p : Nat} (h1 : ab x ≤ U p) (h2 : ab y ≤ U p) : ab (x + y) ≤ U (p + 1) ∧ ab (x - y) ≤ U (p + 1) := by
 have a := ab_add x y
 have b := ab_sub x y
 have c := U_two' p
 exact ⟨by grind, by grind⟩
theorem mid_lim {ax ay bx by' cx cy : Nat} (h : P3 ax ay bx by' cx cy) : ab (midX (fval ax) (fval ay) (fval bx) (fval by') (fval cx) (fval cy)) ≤ U 1380 ∧ ab (midY (fval ax) (fval ay) (fval bx) (fval by') (fval cx) (fval cy)) ≤ U 1380 ∧ ab (2 * turnR (fval ax) (fval ay) (fval bx) (fval by') (fval cx) (fval cy)) ≤ U 1380 ∧ M (U 874) (2 * turnR (fval ax) (fval ay) (fval bx) (fval by') (fval cx) (fval cy)) := by
 have x1 := crd_d h.1.1 h.2.1.1
 have y1 := crd_d h.1.2 h.2.1.2
 have x2 := crd_d h.1.1 h.2.2.1
 have y2 := crd_d h.1.2 h.2.2.2
 have l1 : ab (lenR (fval ax) (fval ay) (fval bx) (fval by')) ≤ U 1277 := (ab_sum (mul_le_U x1.1 x1.1 (r := 1276) (by omega)) (mul_le_U y1.1 y1.1 (r := 1276) (by omega))).1
 have l2 : ab (lenR (fval ax) (fval ay) (fval cx) (fval cy)) ≤ U 1277 := (ab_sum (mul_le_U x2.1 x2.1 (r := 1276) (by omega)) (mul_le_U y2.1 y2.1 (r := 1276) (by omega))).1
 have tu : ab (turnR (fval ax) (fval ay) (fval bx) (fval by') (fval cx) (fval cy)) ≤ U 1277 := (ab_sum (mul_le_U x1.1 y2.1 (r := 1276) (by omega)) (mul_le_U y1.1 x2.1 (r := 1276) (by omega))).2
 have mu : M (U 874) (turnR (fval ax) (fval ay) (fval bx) (fval by') (fval cx) (fval cy)) := by
   have a := x1.2.mul y2.2
   have b := y1.2.mul x2.2
   rw [U_mulX' (s := 974) (t := 974) (r := 874) (by omega)] at a b
   exact a.sub b
 have tt : 2 * turnR (fval ax) (fval ay) (fval bx) (fval by') (fval cx) (fval cy) = turnR (fval ax) (fval ay) (fval bx) (fval by') (fval cx) (fval cy) + turnR (fval ax) (fval ay) (fval bx) (fval by') (fval cx) (fval cy) := by grind
 have t2 : ab (2 * turnR (fval ax) (fval ay) (fval bx) (fval by') (fval cx) (fval cy)) ≤ U 1278 := by rw [tt]; exact (ab_sum tu tu).1
 have ca := crd_ab h.1.1.1
 have ca' := crd_ab h.1.2.1
 have u1 := U_mono (show 1378 ≤ 1379 by omega)
 refine ⟨?_, ?_, Rat.le_trans t2 (U_mono (by omega)), by rw [tt]; exact mu.add mu⟩
 · have a := (ab_sum (mul_le_U y2.1 l1 (r := 1378) (by omega)) (mul_le_U y1.1 l2 (r := 1378) (by omega))).2
   have b := mul_le_U t2 ca (r := 1378) (by omega)
   exact (ab_sum a (Rat.le_trans b u1)).1
 · have a := (ab_sum (mul_le_U x1.1 l2 (r := 1378) (by omega)) (mul_le_U x2.1 l1 (r := 1378) (by omega))).2
   have b := mul_le_U t2 ca' (r := 1378) (by omega)
   exact (ab_sum a (Rat.le_trans b u1)).1

set_option maxRecDepth 100000 in
set_option maxHeartbeats 4000000 in
theorem gcenter_any (ax ay bx by' cx cy : Nat) (w : World) (hT : Tab w) (hw : W6 ax ay bx by' cx cy) :
   Calls Tryz.prog 18 #[pv ax ay, pv bx by', pv cx cy] w fun e w' => (∃ u v ok, e = .returned (.tuple #[pv u v, .bool ok]) ∧ GCt ax ay bx by' cx cy u v ok) ∧ Below w.heap.size w w' := by
 have HT : Hid (Tab w) := hT
 have HW : Hid (W6 ax ay bx by' cx cy) := hw
 obtain ⟨z, hz⟩ : ∃ z, sg3 ax ay bx by' cx cy = z := ⟨_, rfl⟩
 have HZ : Hid (sg3 ax ay bx by' cx cy = z) := hz
 have HB0 : Hid (Below w.heap.size w ((((w.alloc (.cells #[.float .f64 ax, .float .f64 ay] 24)).alloc (.cells #[.float .f64 bx, .float .f64 by'] 24)).alloc (.cells #[.float .f64 cx, .float .f64 cy] 24)).alloc (.cells #[.float .f64 0, .float .f64 0] 24))) := ((((Below.refl _ w).alloc (Nat.le_refl _) _).alloc (by simp) _).alloc (by simp; omega) _).alloc (by simp; omega) _
 have HR0 : Hid (CB ((((w.alloc (.cells #[.float .f64 ax, .float .f64 ay] 24)).alloc (.cells #[.float .f64 bx, .float .f64 by'] 24)).alloc (.cells #[.float .f64 cx, .float .f64 cy] 24)).alloc (.cells #[.float .f64 0, .float .f64 0] 24)) (w.heap.size + 1 + 1 + 1) #[.float .f64 0, .float .f64 0] 24) := by
   have := CB.new ((((w.alloc (.cells #[.float .f64 ax, .float .f64 ay] 24)).alloc (.cells #[.float .f64 bx, .float .f64 by'] 24)).alloc (.cells #[.float .f64 cx, .float .f64 cy] 24))) #[.float .f64 0, .float .f64 0] 24
   show CB _ _ _ _
   simpa using this
 clear hT hw hz
 go_enter Tryz.func18, Tryz.ntmps18
 go_wp2_with fail
 refine (sign_is ax ay bx by' cx cy _ z HW.out HZ.out).mono ?_
 rintro e w1 ⟨rfl, hb1⟩
 have HB1 : Hid (Below w.heap.size w w1) := below_step HB0.out hb1
 have HR := HR0.out.later hb1
 have c0 : w1.cell? ⟨w.heap.size, 0, none⟩ = some (.float .f64 ax) := box_cell hb1 (by go_simp)
 have c1 : w1.cell? ⟨w.heap.size, 1, none⟩ = some (.float .f64 ay) := box_cell hb1 (by go_simp)
 have c2 : w1.cell? ⟨w.heap.size + 1, 0, none⟩ = some (.float .f64 bx) := box_cell hb1 (by go_simp)
 have c3 : w1.cell? ⟨w.heap.size + 1, 1, none⟩ = some (.float .f64 by') := box_cell hb1 (by go_simp)
 have c4 : w1.cell? ⟨w.heap.size + 1 + 1, 0, none⟩ = some (.float .f64 cx) := box_cell hb1 (by go_simp)
 have c5 : w1.cell? ⟨w.heap.size + 1 + 1, 1, none⟩ = some (.float .f64 cy) := box_cell hb1 (by go_simp)
 clear hb1 HB0 HR0
 by_cases hz0 : z = 0
 · have HNO : ¬ (P3 ax ay bx by' cx cy ∧ turnR (fval ax) (fval ay) (fval bx) (fval by') (fval cx) (fval cy) ≠ 0) := fun h => by
     have := HZ.out
     rw [sg3_yes h.1, hz0] at this
     exact h.2 (sgq_zero.1 this)
   subst hz0
   have f0 := HR.frozen 0
   have f1 := HR.frozen 1
   have k0 := HR.cell 0 (by decide)
   have k1 := HR.cell 1 (by decide)
   go_wp2
   have Y := HR.set2 (.float .f64 0) (.float .f64 0)
   have y0 := Y.cell 0 (by simp)
   have y1 := Y.cell 1 (by simp)
   refine bodyPost_ret (v := .tuple #[.agg #[.float .f64 0, .float .f64 0], .bool false]) (by simp [results, Tryz.results18, go_sem, y0, y1]) rfl ?_
   exact ⟨⟨0, 0, false, rfl, fun h => absurd h HNO, fun _ => ⟨rfl, rfl, rfl⟩⟩, below_set2 HB1.out (by omega) _ _⟩
 · have HC : Hid (P3 ax ay bx by' cx cy ∧ turnR (fval ax) (fval ay) (fval bx) (fval by') (fval cx) (fval cy) ≠ 0) := by
     have hz := HZ.out
     by_cases hp : P3 ax ay bx by' cx cy
     · rw [sg3_yes hp] at hz
       exact ⟨hp, fun e => hz0 (by rw [← hz]; exact sgq_zero.2 e)⟩
     · rw [sg3_no hp] at hz
       exact absurd hz.symm hz0
   have wa := HC.out.1.1.w HW.out.1
   have wb := HC.out.1.2.1.w HW.out.2.1
   have wc := HC.out.1.2.2.w HW.out.2.2
   have HF : Hid ((Wfl ax ∧ Wfl ay) ∧ (Wfl bx ∧ Wfl by') ∧ Wfl cx ∧ Wfl cy) := ⟨wa, wb, wc⟩
   have ml := mid_lim HC.out.1
   have t2 : 2 * turnR (fval ax) (fval ay) (fval bx) (fval by') (fval cx) (fval cy) ≠ 0 := fun e => HC.out.2 (by grind)
   have HL : Hid (ab (midX (fval ax) (fval ay) (fval bx) (fval by') (fval cx) (fval cy)) ≤ U 1380 ∧ ab (midY (fval ax) (fval ay) (fval bx) (fval by') (fval cx) (fval cy)) ≤ U 1380 ∧ ab (2 * turnR (fval ax) (fval ay) (fval bx) (fval by') (fval cx) (fval cy)) ≤ U 1380 ∧ M (U 874) (2 * turnR (fval ax) (fval ay) (fval bx) (fval by') (fval cx) (fval cy)) ∧ 2 * turnR (fval ax) (fval ay) (fval bx) (fval by') (fval cx) (fval cy) ≠ 0 ∧ cenX ax ay bx by' cx cy * (2 * turnR (fval ax) (fval ay) (fval bx) (fval by') (fval cx) (fval cy)) = midX (fval ax) (fval ay) (fval bx) (fval by') (fval cx) (fval cy) ∧ cenY ax ay bx by' cx cy * (2 * turnR (fval ax) (fval ay) (fval bx) (fval by') (fval cx) (fval cy)) = midY (fval ax) (fval ay) (fval bx) (fval by') (fval cx) (fval cy)) := ⟨ml.1, ml.2.1, ml.2.2.1, ml.2.2.2, t2, Rat.div_mul_cancel t2, Rat.div_mul_cancel t2⟩
   have HBd : Hid (Bd 5000 (-9000) (midX (fval ax) (fval ay) (fval bx) (fval by') (fval cx) (fval cy)) ∧ Bd 5000 (-9000) (midY (fval ax) (fval ay) (fval bx) (fval by') (fval cx) (fval cy)) ∧ Bd 5000 (-9000) (2 * turnR (fval ax) (fval ay) (fval bx) (fval by') (fval cx) (fval cy))) := bd_mid ⟨⟨wa.1.2, wa.2.2⟩, ⟨wb.1.2, wb.2.2⟩, wc.1.2, wc.2.2⟩
   have hzd : (z == 0) = false := by simpa using hz0
   clear wa wb wc ml t2
   go_wp2_with fail
   refine (middle_any ax ay bx by' cx cy _ (HT.out.later HB1.out) HF.out).mono ?_
   rintro e w2 ⟨aX, nX, cX, lX, gX, oX, aY, nY, cY, lY, gY, oY, aU, nU, cU, lU, gU, oU, rfl, hnX, hnY, hnU, hb2⟩
   rw [acc_x] at hnX
   rw [acc_y] at hnY
   rw [acc_w] at hnU
   replace HR := HR.later hb2
   have hrl2 := HR.lt
   have HB2 : Hid (Below w.heap.size w w2) := below_step HB1.out hb2
   clear hb2 c0 c1 c2 c3 c4 c5 HB1
   obtain ⟨W3, hW3⟩ : ∃ W3, W3 = ((w2.alloc (.cells #[.slice aX nX cX, .int .i64 lX, .bool gX, .bool oX] 49)).alloc (.cells #[.slice aY nY cY, .int .i64 lY, .bool gY, .bool oY] 49)).alloc (.cells #[.slice aU nU cU, .int .i64 lU, .bool gU, .bool oU] 49) := ⟨_, rfl⟩
   have hb3 : Below w2.heap.size w2 W3.drew := by
     rw [hW3]
     exact ((((Below.refl _ w2).alloc (Nat.le_refl _) _).alloc (by simp) _).alloc (by simp; omega) _).drew
   have z0 : W3.drew.cell? ⟨w2.heap.size, 0, none⟩ = some (.slice aX nX cX) := by rw [hW3]; go_simp
   have z1 : W3.drew.cell? ⟨w2.heap.size, 1, none⟩ = some (.int .i64 lX) := by rw [hW3]; go_simp
   have z2 : W3.drew.cell? ⟨w2.heap.size, 2, none⟩ = some (.bool gX) := by rw [hW3]; go_simp
   have z3 : W3.drew.cell? ⟨w2.heap.size, 3, none⟩ = some (.bool oX) := by rw [hW3]; go_simp
   have z4 : W3.drew.cell? ⟨w2.heap.size + 1, 0, none⟩ = some (.slice aY nY cY) := by rw [hW3]; go_simp
   have z5 : W3.drew.cell? ⟨w2.heap.size + 1, 1, none⟩ = some (.int .i64 lY) := by rw [hW3]; go_simp
   have z6 : W3.drew.cell? ⟨w2.heap.size + 1, 2, none⟩ = some (.bool gY) := by rw [hW3]; go_simp
   have z7 : W3.drew.cell? ⟨w2.heap.size + 1, 3, none⟩ = some (.bool oY) := by rw [hW3]; go_simp
   have z8 : W3.drew.cell? ⟨w2.heap.size + 1 + 1, 0, none⟩ = some (.slice aU nU cU) := by rw [hW3]; go_simp
   have z9 : W3.drew.cell? ⟨w2.heap.size + 1 + 1, 1, none⟩ = some (.int .i64 lU) := by rw [hW3]; go_simp
   have z10 : W3.drew.cell? ⟨w2.heap.size + 1 + 1, 2, none⟩ = some (.bool gU) := by rw [hW3]; go_simp
   have z11 : W3.drew.cell? ⟨w2.heap.size + 1 + 1, 3, none⟩ = some (.bool oU) := by rw [hW3]; go_simp
   replace HR := HR.later hb3
   replace hnX := hnX.later hb3
   replace hnY := hnY.later hb3
   replace hnU := hnU.later hb3
   have HB3 : Hid (Below w.heap.size w W3.drew) := below_step HB2.out hb3
   go_wp2_with fail
   rw [← hW3]
   clear hW3 hb3 HB2
   refine wp_region_held_drew (S := (fun W => W.cell? ⟨w2.heap.size, 0, none⟩ = some (.slice aX nX cX) ∧ W.cell? ⟨w2.heap.size, 1, none⟩ = some (.int .i64 lX) ∧ W.cell? ⟨w2.heap.size, 2, none⟩ = some (.bool gX) ∧ W.cell? ⟨w2.heap.size, 3, none⟩ = some (.bool oX) ∧ W.cell? ⟨w2.heap.size + 1, 0, none⟩ = some (.slice aY nY cY) ∧ W.cell? ⟨w2.heap.size + 1, 1, none⟩ = some (.int .i64 lY) ∧ W.cell? ⟨w2.heap.size + 1, 2, none⟩ = some (.bool gY) ∧ W.cell? ⟨w2.heap.size + 1, 3, none⟩ = some (.bool oY) ∧ W.cell? ⟨w2.heap.size + 1 + 1, 0, none⟩ = some (.slice aU nU cU) ∧ W.cell? ⟨w2.heap.size + 1 + 1, 1, none⟩ = some (.int .i64 lU) ∧ W.cell? ⟨w2.heap.size + 1 + 1, 2, none⟩ = some (.bool gU) ∧ W.cell? ⟨w2.heap.size + 1 + 1, 3, none⟩ = some (.bool oU) ∧ Below w.heap.size w W)) (by kernel_rfl) ⟨z0, z1, z2, z3, z4, z5, z6, z7, z8, z9, z10, z11, HB3.out⟩ (fun hS => ?_)
   refine takA (i := 0) (d := some 25) (v := .agg #[.slice aX nX cX, .int .i64 lX, .bool gX, .bool oX]) hS ?_
   simp only [AP]
   refine takA (i := 1) (d := some 26) (v := .agg #[.slice aU nU cU, .int .i64 lU, .bool gU, .bool oU]) hS ?_
   simp only [AP]
   refine takA (i := 3) (d := some 28) (v := .agg #[.slice aY nY cY, .int .i64 lY, .bool gY, .bool oY]) hS ?_
   simp only [AP]
   refine takA (i := 4) (d := some 29) (v := .agg #[.slice aU nU cU, .int .i64 lU, .bool gU, .bool oU]) hS ?_
   simp only [AP]
   refine calA 2 fun KF hK => ?_
   go_simp
   refine (gnearest_any (q := cenX ax ay bx by' cx cy) _ _ _ _ _ _ _ _ _ _ _ _ _ (HT.out.later hS.2.2.2.2.2.2.2.2.2.2.2.2) hnX hnU HL.out.1 HL.out.2.2.1 HL.out.2.2.2.1 HL.out.2.2.2.2.1 HL.out.2.2.2.2.2.1 HBd.out.1 HBd.out.2.2).mono ?_
   rintro e wx ⟨⟨px, rfl, hwpx, hvpx⟩, hbx⟩
   replace HR := HR.later hbx
   replace hnX := hnX.later hbx
   replace hnY := hnY.later hbx
   replace hnU := hnU.later hbx
   go_wp2_with fail
   refine hK.out _ _ ⟨box_cell hbx hS.1, box_cell hbx hS.2.1, box_cell hbx hS.2.2.1, box_cell hbx hS.2.2.2.1, box_cell hbx hS.2.2.2.2.1, box_cell hbx hS.2.2.2.2.2.1, box_cell hbx hS.2.2.2.2.2.2.1, box_cell hbx hS.2.2.2.2.2.2.2.1, box_cell hbx hS.2.2.2.2.2.2.2.2.1, box_cell hbx hS.2.2.2.2.2.2.2.2.2.1, box_cell hbx hS.2.2.2.2.2.2.2.2.2.2.1, box_cell hbx hS.2.2.2.2.2.2.2.2.2.2.2.1, below_step hS.2.2.2.2.2.2.2.2.2.2.2.2 hbx⟩ ?_
   clear hS hbx
   intro hS
   clear hK KF
   try simp only [AP]
   refine calA 5 fun KF hK => ?_
   go_simp
   refine (gnearest_any (q := cenY ax ay bx by' cx cy) _ _ _ _ _ _ _ _ _ _ _ _ _ (HT.out.later hS.2.2.2.2.2.2.2.2.2.2.2.2) hnY hnU HL.out.2.1 HL.out.2.2.1 HL.out.2.2.2.1 HL.out.2.2.2.2.1 HL.out.2.2.2.2.2.2 HBd.out.2.1 HBd.out.2.2).mono ?_
   rintro e wx ⟨⟨py, rfl, hwpy, hvpy⟩, hbx⟩
   replace HR := HR.later hbx
   replace hnX := hnX.later hbx
   replace hnY := hnY.later hbx
   replace hnU := hnU.later hbx
   go_wp2_with fail
   refine hK.out _ _ ⟨box_cell hbx hS.1, box_cell hbx hS.2.1, box_cell hbx hS.2.2.1, box_cell hbx hS.2.2.2.1, box_cell hbx hS.2.2.2.2.1, box_cell hbx hS.2.2.2.2.2.1, box_cell hbx hS.2.2.2.2.2.2.1, box_cell hbx hS.2.2.2.2.2.2.2.1, box_cell hbx hS.2.2.2.2.2.2.2.2.1, box_cell hbx hS.2.2.2.2.2.2.2.2.2.1, box_cell hbx hS.2.2.2.2.2.2.2.2.2.2.1, box_cell hbx hS.2.2.2.2.2.2.2.2.2.2.2.1, below_step hS.2.2.2.2.2.2.2.2.2.2.2.2 hbx⟩ ?_
   clear hS hbx
   intro hS
   clear hK KF
   try simp only [AP]
   refine calA 6 fun KF hK => ?_
   go_simp
   refine (standing_any px py _ hwpx hwpy).mono ?_
   rintro e wx ⟨⟨u, v, ok, rfl, hst⟩, hbx⟩
   replace HR := HR.later hbx
   go_wp2_with fail
   refine hK.out _ _ ⟨box_cell hbx hS.1, box_cell hbx hS.2.1, box_cell hbx hS.2.2.1, box_cell hbx hS.2.2.2.1, box_cell hbx hS.2.2.2.2.1, box_cell hbx hS.2.2.2.2.2.1, box_cell hbx hS.2.2.2.2.2.2.1, box_cell hbx hS.2.2.2.2.2.2.2.1, box_cell hbx hS.2.2.2.2.2.2.2.2.1, box_cell hbx hS.2.2.2.2.2.2.2.2.2.1, box_cell hbx hS.2.2.2.2.2.2.2.2.2.2.1, box_cell hbx hS.2.2.2.2.2.2.2.2.2.2.2.1, below_step hS.2.2.2.2.2.2.2.2.2.2.2.2 hbx⟩ ?_
   clear hS hbx
   intro hS
   clear hK KF
   try simp only [AP]
   refine takA (i := 7) (d := some 32) (v := .agg #[.float .f64 u, .float .f64 v]) hS ?_
   simp only [AP]
   refine takA (i := 8) (d := some 33) (v := .bool ok) hS ?_
   simp only [AP]
   clear z0 z1 z2 z3 z4 z5 z6 z7 z8 z9 z10 z11
   have f0 := HR.frozen 0
   have f1 := HR.frozen 1
   have k0 := HR.cell 0 (by decide)
   have k1 := HR.cell 1 (by decide)
   have hP : (fun W' => CB W' (w.heap.size + 1 + 1 + 1) #[.float .f64 u, .float .f64 v] 24) ((wx.setCell ⟨w.heap.size + 1 + 1 + 1, 0, none⟩ (.float .f64 u)).setCell ⟨w.heap.size + 1 + 1 + 1, 1, none⟩ (.float .f64 v)) := HR.set2 _ _
   have hS2 : (fun W => W.cell? ⟨w2.heap.size, 0, none⟩ = some (.slice aX nX cX) ∧ W.cell? ⟨w2.heap.size, 1, none⟩ = some (.int .i64 lX) ∧ W.cell? ⟨w2.heap.size, 2, none⟩ = some (.bool gX) ∧ W.cell? ⟨w2.heap.size, 3, none⟩ = some (.bool oX) ∧ W.cell? ⟨w2.heap.size + 1, 0, none⟩ = some (.slice aY nY cY) ∧ W.cell? ⟨w2.heap.size + 1, 1, none⟩ = some (.int .i64 lY) ∧ W.cell? ⟨w2.heap.size + 1, 2, none⟩ = some (.bool gY) ∧ W.cell? ⟨w2.heap.size + 1, 3, none⟩ = some (.bool oY) ∧ W.cell? ⟨w2.heap.size + 1 + 1, 0, none⟩ = some (.slice aU nU cU) ∧ W.cell? ⟨w2.heap.size + 1 + 1, 1, none⟩ = some (.int .i64 lU) ∧ W.cell? ⟨w2.heap.size + 1 + 1, 2, none⟩ = some (.bool gU) ∧ W.cell? ⟨w2.heap.size + 1 + 1, 3, none⟩ = some (.bool oU) ∧ Below w.heap.size w W) ((wx.setCell ⟨w.heap.size + 1 + 1 + 1, 0, none⟩ (.float .f64 u)).setCell ⟨w.heap.size + 1 + 1 + 1, 1, none⟩ (.float .f64 v)) := ⟨Sets.cell (by omega) [(0, .float .f64 u), (1, .float .f64 v)] hS.1, Sets.cell (by omega) [(0, .float .f64 u), (1, .float .f64 v)] hS.2.1, Sets.cell (by omega) [(0, .float .f64 u), (1, .float .f64 v)] hS.2.2.1, Sets.cell (by omega) [(0, .float .f64 u), (1, .float .f64 v)] hS.2.2.2.1, Sets.cell (by omega) [(0, .float .f64 u), (1, .float .f64 v)] hS.2.2.2.2.1, Sets.cell (by omega) [(0, .float .f64 u), (1, .float .f64 v)] hS.2.2.2.2.2.1, Sets.cell (by omega) [(0, .float .f64 u), (1, .float .f64 v)] hS.2.2.2.2.2.2.1, Sets.cell (by omega) [(0, .float .f64 u), (1, .float .f64 v)] hS.2.2.2.2.2.2.2.1, Sets.cell (by omega) [(0, .float .f64 u), (1, .float .f64 v)] hS.2.2.2.2.2.2.2.2.1, Sets.cell (by omega) [(0, .float .f64 u), (1, .float .f64 v)] hS.2.2.2.2.2.2.2.2.2.1, Sets.cell (by omega) [(0, .float .f64 u), (1, .float .f64 v)] hS.2.2.2.2.2.2.2.2.2.2.1, Sets.cell (by omega) [(0, .float .f64 u), (1, .float .f64 v)] hS.2.2.2.2.2.2.2.2.2.2.2.1, Sets.below (by omega) [(0, .float .f64 u), (1, .float .f64 v)] hS.2.2.2.2.2.2.2.2.2.2.2.2⟩
   refine calA 9 fun KF hK => ?_
   go_simp
   go_wp2_with fail
   refine hK.out _ _ hS2 ?_
   clear hS
   intro hS
   clear hK KF f0 f1 k0 k1
   try simp only [Act.put]
   try simp only [List.setIfInBounds_toArray, List.set_cons_zero, List.set_cons_succ]
   generalize ((wx.setCell ⟨w.heap.size + 1 + 1 + 1, 0, none⟩ (.float .f64 u)).setCell ⟨w.heap.size + 1 + 1 + 1, 1, none⟩ (.float .f64 v)) = WL at *
   refine calA 10 fun KF hK => ?_
   go_simp
   go_wp2_with fail
   refine hK.out _ _ hS ?_
   clear hS
   intro hS
   clear hK KF 
   try simp only [Act.put]
   try simp only [List.setIfInBounds_toArray, List.set_cons_zero, List.set_cons_succ]
   refine wpAnyH_done (by kernel_rfl) ?_ _
   have HBE : Hid (Below w.heap.size w WL) := hS.2.2.2.2.2.2.2.2.2.2.2.2
   clear hS hS2 HR
   go_wp2
   have y0 := hP.cell 0 (by simp)
   have y1 := hP.cell 1 (by simp)
   refine bodyPost_ret (v := .tuple #[.agg #[.float .f64 u, .float .f64 v], .bool ok]) (by simp [results, Tryz.results18, go_sem, y0, y1]) rfl ?_
   exact ⟨⟨u, v, ok, rfl, fun _ => ⟨px, py, hvpx, hvpy, hst⟩, fun h => absurd HC.out h⟩, HBE.out⟩

end Go.Proofs.YtocnkgfoffpbfaaGreatDoor
