/- Own texts, put together: Gh Gi. -/
import Derived.Test.YtocnkgfoffpbfaaGreatDoorQ4
import Derived.Test.YtocnkgfoffpbfaaGreatDoorQ24
import Derived.Test.YtocnkgfoffpbfaaGreatDoorQ26
import Derived.Test.YtocnkgfoffpbfaaGreatDoorQ27
namespace Go.Proofs.YtocnkgfoffpbfaaGreatDoor
/- Numbers of any size: places and ways. -/
section
open Go.RowKit Go.Shelf
attribute [local go_sem ↓] Go.wp_at_zero Go.wp_at_succ
attribute [local go_sem] run_store_float
set_option maxRecDepth 100000 in
set_option maxHeartbeats 4000000 in
theorem placeOf_any (px py : Nat) (w : World) (hT : Tab w) (hx : px < 18446744073709551616) (hy : py < 18446744073709551616) (fx : Fin64 px) (fy : Fin64 py) :
   Calls Tryz.prog 68 #[pv px py] w fun e w' => PlO w w' (fval px) (fval py) e := by
 have HT : Hid (Tab w) := hT
 have HW : Hid ((px < 18446744073709551616 ∧ Fin64 px) ∧ py < 18446744073709551616 ∧ Fin64 py) := ⟨⟨hx, fx⟩, hy, fy⟩
 clear hT hx hy fx fy
 go_enter Tryz.func68, Tryz.ntmps68
 go_wp2_with fail
 obtain ⟨W0, hW0⟩ : ∃ W0, W0 = (w.alloc (.cells #[.float .f64 px, .float .f64 py] 24)).alloc (.cells #[.slice none 0 0, .int .i64 0, .bool false, .bool false, .slice none 0 0, .int .i64 0, .bool false, .bool false] 52) := ⟨_, rfl⟩
 have z0 : W0.drew.cell? ⟨w.heap.size, 0, none⟩ = some (.float .f64 px) := by rw [hW0]; go_simp
 have z1 : W0.drew.cell? ⟨w.heap.size, 1, none⟩ = some (.float .f64 py) := by rw [hW0]; go_simp
 have HR : PB W0.drew (w.heap.size + 1) 0 0 := by
   have := PB.zero (w.alloc (.cells #[.float .f64 px, .float .f64 py] 24))
   rw [hW0]
   exact PB.drew (by simpa using this)
 have HB0 : Hid (Below w.heap.size w W0) := by
   rw [hW0]
   exact ((Below.refl _ w).alloc (Nat.le_refl _) _).alloc (by simp) _
 rw [← hW0]
 clear hW0
 refine wp_region_held_drew (S := (fun W => W.cell? ⟨w.heap.size, 0, none⟩ = some (.float .f64 px) ∧ W.cell? ⟨w.heap.size, 1, none⟩ = some (.float .f64 py) ∧ Below w.heap.size w W)) (by kernel_rfl) ⟨z0, z1, HB0.out.drew⟩ (fun hS => ?_)
 refine takA (i := 0) (d := some 3) (v := .pointer (some ⟨w.heap.size, 0, none⟩)) hS ?_
 simp only [AP]
 refine takA (i := 1) (d := some 4) (v := .float .f64 px) hS ?_
 simp only [AP]
 refine takA (i := 3) (d := some 6) (v := .pointer (some ⟨w.heap.size, 1, none⟩)) hS ?_
 simp only [AP]
 refine takA (i := 4) (d := some 7) (v := .float .f64 py) hS ?_
 simp only [AP]
 refine calA 2 fun KF hK => ?_
 go_simp
 refine (ofQ HW.out.1.1 HW.out.1.2 (HT.out.later hS.2.2)).mono ?_
 rintro e wx ⟨a5, n5, c5, l5, g5, o5, rfl, hn5, hbx⟩
 replace HR := HR.later hbx
 go_wp2_with fail
 refine hK.out _ _ (kp2 hbx hS) ?_
 clear hS hbx
 intro hS
 clear hK KF
 try simp only [AP]
 refine calA 5 fun KF hK => ?_
 go_simp
 refine (ofQ HW.out.2.1 HW.out.2.2 (HT.out.later hS.2.2)).mono ?_
 rintro e wx ⟨a8, n8, c8, l8, g8, o8, rfl, hn8, hbx⟩
 replace HR := HR.later hbx
 replace hn5 := hn5.later hbx
 go_wp2_with fail
 refine hK.out _ _ (kp2 hbx hS) ?_
 clear hS hbx
 intro hS
 clear hK KF
 try simp only [AP]
 refine takA (i := 6) (d := some 9) (v := .agg #[.slice a5 n5 c5, .int .i64 l5, .bool g5, .bool o5, .slice a8 n8 c8, .int .i64 l8, .bool g8, .bool o8]) hS ?_
 simp only [AP]
 clear z0 z1 HB0
 obtain ⟨_, _, _, _, _, _, _, _, _, _, _, _, ⟨k0, k1, k2, k3, k4, k5, k6, k7⟩, _, _, hfr⟩ := HR.cells
 have f0 := hfr 0
 have f1 := hfr 1
 have f2 := hfr 2
 have f3 := hfr 3
 have f4 := hfr 4
 have f5 := hfr 5
 have f6 := hfr 6
 have f7 := hfr 7
 have hP : (fun W' => PB W' (w.heap.size + 1) _ _ ∧ Kept wx W' (w.heap.size + 1) ∧ IsNum W' (.agg #[.slice a5 n5 c5, .int .i64 l5, .bool g5, .bool o5]) _ ∧ IsNum W' (.agg #[.slice a8 n8 c8, .int .i64 l8, .bool g8, .bool o8]) _ ∧ CB W' (w.heap.size + 1) #[.slice a5 n5 c5, .int .i64 l5, .bool g5, .bool o5, .slice a8 n8 c8, .int .i64 l8, .bool g8, .bool o8] 52) ((((((((wx.setCell ⟨w.heap.size + 1, 0, none⟩ (.slice a5 n5 c5)).setCell ⟨w.heap.size + 1, 1, none⟩ (.int .i64 l5)).setCell ⟨w.heap.size + 1, 2, none⟩ (.bool g5)).setCell ⟨w.heap.size + 1, 3, none⟩ (.bool o5)).setCell ⟨w.heap.size + 1, 4, none⟩ (.slice a8 n8 c8)).setCell ⟨w.heap.size + 1, 5, none⟩ (.int .i64 l8)).setCell ⟨w.heap.size + 1, 6, none⟩ (.bool g8)).setCell ⟨w.heap.size + 1, 7, none⟩ (.bool o8)) := HR.put hn5 hn8
 have hS2 : (fun W => W.cell? ⟨w.heap.size, 0, none⟩ = some (.float .f64 px) ∧ W.cell? ⟨w.heap.size, 1, none⟩ = some (.float .f64 py) ∧ Below w.heap.size w W) ((((((((wx.setCell ⟨w.heap.size + 1, 0, none⟩ (.slice a5 n5 c5)).setCell ⟨w.heap.size + 1, 1, none⟩ (.int .i64 l5)).setCell ⟨w.heap.size + 1, 2, none⟩ (.bool g5)).setCell ⟨w.heap.size + 1, 3, none⟩ (.bool o5)).setCell ⟨w.heap.size + 1, 4, none⟩ (.slice a8 n8 c8)).setCell ⟨w.heap.size + 1, 5, none⟩ (.int .i64 l8)).setCell ⟨w.heap.size + 1, 6, none⟩ (.bool g8)).setCell ⟨w.heap.size + 1, 7, none⟩ (.bool o8)) := ⟨Sets.cell (by omega) [(0, .slice a5 n5 c5), (1, .int .i64 l5), (2, .bool g5), (3, .bool o5), (4, .slice a8 n8 c8), (5, .int .i64 l8), (6, .bool g8), (7, .bool o8)] hS.1, Sets.cell (by omega) [(0, .slice a5 n5 c5), (1, .int .i64 l5), (2, .bool g5), (3, .bool o5), (4, .slice a8 n8 c8), (5, .int .i64 l8), (6, .bool g8), (7, .bool o8)] hS.2.1, Sets.below (by omega) [(0, .slice a5 n5 c5), (1, .int .i64 l5), (2, .bool g5), (3, .bool o5), (4, .slice a8 n8 c8), (5, .int .i64 l8), (6, .bool g8), (7, .bool o8)] hS.2.2⟩
 refine calA 7 fun KF hK => ?_
 go_simp
 go_wp2_with fail
 refine hK.out _ _ hS2 ?_
 clear hS
 intro hS
 clear hK KF k0 k1 k2 k3 k4 k5 k6 k7 f0 f1 f2 f3 f4 f5 f6 f7 hfr
 try simp only [AP]
 refine wpAnyH_done (by kernel_rfl) ?_ _
 generalize ((((((((wx.setCell ⟨w.heap.size + 1, 0, none⟩ (.slice a5 n5 c5)).setCell ⟨w.heap.size + 1, 1, none⟩ (.int .i64 l5)).setCell ⟨w.heap.size + 1, 2, none⟩ (.bool g5)).setCell ⟨w.heap.size + 1, 3, none⟩ (.bool o5)).setCell ⟨w.heap.size + 1, 4, none⟩ (.slice a8 n8 c8)).setCell ⟨w.heap.size + 1, 5, none⟩ (.int .i64 l8)).setCell ⟨w.heap.size + 1, 6, none⟩ (.bool g8)).setCell ⟨w.heap.size + 1, 7, none⟩ (.bool o8)) = WL at *
 clear HR hn5 hn8
 go_wp2
 have Y := hP.2.2.2.2
 have y0 := Y.cell 0 (by simp)
 have y1 := Y.cell 1 (by simp)
 have y2 := Y.cell 2 (by simp)
 have y3 := Y.cell 3 (by simp)
 have y4 := Y.cell 4 (by simp)
 have y5 := Y.cell 5 (by simp)
 have y6 := Y.cell 6 (by simp)
 have y7 := Y.cell 7 (by simp)
 refine bodyPost_ret (v := (.agg #[.slice a5 n5 c5, .int .i64 l5, .bool g5, .bool o5, .slice a8 n8 c8, .int .i64 l8, .bool g8, .bool o8])) (by simp [results, Tryz.results68, go_sem, y0, y1, y2, y3, y4, y5, y6, y7]) rfl ?_
 exact ⟨a5, n5, c5, l5, g5, o5, a8, n8, c8, l8, g8, o8, rfl, hP.2.2.1, hP.2.2.2.1, hS2.2.2⟩
set_option maxRecDepth 100000 in
set_option maxHeartbeats 4000000 in
theorem less_any {x y u v : Rat} (aP : Option Addr) (nP cP : Nat) (lP : Int) (gP oP : Bool) (aS : Option Addr) (nS cS : Nat) (lS : Int) (gS oS : Bool) (aQ : Option Addr) (nQ cQ : Nat) (lQ : Int) (gQ oQ : Bool) (aR : Option Addr) (nR cR : Nat) (lR : Int) (gR oR : Bool) (w : World) (hT : Tab w) (h1 : IsNum w (.agg #[.slice aP nP cP, .int .i64 lP, .bool gP, .bool oP]) (some x)) (h2 : IsNum w (.agg #[.slice aS nS cS, .int .i64 lS, .bool gS, .bool oS]) (some y)) (h3 : IsNum w (.agg #[.slice aQ nQ cQ, .int .i64 lQ, .bool gQ, .bool oQ]) (some u)) (h4 : IsNum w (.agg #[.slice aR nR cR, .int .i64 lR, .bool gR, .bool oR]) (some v)) (m1 : May (x - u)) (m2 : May (y - v)) :
   Calls Tryz.prog 69 #[(.agg #[.slice aP nP cP, .int .i64 lP, .bool gP, .bool oP, .slice aS nS cS, .int .i64 lS, .bool gS, .bool oS]), (.agg #[.slice aQ nQ cQ, .int .i64 lQ, .bool gQ, .bool oQ, .slice aR nR cR, .int .i64 lR, .bool gR, .bool oR])] w fun e w' => PlO w w' (x - u) (y - v) e := by
 have HT : Hid (Tab w) := hT
 have HQ : Hid (IsNum w (.agg #[.slice aQ nQ cQ, .int .i64 lQ, .bool gQ, .bool oQ]) (some u) ∧ IsNum w (.agg #[.slice aR nR cR, .int .i64 lR, .bool gR, .bool oR]) (some v)) := ⟨h3, h4⟩
 have HM : Hid (May (x - u) ∧ May (y - v)) := ⟨m1, m2⟩
 have H0 : Hid (PB (((w.alloc (.cells #[.slice aP nP cP, .int .i64 lP, .bool gP, .bool oP, .slice aS nS cS, .int .i64 lS, .bool gS, .bool oS] 52)).alloc (.cells #[.slice aQ nQ cQ, .int .i64 lQ, .bool gQ, .bool oQ, .slice aR nR cR, .int .i64 lR, .bool gR, .bool oR] 52)).alloc (.cells #[.slice none 0 0, .int .i64 0, .bool false, .bool false, .slice none 0 0, .int .i64 0, .bool false, .bool false] 52)) w.heap.size x y ∧ PB (((w.alloc (.cells #[.slice aP nP cP, .int .i64 lP, .bool gP, .bool oP, .slice aS nS cS, .int .i64 lS, .bool gS, .bool oS] 52)).alloc (.cells #[.slice aQ nQ cQ, .int .i64 lQ, .bool gQ, .bool oQ, .slice aR nR cR, .int .i64 lR, .bool gR, .bool oR] 52)).alloc (.cells #[.slice none 0 0, .int .i64 0, .bool false, .bool false, .slice none 0 0, .int .i64 0, .bool false, .bool false] 52)) (w.heap.size + 1 + 1) 0 0 ∧ Below w.heap.size w (((w.alloc (.cells #[.slice aP nP cP, .int .i64 lP, .bool gP, .bool oP, .slice aS nS cS, .int .i64 lS, .bool gS, .bool oS] 52)).alloc (.cells #[.slice aQ nQ cQ, .int .i64 lQ, .bool gQ, .bool oQ, .slice aR nR cR, .int .i64 lR, .bool gR, .bool oR] 52)).alloc (.cells #[.slice none 0 0, .int .i64 0, .bool false, .bool false, .slice none 0 0, .int .i64 0, .bool false, .bool false] 52))) := by
   have b1 : Below w.heap.size w (w.alloc (.cells #[.slice aP nP cP, .int .i64 lP, .bool gP, .bool oP, .slice aS nS cS, .int .i64 lS, .bool gS, .bool oS] 52)) := (Below.refl _ w).alloc (Nat.le_refl _) _
   refine ⟨?_, ?_, ?_⟩
   · exact PB.later (PB.later ⟨⟨aP, nP, cP, lP, gP, oP, aS, nS, cS, lS, gS, oS, CB.new w _ _, h1.later b1, h2.later b1⟩⟩ ((Below.refl _ _).alloc (Nat.le_refl _) _)) ((Below.refl _ _).alloc (Nat.le_refl _) _)
   · have := PB.zero ((w.alloc (.cells #[.slice aP nP cP, .int .i64 lP, .bool gP, .bool oP, .slice aS nS cS, .int .i64 lS, .bool gS, .bool oS] 52)).alloc (.cells #[.slice aQ nQ cQ, .int .i64 lQ, .bool gQ, .bool oQ, .slice aR nR cR, .int .i64 lR, .bool gR, .bool oR] 52))
     simpa using this
   · exact (b1.alloc (by simp) _).alloc (by simp; omega) _
 clear hT h1 h2 h3 h4 m1 m2
 have ix0 : ∀ w, (Instr.index 52 (.agg #[.slice aQ nQ cQ, .int .i64 lQ, .bool gQ, .bool oQ, .slice aR nR cR, .int .i64 lR, .bool gR, .bool oR]) (.int .i64 0)).run Tryz.prog w = .ok (.agg #[.slice aQ nQ cQ, .int .i64 lQ, .bool gQ, .bool oQ]) w := fun _ => by kernel_rfl
 have ix1 : ∀ w, (Instr.index 52 (.agg #[.slice aQ nQ cQ, .int .i64 lQ, .bool gQ, .bool oQ, .slice aR nR cR, .int .i64 lR, .bool gR, .bool oR]) (.int .i64 1)).run Tryz.prog w = .ok (.agg #[.slice aR nR cR, .int .i64 lR, .bool gR, .bool oR]) w := fun _ => by kernel_rfl
 go_enter Tryz.func69, Tryz.ntmps69
 go_wp2_with fail
 go_loopw [8] (fun i wr => ∃ X Y : Rat, ((i = .int .i64 0 ∧ X = x ∧ Y = y) ∨ (i = .int .i64 1 ∧ X = x - u ∧ Y = y) ∨ (i = .int .i64 2 ∧ X = x - u ∧ Y = y - v)) ∧ Hid (PB wr w.heap.size X Y ∧ PB wr (w.heap.size + 1 + 1) 0 0 ∧ Below w.heap.size w wr)) (fun i _ => 2 - (intOf i).toNat)
 case atStart => exact ⟨_, _, Or.inl ⟨rfl, rfl, rfl⟩, H0.out⟩
 case round =>
   obtain ⟨X, Y, hcase, hB⟩ := hrel
   clear H0
   rcases hcase with ⟨rfl, rfl, rfl⟩ | ⟨rfl, rfl, rfl⟩ | ⟨rfl, rfl, rfl⟩
   · obtain ⟨W1, hW1⟩ : ∃ W1, W1 = wr.alloc (.cells #[.slice aQ nQ cQ, .int .i64 lQ, .bool gQ, .bool oQ] 49) := ⟨_, rfl⟩
     have hb1 : Below wr.heap.size wr W1 := by rw [hW1]; exact (Below.refl _ wr).alloc (Nat.le_refl _) _
     have hB1 : Below w.heap.size w W1 := below_step hB.out.2.2 hb1
     have HP : PB W1.drew w.heap.size _ _ := (hB.out.1.later hb1).drew
     have HR : PB W1.drew (w.heap.size + 1 + 1) 0 0 := (hB.out.2.1.later hb1).drew
     have z0 : W1.drew.cell? ⟨wr.heap.size, 0, none⟩ = some (.slice aQ nQ cQ) := by rw [hW1]; go_simp
     have z1 : W1.drew.cell? ⟨wr.heap.size, 1, none⟩ = some (.int .i64 lQ) := by rw [hW1]; go_simp
     have z2 : W1.drew.cell? ⟨wr.heap.size, 2, none⟩ = some (.bool gQ) := by rw [hW1]; go_simp
     have z3 : W1.drew.cell? ⟨wr.heap.size, 3, none⟩ = some (.bool oQ) := by rw [hW1]; go_simp
     have hlt := hB.out.2.1.lt
     go_wp2_with fail
     rw [← hW1]
     clear hW1 hb1
     refine wp_region_held_drew (S := (fun W => W.cell? ⟨wr.heap.size, 0, none⟩ = some (.slice aQ nQ cQ) ∧ W.cell? ⟨wr.heap.size, 1, none⟩ = some (.int .i64 lQ) ∧ W.cell? ⟨wr.heap.size, 2, none⟩ = some (.bool gQ) ∧ W.cell? ⟨wr.heap.size, 3, none⟩ = some (.bool oQ) ∧ Below w.heap.size w W)) (by kernel_rfl) ⟨z0, z1, z2, z3, hB1.drew⟩ (fun hS => ?_)
     refine takA (i := 0) (d := some 12) (v := .int .i64 0) hS ?_
     simp only [AP]
     refine takA (i := 1) (d := some 13) (v := .int .i64 0) hS ?_
     simp only [AP]
     refine takA (i := 2) (d := some 14) (v := .pointer (some ⟨w.heap.size, 0, none⟩)) hS ?_
     simp only [AP]
     refine takA (i := 4) (d := some 16) (v := .agg #[.slice aQ nQ cQ, .int .i64 lQ, .bool gQ, .bool oQ]) hS ?_
     simp only [AP]
     obtain ⟨aX, nX, cX, lX, gX, oX, aY, nY, cY, lY, gY, oY, ⟨k0, k1, k2, k3, k4, k5, k6, k7⟩, hnX, hnY, _⟩ := HP.cells
     refine calA 3 fun KF hK => ?_
     go_simp
     go_wp2_with fail
     refine hK.out _ _ hS ?_
     clear hS
     intro hS
     clear hK KF k0 k1 k2 k3 k4 k5 k6 k7 z0 z1 z2 z3 hB1
     try simp only [AP]
     refine calA 5 fun KF hK => ?_
     go_simp
     refine (subQ hnX (HQ.out.1.later hS.2.2.2.2) (HT.out.later hS.2.2.2.2) HM.out.1).mono ?_
     rintro e wx ⟨aD, nD, cD, lD, gD, oD, rfl, hnD, hbx⟩
     replace HP := HP.later hbx
     replace HR := HR.later hbx
     go_wp2_with fail
     refine hK.out _ _ (kp4 hbx hS) ?_
     clear hS
     intro hS
     clear hK KF hbx hnX hnY
     try simp only [AP]
     refine calA 6 fun KF hK => ?_
     go_simp
     go_wp2_with fail
     refine hK.out _ _ hS ?_
     clear hS
     intro hS
     clear hK KF 
     try simp only [AP]
     obtain ⟨_, _, _, _, _, _, _, _, _, _, _, _, ⟨k0, k1, k2, k3, k4, k5, k6, k7⟩, _, _, hfr⟩ := HP.cells
     have f0 := hfr 0
     have f1 := hfr 1
     have f2 := hfr 2
     have f3 := hfr 3
     have f4 := hfr 4
     have f5 := hfr 5
     have f6 := hfr 6
     have f7 := hfr 7
     have hP : (fun W' => PB W' (w.heap.size) _ _ ∧ Kept wx W' (w.heap.size)) ((((wx.setCell ⟨w.heap.size, 0, none⟩ (.slice aD nD cD)).setCell ⟨w.heap.size, 1, none⟩ (.int .i64 lD)).setCell ⟨w.heap.size, 2, none⟩ (.bool gD)).setCell ⟨w.heap.size, 3, none⟩ (.bool oD)) := HP.put0 hnD
     have hS2 : (fun W => W.cell? ⟨wr.heap.size, 0, none⟩ = some (.slice aQ nQ cQ) ∧ W.cell? ⟨wr.heap.size, 1, none⟩ = some (.int .i64 lQ) ∧ W.cell? ⟨wr.heap.size, 2, none⟩ = some (.bool gQ) ∧ W.cell? ⟨wr.heap.size, 3, none⟩ = some (.bool oQ) ∧ Below w.heap.size w W) ((((wx.setCell ⟨w.heap.size, 0, none⟩ (.slice aD nD cD)).setCell ⟨w.heap.size, 1, none⟩ (.int .i64 lD)).setCell ⟨w.heap.size, 2, none⟩ (.bool gD)).setCell ⟨w.heap.size, 3, none⟩ (.bool oD)) := ⟨Sets.cell (by omega) [(0, .slice aD nD cD), (1, .int .i64 lD), (2, .bool gD), (3, .bool oD)] hS.1, Sets.cell (by omega) [(0, .slice aD nD cD), (1, .int .i64 lD), (2, .bool gD), (3, .bool oD)] hS.2.1, Sets.cell (by omega) [(0, .slice aD nD cD), (1, .int .i64 lD), (2, .bool gD), (3, .bool oD)] hS.2.2.1, Sets.cell (by omega) [(0, .slice aD nD cD), (1, .int .i64 lD), (2, .bool gD), (3, .bool oD)] hS.2.2.2.1, Sets.below (by omega) [(0, .slice aD nD cD), (1, .int .i64 lD), (2, .bool gD), (3, .bool oD)] hS.2.2.2.2⟩
     refine calA 7 fun KF hK => ?_
     go_simp
     go_wp2_with fail
     refine hK.out _ _ hS2 ?_
     clear hS
     intro hS
     clear hK KF k0 k1 k2 k3 k4 k5 k6 k7 f0 f1 f2 f3 f4 f5 f6 f7 hfr
     try simp only [AP]
     refine wpAnyH_done (by kernel_rfl) ?_ _
     generalize ((((wx.setCell ⟨w.heap.size, 0, none⟩ (.slice aD nD cD)).setCell ⟨w.heap.size, 1, none⟩ (.int .i64 lD)).setCell ⟨w.heap.size, 2, none⟩ (.bool gD)).setCell ⟨w.heap.size, 3, none⟩ (.bool oD)) = WL at *
     have HL : Hid (PB WL w.heap.size _ _ ∧ PB WL (w.heap.size + 1 + 1) 0 0 ∧ Below w.heap.size w WL) := ⟨hP.1, hP.2.pb HR (by omega), hS2.2.2.2.2⟩
     clear hP hS2 hS HP HR hnD
     go_wp2
     exact ⟨⟨_, _, Or.inr (Or.inl ⟨by go_num, rfl, rfl⟩), HL.out⟩, by simp [intOf]⟩
   · obtain ⟨W1, hW1⟩ : ∃ W1, W1 = wr.alloc (.cells #[.slice aR nR cR, .int .i64 lR, .bool gR, .bool oR] 49) := ⟨_, rfl⟩
     have hb1 : Below wr.heap.size wr W1 := by rw [hW1]; exact (Below.refl _ wr).alloc (Nat.le_refl _) _
     have hB1 : Below w.heap.size w W1 := below_step hB.out.2.2 hb1
     have HP : PB W1.drew w.heap.size _ _ := (hB.out.1.later hb1).drew
     have HR : PB W1.drew (w.heap.size + 1 + 1) 0 0 := (hB.out.2.1.later hb1).drew
     have z0 : W1.drew.cell? ⟨wr.heap.size, 0, none⟩ = some (.slice aR nR cR) := by rw [hW1]; go_simp
     have z1 : W1.drew.cell? ⟨wr.heap.size, 1, none⟩ = some (.int .i64 lR) := by rw [hW1]; go_simp
     have z2 : W1.drew.cell? ⟨wr.heap.size, 2, none⟩ = some (.bool gR) := by rw [hW1]; go_simp
     have z3 : W1.drew.cell? ⟨wr.heap.size, 3, none⟩ = some (.bool oR) := by rw [hW1]; go_simp
     have hlt := hB.out.2.1.lt
     go_wp2_with fail
     rw [← hW1]
     clear hW1 hb1
     refine wp_region_held_drew (S := (fun W => W.cell? ⟨wr.heap.size, 0, none⟩ = some (.slice aR nR cR) ∧ W.cell? ⟨wr.heap.size, 1, none⟩ = some (.int .i64 lR) ∧ W.cell? ⟨wr.heap.size, 2, none⟩ = some (.bool gR) ∧ W.cell? ⟨wr.heap.size, 3, none⟩ = some (.bool oR) ∧ Below w.heap.size w W)) (by kernel_rfl) ⟨z0, z1, z2, z3, hB1.drew⟩ (fun hS => ?_)
     refine takA (i := 0) (d := some 12) (v := .int .i64 1) hS ?_
     simp only [AP]
     refine takA (i := 1) (d := some 13) (v := .int .i64 1) hS ?_
     simp only [AP]
     refine takA (i := 2) (d := some 14) (v := .pointer (some ⟨w.heap.size, 4, none⟩)) hS ?_
     simp only [AP]
     refine takA (i := 4) (d := some 16) (v := .agg #[.slice aR nR cR, .int .i64 lR, .bool gR, .bool oR]) hS ?_
     simp only [AP]
     obtain ⟨aX, nX, cX, lX, gX, oX, aY, nY, cY, lY, gY, oY, ⟨k0, k1, k2, k3, k4, k5, k6, k7⟩, hnX, hnY, _⟩ := HP.cells
     refine calA 3 fun KF hK => ?_
     go_simp
     go_wp2_with fail
     refine hK.out _ _ hS ?_
     clear hS
     intro hS
     clear hK KF k0 k1 k2 k3 k4 k5 k6 k7 z0 z1 z2 z3 hB1
     try simp only [AP]
     refine calA 5 fun KF hK => ?_
     go_simp
     refine (subQ hnY (HQ.out.2.later hS.2.2.2.2) (HT.out.later hS.2.2.2.2) HM.out.2).mono ?_
     rintro e wx ⟨aD, nD, cD, lD, gD, oD, rfl, hnD, hbx⟩
     replace HP := HP.later hbx
     replace HR := HR.later hbx
     go_wp2_with fail
     refine hK.out _ _ (kp4 hbx hS) ?_
     clear hS
     intro hS
     clear hK KF hbx hnX hnY
     try simp only [AP]
     refine calA 6 fun KF hK => ?_
     go_simp
     go_wp2_with fail
     refine hK.out _ _ hS ?_
     clear hS
     intro hS
     clear hK KF 
     try simp only [AP]
     obtain ⟨_, _, _, _, _, _, _, _, _, _, _, _, ⟨k0, k1, k2, k3, k4, k5, k6, k7⟩, _, _, hfr⟩ := HP.cells
     have f0 := hfr 0
     have f1 := hfr 1
     have f2 := hfr 2
     have f3 := hfr 3
     have f4 := hfr 4
     have f5 := hfr 5
     have f6 := hfr 6
     have f7 := hfr 7
     have hP : (fun W' => PB W' (w.heap.size) _ _ ∧ Kept wx W' (w.heap.size)) ((((wx.setCell ⟨w.heap.size, 4, none⟩ (.slice aD nD cD)).setCell ⟨w.heap.size, 5, none⟩ (.int .i64 lD)).setCell ⟨w.heap.size, 6, none⟩ (.bool gD)).setCell ⟨w.heap.size, 7, none⟩ (.bool oD)) := HP.put1 hnD
     have hS2 : (fun W => W.cell? ⟨wr.heap.size, 0, none⟩ = some (.slice aR nR cR) ∧ W.cell? ⟨wr.heap.size, 1, none⟩ = some (.int .i64 lR) ∧ W.cell? ⟨wr.heap.size, 2, none⟩ = some (.bool gR) ∧ W.cell? ⟨wr.heap.size, 3, none⟩ = some (.bool oR) ∧ Below w.heap.size w W) ((((wx.setCell ⟨w.heap.size, 4, none⟩ (.slice aD nD cD)).setCell ⟨w.heap.size, 5, none⟩ (.int .i64 lD)).setCell ⟨w.heap.size, 6, none⟩ (.bool gD)).setCell ⟨w.heap.size, 7, none⟩ (.bool oD)) := ⟨Sets.cell (by omega) [(4, .slice aD nD cD), (5, .int .i64 lD), (6, .bool gD), (7, .bool oD)] hS.1, Sets.cell (by omega) [(4, .slice aD nD cD), (5, .int .i64 lD), (6, .bool gD), (7, .bool oD)] hS.2.1, Sets.cell (by omega) [(4, .slice aD nD cD), (5, .int .i64 lD), (6, .bool gD), (7, .bool oD)] hS.2.2.1, Sets.cell (by omega) [(4, .slice aD nD cD), (5, .int .i64 lD), (6, .bool gD), (7, .bool oD)] hS.2.2.2.1, Sets.below (by omega) [(4, .slice aD nD cD), (5, .int .i64 lD), (6, .bool gD), (7, .bool oD)] hS.2.2.2.2⟩
     refine calA 7 fun KF hK => ?_
     go_simp
     go_wp2_with fail
     refine hK.out _ _ hS2 ?_
     clear hS
     intro hS
     clear hK KF k0 k1 k2 k3 k4 k5 k6 k7 f0 f1 f2 f3 f4 f5 f6 f7 hfr
     try simp only [AP]
     refine wpAnyH_done (by kernel_rfl) ?_ _
     generalize ((((wx.setCell ⟨w.heap.size, 4, none⟩ (.slice aD nD cD)).setCell ⟨w.heap.size, 5, none⟩ (.int .i64 lD)).setCell ⟨w.heap.size, 6, none⟩ (.bool gD)).setCell ⟨w.heap.size, 7, none⟩ (.bool oD)) = WL at *
     have HL : Hid (PB WL w.heap.size _ _ ∧ PB WL (w.heap.size + 1 + 1) 0 0 ∧ Below w.heap.size w WL) := ⟨hP.1, hP.2.pb HR (by omega), hS2.2.2.2.2⟩
     clear hP hS2 hS HP HR hnD
     go_wp2
     exact ⟨⟨_, _, Or.inr (Or.inr ⟨by go_num, rfl, rfl⟩), HL.out⟩, by simp [intOf]⟩
   · obtain ⟨aX, nX, cX, lX, gX, oX, aY, nY, cY, lY, gY, oY, ⟨p0, p1, p2, p3, p4, p5, p6, p7⟩, hnX, hnY, _⟩ := hB.out.1.cells
     obtain ⟨_, _, _, _, _, _, _, _, _, _, _, _, ⟨k0, k1, k2, k3, k4, k5, k6, k7⟩, _, _, hfr⟩ := hB.out.2.1.cells
     have f0 := hfr 0
     have f1 := hfr 1
     have f2 := hfr 2
     have f3 := hfr 3
     have f4 := hfr 4
     have f5 := hfr 5
     have f6 := hfr 6
     have f7 := hfr 7
     have hP : (fun W' => PB W' (w.heap.size + 1 + 1) _ _ ∧ Kept wr W' (w.heap.size + 1 + 1) ∧ IsNum W' (.agg #[.slice aX nX cX, .int .i64 lX, .bool gX, .bool oX]) _ ∧ IsNum W' (.agg #[.slice aY nY cY, .int .i64 lY, .bool gY, .bool oY]) _ ∧ CB W' (w.heap.size + 1 + 1) #[.slice aX nX cX, .int .i64 lX, .bool gX, .bool oX, .slice aY nY cY, .int .i64 lY, .bool gY, .bool oY] 52) ((((((((wr.setCell ⟨w.heap.size + 1 + 1, 0, none⟩ (.slice aX nX cX)).setCell ⟨w.heap.size + 1 + 1, 1, none⟩ (.int .i64 lX)).setCell ⟨w.heap.size + 1 + 1, 2, none⟩ (.bool gX)).setCell ⟨w.heap.size + 1 + 1, 3, none⟩ (.bool oX)).setCell ⟨w.heap.size + 1 + 1, 4, none⟩ (.slice aY nY cY)).setCell ⟨w.heap.size + 1 + 1, 5, none⟩ (.int .i64 lY)).setCell ⟨w.heap.size + 1 + 1, 6, none⟩ (.bool gY)).setCell ⟨w.heap.size + 1 + 1, 7, none⟩ (.bool oY)) := hB.out.2.1.put hnX hnY
     have HL : Hid ((fun W' => Below w.heap.size w W') ((((((((wr.setCell ⟨w.heap.size + 1 + 1, 0, none⟩ (.slice aX nX cX)).setCell ⟨w.heap.size + 1 + 1, 1, none⟩ (.int .i64 lX)).setCell ⟨w.heap.size + 1 + 1, 2, none⟩ (.bool gX)).setCell ⟨w.heap.size + 1 + 1, 3, none⟩ (.bool oX)).setCell ⟨w.heap.size + 1 + 1, 4, none⟩ (.slice aY nY cY)).setCell ⟨w.heap.size + 1 + 1, 5, none⟩ (.int .i64 lY)).setCell ⟨w.heap.size + 1 + 1, 6, none⟩ (.bool gY)).setCell ⟨w.heap.size + 1 + 1, 7, none⟩ (.bool oY))) := Sets.below (by omega) [(0, .slice aX nX cX), (1, .int .i64 lX), (2, .bool gX), (3, .bool oX), (4, .slice aY nY cY), (5, .int .i64 lY), (6, .bool gY), (7, .bool oY)] hB.out.2.2
     have HPP : Hid _ := hP
     clear hP
     go_wp2
     have hP := HPP.out
     have Y := hP.2.2.2.2
     have y0 := Y.cell 0 (by simp)
     have y1 := Y.cell 1 (by simp)
     have y2 := Y.cell 2 (by simp)
     have y3 := Y.cell 3 (by simp)
     have y4 := Y.cell 4 (by simp)
     have y5 := Y.cell 5 (by simp)
     have y6 := Y.cell 6 (by simp)
     have y7 := Y.cell 7 (by simp)
     refine bodyPost_ret (v := (.agg #[.slice aX nX cX, .int .i64 lX, .bool gX, .bool oX, .slice aY nY cY, .int .i64 lY, .bool gY, .bool oY])) (by simp [results, Tryz.results69, go_sem, y0, y1, y2, y3, y4, y5, y6, y7]) rfl ?_
     exact ⟨aX, nX, cX, lX, gX, oX, aY, nY, cY, lY, gY, oY, rfl, hP.2.2.1, hP.2.2.2.1, HL.out⟩
end

/- Numbers of any size: ways, sums of products. -/
section
open Go.RowKit Go.Shelf
attribute [local go_sem ↓] Go.wp_at_zero Go.wp_at_succ
attribute [local go_sem] run_store_float
theorem may_way {a b : Nat} (ha : Fin64 a) (hb : Fin64 b) : May (fval b - fval a) := ((fval_bd hb).sub (fval_bd ha)).may (by omega) (by omega)
def Wfl (x : Nat) : Prop := x < 18446744073709551616 ∧ Fin64 x
set_option maxRecDepth 100000 in
set_option maxHeartbeats 4000000 in
theorem way_any (ax ay bx by' : Nat) (w : World) (hT : Tab w) (hw : Wfl ax ∧ Wfl ay ∧ Wfl bx ∧ Wfl by') :
   Calls Tryz.prog 29 #[pv ax ay, pv bx by'] w fun e w' => PlO w w' (fval bx - fval ax) (fval by' - fval ay) e := by
 have HT : Hid (Tab w) := hT
 have HW : Hid (Wfl ax ∧ Wfl ay ∧ Wfl bx ∧ Wfl by') := hw
 have HM : Hid (May (fval bx - fval ax) ∧ May (fval by' - fval ay)) := ⟨may_way hw.1.2 hw.2.2.1.2, may_way hw.2.1.2 hw.2.2.2.2⟩
 clear hT hw
 go_enter Tryz.func29, Tryz.ntmps29
 go_wp2_with fail
 obtain ⟨W0, hW0⟩ : ∃ W0, W0 = ((w.alloc (.cells #[.float .f64 ax, .float .f64 ay] 24)).alloc (.cells #[.float .f64 bx, .float .f64 by'] 24)).alloc (.cells #[.slice none 0 0, .int .i64 0, .bool false, .bool false, .slice none 0 0, .int .i64 0, .bool false, .bool false] 52) := ⟨_, rfl⟩
 have z0 : W0.drew.cell? ⟨w.heap.size, 0, none⟩ = some (.float .f64 ax) := by rw [hW0]; go_simp
 have z1 : W0.drew.cell? ⟨w.heap.size, 1, none⟩ = some (.float .f64 ay) := by rw [hW0]; go_simp
 have z2 : W0.drew.cell? ⟨w.heap.size + 1, 0, none⟩ = some (.float .f64 bx) := by rw [hW0]; go_simp
 have z3 : W0.drew.cell? ⟨w.heap.size + 1, 1, none⟩ = some (.float .f64 by') := by rw [hW0]; go_simp
 have HR : PB W0.drew (w.heap.size + 1 + 1) 0 0 := by
   have := PB.zero ((w.alloc (.cells #[.float .f64 ax, .float .f64 ay] 24)).alloc (.cells #[.float .f64 bx, .float .f64 by'] 24))
   rw [hW0]
   exact PB.drew (by simpa using this)
 have HB0 : Hid (Below w.heap.size w W0) := by
   rw [hW0]
   exact (((Below.refl _ w).alloc (Nat.le_refl _) _).alloc (by simp) _).alloc (by simp; omega) _
 rw [← hW0]
 clear hW0
 refine wp_region_held_drew (S := (fun W => W.cell? ⟨w.heap.size, 0, none⟩ = some (.float .f64 ax) ∧ W.cell? ⟨w.heap.size, 1, none⟩ = some (.float .f64 ay) ∧ W.cell? ⟨w.heap.size + 1, 0, none⟩ = some (.float .f64 bx) ∧ W.cell? ⟨w.heap.size + 1, 1, none⟩ = some (.float .f64 by') ∧ Below w.heap.size w W)) (by kernel_rfl) ⟨z0, z1, z2, z3, HB0.out.drew⟩ (fun hS => ?_)
 refine takA (i := 0) (d := some 5) (v := .agg #[.float .f64 bx, .float .f64 by']) hS ?_
 simp only [AP]
 refine takA (i := 2) (d := some 7) (v := .agg #[.float .f64 ax, .float .f64 ay]) hS ?_
 simp only [AP]
 refine calA 1 fun KF hK => ?_
 go_simp
 refine (placeOf_any bx by' _ (HT.out.later hS.2.2.2.2) HW.out.2.2.1.1 HW.out.2.2.2.1 HW.out.2.2.1.2 HW.out.2.2.2.2).mono ?_
 rintro e wx ⟨aE, nE, cE, lE, gE, oE, aF, nF, cF, lF, gF, oF, rfl, hnE, hnF, hbx⟩
 replace HR := HR.later hbx
 go_wp2_with fail
 refine hK.out _ _ (kp4 hbx hS) ?_
 clear hS hbx
 intro hS
 clear hK KF
 try simp only [AP]
 refine calA 3 fun KF hK => ?_
 go_simp
 refine (placeOf_any ax ay _ (HT.out.later hS.2.2.2.2) HW.out.1.1 HW.out.2.1.1 HW.out.1.2 HW.out.2.1.2).mono ?_
 rintro e wx ⟨aG, nG, cG, lG, gG, oG, aH, nH, cH, lH, gH, oH, rfl, hnG, hnH, hbx⟩
 replace HR := HR.later hbx
 replace hnE := hnE.later hbx
 replace hnF := hnF.later hbx
 go_wp2_with fail
 refine hK.out _ _ (kp4 hbx hS) ?_
 clear hS hbx
 intro hS
 clear hK KF
 try simp only [AP]
 refine calA 4 fun KF hK => ?_
 go_simp
 refine (less_any _ _ _ _ _ _ _ _ _ _ _ _ _ _ _ _ _ _ _ _ _ _ _ _ _ (HT.out.later hS.2.2.2.2) hnE hnF hnG hnH HM.out.1 HM.out.2).mono ?_
 rintro e wx ⟨aI, nI, cI, lI, gI, oI, aJ, nJ, cJ, lJ, gJ, oJ, rfl, hnI, hnJ, hbx⟩
 replace HR := HR.later hbx
 go_wp2_with fail
 refine hK.out _ _ (kp4 hbx hS) ?_
 clear hS hbx
 intro hS
 clear hK KF
 try simp only [AP]
 clear z0 z1 z2 z3 HB0
 obtain ⟨_, _, _, _, _, _, _, _, _, _, _, _, ⟨k0, k1, k2, k3, k4, k5, k6, k7⟩, _, _, hfr⟩ := HR.cells
 have f0 := hfr 0
 have f1 := hfr 1
 have f2 := hfr 2
 have f3 := hfr 3
 have f4 := hfr 4
 have f5 := hfr 5
 have f6 := hfr 6
 have f7 := hfr 7
 have hP : (fun W' => PB W' (w.heap.size + 1 + 1) _ _ ∧ Kept wx W' (w.heap.size + 1 + 1) ∧ IsNum W' (.agg #[.slice aI nI cI, .int .i64 lI, .bool gI, .bool oI]) _ ∧ IsNum W' (.agg #[.slice aJ nJ cJ, .int .i64 lJ, .bool gJ, .bool oJ]) _ ∧ CB W' (w.heap.size + 1 + 1) #[.slice aI nI cI, .int .i64 lI, .bool gI, .bool oI, .slice aJ nJ cJ, .int .i64 lJ, .bool gJ, .bool oJ] 52) ((((((((wx.setCell ⟨w.heap.size + 1 + 1, 0, none⟩ (.slice aI nI cI)).setCell ⟨w.heap.size + 1 + 1, 1, none⟩ (.int .i64 lI)).setCell ⟨w.heap.size + 1 + 1, 2, none⟩ (.bool gI)).setCell ⟨w.heap.size + 1 + 1, 3, none⟩ (.bool oI)).setCell ⟨w.heap.size + 1 + 1, 4, none⟩ (.slice aJ nJ cJ)).setCell ⟨w.heap.size + 1 + 1, 5, none⟩ (.int .i64 lJ)).setCell ⟨w.heap.size + 1 + 1, 6, none⟩ (.bool gJ)).setCell ⟨w.heap.size + 1 + 1, 7, none⟩ (.bool oJ)) := HR.put hnI hnJ
 have hS2 : (fun W => W.cell? ⟨w.heap.size, 0, none⟩ = some (.float .f64 ax) ∧ W.cell? ⟨w.heap.size, 1, none⟩ = some (.float .f64 ay) ∧ W.cell? ⟨w.heap.size + 1, 0, none⟩ = some (.float .f64 bx) ∧ W.cell? ⟨w.heap.size + 1, 1, none⟩ = some (.float .f64 by') ∧ Below w.heap.size w W) ((((((((wx.setCell ⟨w.heap.size + 1 + 1, 0, none⟩ (.slice aI nI cI)).setCell ⟨w.heap.size + 1 + 1, 1, none⟩ (.int .i64 lI)).setCell ⟨w.heap.size + 1 + 1, 2, none⟩ (.bool gI)).setCell ⟨w.heap.size + 1 + 1, 3, none⟩ (.bool oI)).setCell ⟨w.heap.size + 1 + 1, 4, none⟩ (.slice aJ nJ cJ)).setCell ⟨w.heap.size + 1 + 1, 5, none⟩ (.int .i64 lJ)).setCell ⟨w.heap.size + 1 + 1, 6, none⟩ (.bool gJ)).setCell ⟨w.heap.size + 1 + 1, 7, none⟩ (.bool oJ)) := ⟨Sets.cell (by omega) [(0, .slice aI nI cI), (1, .int .i64 lI), (2, .bool gI), (3, .bool oI), (4, .slice aJ nJ cJ), (5, .int .i64 lJ), (6, .bool gJ), (7, .bool oJ)] hS.1, Sets.cell (by omega) [(0, .slice aI nI cI), (1, .int .i64 lI), (2, .bool gI), (3, .bool oI), (4, .slice aJ nJ cJ), (5, .int .i64 lJ), (6, .bool gJ), (7, .bool oJ)] hS.2.1, Sets.cell (by omega) [(0, .slice aI nI cI), (1, .int .i64 lI), (2, .bool gI), (3, .bool oI), (4, .slice aJ nJ cJ), (5, .int .i64 lJ), (6, .bool gJ), (7, .bool oJ)] hS.2.2.1, Sets.cell (by omega) [(0, .slice aI nI cI), (1, .int .i64 lI), (2, .bool gI), (3, .bool oI), (4, .slice aJ nJ cJ), (5, .int .i64 lJ), (6, .bool gJ), (7, .bool oJ)] hS.2.2.2.1, Sets.below (by omega) [(0, .slice aI nI cI), (1, .int .i64 lI), (2, .bool gI), (3, .bool oI), (4, .slice aJ nJ cJ), (5, .int .i64 lJ), (6, .bool gJ), (7, .bool oJ)] hS.2.2.2.2⟩
 refine calA 5 fun KF hK => ?_
 go_simp
 go_wp2_with fail
 refine hK.out _ _ hS2 ?_
 clear hS
 intro hS
 clear hK KF k0 k1 k2 k3 k4 k5 k6 k7 f0 f1 f2 f3 f4 f5 f6 f7 hfr
 try simp only [Act.put]
 try simp only [List.setIfInBounds_toArray, List.set_cons_zero, List.set_cons_succ]
 refine wpAnyH_done (by kernel_rfl) ?_ _
 generalize ((((((((wx.setCell ⟨w.heap.size + 1 + 1, 0, none⟩ (.slice aI nI cI)).setCell ⟨w.heap.size + 1 + 1, 1, none⟩ (.int .i64 lI)).setCell ⟨w.heap.size + 1 + 1, 2, none⟩ (.bool gI)).setCell ⟨w.heap.size + 1 + 1, 3, none⟩ (.bool oI)).setCell ⟨w.heap.size + 1 + 1, 4, none⟩ (.slice aJ nJ cJ)).setCell ⟨w.heap.size + 1 + 1, 5, none⟩ (.int .i64 lJ)).setCell ⟨w.heap.size + 1 + 1, 6, none⟩ (.bool gJ)).setCell ⟨w.heap.size + 1 + 1, 7, none⟩ (.bool oJ)) = WL at *
 clear HR hnI hnJ hnE hnF hnG hnH
 go_wp2
 have Y := hP.2.2.2.2
 have y0 := Y.cell 0 (by simp)
 have y1 := Y.cell 1 (by simp)
 have y2 := Y.cell 2 (by simp)
 have y3 := Y.cell 3 (by simp)
 have y4 := Y.cell 4 (by simp)
 have y5 := Y.cell 5 (by simp)
 have y6 := Y.cell 6 (by simp)
 have y7 := Y.cell 7 (by simp)
 refine bodyPost_ret (v := (.agg #[.slice aI nI cI, .int .i64 lI, .bool gI, .bool oI, .slice aJ nJ cJ, .int .i64 lJ, .bool gJ, .bool oJ])) (by simp [results, Tryz.results29, go_sem, y0, y1, y2, y3, y4, y5, y6, y7]) rfl ?_
 exact ⟨aI, nI, cI, lI, gI, oI, aJ, nJ, cJ, lJ, gJ, oJ, rfl, hP.2.2.1, hP.2.2.2.1, hS2.2.2.2.2⟩
set_option maxRecDepth 100000 in
set_option maxHeartbeats 4000000 in
theorem across_any {x y : Rat} (aP : Option Addr) (nP cP : Nat) (lP : Int) (gP oP : Bool) (aS : Option Addr) (nS cS : Nat) (lS : Int) (gS oS : Bool) (w : World) (h1 : IsNum w (.agg #[.slice aP nP cP, .int .i64 lP, .bool gP, .bool oP]) (some x)) (h2 : IsNum w (.agg #[.slice aS nS cS, .int .i64 lS, .bool gS, .bool oS]) (some y)) :
   Calls Tryz.prog 43 #[(.agg #[.slice aP nP cP, .int .i64 lP, .bool gP, .bool oP, .slice aS nS cS, .int .i64 lS, .bool gS, .bool oS])] w fun e w' => PlO w w' y (-x) e := by
 have HN : Hid (IsNum w (.agg #[.slice aP nP cP, .int .i64 lP, .bool gP, .bool oP]) (some x) ∧ IsNum w (.agg #[.slice aS nS cS, .int .i64 lS, .bool gS, .bool oS]) (some y)) := ⟨h1, h2⟩
 clear h1 h2
 go_enter Tryz.func43, Tryz.ntmps43
 go_wp2_with fail
 obtain ⟨W0, hW0⟩ : ∃ W0, W0 = (w.alloc (.cells #[.slice aP nP cP, .int .i64 lP, .bool gP, .bool oP, .slice aS nS cS, .int .i64 lS, .bool gS, .bool oS] 52)).alloc (.cells #[.slice none 0 0, .int .i64 0, .bool false, .bool false, .slice none 0 0, .int .i64 0, .bool false, .bool false] 52) := ⟨_, rfl⟩
 have z0 : W0.drew.cell? ⟨w.heap.size, 0, none⟩ = some (.slice aP nP cP) := by rw [hW0]; go_simp
 have z1 : W0.drew.cell? ⟨w.heap.size, 1, none⟩ = some (.int .i64 lP) := by rw [hW0]; go_simp
 have z2 : W0.drew.cell? ⟨w.heap.size, 2, none⟩ = some (.bool gP) := by rw [hW0]; go_simp
 have z3 : W0.drew.cell? ⟨w.heap.size, 3, none⟩ = some (.bool oP) := by rw [hW0]; go_simp
 have z4 : W0.drew.cell? ⟨w.heap.size, 4, none⟩ = some (.slice aS nS cS) := by rw [hW0]; go_simp
 have z5 : W0.drew.cell? ⟨w.heap.size, 5, none⟩ = some (.int .i64 lS) := by rw [hW0]; go_simp
 have z6 : W0.drew.cell? ⟨w.heap.size, 6, none⟩ = some (.bool gS) := by rw [hW0]; go_simp
 have z7 : W0.drew.cell? ⟨w.heap.size, 7, none⟩ = some (.bool oS) := by rw [hW0]; go_simp
 have HR : PB W0.drew (w.heap.size + 1) 0 0 := by
   have := PB.zero (w.alloc (.cells #[.slice aP nP cP, .int .i64 lP, .bool gP, .bool oP, .slice aS nS cS, .int .i64 lS, .bool gS, .bool oS] 52))
   rw [hW0]
   exact PB.drew (by simpa using this)
 have HB0 : Hid (Below w.heap.size w W0) := by
   rw [hW0]
   exact ((Below.refl _ w).alloc (Nat.le_refl _) _).alloc (by simp) _
 rw [← hW0]
 clear hW0
 refine wp_region_held_drew (S := (fun W => W.cell? ⟨w.heap.size, 0, none⟩ = some (.slice aP nP cP) ∧ W.cell? ⟨w.heap.size, 1, none⟩ = some (.int .i64 lP) ∧ W.cell? ⟨w.heap.size, 2, none⟩ = some (.bool gP) ∧ W.cell? ⟨w.heap.size, 3, none⟩ = some (.bool oP) ∧ W.cell? ⟨w.heap.size, 4, none⟩ = some (.slice aS nS cS) ∧ W.cell? ⟨w.heap.size, 5, none⟩ = some (.int .i64 lS) ∧ W.cell? ⟨w.heap.size, 6, none⟩ = some (.bool gS) ∧ W.cell? ⟨w.heap.size, 7, none⟩ = some (.bool oS) ∧ Below w.heap.size w W)) (by kernel_rfl) ⟨z0, z1, z2, z3, z4, z5, z6, z7, HB0.out.drew⟩ (fun hS => ?_)
 refine takA (i := 0) (d := some 3) (v := .pointer (some ⟨w.heap.size, 4, none⟩)) hS ?_
 simp only [AP]
 refine takA (i := 1) (d := some 4) (v := .agg #[.slice aS nS cS, .int .i64 lS, .bool gS, .bool oS]) hS ?_
 simp only [AP]
 refine takA (i := 2) (d := some 5) (v := .pointer (some ⟨w.heap.size, 0, none⟩)) hS ?_
 simp only [AP]
 refine takA (i := 3) (d := some 6) (v := .agg #[.slice aP nP cP, .int .i64 lP, .bool gP, .bool oP]) hS ?_
 simp only [AP]
 refine calA 4 fun KF hK => ?_
 go_simp
 refine (negQ (HN.out.1.later hS.2.2.2.2.2.2.2.2)).mono ?_
 rintro e wx ⟨aD, nD, cD, lD, gD, oD, rfl, hnD, hbx⟩
 replace HR := HR.later hbx
 go_wp2_with fail
 refine hK.out _ _ (kp8 hbx hS) ?_
 clear hS hbx
 intro hS
 clear hK KF
 try simp only [AP]
 refine takA (i := 5) (d := some 8) (v := .agg #[.slice aS nS cS, .int .i64 lS, .bool gS, .bool oS, .slice aD nD cD, .int .i64 lD, .bool gD, .bool oD]) hS ?_
 simp only [AP]
 clear z0 z1 z2 z3 z4 z5 z6 z7 HB0
 have hnS := HN.out.2.later hS.2.2.2.2.2.2.2.2
 obtain ⟨_, _, _, _, _, _, _, _, _, _, _, _, ⟨k0, k1, k2, k3, k4, k5, k6, k7⟩, _, _, hfr⟩ := HR.cells
 have f0 := hfr 0
 have f1 := hfr 1
 have f2 := hfr 2
 have f3 := hfr 3
 have f4 := hfr 4
 have f5 := hfr 5
 have f6 := hfr 6
 have f7 := hfr 7
 have hP : (fun W' => PB W' (w.heap.size + 1) _ _ ∧ Kept wx W' (w.heap.size + 1) ∧ IsNum W' (.agg #[.slice aS nS cS, .int .i64 lS, .bool gS, .bool oS]) _ ∧ IsNum W' (.agg #[.slice aD nD cD, .int .i64 lD, .bool gD, .bool oD]) _ ∧ CB W' (w.heap.size + 1) #[.slice aS nS cS, .int .i64 lS, .bool gS, .bool oS, .slice aD nD cD, .int .i64 lD, .bool gD, .bool oD] 52) ((((((((wx.setCell ⟨w.heap.size + 1, 0, none⟩ (.slice aS nS cS)).setCell ⟨w.heap.size + 1, 1, none⟩ (.int .i64 lS)).setCell ⟨w.heap.size + 1, 2, none⟩ (.bool gS)).setCell ⟨w.heap.size + 1, 3, none⟩ (.bool oS)).setCell ⟨w.heap.size + 1, 4, none⟩ (.slice aD nD cD)).setCell ⟨w.heap.size + 1, 5, none⟩ (.int .i64 lD)).setCell ⟨w.heap.size + 1, 6, none⟩ (.bool gD)).setCell ⟨w.heap.size + 1, 7, none⟩ (.bool oD)) := HR.put hnS hnD
 have hS2 : (fun W => W.cell? ⟨w.heap.size, 0, none⟩ = some (.slice aP nP cP) ∧ W.cell? ⟨w.heap.size, 1, none⟩ = some (.int .i64 lP) ∧ W.cell? ⟨w.heap.size, 2, none⟩ = some (.bool gP) ∧ W.cell? ⟨w.heap.size, 3, none⟩ = some (.bool oP) ∧ W.cell? ⟨w.heap.size, 4, none⟩ = some (.slice aS nS cS) ∧ W.cell? ⟨w.heap.size, 5, none⟩ = some (.int .i64 lS) ∧ W.cell? ⟨w.heap.size, 6, none⟩ = some (.bool gS) ∧ W.cell? ⟨w.heap.size, 7, none⟩ = some (.bool oS) ∧ Below w.heap.size w W) ((((((((wx.setCell ⟨w.heap.size + 1, 0, none⟩ (.slice aS nS cS)).setCell ⟨w.heap.size + 1, 1, none⟩ (.int .i64 lS)).setCell ⟨w.heap.size + 1, 2, none⟩ (.bool gS)).setCell ⟨w.heap.size + 1, 3, none⟩ (.bool oS)).setCell ⟨w.heap.size + 1, 4, none⟩ (.slice aD nD cD)).setCell ⟨w.heap.size + 1, 5, none⟩ (.int .i64 lD)).setCell ⟨w.heap.size + 1, 6, none⟩ (.bool gD)).setCell ⟨w.heap.size + 1, 7, none⟩ (.bool oD)) := ⟨Sets.cell (by omega) [(0, .slice aS nS cS), (1, .int .i64 lS), (2, .bool gS), (3, .bool oS), (4, .slice aD nD cD), (5, .int .i64 lD), (6, .bool gD), (7, .bool oD)] hS.1, Sets.cell (by omega) [(0, .slice aS nS cS), (1, .int .i64 lS), (2, .bool gS), (3, .bool oS), (4, .slice aD nD cD), (5, .int .i64 lD), (6, .bool gD), (7, .bool oD)] hS.2.1, Sets.cell (by omega) [(0, .slice aS nS cS), (1, .int .i64 lS), (2, .bool gS), (3, .bool oS), (4, .slice aD nD cD), (5, .int .i64 lD), (6, .bool gD), (7, .bool oD)] hS.2.2.1, Sets.cell (by omega) [(0, .slice aS nS cS), (1, .int .i64 lS), (2, .bool gS), (3, .bool oS), (4, .slice aD nD cD), (5, .int .i64 lD), (6, .bool gD), (7, .bool oD)] hS.2.2.2.1, Sets.cell (by omega) [(0, .slice aS nS cS), (1, .int .i64 lS), (2, .bool gS), (3, .bool oS), (4, .slice aD nD cD), (5, .int .i64 lD), (6, .bool gD), (7, .bool oD)] hS.2.2.2.2.1, Sets.cell (by omega) [(0, .slice aS nS cS), (1, .int .i64 lS), (2, .bool gS), (3, .bool oS), (4, .slice aD nD cD), (5, .int .i64 lD), (6, .bool gD), (7, .bool oD)] hS.2.2.2.2.2.1, Sets.cell (by omega) [(0, .slice aS nS cS), (1, .int .i64 lS), (2, .bool gS), (3, .bool oS), (4, .slice aD nD cD), (5, .int .i64 lD), (6, .bool gD), (7, .bool oD)] hS.2.2.2.2.2.2.1, Sets.cell (by omega) [(0, .slice aS nS cS), (1, .int .i64 lS), (2, .bool gS), (3, .bool oS), (4, .slice aD nD cD), (5, .int .i64 lD), (6, .bool gD), (7, .bool oD)] hS.2.2.2.2.2.2.2.1, Sets.below (by omega) [(0, .slice aS nS cS), (1, .int .i64 lS), (2, .bool gS), (3, .bool oS), (4, .slice aD nD cD), (5, .int .i64 lD), (6, .bool gD), (7, .bool oD)] hS.2.2.2.2.2.2.2.2⟩
 refine calA 6 fun KF hK => ?_
 go_simp
 go_wp2_with fail
 refine hK.out _ _ hS2 ?_
 clear hS
 intro hS
 clear hK KF k0 k1 k2 k3 k4 k5 k6 k7 f0 f1 f2 f3 f4 f5 f6 f7 hfr
 try simp only [Act.put]
 try simp only [List.setIfInBounds_toArray, List.set_cons_zero, List.set_cons_succ]
 refine wpAnyH_done (by kernel_rfl) ?_ _
 generalize ((((((((wx.setCell ⟨w.heap.size + 1, 0, none⟩ (.slice aS nS cS)).setCell ⟨w.heap.size + 1, 1, none⟩ (.int .i64 lS)).setCell ⟨w.heap.size + 1, 2, none⟩ (.bool gS)).setCell ⟨w.heap.size + 1, 3, none⟩ (.bool oS)).setCell ⟨w.heap.size + 1, 4, none⟩ (.slice aD nD cD)).setCell ⟨w.heap.size + 1, 5, none⟩ (.int .i64 lD)).setCell ⟨w.heap.size + 1, 6, none⟩ (.bool gD)).setCell ⟨w.heap.size + 1, 7, none⟩ (.bool oD)) = WL at *
 clear HR hnD hnS
 go_wp2
 have Y := hP.2.2.2.2
 have y0 := Y.cell 0 (by simp)
 have y1 := Y.cell 1 (by simp)
 have y2 := Y.cell 2 (by simp)
 have y3 := Y.cell 3 (by simp)
 have y4 := Y.cell 4 (by simp)
 have y5 := Y.cell 5 (by simp)
 have y6 := Y.cell 6 (by simp)
 have y7 := Y.cell 7 (by simp)
 refine bodyPost_ret (v := (.agg #[.slice aS nS cS, .int .i64 lS, .bool gS, .bool oS, .slice aD nD cD, .int .i64 lD, .bool gD, .bool oD])) (by simp [results, Tryz.results43, go_sem, y0, y1, y2, y3, y4, y5, y6, y7]) rfl ?_
 exact ⟨aS, nS, cS, lS, gS, oS, aD, nD, cD, lD, gD, oD, rfl, hP.2.2.1, hP.2.2.2.1, hS2.2.2.2.2.2.2.2.2⟩
set_option maxRecDepth 100000 in
set_option maxHeartbeats 4000000 in
theorem adder_is (w : World) :
   Calls Tryz.prog 73 #[] w fun e w' => e = .returned (.func (Fn.func 107) #[] #[.pointer (some ⟨w.heap.size, 0, none⟩)]) ∧ w' = w.alloc (.cells #[.slice none 0 0, .int .i64 0, .bool false, .bool false] 49) := by
 go_enter Tryz.func73, Tryz.ntmps73
 go_wp2
 go_ret
 exact ⟨rfl, rfl⟩
theorem adder_is' (w : World) (k : Nat) (hk : w.heap.size = k) :
   Calls Tryz.prog 73 #[] w fun e w' => e = .returned (.func (Fn.func 107) #[] #[.pointer (some ⟨k, 0, none⟩)]) ∧ w' = w.alloc (.cells #[.slice none 0 0, .int .i64 0, .bool false, .bool false] 49) := by
 subst hk
 exact adder_is w
end
end Go.Proofs.YtocnkgfoffpbfaaGreatDoor
