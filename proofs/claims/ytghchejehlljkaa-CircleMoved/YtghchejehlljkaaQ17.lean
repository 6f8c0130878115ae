/- Own texts, put together: Ct. -/
import Derived.Test.YtghchejehlljkaaQ16
/- CircleMoved: the law's walk. -/
namespace Go.Proofs.Ytghchejehlljkaa
open Go.RowKit Go.Shelf
attribute [local go_sem ↓] Go.wp_at_zero Go.wp_at_succ
attribute [local go_sem] run_store_float

/-- What lies in memory between two rounds. -/
def MW (w W : World) (bP : Nat) (ns ps qs : Array Value) : Prop := CB W w.heap.size ns 34 ∧ CB W bP ps 38 ∧ CB W (bP + 1) qs 38 ∧ Below w.heap.size w W
theorem MW.later {w W W' : World} {bP : Nat} {ns ps qs : Array Value} (h : MW w W bP ns ps qs) (hb : Below W.heap.size W W') : MW w W' bP ns ps qs := ⟨h.1.later hb, h.2.1.later hb, h.2.2.1.later hb, below_step h.2.2.2 hb⟩
theorem MW.drew {w W : World} {bP : Nat} {ns ps qs : Array Value} (h : MW w W bP ns ps qs) : MW w W.drew bP ns ps qs := ⟨h.1.drew, h.2.1.drew, h.2.2.1.drew, h.2.2.2.drew⟩
theorem MW.setP {w W : World} {bP : Nat} {ns ps qs : Array Value} (h : MW w W bP ns ps qs) (hl : w.heap.size < bP) (i j : Nat) (x y : Value) : MW w ((W.setCell ⟨bP, i, none⟩ x).setCell ⟨bP, j, none⟩ y) bP ns ((ps.set! i x).set! j y) qs :=
  ⟨(h.1.other (by omega) x).other (by omega) y, (h.2.1.set i x).set j y, (h.2.2.1.other (by omega) x).other (by omega) y, (h.2.2.2.setCell (by show w.heap.size ≤ bP; omega) x).setCell (by show w.heap.size ≤ bP; omega) y⟩
theorem MW.setQ {w W : World} {bP : Nat} {ns ps qs : Array Value} (h : MW w W bP ns ps qs) (hl : w.heap.size < bP) (i j : Nat) (x y : Value) : MW w ((W.setCell ⟨bP + 1, i, none⟩ x).setCell ⟨bP + 1, j, none⟩ y) bP ns ps ((qs.set! i x).set! j y) :=
  ⟨(h.1.other (by omega) x).other (by omega) y, (h.2.1.other (by omega) x).other (by omega) y, (h.2.2.1.set i x).set j y, (h.2.2.2.setCell (by show w.heap.size ≤ bP + 1; omega) x).setCell (by show w.heap.size ≤ bP + 1; omega) y⟩
theorem CB.cells8 {W : World} {b t : Nat} {u0 u1 u2 u3 u4 u5 u6 u7 : Value} (h : CB W b #[u0, u1, u2, u3, u4, u5, u6, u7] t) : (W.cell? ⟨b, 0, none⟩ = some u0 ∧ W.cell? ⟨b, 1, none⟩ = some u1) ∧ (W.cell? ⟨b, 2, none⟩ = some u2 ∧ W.cell? ⟨b, 3, none⟩ = some u3) ∧ (W.cell? ⟨b, 4, none⟩ = some u4 ∧ W.cell? ⟨b, 5, none⟩ = some u5) ∧ W.cell? ⟨b, 6, none⟩ = some u6 ∧ W.cell? ⟨b, 7, none⟩ = some u7 :=
  ⟨⟨h.cell 0 (by simp), h.cell 1 (by simp)⟩, ⟨h.cell 2 (by simp), h.cell 3 (by simp)⟩, ⟨h.cell 4 (by simp), h.cell 5 (by simp)⟩, h.cell 6 (by simp), h.cell 7 (by simp)⟩

set_option maxRecDepth 100000 in
set_option maxHeartbeats 16000000 in
theorem cmoved_law (n0 n1 n2 n3 n4 n5 n6 n7 kx ky kp : Int) (mi : Bool) (w : World) :
    Calls Try.prog 8 #[.agg #[.int .i64 n0, .int .i64 n1, .int .i64 n2, .int .i64 n3, .int .i64 n4, .int .i64 n5, .int .i64 n6, .int .i64 n7], .int .i64 kx, .int .i64 ky, .int .i64 kp, .bool mi] w fun e w' => e = .returned (.bool true) ∧ Below w.heap.size w w' := by
  obtain ⟨ax, E0⟩ : ∃ a, floatOfInt .f64 (n0.tmod 1048576) = a := ⟨_, rfl⟩
  have F0 : Hid (Fin64 ax ∧ ax < 18446744073709551616 ∧ fval ax = ((n0.tmod 1048576 : Int) : Rat) ∧ Crd ax) := by rw [← E0]; exact fw_crd (tmod_20 n0).1 (tmod_20 n0).2
  obtain ⟨ay, E1⟩ : ∃ a, floatOfInt .f64 (n1.tmod 1048576) = a := ⟨_, rfl⟩
  have F1 : Hid (Fin64 ay ∧ ay < 18446744073709551616 ∧ fval ay = ((n1.tmod 1048576 : Int) : Rat) ∧ Crd ay) := by rw [← E1]; exact fw_crd (tmod_20 n1).1 (tmod_20 n1).2
  obtain ⟨bx, E2⟩ : ∃ a, floatOfInt .f64 (n2.tmod 1048576) = a := ⟨_, rfl⟩
  have F2 : Hid (Fin64 bx ∧ bx < 18446744073709551616 ∧ fval bx = ((n2.tmod 1048576 : Int) : Rat) ∧ Crd bx) := by rw [← E2]; exact fw_crd (tmod_20 n2).1 (tmod_20 n2).2
  obtain ⟨by', E3⟩ : ∃ a, floatOfInt .f64 (n3.tmod 1048576) = a := ⟨_, rfl⟩
  have F3 : Hid (Fin64 by' ∧ by' < 18446744073709551616 ∧ fval by' = ((n3.tmod 1048576 : Int) : Rat) ∧ Crd by') := by rw [← E3]; exact fw_crd (tmod_20 n3).1 (tmod_20 n3).2
  obtain ⟨cx, E4⟩ : ∃ a, floatOfInt .f64 (n4.tmod 1048576) = a := ⟨_, rfl⟩
  have F4 : Hid (Fin64 cx ∧ cx < 18446744073709551616 ∧ fval cx = ((n4.tmod 1048576 : Int) : Rat) ∧ Crd cx) := by rw [← E4]; exact fw_crd (tmod_20 n4).1 (tmod_20 n4).2
  obtain ⟨cy, E5⟩ : ∃ a, floatOfInt .f64 (n5.tmod 1048576) = a := ⟨_, rfl⟩
  have F5 : Hid (Fin64 cy ∧ cy < 18446744073709551616 ∧ fval cy = ((n5.tmod 1048576 : Int) : Rat) ∧ Crd cy) := by rw [← E5]; exact fw_crd (tmod_20 n5).1 (tmod_20 n5).2
  obtain ⟨dx, E6⟩ : ∃ a, floatOfInt .f64 (n6.tmod 1048576) = a := ⟨_, rfl⟩
  have F6 : Hid (Fin64 dx ∧ dx < 18446744073709551616 ∧ fval dx = ((n6.tmod 1048576 : Int) : Rat) ∧ Crd dx) := by rw [← E6]; exact fw_crd (tmod_20 n6).1 (tmod_20 n6).2
  obtain ⟨dy, E7⟩ : ∃ a, floatOfInt .f64 (n7.tmod 1048576) = a := ⟨_, rfl⟩
  have F7 : Hid (Fin64 dy ∧ dy < 18446744073709551616 ∧ fval dy = ((n7.tmod 1048576 : Int) : Rat) ∧ Crd dy) := by rw [← E7]; exact fw_crd (tmod_20 n7).1 (tmod_20 n7).2
  obtain ⟨u, hu⟩ : ∃ a, floatOfInt .f64 (kx.tmod 1048576) = a := ⟨_, rfl⟩
  have FU : Hid (Fin64 u ∧ u < 18446744073709551616 ∧ fval u = ((kx.tmod 1048576 : Int) : Rat) ∧ Crd u) := by rw [← hu]; exact fw_crd (tmod_20 kx).1 (tmod_20 kx).2
  obtain ⟨v, hv⟩ : ∃ a, floatOfInt .f64 (ky.tmod 1048576) = a := ⟨_, rfl⟩
  have FV : Hid (Fin64 v ∧ v < 18446744073709551616 ∧ fval v = ((ky.tmod 1048576 : Int) : Rat) ∧ Crd v) := by rw [← hv]; exact fw_crd (tmod_20 ky).1 (tmod_20 ky).2
  obtain ⟨kk, hkk⟩ : ∃ k, kp.tmod 21 = k := ⟨_, rfl⟩
  have HK : Hid (-21 < kk ∧ kk < 21) := by rw [← hkk]; exact tmod_21 kp
  obtain ⟨sx0, ex, mx0, nx0, wx0, vx0, cx0⟩ : ∃ s X, floatBits .mul .f64 (mir mi ax) (pwW kk) = some s ∧ floatBits .add .f64 s u = some X ∧ X < 18446744073709551616 ∧ fval X = sgm mi * fval ax * p2 kk + fval u ∧ Crd X := by
    obtain ⟨fm, m', hm, h1, h2, hs⟩ := mir_val (mi := mi) F0.out.1 F0.out.2.1 F0.out.2.2.1 (tmod_20 n0).1 (tmod_20 n0).2
    have := step_word fm hm h1 h2 FU.out.1 FU.out.2.2.1 (tmod_20 kx).1 (tmod_20 kx).2 HK.out.1 HK.out.2
    rwa [hs] at this
  obtain ⟨sy0, ey, my0, ny0, wy0, vy0, cy0⟩ := step_word F1.out.1 F1.out.2.2.1 (tmod_20 n1).1 (tmod_20 n1).2 FV.out.1 FV.out.2.2.1 (tmod_20 ky).1 (tmod_20 ky).2 HK.out.1 HK.out.2
  have HM0 : Hid (floatBits .mul .f64 (mir mi ax) (pwW kk) = some sx0 ∧ floatBits .add .f64 sx0 u = some ex ∧ floatBits .mul .f64 ay (pwW kk) = some sy0 ∧ floatBits .add .f64 sy0 v = some ey) := ⟨mx0, nx0, my0, ny0⟩
  obtain ⟨sx1, fx, mx1, nx1, wx1, vx1, cx1⟩ : ∃ s X, floatBits .mul .f64 (mir mi bx) (pwW kk) = some s ∧ floatBits .add .f64 s u = some X ∧ X < 18446744073709551616 ∧ fval X = sgm mi * fval bx * p2 kk + fval u ∧ Crd X := by
    obtain ⟨fm, m', hm, h1, h2, hs⟩ := mir_val (mi := mi) F2.out.1 F2.out.2.1 F2.out.2.2.1 (tmod_20 n2).1 (tmod_20 n2).2
    have := step_word fm hm h1 h2 FU.out.1 FU.out.2.2.1 (tmod_20 kx).1 (tmod_20 kx).2 HK.out.1 HK.out.2
    rwa [hs] at this
  obtain ⟨sy1, fy, my1, ny1, wy1, vy1, cy1⟩ := step_word F3.out.1 F3.out.2.2.1 (tmod_20 n3).1 (tmod_20 n3).2 FV.out.1 FV.out.2.2.1 (tmod_20 ky).1 (tmod_20 ky).2 HK.out.1 HK.out.2
  have HM1 : Hid (floatBits .mul .f64 (mir mi bx) (pwW kk) = some sx1 ∧ floatBits .add .f64 sx1 u = some fx ∧ floatBits .mul .f64 by' (pwW kk) = some sy1 ∧ floatBits .add .f64 sy1 v = some fy) := ⟨mx1, nx1, my1, ny1⟩
  obtain ⟨sx2, gx, mx2, nx2, wx2, vx2, cx2⟩ : ∃ s X, floatBits .mul .f64 (mir mi cx) (pwW kk) = some s ∧ floatBits .add .f64 s u = some X ∧ X < 18446744073709551616 ∧ fval X = sgm mi * fval cx * p2 kk + fval u ∧ Crd X := by
    obtain ⟨fm, m', hm, h1, h2, hs⟩ := mir_val (mi := mi) F4.out.1 F4.out.2.1 F4.out.2.2.1 (tmod_20 n4).1 (tmod_20 n4).2
    have := step_word fm hm h1 h2 FU.out.1 FU.out.2.2.1 (tmod_20 kx).1 (tmod_20 kx).2 HK.out.1 HK.out.2
    rwa [hs] at this
  obtain ⟨sy2, gy, my2, ny2, wy2, vy2, cy2⟩ := step_word F5.out.1 F5.out.2.2.1 (tmod_20 n5).1 (tmod_20 n5).2 FV.out.1 FV.out.2.2.1 (tmod_20 ky).1 (tmod_20 ky).2 HK.out.1 HK.out.2
  have HM2 : Hid (floatBits .mul .f64 (mir mi cx) (pwW kk) = some sx2 ∧ floatBits .add .f64 sx2 u = some gx ∧ floatBits .mul .f64 cy (pwW kk) = some sy2 ∧ floatBits .add .f64 sy2 v = some gy) := ⟨mx2, nx2, my2, ny2⟩
  obtain ⟨sx3, hx, mx3, nx3, wx3, vx3, cx3⟩ : ∃ s X, floatBits .mul .f64 (mir mi dx) (pwW kk) = some s ∧ floatBits .add .f64 s u = some X ∧ X < 18446744073709551616 ∧ fval X = sgm mi * fval dx * p2 kk + fval u ∧ Crd X := by
    obtain ⟨fm, m', hm, h1, h2, hs⟩ := mir_val (mi := mi) F6.out.1 F6.out.2.1 F6.out.2.2.1 (tmod_20 n6).1 (tmod_20 n6).2
    have := step_word fm hm h1 h2 FU.out.1 FU.out.2.2.1 (tmod_20 kx).1 (tmod_20 kx).2 HK.out.1 HK.out.2
    rwa [hs] at this
  obtain ⟨sy3, hy, my3, ny3, wy3, vy3, cy3⟩ := step_word F7.out.1 F7.out.2.2.1 (tmod_20 n7).1 (tmod_20 n7).2 FV.out.1 FV.out.2.2.1 (tmod_20 ky).1 (tmod_20 ky).2 HK.out.1 HK.out.2
  have HM3 : Hid (floatBits .mul .f64 (mir mi dx) (pwW kk) = some sx3 ∧ floatBits .add .f64 sx3 u = some hx ∧ floatBits .mul .f64 dy (pwW kk) = some sy3 ∧ floatBits .add .f64 sy3 v = some hy) := ⟨mx3, nx3, my3, ny3⟩
  have HPQ : Hid ((W8 ax ay bx by' cx cy dx dy ∧ P4 ax ay bx by' cx cy dx dy) ∧ W8 ex ey fx fy gx gy hx hy ∧ P4 ex ey fx fy gx gy hx hy) := ⟨⟨⟨⟨⟨F0.out.2.1, F1.out.2.1⟩, ⟨F2.out.2.1, F3.out.2.1⟩, ⟨F4.out.2.1, F5.out.2.1⟩⟩, F6.out.2.1, F7.out.2.1⟩, ⟨⟨⟨F0.out.2.2.2, F1.out.2.2.2⟩, ⟨F2.out.2.2.2, F3.out.2.2.2⟩, ⟨F4.out.2.2.2, F5.out.2.2.2⟩⟩, F6.out.2.2.2, F7.out.2.2.2⟩⟩, ⟨⟨⟨wx0, wy0⟩, ⟨wx1, wy1⟩, ⟨wx2, wy2⟩⟩, wx3, wy3⟩, ⟨⟨cx0, cy0⟩, ⟨cx1, cy1⟩, ⟨cx2, cy2⟩⟩, cx3, cy3⟩
  have HSG : Hid (sg4 ex ey fx fy gx gy hx hy = (if mi then -sg4 ax ay bx by' cx cy dx dy else sg4 ax ay bx by' cx cy dx dy) ∧ sg3 ex ey fx fy gx gy = (if mi then -sg3 ax ay bx by' cx cy else sg3 ax ay bx by' cx cy)) := ⟨sg4_moved (p2_pos kk) ⟨vx0, vy0⟩ ⟨vx1, vy1⟩ ⟨vx2, vy2⟩ ⟨vx3, vy3⟩ HPQ.out.1.2 HPQ.out.2.2, sg3_moved (p2_pos kk) ⟨vx0, vy0⟩ ⟨vx1, vy1⟩ ⟨vx2, vy2⟩ HPQ.out.1.2.1 HPQ.out.2.2.1⟩
  clear mx0 nx0 wx0 vx0 cx0 my0 ny0 wy0 vy0 cy0 mx1 nx1 wx1 vx1 cx1 my1 ny1 wy1 vy1 cy1 mx2 nx2 wx2 vx2 cx2 my2 ny2 wy2 vy2 cy2 mx3 nx3 wx3 vx3 cx3 my3 ny3 wy3 vy3 cy3 FU FV
  obtain ⟨pw, hpw⟩ : ∃ p, Hid (pwW kk = p) := ⟨_, rfl⟩
  have HLD : Hid (∀ w, Calls Try.prog 20 #[.float .f64 4607182418800017408, .int .i64 kk] w fun e w' => e = .returned (.float .f64 pw) ∧ w' = w) := fun w => by rw [← hpw.out]; exact ldexp_one kk w HK.out.1 HK.out.2
  rw [hpw.out] at HM0
  rw [hpw.out] at HM1
  rw [hpw.out] at HM2
  rw [hpw.out] at HM3
  have wp0 : IntKind.i64.wrap 0 = 0 := by decide
  have wp1 : IntKind.i64.wrap 1 = 1 := by decide
  have wp2 : IntKind.i64.wrap 2 = 2 := by decide
  have wp3 : IntKind.i64.wrap 3 = 3 := by decide
  have wp4 : IntKind.i64.wrap 4 = 4 := by decide
  have wp5 : IntKind.i64.wrap 5 = 5 := by decide
  have wp6 : IntKind.i64.wrap 6 = 6 := by decide
  have wp7 : IntKind.i64.wrap 7 = 7 := by decide
  have hN0 := CB.new w #[.int .i64 n0, .int .i64 n1, .int .i64 n2, .int .i64 n3, .int .i64 n4, .int .i64 n5, .int .i64 n6, .int .i64 n7] 34
  have hb0 : Below w.heap.size w (w.alloc (.cells #[.int .i64 n0, .int .i64 n1, .int .i64 n2, .int .i64 n3, .int .i64 n4, .int .i64 n5, .int .i64 n6, .int .i64 n7] 34)) := (Below.refl _ w).alloc (Nat.le_refl _) _
  go_enter Try.func8, Try.ntmps8
  go_wp2_with fail
  refine (works_any _).mono ?_
  rintro e w1 ⟨rfl, hb⟩
  have hN1 := hN0.later hb
  have hB1 : Below w.heap.size w w1 := below_step hb0 hb
  clear hb hN0 hb0
  have hA : Below w1.heap.size w1 ((w1.alloc (.cells #[.float .f64 0, .float .f64 0, .float .f64 0, .float .f64 0, .float .f64 0, .float .f64 0, .float .f64 0, .float .f64 0] 38)).alloc (.cells #[.float .f64 0, .float .f64 0, .float .f64 0, .float .f64 0, .float .f64 0, .float .f64 0, .float .f64 0, .float .f64 0] 38)) := ((Below.refl _ _).alloc (Nat.le_refl _) _).alloc (by simp) _
  have hP1 := (CB.new w1 #[.float .f64 0, .float .f64 0, .float .f64 0, .float .f64 0, .float .f64 0, .float .f64 0, .float .f64 0, .float .f64 0] 38).later (W' := (w1.alloc (.cells #[.float .f64 0, .float .f64 0, .float .f64 0, .float .f64 0, .float .f64 0, .float .f64 0, .float .f64 0, .float .f64 0] 38)).alloc (.cells #[.float .f64 0, .float .f64 0, .float .f64 0, .float .f64 0, .float .f64 0, .float .f64 0, .float .f64 0, .float .f64 0] 38)) ((Below.refl _ _).alloc (Nat.le_refl _) _)
  have hQ1 := CB.new (w1.alloc (.cells #[.float .f64 0, .float .f64 0, .float .f64 0, .float .f64 0, .float .f64 0, .float .f64 0, .float .f64 0, .float .f64 0] 38)) #[.float .f64 0, .float .f64 0, .float .f64 0, .float .f64 0, .float .f64 0, .float .f64 0, .float .f64 0, .float .f64 0] 38
  have hlt : w.heap.size < w1.heap.size := hN1.lt
  have hsz : (w1.alloc (.cells #[.float .f64 0, .float .f64 0, .float .f64 0, .float .f64 0, .float .f64 0, .float .f64 0, .float .f64 0, .float .f64 0] 38)).heap.size = w1.heap.size + 1 := by simp
  rw [hsz] at hQ1
  have HM0' : MW w ((w1.alloc (.cells #[.float .f64 0, .float .f64 0, .float .f64 0, .float .f64 0, .float .f64 0, .float .f64 0, .float .f64 0, .float .f64 0] 38)).alloc (.cells #[.float .f64 0, .float .f64 0, .float .f64 0, .float .f64 0, .float .f64 0, .float .f64 0, .float .f64 0, .float .f64 0] 38)) w1.heap.size #[.int .i64 n0, .int .i64 n1, .int .i64 n2, .int .i64 n3, .int .i64 n4, .int .i64 n5, .int .i64 n6, .int .i64 n7] #[.float .f64 0, .float .f64 0, .float .f64 0, .float .f64 0, .float .f64 0, .float .f64 0, .float .f64 0, .float .f64 0] #[.float .f64 0, .float .f64 0, .float .f64 0, .float .f64 0, .float .f64 0, .float .f64 0, .float .f64 0, .float .f64 0] := ⟨hN1.later hA, hP1, hQ1, below_step hB1 hA⟩
  clear hA hP1 hQ1 hN1 hB1 hsz
  obtain ⟨bP, hbP⟩ : ∃ b, w1.heap.size = b := ⟨_, rfl⟩
  rw [hbP] at HM0' hlt
  go_wp2_with fail
  try rw [hbP]
  clear hbP
  generalize (w1.alloc (.cells #[.float .f64 0, .float .f64 0, .float .f64 0, .float .f64 0, .float .f64 0, .float .f64 0, .float .f64 0, .float .f64 0] 38)).alloc (.cells #[.float .f64 0, .float .f64 0, .float .f64 0, .float .f64 0, .float .f64 0, .float .f64 0, .float .f64 0, .float .f64 0] 38) = W0 at *
  refine (HLD.out _).mono ?_
  rintro e wx ⟨rfl, hbx⟩
  subst hbx
  have HMW : Hid (MW w wx bP #[.int .i64 n0, .int .i64 n1, .int .i64 n2, .int .i64 n3, .int .i64 n4, .int .i64 n5, .int .i64 n6, .int .i64 n7] #[.float .f64 0, .float .f64 0, .float .f64 0, .float .f64 0, .float .f64 0, .float .f64 0, .float .f64 0, .float .f64 0] #[.float .f64 0, .float .f64 0, .float .f64 0, .float .f64 0, .float .f64 0, .float .f64 0, .float .f64 0, .float .f64 0]) := HM0'
  clear HM0'
  go_wp2_with fail
  go_loopw [14] (fun i wr => (i = .int .i64 0 ∧ Hid (MW w wr bP #[.int .i64 n0, .int .i64 n1, .int .i64 n2, .int .i64 n3, .int .i64 n4, .int .i64 n5, .int .i64 n6, .int .i64 n7] #[.float .f64 0, .float .f64 0, .float .f64 0, .float .f64 0, .float .f64 0, .float .f64 0, .float .f64 0, .float .f64 0] #[.float .f64 0, .float .f64 0, .float .f64 0, .float .f64 0, .float .f64 0, .float .f64 0, .float .f64 0, .float .f64 0])) ∨ (i = .int .i64 1 ∧ Hid (MW w wr bP #[.int .i64 n0, .int .i64 n1, .int .i64 n2, .int .i64 n3, .int .i64 n4, .int .i64 n5, .int .i64 n6, .int .i64 n7] #[.float .f64 ax, .float .f64 ay, .float .f64 0, .float .f64 0, .float .f64 0, .float .f64 0, .float .f64 0, .float .f64 0] #[.float .f64 ex, .float .f64 ey, .float .f64 0, .float .f64 0, .float .f64 0, .float .f64 0, .float .f64 0, .float .f64 0])) ∨ (i = .int .i64 2 ∧ Hid (MW w wr bP #[.int .i64 n0, .int .i64 n1, .int .i64 n2, .int .i64 n3, .int .i64 n4, .int .i64 n5, .int .i64 n6, .int .i64 n7] #[.float .f64 ax, .float .f64 ay, .float .f64 bx, .float .f64 by', .float .f64 0, .float .f64 0, .float .f64 0, .float .f64 0] #[.float .f64 ex, .float .f64 ey, .float .f64 fx, .float .f64 fy, .float .f64 0, .float .f64 0, .float .f64 0, .float .f64 0])) ∨ (i = .int .i64 3 ∧ Hid (MW w wr bP #[.int .i64 n0, .int .i64 n1, .int .i64 n2, .int .i64 n3, .int .i64 n4, .int .i64 n5, .int .i64 n6, .int .i64 n7] #[.float .f64 ax, .float .f64 ay, .float .f64 bx, .float .f64 by', .float .f64 cx, .float .f64 cy, .float .f64 0, .float .f64 0] #[.float .f64 ex, .float .f64 ey, .float .f64 fx, .float .f64 fy, .float .f64 gx, .float .f64 gy, .float .f64 0, .float .f64 0])) ∨ (i = .int .i64 4 ∧ Hid (MW w wr bP #[.int .i64 n0, .int .i64 n1, .int .i64 n2, .int .i64 n3, .int .i64 n4, .int .i64 n5, .int .i64 n6, .int .i64 n7] #[.float .f64 ax, .float .f64 ay, .float .f64 bx, .float .f64 by', .float .f64 cx, .float .f64 cy, .float .f64 dx, .float .f64 dy] #[.float .f64 ex, .float .f64 ey, .float .f64 fx, .float .f64 fy, .float .f64 gx, .float .f64 gy, .float .f64 hx, .float .f64 hy]))) (fun i _ => 4 - (intOf i).toNat)
  case atStart => exact Or.inl ⟨rfl, HMW.out⟩
  case round =>
    rcases hrel with ⟨rfl, hB⟩ | ⟨rfl, hB⟩ | ⟨rfl, hB⟩ | ⟨rfl, hB⟩ | ⟨rfl, hB⟩
    · have m0 := hB.out.1.cells8.1.1
      have m1 := hB.out.1.cells8.1.2
      go_wp2_with fail
      refine wp_region_held_drew (S := (fun W => World.cell? W ⟨w.heap.size, 0, none⟩ = some (.int .i64 n0) ∧ World.cell? W ⟨w.heap.size, 1, none⟩ = some (.int .i64 n1) ∧ Below w.heap.size w W)) (by kernel_rfl) ⟨m0, m1, hB.out.2.2.2.drew⟩ (fun hS => ?_)
      refine take_at (i := 0) (d := some 25) (v := .int .i64 0) (by kernel_rfl) (by kernel_rfl) (by kernel_rfl) (by kernel_rfl) (fun _ _ _ h => h) ?_ hS ?_
      · intro o ho
        simp only [List.getElem?_toArray, List.getElem?_cons_zero, Option.some.injEq] at ho
        subst ho
        refine Or.inl ⟨by rfl, ?_⟩
        intro w hSw
        (try dsimp only at hSw)
        go_simp
      simp only [Act.put, List.setIfInBounds_toArray, List.set_cons_zero, List.set_cons_succ]
      refine take_at (i := 1) (d := some 26) (v := .int .i64 0) (by kernel_rfl) (by kernel_rfl) (by kernel_rfl) (by kernel_rfl) (fun _ _ _ h => h) ?_ hS ?_
      · intro o ho
        simp only [List.getElem?_toArray, List.getElem?_cons_succ, List.getElem?_cons_zero, Option.some.injEq] at ho
        subst ho
        refine Or.inl ⟨by rfl, ?_⟩
        intro w hSw
        (try dsimp only at hSw)
        go_simp
      simp only [Act.put, List.setIfInBounds_toArray, List.set_cons_zero, List.set_cons_succ]
      refine take_at (i := 2) (d := some 27) (v := .int .i64 0) (by kernel_rfl) (by kernel_rfl) (by kernel_rfl) (by kernel_rfl) (fun _ _ _ h => h) ?_ hS ?_
      · intro o ho
        simp only [List.getElem?_toArray, List.getElem?_cons_succ, List.getElem?_cons_zero, Option.some.injEq] at ho
        subst ho
        refine Or.inl ⟨by rfl, ?_⟩
        intro w hSw
        (try dsimp only at hSw)
        go_simp
      simp only [Act.put, List.setIfInBounds_toArray, List.set_cons_zero, List.set_cons_succ]
      refine take_at (i := 3) (d := some 28) (v := .pointer (some ⟨w.heap.size, 0, none⟩)) (by kernel_rfl) (by kernel_rfl) (by kernel_rfl) (by kernel_rfl) (fun _ _ _ h => h) ?_ hS ?_
      · intro o ho
        simp only [List.getElem?_toArray, List.getElem?_cons_succ, List.getElem?_cons_zero, Option.some.injEq] at ho
        subst ho
        refine Or.inl ⟨by rfl, ?_⟩
        intro w hSw
        (try dsimp only at hSw)
        go_simp
      simp only [Act.put, List.setIfInBounds_toArray, List.set_cons_zero, List.set_cons_succ]
      refine take_at (i := 4) (d := some 29) (v := .int .i64 n0) (by kernel_rfl) (by kernel_rfl) (by kernel_rfl) (by kernel_rfl) (fun _ _ _ h => h) ?_ hS ?_
      · intro o ho
        simp only [List.getElem?_toArray, List.getElem?_cons_succ, List.getElem?_cons_zero, Option.some.injEq] at ho
        subst ho
        refine Or.inl ⟨by rfl, ?_⟩
        intro w hSw
        (try dsimp only at hSw)
        go_simp
      simp only [Act.put, List.setIfInBounds_toArray, List.set_cons_zero, List.set_cons_succ]
      refine take_at (i := 5) (d := some 30) (v := .int .i64 (n0.tmod 1048576)) (by kernel_rfl) (by kernel_rfl) (by kernel_rfl) (by kernel_rfl) (fun _ _ _ h => h) ?_ hS ?_
      · intro o ho
        simp only [List.getElem?_toArray, List.getElem?_cons_succ, List.getElem?_cons_zero, Option.some.injEq] at ho
        subst ho
        refine Or.inl ⟨by rfl, ?_⟩
        intro w hSw
        (try dsimp only at hSw)
        go_simp
      simp only [Act.put, List.setIfInBounds_toArray, List.set_cons_zero, List.set_cons_succ]
      refine take_at (i := 6) (d := some 31) (v := .float .f64 ax) (by kernel_rfl) (by kernel_rfl) (by kernel_rfl) (by kernel_rfl) (fun _ _ _ h => h) ?_ hS ?_
      · intro o ho
        simp only [List.getElem?_toArray, List.getElem?_cons_succ, List.getElem?_cons_zero, Option.some.injEq] at ho
        subst ho
        refine Or.inl ⟨by rfl, ?_⟩
        intro w hSw
        (try dsimp only at hSw)
        go_simp
      simp only [Act.put, List.setIfInBounds_toArray, List.set_cons_zero, List.set_cons_succ]
      refine take_at (i := 7) (d := some 32) (v := .int .i64 0) (by kernel_rfl) (by kernel_rfl) (by kernel_rfl) (by kernel_rfl) (fun _ _ _ h => h) ?_ hS ?_
      · intro o ho
        simp only [List.getElem?_toArray, List.getElem?_cons_succ, List.getElem?_cons_zero, Option.some.injEq] at ho
        subst ho
        refine Or.inl ⟨by rfl, ?_⟩
        intro w hSw
        (try dsimp only at hSw)
        go_simp
      simp only [Act.put, List.setIfInBounds_toArray, List.set_cons_zero, List.set_cons_succ]
      refine take_at (i := 8) (d := some 33) (v := .int .i64 0) (by kernel_rfl) (by kernel_rfl) (by kernel_rfl) (by kernel_rfl) (fun _ _ _ h => h) ?_ hS ?_
      · intro o ho
        simp only [List.getElem?_toArray, List.getElem?_cons_succ, List.getElem?_cons_zero, Option.some.injEq] at ho
        subst ho
        refine Or.inl ⟨by rfl, ?_⟩
        intro w hSw
        (try dsimp only at hSw)
        go_simp
      simp only [Act.put, List.setIfInBounds_toArray, List.set_cons_zero, List.set_cons_succ]
      refine take_at (i := 9) (d := some 34) (v := .int .i64 1) (by kernel_rfl) (by kernel_rfl) (by kernel_rfl) (by kernel_rfl) (fun _ _ _ h => h) ?_ hS ?_
      · intro o ho
        simp only [List.getElem?_toArray, List.getElem?_cons_succ, List.getElem?_cons_zero, Option.some.injEq] at ho
        subst ho
        refine Or.inl ⟨by rfl, ?_⟩
        intro w hSw
        (try dsimp only at hSw)
        go_simp
      simp only [Act.put, List.setIfInBounds_toArray, List.set_cons_zero, List.set_cons_succ]
      refine take_at (i := 10) (d := some 35) (v := .pointer (some ⟨w.heap.size, 1, none⟩)) (by kernel_rfl) (by kernel_rfl) (by kernel_rfl) (by kernel_rfl) (fun _ _ _ h => h) ?_ hS ?_
      · intro o ho
        simp only [List.getElem?_toArray, List.getElem?_cons_succ, List.getElem?_cons_zero, Option.some.injEq] at ho
        subst ho
        refine Or.inl ⟨by rfl, ?_⟩
        intro w hSw
        (try dsimp only at hSw)
        go_simp
      simp only [Act.put, List.setIfInBounds_toArray, List.set_cons_zero, List.set_cons_succ]
      refine take_at (i := 11) (d := some 36) (v := .int .i64 n1) (by kernel_rfl) (by kernel_rfl) (by kernel_rfl) (by kernel_rfl) (fun _ _ _ h => h) ?_ hS ?_
      · intro o ho
        simp only [List.getElem?_toArray, List.getElem?_cons_succ, List.getElem?_cons_zero, Option.some.injEq] at ho
        subst ho
        refine Or.inl ⟨by rfl, ?_⟩
        intro w hSw
        (try dsimp only at hSw)
        go_simp
      simp only [Act.put, List.setIfInBounds_toArray, List.set_cons_zero, List.set_cons_succ]
      refine take_at (i := 12) (d := some 37) (v := .int .i64 (n1.tmod 1048576)) (by kernel_rfl) (by kernel_rfl) (by kernel_rfl) (by kernel_rfl) (fun _ _ _ h => h) ?_ hS ?_
      · intro o ho
        simp only [List.getElem?_toArray, List.getElem?_cons_succ, List.getElem?_cons_zero, Option.some.injEq] at ho
        subst ho
        refine Or.inl ⟨by rfl, ?_⟩
        intro w hSw
        (try dsimp only at hSw)
        go_simp
      simp only [Act.put, List.setIfInBounds_toArray, List.set_cons_zero, List.set_cons_succ]
      refine take_at (i := 13) (d := some 38) (v := .float .f64 ay) (by kernel_rfl) (by kernel_rfl) (by kernel_rfl) (by kernel_rfl) (fun _ _ _ h => h) ?_ hS ?_
      · intro o ho
        simp only [List.getElem?_toArray, List.getElem?_cons_succ, List.getElem?_cons_zero, Option.some.injEq] at ho
        subst ho
        refine Or.inl ⟨by rfl, ?_⟩
        intro w hSw
        (try dsimp only at hSw)
        go_simp
      simp only [Act.put, List.setIfInBounds_toArray, List.set_cons_zero, List.set_cons_succ]
      refine take_at (i := 14) (d := some 39) (v := .agg #[.float .f64 ax, .float .f64 ay]) (by kernel_rfl) (by kernel_rfl) (by kernel_rfl) (by kernel_rfl) (fun _ _ _ h => h) ?_ hS ?_
      · intro o ho
        simp only [List.getElem?_toArray, List.getElem?_cons_succ, List.getElem?_cons_zero, Option.some.injEq] at ho
        subst ho
        refine Or.inl ⟨by rfl, ?_⟩
        intro w hSw
        (try dsimp only at hSw)
        go_simp
      simp only [Act.put, List.setIfInBounds_toArray, List.set_cons_zero, List.set_cons_succ]
      refine take_at (i := 15) (d := some 40) (v := .pointer (some ⟨bP, 0, none⟩)) (by kernel_rfl) (by kernel_rfl) (by kernel_rfl) (by kernel_rfl) (fun _ _ _ h => h) ?_ hS ?_
      · intro o ho
        simp only [List.getElem?_toArray, List.getElem?_cons_succ, List.getElem?_cons_zero, Option.some.injEq] at ho
        subst ho
        refine Or.inl ⟨by rfl, ?_⟩
        intro w hSw
        (try dsimp only at hSw)
        go_simp
      simp only [Act.put, List.setIfInBounds_toArray, List.set_cons_zero, List.set_cons_succ]
      clear m0 m1
      have hBD := hB.out.drew
      generalize wr.drew = WD at *
      have hMW := hBD.setP hlt 0 1 (.float .f64 ax) (.float .f64 ay)
      have hP0 := hBD.2.1
      have f0 := hP0.frozen 0
      have f1 := hP0.frozen 1
      have g0 : WD.cell? ⟨bP, 0, none⟩ = some (.float .f64 0) := hP0.cells8.1.1
      have g1 : WD.cell? ⟨bP, 1, none⟩ = some (.float .f64 0) := hP0.cells8.1.2
      have hS2 : (fun W => World.cell? W ⟨w.heap.size, 0, none⟩ = some (.int .i64 n0) ∧ World.cell? W ⟨w.heap.size, 1, none⟩ = some (.int .i64 n1) ∧ Below w.heap.size w W) ((WD.setCell ⟨bP, 0, none⟩ (.float .f64 ax)).setCell ⟨bP, 1, none⟩ (.float .f64 ay)) := ⟨hMW.1.cells8.1.1, hMW.1.cells8.1.2, hMW.2.2.2⟩
      refine call_at 16 (by kernel_rfl) (by kernel_rfl) ?_
      intro o ho
      simp only [List.getElem?_toArray, List.getElem?_cons_succ, List.getElem?_cons_zero, Option.some.injEq] at ho
      subst ho
      intro KF hK
      go_simp
      go_wp2_with fail
      refine hK.out _ _ hS2 ?_
      intro _
      clear hK KF f0 f1 g0 g1 hS hS2 hP0 hBD
      try simp only [List.setIfInBounds_toArray, List.set_cons_zero, List.set_cons_succ]
      refine wpAnyH_done (by kernel_rfl) ?_ _
      have hMW2 : MW w ((WD.setCell ⟨bP, 0, none⟩ (.float .f64 ax)).setCell ⟨bP, 1, none⟩ (.float .f64 ay)) bP #[.int .i64 n0, .int .i64 n1, .int .i64 n2, .int .i64 n3, .int .i64 n4, .int .i64 n5, .int .i64 n6, .int .i64 n7] #[.float .f64 ax, .float .f64 ay, .float .f64 0, .float .f64 0, .float .f64 0, .float .f64 0, .float .f64 0, .float .f64 0] #[.float .f64 0, .float .f64 0, .float .f64 0, .float .f64 0, .float .f64 0, .float .f64 0, .float .f64 0, .float .f64 0] := by simpa using hMW
      clear hMW
      generalize ((WD.setCell ⟨bP, 0, none⟩ (.float .f64 ax)).setCell ⟨bP, 1, none⟩ (.float .f64 ay)) = WP at *
      have p0 : WP.cell? ⟨bP, 0, none⟩ = some (.float .f64 ax) := hMW2.2.1.cells8.1.1
      have p1 : WP.cell? ⟨bP, 1, none⟩ = some (.float .f64 ay) := hMW2.2.1.cells8.1.2
      go_wp2_with fail
      refine (moved5_any ax ay pw u v sx0 ex sy0 ey mi _ F0.out.2.1 HM0.out.1 HM0.out.2.1 HM0.out.2.2.1 HM0.out.2.2.2).mono ?_
      rintro e wx ⟨rfl, hb⟩
      have hMW3 := hMW2.later hb
      clear hb p0 p1 hMW2
      have f0 := hMW3.2.2.1.frozen 0
      have f1 := hMW3.2.2.1.frozen 1
      have g0 : wx.cell? ⟨bP + 1, 0, none⟩ = some (.float .f64 0) := hMW3.2.2.1.cells8.1.1
      have g1 : wx.cell? ⟨bP + 1, 1, none⟩ = some (.float .f64 0) := hMW3.2.2.1.cells8.1.2
      have hMW4 := hMW3.setQ hlt 0 1 (.float .f64 ex) (.float .f64 ey)
      have HE : Hid (MW w ((wx.setCell ⟨bP + 1, 0, none⟩ (.float .f64 ex)).setCell ⟨bP + 1, 1, none⟩ (.float .f64 ey)) bP #[.int .i64 n0, .int .i64 n1, .int .i64 n2, .int .i64 n3, .int .i64 n4, .int .i64 n5, .int .i64 n6, .int .i64 n7] #[.float .f64 ax, .float .f64 ay, .float .f64 0, .float .f64 0, .float .f64 0, .float .f64 0, .float .f64 0, .float .f64 0] #[.float .f64 ex, .float .f64 ey, .float .f64 0, .float .f64 0, .float .f64 0, .float .f64 0, .float .f64 0, .float .f64 0]) := by
        show MW _ _ _ _ _ _
        simpa using hMW4
      clear hMW3 hMW4
      go_wp2
      exact ⟨Or.inr (Or.inl ⟨by go_num, HE⟩), by simp [intOf]⟩
    · have m0 := hB.out.1.cells8.2.1.1
      have m1 := hB.out.1.cells8.2.1.2
      go_wp2_with fail
      refine wp_region_held_drew (S := (fun W => World.cell? W ⟨w.heap.size, 2, none⟩ = some (.int .i64 n2) ∧ World.cell? W ⟨w.heap.size, 3, none⟩ = some (.int .i64 n3) ∧ Below w.heap.size w W)) (by kernel_rfl) ⟨m0, m1, hB.out.2.2.2.drew⟩ (fun hS => ?_)
      refine take_at (i := 0) (d := some 25) (v := .int .i64 1) (by kernel_rfl) (by kernel_rfl) (by kernel_rfl) (by kernel_rfl) (fun _ _ _ h => h) ?_ hS ?_
      · intro o ho
        simp only [List.getElem?_toArray, List.getElem?_cons_zero, Option.some.injEq] at ho
        subst ho
        refine Or.inl ⟨by rfl, ?_⟩
        intro w hSw
        (try dsimp only at hSw)
        go_simp
      simp only [Act.put, List.setIfInBounds_toArray, List.set_cons_zero, List.set_cons_succ]
      refine take_at (i := 1) (d := some 26) (v := .int .i64 1) (by kernel_rfl) (by kernel_rfl) (by kernel_rfl) (by kernel_rfl) (fun _ _ _ h => h) ?_ hS ?_
      · intro o ho
        simp only [List.getElem?_toArray, List.getElem?_cons_succ, List.getElem?_cons_zero, Option.some.injEq] at ho
        subst ho
        refine Or.inl ⟨by rfl, ?_⟩
        intro w hSw
        (try dsimp only at hSw)
        go_simp
      simp only [Act.put, List.setIfInBounds_toArray, List.set_cons_zero, List.set_cons_succ]
      refine take_at (i := 2) (d := some 27) (v := .int .i64 2) (by kernel_rfl) (by kernel_rfl) (by kernel_rfl) (by kernel_rfl) (fun _ _ _ h => h) ?_ hS ?_
      · intro o ho
        simp only [List.getElem?_toArray, List.getElem?_cons_succ, List.getElem?_cons_zero, Option.some.injEq] at ho
        subst ho
        refine Or.inl ⟨by rfl, ?_⟩
        intro w hSw
        (try dsimp only at hSw)
        go_simp
      simp only [Act.put, List.setIfInBounds_toArray, List.set_cons_zero, List.set_cons_succ]
      refine take_at (i := 3) (d := some 28) (v := .pointer (some ⟨w.heap.size, 2, none⟩)) (by kernel_rfl) (by kernel_rfl) (by kernel_rfl) (by kernel_rfl) (fun _ _ _ h => h) ?_ hS ?_
      · intro o ho
        simp only [List.getElem?_toArray, List.getElem?_cons_succ, List.getElem?_cons_zero, Option.some.injEq] at ho
        subst ho
        refine Or.inl ⟨by rfl, ?_⟩
        intro w hSw
        (try dsimp only at hSw)
        go_simp
      simp only [Act.put, List.setIfInBounds_toArray, List.set_cons_zero, List.set_cons_succ]
      refine take_at (i := 4) (d := some 29) (v := .int .i64 n2) (by kernel_rfl) (by kernel_rfl) (by kernel_rfl) (by kernel_rfl) (fun _ _ _ h => h) ?_ hS ?_
      · intro o ho
        simp only [List.getElem?_toArray, List.getElem?_cons_succ, List.getElem?_cons_zero, Option.some.injEq] at ho
        subst ho
        refine Or.inl ⟨by rfl, ?_⟩
        intro w hSw
        (try dsimp only at hSw)
        go_simp
      simp only [Act.put, List.setIfInBounds_toArray, List.set_cons_zero, List.set_cons_succ]
      refine take_at (i := 5) (d := some 30) (v := .int .i64 (n2.tmod 1048576)) (by kernel_rfl) (by kernel_rfl) (by kernel_rfl) (by kernel_rfl) (fun _ _ _ h => h) ?_ hS ?_
      · intro o ho
        simp only [List.getElem?_toArray, List.getElem?_cons_succ, List.getElem?_cons_zero, Option.some.injEq] at ho
        subst ho
        refine Or.inl ⟨by rfl, ?_⟩
        intro w hSw
        (try dsimp only at hSw)
        go_simp
      simp only [Act.put, List.setIfInBounds_toArray, List.set_cons_zero, List.set_cons_succ]
      refine take_at (i := 6) (d := some 31) (v := .float .f64 bx) (by kernel_rfl) (by kernel_rfl) (by kernel_rfl) (by kernel_rfl) (fun _ _ _ h => h) ?_ hS ?_
      · intro o ho
        simp only [List.getElem?_toArray, List.getElem?_cons_succ, List.getElem?_cons_zero, Option.some.injEq] at ho
        subst ho
        refine Or.inl ⟨by rfl, ?_⟩
        intro w hSw
        (try dsimp only at hSw)
        go_simp
      simp only [Act.put, List.setIfInBounds_toArray, List.set_cons_zero, List.set_cons_succ]
      refine take_at (i := 7) (d := some 32) (v := .int .i64 1) (by kernel_rfl) (by kernel_rfl) (by kernel_rfl) (by kernel_rfl) (fun _ _ _ h => h) ?_ hS ?_
      · intro o ho
        simp only [List.getElem?_toArray, List.getElem?_cons_succ, List.getElem?_cons_zero, Option.some.injEq] at ho
        subst ho
        refine Or.inl ⟨by rfl, ?_⟩
        intro w hSw
        (try dsimp only at hSw)
        go_simp
      simp only [Act.put, List.setIfInBounds_toArray, List.set_cons_zero, List.set_cons_succ]
      refine take_at (i := 8) (d := some 33) (v := .int .i64 2) (by kernel_rfl) (by kernel_rfl) (by kernel_rfl) (by kernel_rfl) (fun _ _ _ h => h) ?_ hS ?_
      · intro o ho
        simp only [List.getElem?_toArray, List.getElem?_cons_succ, List.getElem?_cons_zero, Option.some.injEq] at ho
        subst ho
        refine Or.inl ⟨by rfl, ?_⟩
        intro w hSw
        (try dsimp only at hSw)
        go_simp
      simp only [Act.put, List.setIfInBounds_toArray, List.set_cons_zero, List.set_cons_succ]
      refine take_at (i := 9) (d := some 34) (v := .int .i64 3) (by kernel_rfl) (by kernel_rfl) (by kernel_rfl) (by kernel_rfl) (fun _ _ _ h => h) ?_ hS ?_
      · intro o ho
        simp only [List.getElem?_toArray, List.getElem?_cons_succ, List.getElem?_cons_zero, Option.some.injEq] at ho
        subst ho
        refine Or.inl ⟨by rfl, ?_⟩
        intro w hSw
        (try dsimp only at hSw)
        go_simp
      simp only [Act.put, List.setIfInBounds_toArray, List.set_cons_zero, List.set_cons_succ]
      refine take_at (i := 10) (d := some 35) (v := .pointer (some ⟨w.heap.size, 3, none⟩)) (by kernel_rfl) (by kernel_rfl) (by kernel_rfl) (by kernel_rfl) (fun _ _ _ h => h) ?_ hS ?_
      · intro o ho
        simp only [List.getElem?_toArray, List.getElem?_cons_succ, List.getElem?_cons_zero, Option.some.injEq] at ho
        subst ho
        refine Or.inl ⟨by rfl, ?_⟩
        intro w hSw
        (try dsimp only at hSw)
        go_simp
      simp only [Act.put, List.setIfInBounds_toArray, List.set_cons_zero, List.set_cons_succ]
      refine take_at (i := 11) (d := some 36) (v := .int .i64 n3) (by kernel_rfl) (by kernel_rfl) (by kernel_rfl) (by kernel_rfl) (fun _ _ _ h => h) ?_ hS ?_
      · intro o ho
        simp only [List.getElem?_toArray, List.getElem?_cons_succ, List.getElem?_cons_zero, Option.some.injEq] at ho
        subst ho
        refine Or.inl ⟨by rfl, ?_⟩
        intro w hSw
        (try dsimp only at hSw)
        go_simp
      simp only [Act.put, List.setIfInBounds_toArray, List.set_cons_zero, List.set_cons_succ]
      refine take_at (i := 12) (d := some 37) (v := .int .i64 (n3.tmod 1048576)) (by kernel_rfl) (by kernel_rfl) (by kernel_rfl) (by kernel_rfl) (fun _ _ _ h => h) ?_ hS ?_
      · intro o ho
        simp only [List.getElem?_toArray, List.getElem?_cons_succ, List.getElem?_cons_zero, Option.some.injEq] at ho
        subst ho
        refine Or.inl ⟨by rfl, ?_⟩
        intro w hSw
        (try dsimp only at hSw)
        go_simp
      simp only [Act.put, List.setIfInBounds_toArray, List.set_cons_zero, List.set_cons_succ]
      refine take_at (i := 13) (d := some 38) (v := .float .f64 by') (by kernel_rfl) (by kernel_rfl) (by kernel_rfl) (by kernel_rfl) (fun _ _ _ h => h) ?_ hS ?_
      · intro o ho
        simp only [List.getElem?_toArray, List.getElem?_cons_succ, List.getElem?_cons_zero, Option.some.injEq] at ho
        subst ho
        refine Or.inl ⟨by rfl, ?_⟩
        intro w hSw
        (try dsimp only at hSw)
        go_simp
      simp only [Act.put, List.setIfInBounds_toArray, List.set_cons_zero, List.set_cons_succ]
      refine take_at (i := 14) (d := some 39) (v := .agg #[.float .f64 bx, .float .f64 by']) (by kernel_rfl) (by kernel_rfl) (by kernel_rfl) (by kernel_rfl) (fun _ _ _ h => h) ?_ hS ?_
      · intro o ho
        simp only [List.getElem?_toArray, List.getElem?_cons_succ, List.getElem?_cons_zero, Option.some.injEq] at ho
        subst ho
        refine Or.inl ⟨by rfl, ?_⟩
        intro w hSw
        (try dsimp only at hSw)
        go_simp
      simp only [Act.put, List.setIfInBounds_toArray, List.set_cons_zero, List.set_cons_succ]
      refine take_at (i := 15) (d := some 40) (v := .pointer (some ⟨bP, 2, none⟩)) (by kernel_rfl) (by kernel_rfl) (by kernel_rfl) (by kernel_rfl) (fun _ _ _ h => h) ?_ hS ?_
      · intro o ho
        simp only [List.getElem?_toArray, List.getElem?_cons_succ, List.getElem?_cons_zero, Option.some.injEq] at ho
        subst ho
        refine Or.inl ⟨by rfl, ?_⟩
        intro w hSw
        (try dsimp only at hSw)
        go_simp
      simp only [Act.put, List.setIfInBounds_toArray, List.set_cons_zero, List.set_cons_succ]
      clear m0 m1
      have hBD := hB.out.drew
      generalize wr.drew = WD at *
      have hMW := hBD.setP hlt 2 3 (.float .f64 bx) (.float .f64 by')
      have hP0 := hBD.2.1
      have f0 := hP0.frozen 2
      have f1 := hP0.frozen 3
      have g0 : WD.cell? ⟨bP, 2, none⟩ = some (.float .f64 0) := hP0.cells8.2.1.1
      have g1 : WD.cell? ⟨bP, 3, none⟩ = some (.float .f64 0) := hP0.cells8.2.1.2
      have hS2 : (fun W => World.cell? W ⟨w.heap.size, 2, none⟩ = some (.int .i64 n2) ∧ World.cell? W ⟨w.heap.size, 3, none⟩ = some (.int .i64 n3) ∧ Below w.heap.size w W) ((WD.setCell ⟨bP, 2, none⟩ (.float .f64 bx)).setCell ⟨bP, 3, none⟩ (.float .f64 by')) := ⟨hMW.1.cells8.2.1.1, hMW.1.cells8.2.1.2, hMW.2.2.2⟩
      refine call_at 16 (by kernel_rfl) (by kernel_rfl) ?_
      intro o ho
      simp only [List.getElem?_toArray, List.getElem?_cons_succ, List.getElem?_cons_zero, Option.some.injEq] at ho
      subst ho
      intro KF hK
      go_simp
      go_wp2_with fail
      refine hK.out _ _ hS2 ?_
      intro _
      clear hK KF f0 f1 g0 g1 hS hS2 hP0 hBD
      try simp only [List.setIfInBounds_toArray, List.set_cons_zero, List.set_cons_succ]
      refine wpAnyH_done (by kernel_rfl) ?_ _
      have hMW2 : MW w ((WD.setCell ⟨bP, 2, none⟩ (.float .f64 bx)).setCell ⟨bP, 3, none⟩ (.float .f64 by')) bP #[.int .i64 n0, .int .i64 n1, .int .i64 n2, .int .i64 n3, .int .i64 n4, .int .i64 n5, .int .i64 n6, .int .i64 n7] #[.float .f64 ax, .float .f64 ay, .float .f64 bx, .float .f64 by', .float .f64 0, .float .f64 0, .float .f64 0, .float .f64 0] #[.float .f64 ex, .float .f64 ey, .float .f64 0, .float .f64 0, .float .f64 0, .float .f64 0, .float .f64 0, .float .f64 0] := by simpa using hMW
      clear hMW
      generalize ((WD.setCell ⟨bP, 2, none⟩ (.float .f64 bx)).setCell ⟨bP, 3, none⟩ (.float .f64 by')) = WP at *
      have p0 : WP.cell? ⟨bP, 2, none⟩ = some (.float .f64 bx) := hMW2.2.1.cells8.2.1.1
      have p1 : WP.cell? ⟨bP, 3, none⟩ = some (.float .f64 by') := hMW2.2.1.cells8.2.1.2
      go_wp2_with fail
      refine (moved5_any bx by' pw u v sx1 fx sy1 fy mi _ F2.out.2.1 HM1.out.1 HM1.out.2.1 HM1.out.2.2.1 HM1.out.2.2.2).mono ?_
      rintro e wx ⟨rfl, hb⟩
      have hMW3 := hMW2.later hb
      clear hb p0 p1 hMW2
      have f0 := hMW3.2.2.1.frozen 2
      have f1 := hMW3.2.2.1.frozen 3
      have g0 : wx.cell? ⟨bP + 1, 2, none⟩ = some (.float .f64 0) := hMW3.2.2.1.cells8.2.1.1
      have g1 : wx.cell? ⟨bP + 1, 3, none⟩ = some (.float .f64 0) := hMW3.2.2.1.cells8.2.1.2
      have hMW4 := hMW3.setQ hlt 2 3 (.float .f64 fx) (.float .f64 fy)
      have HE : Hid (MW w ((wx.setCell ⟨bP + 1, 2, none⟩ (.float .f64 fx)).setCell ⟨bP + 1, 3, none⟩ (.float .f64 fy)) bP #[.int .i64 n0, .int .i64 n1, .int .i64 n2, .int .i64 n3, .int .i64 n4, .int .i64 n5, .int .i64 n6, .int .i64 n7] #[.float .f64 ax, .float .f64 ay, .float .f64 bx, .float .f64 by', .float .f64 0, .float .f64 0, .float .f64 0, .float .f64 0] #[.float .f64 ex, .float .f64 ey, .float .f64 fx, .float .f64 fy, .float .f64 0, .float .f64 0, .float .f64 0, .float .f64 0]) := by
        show MW _ _ _ _ _ _
        simpa using hMW4
      clear hMW3 hMW4
      go_wp2
      exact ⟨Or.inr (Or.inr (Or.inl ⟨by go_num, HE⟩)), by simp [intOf]⟩
    · have m0 := hB.out.1.cells8.2.2.1.1
      have m1 := hB.out.1.cells8.2.2.1.2
      go_wp2_with fail
      refine wp_region_held_drew (S := (fun W => World.cell? W ⟨w.heap.size, 4, none⟩ = some (.int .i64 n4) ∧ World.cell? W ⟨w.heap.size, 5, none⟩ = some (.int .i64 n5) ∧ Below w.heap.size w W)) (by kernel_rfl) ⟨m0, m1, hB.out.2.2.2.drew⟩ (fun hS => ?_)
      refine take_at (i := 0) (d := some 25) (v := .int .i64 2) (by kernel_rfl) (by kernel_rfl) (by kernel_rfl) (by kernel_rfl) (fun _ _ _ h => h) ?_ hS ?_
      · intro o ho
        simp only [List.getElem?_toArray, List.getElem?_cons_zero, Option.some.injEq] at ho
        subst ho
        refine Or.inl ⟨by rfl, ?_⟩
        intro w hSw
        (try dsimp only at hSw)
        go_simp
      simp only [Act.put, List.setIfInBounds_toArray, List.set_cons_zero, List.set_cons_succ]
      refine take_at (i := 1) (d := some 26) (v := .int .i64 2) (by kernel_rfl) (by kernel_rfl) (by kernel_rfl) (by kernel_rfl) (fun _ _ _ h => h) ?_ hS ?_
      · intro o ho
        simp only [List.getElem?_toArray, List.getElem?_cons_succ, List.getElem?_cons_zero, Option.some.injEq] at ho
        subst ho
        refine Or.inl ⟨by rfl, ?_⟩
        intro w hSw
        (try dsimp only at hSw)
        go_simp
      simp only [Act.put, List.setIfInBounds_toArray, List.set_cons_zero, List.set_cons_succ]
      refine take_at (i := 2) (d := some 27) (v := .int .i64 4) (by kernel_rfl) (by kernel_rfl) (by kernel_rfl) (by kernel_rfl) (fun _ _ _ h => h) ?_ hS ?_
      · intro o ho
        simp only [List.getElem?_toArray, List.getElem?_cons_succ, List.getElem?_cons_zero, Option.some.injEq] at ho
        subst ho
        refine Or.inl ⟨by rfl, ?_⟩
        intro w hSw
        (try dsimp only at hSw)
        go_simp
      simp only [Act.put, List.setIfInBounds_toArray, List.set_cons_zero, List.set_cons_succ]
      refine take_at (i := 3) (d := some 28) (v := .pointer (some ⟨w.heap.size, 4, none⟩)) (by kernel_rfl) (by kernel_rfl) (by kernel_rfl) (by kernel_rfl) (fun _ _ _ h => h) ?_ hS ?_
      · intro o ho
        simp only [List.getElem?_toArray, List.getElem?_cons_succ, List.getElem?_cons_zero, Option.some.injEq] at ho
        subst ho
        refine Or.inl ⟨by rfl, ?_⟩
        intro w hSw
        (try dsimp only at hSw)
        go_simp
      simp only [Act.put, List.setIfInBounds_toArray, List.set_cons_zero, List.set_cons_succ]
      refine take_at (i := 4) (d := some 29) (v := .int .i64 n4) (by kernel_rfl) (by kernel_rfl) (by kernel_rfl) (by kernel_rfl) (fun _ _ _ h => h) ?_ hS ?_
      · intro o ho
        simp only [List.getElem?_toArray, List.getElem?_cons_succ, List.getElem?_cons_zero, Option.some.injEq] at ho
        subst ho
        refine Or.inl ⟨by rfl, ?_⟩
        intro w hSw
        (try dsimp only at hSw)
        go_simp
      simp only [Act.put, List.setIfInBounds_toArray, List.set_cons_zero, List.set_cons_succ]
      refine take_at (i := 5) (d := some 30) (v := .int .i64 (n4.tmod 1048576)) (by kernel_rfl) (by kernel_rfl) (by kernel_rfl) (by kernel_rfl) (fun _ _ _ h => h) ?_ hS ?_
      · intro o ho
        simp only [List.getElem?_toArray, List.getElem?_cons_succ, List.getElem?_cons_zero, Option.some.injEq] at ho
        subst ho
        refine Or.inl ⟨by rfl, ?_⟩
        intro w hSw
        (try dsimp only at hSw)
        go_simp
      simp only [Act.put, List.setIfInBounds_toArray, List.set_cons_zero, List.set_cons_succ]
      refine take_at (i := 6) (d := some 31) (v := .float .f64 cx) (by kernel_rfl) (by kernel_rfl) (by kernel_rfl) (by kernel_rfl) (fun _ _ _ h => h) ?_ hS ?_
      · intro o ho
        simp only [List.getElem?_toArray, List.getElem?_cons_succ, List.getElem?_cons_zero, Option.some.injEq] at ho
        subst ho
        refine Or.inl ⟨by rfl, ?_⟩
        intro w hSw
        (try dsimp only at hSw)
        go_simp
      simp only [Act.put, List.setIfInBounds_toArray, List.set_cons_zero, List.set_cons_succ]
      refine take_at (i := 7) (d := some 32) (v := .int .i64 2) (by kernel_rfl) (by kernel_rfl) (by kernel_rfl) (by kernel_rfl) (fun _ _ _ h => h) ?_ hS ?_
      · intro o ho
        simp only [List.getElem?_toArray, List.getElem?_cons_succ, List.getElem?_cons_zero, Option.some.injEq] at ho
        subst ho
        refine Or.inl ⟨by rfl, ?_⟩
        intro w hSw
        (try dsimp only at hSw)
        go_simp
      simp only [Act.put, List.setIfInBounds_toArray, List.set_cons_zero, List.set_cons_succ]
      refine take_at (i := 8) (d := some 33) (v := .int .i64 4) (by kernel_rfl) (by kernel_rfl) (by kernel_rfl) (by kernel_rfl) (fun _ _ _ h => h) ?_ hS ?_
      · intro o ho
        simp only [List.getElem?_toArray, List.getElem?_cons_succ, List.getElem?_cons_zero, Option.some.injEq] at ho
        subst ho
        refine Or.inl ⟨by rfl, ?_⟩
        intro w hSw
        (try dsimp only at hSw)
        go_simp
      simp only [Act.put, List.setIfInBounds_toArray, List.set_cons_zero, List.set_cons_succ]
      refine take_at (i := 9) (d := some 34) (v := .int .i64 5) (by kernel_rfl) (by kernel_rfl) (by kernel_rfl) (by kernel_rfl) (fun _ _ _ h => h) ?_ hS ?_
      · intro o ho
        simp only [List.getElem?_toArray, List.getElem?_cons_succ, List.getElem?_cons_zero, Option.some.injEq] at ho
        subst ho
        refine Or.inl ⟨by rfl, ?_⟩
        intro w hSw
        (try dsimp only at hSw)
        go_simp
      simp only [Act.put, List.setIfInBounds_toArray, List.set_cons_zero, List.set_cons_succ]
      refine take_at (i := 10) (d := some 35) (v := .pointer (some ⟨w.heap.size, 5, none⟩)) (by kernel_rfl) (by kernel_rfl) (by kernel_rfl) (by kernel_rfl) (fun _ _ _ h => h) ?_ hS ?_
      · intro o ho
        simp only [List.getElem?_toArray, List.getElem?_cons_succ, List.getElem?_cons_zero, Option.some.injEq] at ho
        subst ho
        refine Or.inl ⟨by rfl, ?_⟩
        intro w hSw
        (try dsimp only at hSw)
        go_simp
      simp only [Act.put, List.setIfInBounds_toArray, List.set_cons_zero, List.set_cons_succ]
      refine take_at (i := 11) (d := some 36) (v := .int .i64 n5) (by kernel_rfl) (by kernel_rfl) (by kernel_rfl) (by kernel_rfl) (fun _ _ _ h => h) ?_ hS ?_
      · intro o ho
        simp only [List.getElem?_toArray, List.getElem?_cons_succ, List.getElem?_cons_zero, Option.some.injEq] at ho
        subst ho
        refine Or.inl ⟨by rfl, ?_⟩
        intro w hSw
        (try dsimp only at hSw)
        go_simp
      simp only [Act.put, List.setIfInBounds_toArray, List.set_cons_zero, List.set_cons_succ]
      refine take_at (i := 12) (d := some 37) (v := .int .i64 (n5.tmod 1048576)) (by kernel_rfl) (by kernel_rfl) (by kernel_rfl) (by kernel_rfl) (fun _ _ _ h => h) ?_ hS ?_
      · intro o ho
        simp only [List.getElem?_toArray, List.getElem?_cons_succ, List.getElem?_cons_zero, Option.some.injEq] at ho
        subst ho
        refine Or.inl ⟨by rfl, ?_⟩
        intro w hSw
        (try dsimp only at hSw)
        go_simp
      simp only [Act.put, List.setIfInBounds_toArray, List.set_cons_zero, List.set_cons_succ]
      refine take_at (i := 13) (d := some 38) (v := .float .f64 cy) (by kernel_rfl) (by kernel_rfl) (by kernel_rfl) (by kernel_rfl) (fun _ _ _ h => h) ?_ hS ?_
      · intro o ho
        simp only [List.getElem?_toArray, List.getElem?_cons_succ, List.getElem?_cons_zero, Option.some.injEq] at ho
        subst ho
        refine Or.inl ⟨by rfl, ?_⟩
        intro w hSw
        (try dsimp only at hSw)
        go_simp
      simp only [Act.put, List.setIfInBounds_toArray, List.set_cons_zero, List.set_cons_succ]
      refine take_at (i := 14) (d := some 39) (v := .agg #[.float .f64 cx, .float .f64 cy]) (by kernel_rfl) (by kernel_rfl) (by kernel_rfl) (by kernel_rfl) (fun _ _ _ h => h) ?_ hS ?_
      · intro o ho
        simp only [List.getElem?_toArray, List.getElem?_cons_succ, List.getElem?_cons_zero, Option.some.injEq] at ho
        subst ho
        refine Or.inl ⟨by rfl, ?_⟩
        intro w hSw
        (try dsimp only at hSw)
        go_simp
      simp only [Act.put, List.setIfInBounds_toArray, List.set_cons_zero, List.set_cons_succ]
      refine take_at (i := 15) (d := some 40) (v := .pointer (some ⟨bP, 4, none⟩)) (by kernel_rfl) (by kernel_rfl) (by kernel_rfl) (by kernel_rfl) (fun _ _ _ h => h) ?_ hS ?_
      · intro o ho
        simp only [List.getElem?_toArray, List.getElem?_cons_succ, List.getElem?_cons_zero, Option.some.injEq] at ho
        subst ho
        refine Or.inl ⟨by rfl, ?_⟩
        intro w hSw
        (try dsimp only at hSw)
        go_simp
      simp only [Act.put, List.setIfInBounds_toArray, List.set_cons_zero, List.set_cons_succ]
      clear m0 m1
      have hBD := hB.out.drew
      generalize wr.drew = WD at *
      have hMW := hBD.setP hlt 4 5 (.float .f64 cx) (.float .f64 cy)
      have hP0 := hBD.2.1
      have f0 := hP0.frozen 4
      have f1 := hP0.frozen 5
      have g0 : WD.cell? ⟨bP, 4, none⟩ = some (.float .f64 0) := hP0.cells8.2.2.1.1
      have g1 : WD.cell? ⟨bP, 5, none⟩ = some (.float .f64 0) := hP0.cells8.2.2.1.2
      have hS2 : (fun W => World.cell? W ⟨w.heap.size, 4, none⟩ = some (.int .i64 n4) ∧ World.cell? W ⟨w.heap.size, 5, none⟩ = some (.int .i64 n5) ∧ Below w.heap.size w W) ((WD.setCell ⟨bP, 4, none⟩ (.float .f64 cx)).setCell ⟨bP, 5, none⟩ (.float .f64 cy)) := ⟨hMW.1.cells8.2.2.1.1, hMW.1.cells8.2.2.1.2, hMW.2.2.2⟩
      refine call_at 16 (by kernel_rfl) (by kernel_rfl) ?_
      intro o ho
      simp only [List.getElem?_toArray, List.getElem?_cons_succ, List.getElem?_cons_zero, Option.some.injEq] at ho
      subst ho
      intro KF hK
      go_simp
      go_wp2_with fail
      refine hK.out _ _ hS2 ?_
      intro _
      clear hK KF f0 f1 g0 g1 hS hS2 hP0 hBD
      try simp only [List.setIfInBounds_toArray, List.set_cons_zero, List.set_cons_succ]
      refine wpAnyH_done (by kernel_rfl) ?_ _
      have hMW2 : MW w ((WD.setCell ⟨bP, 4, none⟩ (.float .f64 cx)).setCell ⟨bP, 5, none⟩ (.float .f64 cy)) bP #[.int .i64 n0, .int .i64 n1, .int .i64 n2, .int .i64 n3, .int .i64 n4, .int .i64 n5, .int .i64 n6, .int .i64 n7] #[.float .f64 ax, .float .f64 ay, .float .f64 bx, .float .f64 by', .float .f64 cx, .float .f64 cy, .float .f64 0, .float .f64 0] #[.float .f64 ex, .float .f64 ey, .float .f64 fx, .float .f64 fy, .float .f64 0, .float .f64 0, .float .f64 0, .float .f64 0] := by simpa using hMW
      clear hMW
      generalize ((WD.setCell ⟨bP, 4, none⟩ (.float .f64 cx)).setCell ⟨bP, 5, none⟩ (.float .f64 cy)) = WP at *
      have p0 : WP.cell? ⟨bP, 4, none⟩ = some (.float .f64 cx) := hMW2.2.1.cells8.2.2.1.1
      have p1 : WP.cell? ⟨bP, 5, none⟩ = some (.float .f64 cy) := hMW2.2.1.cells8.2.2.1.2
      go_wp2_with fail
      refine (moved5_any cx cy pw u v sx2 gx sy2 gy mi _ F4.out.2.1 HM2.out.1 HM2.out.2.1 HM2.out.2.2.1 HM2.out.2.2.2).mono ?_
      rintro e wx ⟨rfl, hb⟩
      have hMW3 := hMW2.later hb
      clear hb p0 p1 hMW2
      have f0 := hMW3.2.2.1.frozen 4
      have f1 := hMW3.2.2.1.frozen 5
      have g0 : wx.cell? ⟨bP + 1, 4, none⟩ = some (.float .f64 0) := hMW3.2.2.1.cells8.2.2.1.1
      have g1 : wx.cell? ⟨bP + 1, 5, none⟩ = some (.float .f64 0) := hMW3.2.2.1.cells8.2.2.1.2
      have hMW4 := hMW3.setQ hlt 4 5 (.float .f64 gx) (.float .f64 gy)
      have HE : Hid (MW w ((wx.setCell ⟨bP + 1, 4, none⟩ (.float .f64 gx)).setCell ⟨bP + 1, 5, none⟩ (.float .f64 gy)) bP #[.int .i64 n0, .int .i64 n1, .int .i64 n2, .int .i64 n3, .int .i64 n4, .int .i64 n5, .int .i64 n6, .int .i64 n7] #[.float .f64 ax, .float .f64 ay, .float .f64 bx, .float .f64 by', .float .f64 cx, .float .f64 cy, .float .f64 0, .float .f64 0] #[.float .f64 ex, .float .f64 ey, .float .f64 fx, .float .f64 fy, .float .f64 gx, .float .f64 gy, .float .f64 0, .float .f64 0]) := by
        show MW _ _ _ _ _ _
        simpa using hMW4
      clear hMW3 hMW4
      go_wp2
      exact ⟨Or.inr (Or.inr (Or.inr (Or.inl ⟨by go_num, HE⟩))), by simp [intOf]⟩
    · have m0 := hB.out.1.cells8.2.2.2.1
      have m1 := hB.out.1.cells8.2.2.2.2
      go_wp2_with fail
      refine wp_region_held_drew (S := (fun W => World.cell? W ⟨w.heap.size, 6, none⟩ = some (.int .i64 n6) ∧ World.cell? W ⟨w.heap.size, 7, none⟩ = some (.int .i64 n7) ∧ Below w.heap.size w W)) (by kernel_rfl) ⟨m0, m1, hB.out.2.2.2.drew⟩ (fun hS => ?_)
      refine take_at (i := 0) (d := some 25) (v := .int .i64 3) (by kernel_rfl) (by kernel_rfl) (by kernel_rfl) (by kernel_rfl) (fun _ _ _ h => h) ?_ hS ?_
      · intro o ho
        simp only [List.getElem?_toArray, List.getElem?_cons_zero, Option.some.injEq] at ho
        subst ho
        refine Or.inl ⟨by rfl, ?_⟩
        intro w hSw
        (try dsimp only at hSw)
        go_simp
      simp only [Act.put, List.setIfInBounds_toArray, List.set_cons_zero, List.set_cons_succ]
      refine take_at (i := 1) (d := some 26) (v := .int .i64 3) (by kernel_rfl) (by kernel_rfl) (by kernel_rfl) (by kernel_rfl) (fun _ _ _ h => h) ?_ hS ?_
      · intro o ho
        simp only [List.getElem?_toArray, List.getElem?_cons_succ, List.getElem?_cons_zero, Option.some.injEq] at ho
        subst ho
        refine Or.inl ⟨by rfl, ?_⟩
        intro w hSw
        (try dsimp only at hSw)
        go_simp
      simp only [Act.put, List.setIfInBounds_toArray, List.set_cons_zero, List.set_cons_succ]
      refine take_at (i := 2) (d := some 27) (v := .int .i64 6) (by kernel_rfl) (by kernel_rfl) (by kernel_rfl) (by kernel_rfl) (fun _ _ _ h => h) ?_ hS ?_
      · intro o ho
        simp only [List.getElem?_toArray, List.getElem?_cons_succ, List.getElem?_cons_zero, Option.some.injEq] at ho
        subst ho
        refine Or.inl ⟨by rfl, ?_⟩
        intro w hSw
        (try dsimp only at hSw)
        go_simp
      simp only [Act.put, List.setIfInBounds_toArray, List.set_cons_zero, List.set_cons_succ]
      refine take_at (i := 3) (d := some 28) (v := .pointer (some ⟨w.heap.size, 6, none⟩)) (by kernel_rfl) (by kernel_rfl) (by kernel_rfl) (by kernel_rfl) (fun _ _ _ h => h) ?_ hS ?_
      · intro o ho
        simp only [List.getElem?_toArray, List.getElem?_cons_succ, List.getElem?_cons_zero, Option.some.injEq] at ho
        subst ho
        refine Or.inl ⟨by rfl, ?_⟩
        intro w hSw
        (try dsimp only at hSw)
        go_simp
      simp only [Act.put, List.setIfInBounds_toArray, List.set_cons_zero, List.set_cons_succ]
      refine take_at (i := 4) (d := some 29) (v := .int .i64 n6) (by kernel_rfl) (by kernel_rfl) (by kernel_rfl) (by kernel_rfl) (fun _ _ _ h => h) ?_ hS ?_
      · intro o ho
        simp only [List.getElem?_toArray, List.getElem?_cons_succ, List.getElem?_cons_zero, Option.some.injEq] at ho
        subst ho
        refine Or.inl ⟨by rfl, ?_⟩
        intro w hSw
        (try dsimp only at hSw)
        go_simp
      simp only [Act.put, List.setIfInBounds_toArray, List.set_cons_zero, List.set_cons_succ]
      refine take_at (i := 5) (d := some 30) (v := .int .i64 (n6.tmod 1048576)) (by kernel_rfl) (by kernel_rfl) (by kernel_rfl) (by kernel_rfl) (fun _ _ _ h => h) ?_ hS ?_
      · intro o ho
        simp only [List.getElem?_toArray, List.getElem?_cons_succ, List.getElem?_cons_zero, Option.some.injEq] at ho
        subst ho
        refine Or.inl ⟨by rfl, ?_⟩
        intro w hSw
        (try dsimp only at hSw)
        go_simp
      simp only [Act.put, List.setIfInBounds_toArray, List.set_cons_zero, List.set_cons_succ]
      refine take_at (i := 6) (d := some 31) (v := .float .f64 dx) (by kernel_rfl) (by kernel_rfl) (by kernel_rfl) (by kernel_rfl) (fun _ _ _ h => h) ?_ hS ?_
      · intro o ho
        simp only [List.getElem?_toArray, List.getElem?_cons_succ, List.getElem?_cons_zero, Option.some.injEq] at ho
        subst ho
        refine Or.inl ⟨by rfl, ?_⟩
        intro w hSw
        (try dsimp only at hSw)
        go_simp
      simp only [Act.put, List.setIfInBounds_toArray, List.set_cons_zero, List.set_cons_succ]
      refine take_at (i := 7) (d := some 32) (v := .int .i64 3) (by kernel_rfl) (by kernel_rfl) (by kernel_rfl) (by kernel_rfl) (fun _ _ _ h => h) ?_ hS ?_
      · intro o ho
        simp only [List.getElem?_toArray, List.getElem?_cons_succ, List.getElem?_cons_zero, Option.some.injEq] at ho
        subst ho
        refine Or.inl ⟨by rfl, ?_⟩
        intro w hSw
        (try dsimp only at hSw)
        go_simp
      simp only [Act.put, List.setIfInBounds_toArray, List.set_cons_zero, List.set_cons_succ]
      refine take_at (i := 8) (d := some 33) (v := .int .i64 6) (by kernel_rfl) (by kernel_rfl) (by kernel_rfl) (by kernel_rfl) (fun _ _ _ h => h) ?_ hS ?_
      · intro o ho
        simp only [List.getElem?_toArray, List.getElem?_cons_succ, List.getElem?_cons_zero, Option.some.injEq] at ho
        subst ho
        refine Or.inl ⟨by rfl, ?_⟩
        intro w hSw
        (try dsimp only at hSw)
        go_simp
      simp only [Act.put, List.setIfInBounds_toArray, List.set_cons_zero, List.set_cons_succ]
      refine take_at (i := 9) (d := some 34) (v := .int .i64 7) (by kernel_rfl) (by kernel_rfl) (by kernel_rfl) (by kernel_rfl) (fun _ _ _ h => h) ?_ hS ?_
      · intro o ho
        simp only [List.getElem?_toArray, List.getElem?_cons_succ, List.getElem?_cons_zero, Option.some.injEq] at ho
        subst ho
        refine Or.inl ⟨by rfl, ?_⟩
        intro w hSw
        (try dsimp only at hSw)
        go_simp
      simp only [Act.put, List.setIfInBounds_toArray, List.set_cons_zero, List.set_cons_succ]
      refine take_at (i := 10) (d := some 35) (v := .pointer (some ⟨w.heap.size, 7, none⟩)) (by kernel_rfl) (by kernel_rfl) (by kernel_rfl) (by kernel_rfl) (fun _ _ _ h => h) ?_ hS ?_
      · intro o ho
        simp only [List.getElem?_toArray, List.getElem?_cons_succ, List.getElem?_cons_zero, Option.some.injEq] at ho
        subst ho
        refine Or.inl ⟨by rfl, ?_⟩
        intro w hSw
        (try dsimp only at hSw)
        go_simp
      simp only [Act.put, List.setIfInBounds_toArray, List.set_cons_zero, List.set_cons_succ]
      refine take_at (i := 11) (d := some 36) (v := .int .i64 n7) (by kernel_rfl) (by kernel_rfl) (by kernel_rfl) (by kernel_rfl) (fun _ _ _ h => h) ?_ hS ?_
      · intro o ho
        simp only [List.getElem?_toArray, List.getElem?_cons_succ, List.getElem?_cons_zero, Option.some.injEq] at ho
        subst ho
        refine Or.inl ⟨by rfl, ?_⟩
        intro w hSw
        (try dsimp only at hSw)
        go_simp
      simp only [Act.put, List.setIfInBounds_toArray, List.set_cons_zero, List.set_cons_succ]
      refine take_at (i := 12) (d := some 37) (v := .int .i64 (n7.tmod 1048576)) (by kernel_rfl) (by kernel_rfl) (by kernel_rfl) (by kernel_rfl) (fun _ _ _ h => h) ?_ hS ?_
      · intro o ho
        simp only [List.getElem?_toArray, List.getElem?_cons_succ, List.getElem?_cons_zero, Option.some.injEq] at ho
        subst ho
        refine Or.inl ⟨by rfl, ?_⟩
        intro w hSw
        (try dsimp only at hSw)
        go_simp
      simp only [Act.put, List.setIfInBounds_toArray, List.set_cons_zero, List.set_cons_succ]
      refine take_at (i := 13) (d := some 38) (v := .float .f64 dy) (by kernel_rfl) (by kernel_rfl) (by kernel_rfl) (by kernel_rfl) (fun _ _ _ h => h) ?_ hS ?_
      · intro o ho
        simp only [List.getElem?_toArray, List.getElem?_cons_succ, List.getElem?_cons_zero, Option.some.injEq] at ho
        subst ho
        refine Or.inl ⟨by rfl, ?_⟩
        intro w hSw
        (try dsimp only at hSw)
        go_simp
      simp only [Act.put, List.setIfInBounds_toArray, List.set_cons_zero, List.set_cons_succ]
      refine take_at (i := 14) (d := some 39) (v := .agg #[.float .f64 dx, .float .f64 dy]) (by kernel_rfl) (by kernel_rfl) (by kernel_rfl) (by kernel_rfl) (fun _ _ _ h => h) ?_ hS ?_
      · intro o ho
        simp only [List.getElem?_toArray, List.getElem?_cons_succ, List.getElem?_cons_zero, Option.some.injEq] at ho
        subst ho
        refine Or.inl ⟨by rfl, ?_⟩
        intro w hSw
        (try dsimp only at hSw)
        go_simp
      simp only [Act.put, List.setIfInBounds_toArray, List.set_cons_zero, List.set_cons_succ]
      refine take_at (i := 15) (d := some 40) (v := .pointer (some ⟨bP, 6, none⟩)) (by kernel_rfl) (by kernel_rfl) (by kernel_rfl) (by kernel_rfl) (fun _ _ _ h => h) ?_ hS ?_
      · intro o ho
        simp only [List.getElem?_toArray, List.getElem?_cons_succ, List.getElem?_cons_zero, Option.some.injEq] at ho
        subst ho
        refine Or.inl ⟨by rfl, ?_⟩
        intro w hSw
        (try dsimp only at hSw)
        go_simp
      simp only [Act.put, List.setIfInBounds_toArray, List.set_cons_zero, List.set_cons_succ]
      clear m0 m1
      have hBD := hB.out.drew
      generalize wr.drew = WD at *
      have hMW := hBD.setP hlt 6 7 (.float .f64 dx) (.float .f64 dy)
      have hP0 := hBD.2.1
      have f0 := hP0.frozen 6
      have f1 := hP0.frozen 7
      have g0 : WD.cell? ⟨bP, 6, none⟩ = some (.float .f64 0) := hP0.cells8.2.2.2.1
      have g1 : WD.cell? ⟨bP, 7, none⟩ = some (.float .f64 0) := hP0.cells8.2.2.2.2
      have hS2 : (fun W => World.cell? W ⟨w.heap.size, 6, none⟩ = some (.int .i64 n6) ∧ World.cell? W ⟨w.heap.size, 7, none⟩ = some (.int .i64 n7) ∧ Below w.heap.size w W) ((WD.setCell ⟨bP, 6, none⟩ (.float .f64 dx)).setCell ⟨bP, 7, none⟩ (.float .f64 dy)) := ⟨hMW.1.cells8.2.2.2.1, hMW.1.cells8.2.2.2.2, hMW.2.2.2⟩
      refine call_at 16 (by kernel_rfl) (by kernel_rfl) ?_
      intro o ho
      simp only [List.getElem?_toArray, List.getElem?_cons_succ, List.getElem?_cons_zero, Option.some.injEq] at ho
      subst ho
      intro KF hK
      go_simp
      go_wp2_with fail
      refine hK.out _ _ hS2 ?_
      intro _
      clear hK KF f0 f1 g0 g1 hS hS2 hP0 hBD
      try simp only [List.setIfInBounds_toArray, List.set_cons_zero, List.set_cons_succ]
      refine wpAnyH_done (by kernel_rfl) ?_ _
      have hMW2 : MW w ((WD.setCell ⟨bP, 6, none⟩ (.float .f64 dx)).setCell ⟨bP, 7, none⟩ (.float .f64 dy)) bP #[.int .i64 n0, .int .i64 n1, .int .i64 n2, .int .i64 n3, .int .i64 n4, .int .i64 n5, .int .i64 n6, .int .i64 n7] #[.float .f64 ax, .float .f64 ay, .float .f64 bx, .float .f64 by', .float .f64 cx, .float .f64 cy, .float .f64 dx, .float .f64 dy] #[.float .f64 ex, .float .f64 ey, .float .f64 fx, .float .f64 fy, .float .f64 gx, .float .f64 gy, .float .f64 0, .float .f64 0] := by simpa using hMW
      clear hMW
      generalize ((WD.setCell ⟨bP, 6, none⟩ (.float .f64 dx)).setCell ⟨bP, 7, none⟩ (.float .f64 dy)) = WP at *
      have p0 : WP.cell? ⟨bP, 6, none⟩ = some (.float .f64 dx) := hMW2.2.1.cells8.2.2.2.1
      have p1 : WP.cell? ⟨bP, 7, none⟩ = some (.float .f64 dy) := hMW2.2.1.cells8.2.2.2.2
      go_wp2_with fail
      refine (moved5_any dx dy pw u v sx3 hx sy3 hy mi _ F6.out.2.1 HM3.out.1 HM3.out.2.1 HM3.out.2.2.1 HM3.out.2.2.2).mono ?_
      rintro e wx ⟨rfl, hb⟩
      have hMW3 := hMW2.later hb
      clear hb p0 p1 hMW2
      have f0 := hMW3.2.2.1.frozen 6
      have f1 := hMW3.2.2.1.frozen 7
      have g0 : wx.cell? ⟨bP + 1, 6, none⟩ = some (.float .f64 0) := hMW3.2.2.1.cells8.2.2.2.1
      have g1 : wx.cell? ⟨bP + 1, 7, none⟩ = some (.float .f64 0) := hMW3.2.2.1.cells8.2.2.2.2
      have hMW4 := hMW3.setQ hlt 6 7 (.float .f64 hx) (.float .f64 hy)
      have HE : Hid (MW w ((wx.setCell ⟨bP + 1, 6, none⟩ (.float .f64 hx)).setCell ⟨bP + 1, 7, none⟩ (.float .f64 hy)) bP #[.int .i64 n0, .int .i64 n1, .int .i64 n2, .int .i64 n3, .int .i64 n4, .int .i64 n5, .int .i64 n6, .int .i64 n7] #[.float .f64 ax, .float .f64 ay, .float .f64 bx, .float .f64 by', .float .f64 cx, .float .f64 cy, .float .f64 dx, .float .f64 dy] #[.float .f64 ex, .float .f64 ey, .float .f64 fx, .float .f64 fy, .float .f64 gx, .float .f64 gy, .float .f64 hx, .float .f64 hy]) := by
        show MW _ _ _ _ _ _
        simpa using hMW4
      clear hMW3 hMW4
      go_wp2
      exact ⟨Or.inr (Or.inr (Or.inr (Or.inr (⟨by go_num, HE⟩)))), by simp [intOf]⟩
    · have hMW := hB.out
      obtain ⟨⟨y0, y1⟩, ⟨y2, y3⟩, ⟨y4, y5⟩, y6, y7⟩ := hMW.2.1.cells8
      obtain ⟨z, hz⟩ : ∃ z, Hid (sg4 ax ay bx by' cx cy dx dy = z) := ⟨_, rfl⟩
      obtain ⟨tw, HTP⟩ : ∃ t, Hid (decide (0 < sg3 ax ay bx by' cx cy * sg4 ax ay bx by' cx cy dx dy) = t) := ⟨_, rfl⟩
      obtain ⟨r1, r2⟩ := sg4_range ax ay bx by' cx cy dx dy
      rw [hz.out] at r1 r2
      have n1 : IntKind.i64.wrap (-z) = -z := wrapE _ (by omega) (by omega)
      clear r1 r2
      go_wp2_with fail
      refine (sign4_is ax ay bx by' cx cy dx dy _ z HPQ.out.1.1 hz.out).mono ?_
      rintro e w5 ⟨rfl, hb⟩
      have hMW := hMW.later hb
      clear hb y0 y1 y2 y3 y4 y5 y6 y7
      cases mi
      · have HZ' : Hid (sg4 ex ey fx fy gx gy hx hy = z) := by rw [HSG.out.1]; show sg4 _ _ _ _ _ _ _ _ = z; exact hz.out
        have HTQ : Hid (decide (0 < sg3 ex ey fx fy gx gy * sg4 ex ey fx fy gx gy hx hy) = tw) := by
          rw [HSG.out.1, HSG.out.2, ← HTP.out]
          rfl
        go_wp2_with fail
        refine wp_region_held_drew (S := (fun W => W.cell? ⟨bP, 0, none⟩ = some (.float .f64 ax) ∧ W.cell? ⟨bP, 1, none⟩ = some (.float .f64 ay) ∧ W.cell? ⟨bP, 2, none⟩ = some (.float .f64 bx) ∧ W.cell? ⟨bP, 3, none⟩ = some (.float .f64 by') ∧ W.cell? ⟨bP, 4, none⟩ = some (.float .f64 cx) ∧ W.cell? ⟨bP, 5, none⟩ = some (.float .f64 cy) ∧ W.cell? ⟨bP, 6, none⟩ = some (.float .f64 dx) ∧ W.cell? ⟨bP, 7, none⟩ = some (.float .f64 dy) ∧ W.cell? ⟨bP + 1, 0, none⟩ = some (.float .f64 ex) ∧ W.cell? ⟨bP + 1, 1, none⟩ = some (.float .f64 ey) ∧ W.cell? ⟨bP + 1, 2, none⟩ = some (.float .f64 fx) ∧ W.cell? ⟨bP + 1, 3, none⟩ = some (.float .f64 fy) ∧ W.cell? ⟨bP + 1, 4, none⟩ = some (.float .f64 gx) ∧ W.cell? ⟨bP + 1, 5, none⟩ = some (.float .f64 gy) ∧ W.cell? ⟨bP + 1, 6, none⟩ = some (.float .f64 hx) ∧ W.cell? ⟨bP + 1, 7, none⟩ = some (.float .f64 hy) ∧ Below w.heap.size w W)) (by kernel_rfl) ⟨hMW.2.1.cells8.1.1, hMW.2.1.cells8.1.2, hMW.2.1.cells8.2.1.1, hMW.2.1.cells8.2.1.2, hMW.2.1.cells8.2.2.1.1, hMW.2.1.cells8.2.2.1.2, hMW.2.1.cells8.2.2.2.1, hMW.2.1.cells8.2.2.2.2, hMW.2.2.1.cells8.1.1, hMW.2.2.1.cells8.1.2, hMW.2.2.1.cells8.2.1.1, hMW.2.2.1.cells8.2.1.2, hMW.2.2.1.cells8.2.2.1.1, hMW.2.2.1.cells8.2.2.1.2, hMW.2.2.1.cells8.2.2.2.1, hMW.2.2.1.cells8.2.2.2.2, hMW.2.2.2.drew⟩ (fun hS => ?_)
        refine take_at (i := 0) (d := some 67) (v := .pointer (some ⟨bP + 1, 0, none⟩)) (by kernel_rfl) (by kernel_rfl) (by kernel_rfl) (by kernel_rfl) (fun _ _ _ h => h) ?_ hS ?_
        · intro o ho
          simp only [List.getElem?_toArray, List.getElem?_cons_zero, Option.some.injEq] at ho
          subst ho
          refine Or.inl ⟨by rfl, ?_⟩
          intro w hSw
          (try dsimp only at hSw)
          go_simp
        simp only [Act.put, List.setIfInBounds_toArray, List.set_cons_zero, List.set_cons_succ]
        refine take_at (i := 1) (d := some 68) (v := .agg #[.float .f64 ex, .float .f64 ey]) (by kernel_rfl) (by kernel_rfl) (by kernel_rfl) (by kernel_rfl) (fun _ _ _ h => h) ?_ hS ?_
        · intro o ho
          simp only [List.getElem?_toArray, List.getElem?_cons_succ, List.getElem?_cons_zero, Option.some.injEq] at ho
          subst ho
          refine Or.inl ⟨by rfl, ?_⟩
          intro w hSw
          (try dsimp only at hSw)
          go_simp
        simp only [Act.put, List.setIfInBounds_toArray, List.set_cons_zero, List.set_cons_succ]
        refine take_at (i := 2) (d := some 69) (v := .pointer (some ⟨bP + 1, 2, none⟩)) (by kernel_rfl) (by kernel_rfl) (by kernel_rfl) (by kernel_rfl) (fun _ _ _ h => h) ?_ hS ?_
        · intro o ho
          simp only [List.getElem?_toArray, List.getElem?_cons_succ, List.getElem?_cons_zero, Option.some.injEq] at ho
          subst ho
          refine Or.inl ⟨by rfl, ?_⟩
          intro w hSw
          (try dsimp only at hSw)
          go_simp
        simp only [Act.put, List.setIfInBounds_toArray, List.set_cons_zero, List.set_cons_succ]
        refine take_at (i := 3) (d := some 70) (v := .agg #[.float .f64 fx, .float .f64 fy]) (by kernel_rfl) (by kernel_rfl) (by kernel_rfl) (by kernel_rfl) (fun _ _ _ h => h) ?_ hS ?_
        · intro o ho
          simp only [List.getElem?_toArray, List.getElem?_cons_succ, List.getElem?_cons_zero, Option.some.injEq] at ho
          subst ho
          refine Or.inl ⟨by rfl, ?_⟩
          intro w hSw
          (try dsimp only at hSw)
          go_simp
        simp only [Act.put, List.setIfInBounds_toArray, List.set_cons_zero, List.set_cons_succ]
        refine take_at (i := 4) (d := some 71) (v := .pointer (some ⟨bP + 1, 4, none⟩)) (by kernel_rfl) (by kernel_rfl) (by kernel_rfl) (by kernel_rfl) (fun _ _ _ h => h) ?_ hS ?_
        · intro o ho
          simp only [List.getElem?_toArray, List.getElem?_cons_succ, List.getElem?_cons_zero, Option.some.injEq] at ho
          subst ho
          refine Or.inl ⟨by rfl, ?_⟩
          intro w hSw
          (try dsimp only at hSw)
          go_simp
        simp only [Act.put, List.setIfInBounds_toArray, List.set_cons_zero, List.set_cons_succ]
        refine take_at (i := 5) (d := some 72) (v := .agg #[.float .f64 gx, .float .f64 gy]) (by kernel_rfl) (by kernel_rfl) (by kernel_rfl) (by kernel_rfl) (fun _ _ _ h => h) ?_ hS ?_
        · intro o ho
          simp only [List.getElem?_toArray, List.getElem?_cons_succ, List.getElem?_cons_zero, Option.some.injEq] at ho
          subst ho
          refine Or.inl ⟨by rfl, ?_⟩
          intro w hSw
          (try dsimp only at hSw)
          go_simp
        simp only [Act.put, List.setIfInBounds_toArray, List.set_cons_zero, List.set_cons_succ]
        refine take_at (i := 6) (d := some 73) (v := .pointer (some ⟨bP + 1, 6, none⟩)) (by kernel_rfl) (by kernel_rfl) (by kernel_rfl) (by kernel_rfl) (fun _ _ _ h => h) ?_ hS ?_
        · intro o ho
          simp only [List.getElem?_toArray, List.getElem?_cons_succ, List.getElem?_cons_zero, Option.some.injEq] at ho
          subst ho
          refine Or.inl ⟨by rfl, ?_⟩
          intro w hSw
          (try dsimp only at hSw)
          go_simp
        simp only [Act.put, List.setIfInBounds_toArray, List.set_cons_zero, List.set_cons_succ]
        refine take_at (i := 7) (d := some 74) (v := .agg #[.float .f64 hx, .float .f64 hy]) (by kernel_rfl) (by kernel_rfl) (by kernel_rfl) (by kernel_rfl) (fun _ _ _ h => h) ?_ hS ?_
        · intro o ho
          simp only [List.getElem?_toArray, List.getElem?_cons_succ, List.getElem?_cons_zero, Option.some.injEq] at ho
          subst ho
          refine Or.inl ⟨by rfl, ?_⟩
          intro w hSw
          (try dsimp only at hSw)
          go_simp
        simp only [Act.put, List.setIfInBounds_toArray, List.set_cons_zero, List.set_cons_succ]
        refine take_at (i := 9) (d := some 76) (v := .int .i64 z) (by kernel_rfl) (by kernel_rfl) (by kernel_rfl) (by kernel_rfl) (fun _ _ _ h => h) ?_ hS ?_
        · intro o ho
          simp only [List.getElem?_toArray, List.getElem?_cons_succ, List.getElem?_cons_zero, Option.some.injEq] at ho
          subst ho
          refine Or.inl ⟨by rfl, ?_⟩
          intro w hSw
          (try dsimp only at hSw)
          go_simp
        simp only [Act.put, List.setIfInBounds_toArray, List.set_cons_zero, List.set_cons_succ]
        refine call_at 8 (by kernel_rfl) (by kernel_rfl) ?_
        intro o ho
        simp only [List.getElem?_toArray, List.getElem?_cons_succ, List.getElem?_cons_zero, Option.some.injEq] at ho
        subst ho
        intro KF hK
        go_simp
        refine (sign4_is ex ey fx fy gx gy hx hy _ z HPQ.out.2.1 HZ'.out).mono ?_
        rintro e wx ⟨rfl, hbx⟩
        go_wp2_with fail
        refine hK.out _ _ ⟨box_cell hbx hS.1, box_cell hbx hS.2.1, box_cell hbx hS.2.2.1, box_cell hbx hS.2.2.2.1, box_cell hbx hS.2.2.2.2.1, box_cell hbx hS.2.2.2.2.2.1, box_cell hbx hS.2.2.2.2.2.2.1, box_cell hbx hS.2.2.2.2.2.2.2.1, box_cell hbx hS.2.2.2.2.2.2.2.2.1, box_cell hbx hS.2.2.2.2.2.2.2.2.2.1, box_cell hbx hS.2.2.2.2.2.2.2.2.2.2.1, box_cell hbx hS.2.2.2.2.2.2.2.2.2.2.2.1, box_cell hbx hS.2.2.2.2.2.2.2.2.2.2.2.2.1, box_cell hbx hS.2.2.2.2.2.2.2.2.2.2.2.2.2.1, box_cell hbx hS.2.2.2.2.2.2.2.2.2.2.2.2.2.2.1, box_cell hbx hS.2.2.2.2.2.2.2.2.2.2.2.2.2.2.2.1, below_step hS.2.2.2.2.2.2.2.2.2.2.2.2.2.2.2.2 hbx⟩ ?_
        clear hS hbx
        intro hS
        clear hK KF
        try simp only [Act.put, List.setIfInBounds_toArray, List.set_cons_zero, List.set_cons_succ]
        refine take_at (i := 10) (d := some 77) (v := .bool true) (by kernel_rfl) (by kernel_rfl) (by kernel_rfl) (by kernel_rfl) (fun _ _ _ h => h) ?_ hS ?_
        · intro o ho
          simp only [List.getElem?_toArray, List.getElem?_cons_succ, List.getElem?_cons_zero, Option.some.injEq] at ho
          subst ho
          refine Or.inl ⟨by rfl, ?_⟩
          intro w hSw
          (try dsimp only at hSw)
          go_simp
        simp only [Act.put, List.setIfInBounds_toArray, List.set_cons_zero, List.set_cons_succ]
        refine take_at (i := 11) (d := some 78) (v := .bool true) (by kernel_rfl) (by kernel_rfl) (by kernel_rfl) (by kernel_rfl) (fun _ _ _ h => h) ?_ hS ?_
        · intro o ho
          simp only [List.getElem?_toArray, List.getElem?_cons_succ, List.getElem?_cons_zero, Option.some.injEq] at ho
          subst ho
          refine Or.inl ⟨by rfl, ?_⟩
          intro w hSw
          (try dsimp only at hSw)
          go_simp
        simp only [Act.put, List.setIfInBounds_toArray, List.set_cons_zero, List.set_cons_succ]
        refine take_at (i := 12) (d := some 79) (v := .pointer (some ⟨bP, 0, none⟩)) (by kernel_rfl) (by kernel_rfl) (by kernel_rfl) (by kernel_rfl) (fun _ _ _ h => h) ?_ hS ?_
        · intro o ho
          simp only [List.getElem?_toArray, List.getElem?_cons_succ, List.getElem?_cons_zero, Option.some.injEq] at ho
          subst ho
          refine Or.inl ⟨by rfl, ?_⟩
          intro w hSw
          (try dsimp only at hSw)
          go_simp
        simp only [Act.put, List.setIfInBounds_toArray, List.set_cons_zero, List.set_cons_succ]
        refine take_at (i := 13) (d := some 80) (v := .agg #[.float .f64 ax, .float .f64 ay]) (by kernel_rfl) (by kernel_rfl) (by kernel_rfl) (by kernel_rfl) (fun _ _ _ h => h) ?_ hS ?_
        · intro o ho
          simp only [List.getElem?_toArray, List.getElem?_cons_succ, List.getElem?_cons_zero, Option.some.injEq] at ho
          subst ho
          refine Or.inl ⟨by rfl, ?_⟩
          intro w hSw
          (try dsimp only at hSw)
          go_simp
        simp only [Act.put, List.setIfInBounds_toArray, List.set_cons_zero, List.set_cons_succ]
        refine take_at (i := 14) (d := some 81) (v := .pointer (some ⟨bP, 2, none⟩)) (by kernel_rfl) (by kernel_rfl) (by kernel_rfl) (by kernel_rfl) (fun _ _ _ h => h) ?_ hS ?_
        · intro o ho
          simp only [List.getElem?_toArray, List.getElem?_cons_succ, List.getElem?_cons_zero, Option.some.injEq] at ho
          subst ho
          refine Or.inl ⟨by rfl, ?_⟩
          intro w hSw
          (try dsimp only at hSw)
          go_simp
        simp only [Act.put, List.setIfInBounds_toArray, List.set_cons_zero, List.set_cons_succ]
        refine take_at (i := 15) (d := some 82) (v := .agg #[.float .f64 bx, .float .f64 by']) (by kernel_rfl) (by kernel_rfl) (by kernel_rfl) (by kernel_rfl) (fun _ _ _ h => h) ?_ hS ?_
        · intro o ho
          simp only [List.getElem?_toArray, List.getElem?_cons_succ, List.getElem?_cons_zero, Option.some.injEq] at ho
          subst ho
          refine Or.inl ⟨by rfl, ?_⟩
          intro w hSw
          (try dsimp only at hSw)
          go_simp
        simp only [Act.put, List.setIfInBounds_toArray, List.set_cons_zero, List.set_cons_succ]
        refine take_at (i := 16) (d := some 83) (v := .pointer (some ⟨bP, 4, none⟩)) (by kernel_rfl) (by kernel_rfl) (by kernel_rfl) (by kernel_rfl) (fun _ _ _ h => h) ?_ hS ?_
        · intro o ho
          simp only [List.getElem?_toArray, List.getElem?_cons_succ, List.getElem?_cons_zero, Option.some.injEq] at ho
          subst ho
          refine Or.inl ⟨by rfl, ?_⟩
          intro w hSw
          (try dsimp only at hSw)
          go_simp
        simp only [Act.put, List.setIfInBounds_toArray, List.set_cons_zero, List.set_cons_succ]
        refine take_at (i := 17) (d := some 84) (v := .agg #[.float .f64 cx, .float .f64 cy]) (by kernel_rfl) (by kernel_rfl) (by kernel_rfl) (by kernel_rfl) (fun _ _ _ h => h) ?_ hS ?_
        · intro o ho
          simp only [List.getElem?_toArray, List.getElem?_cons_succ, List.getElem?_cons_zero, Option.some.injEq] at ho
          subst ho
          refine Or.inl ⟨by rfl, ?_⟩
          intro w hSw
          (try dsimp only at hSw)
          go_simp
        simp only [Act.put, List.setIfInBounds_toArray, List.set_cons_zero, List.set_cons_succ]
        refine take_at (i := 18) (d := some 85) (v := .pointer (some ⟨bP, 6, none⟩)) (by kernel_rfl) (by kernel_rfl) (by kernel_rfl) (by kernel_rfl) (fun _ _ _ h => h) ?_ hS ?_
        · intro o ho
          simp only [List.getElem?_toArray, List.getElem?_cons_succ, List.getElem?_cons_zero, Option.some.injEq] at ho
          subst ho
          refine Or.inl ⟨by rfl, ?_⟩
          intro w hSw
          (try dsimp only at hSw)
          go_simp
        simp only [Act.put, List.setIfInBounds_toArray, List.set_cons_zero, List.set_cons_succ]
        refine take_at (i := 19) (d := some 86) (v := .agg #[.float .f64 dx, .float .f64 dy]) (by kernel_rfl) (by kernel_rfl) (by kernel_rfl) (by kernel_rfl) (fun _ _ _ h => h) ?_ hS ?_
        · intro o ho
          simp only [List.getElem?_toArray, List.getElem?_cons_succ, List.getElem?_cons_zero, Option.some.injEq] at ho
          subst ho
          refine Or.inl ⟨by rfl, ?_⟩
          intro w hSw
          (try dsimp only at hSw)
          go_simp
        simp only [Act.put, List.setIfInBounds_toArray, List.set_cons_zero, List.set_cons_succ]
        refine take_at (i := 21) (d := some 88) (v := .pointer (some ⟨bP + 1, 0, none⟩)) (by kernel_rfl) (by kernel_rfl) (by kernel_rfl) (by kernel_rfl) (fun _ _ _ h => h) ?_ hS ?_
        · intro o ho
          simp only [List.getElem?_toArray, List.getElem?_cons_succ, List.getElem?_cons_zero, Option.some.injEq] at ho
          subst ho
          refine Or.inl ⟨by rfl, ?_⟩
          intro w hSw
          (try dsimp only at hSw)
          go_simp
        simp only [Act.put, List.setIfInBounds_toArray, List.set_cons_zero, List.set_cons_succ]
        refine take_at (i := 22) (d := some 89) (v := .agg #[.float .f64 ex, .float .f64 ey]) (by kernel_rfl) (by kernel_rfl) (by kernel_rfl) (by kernel_rfl) (fun _ _ _ h => h) ?_ hS ?_
        · intro o ho
          simp only [List.getElem?_toArray, List.getElem?_cons_succ, List.getElem?_cons_zero, Option.some.injEq] at ho
          subst ho
          refine Or.inl ⟨by rfl, ?_⟩
          intro w hSw
          (try dsimp only at hSw)
          go_simp
        simp only [Act.put, List.setIfInBounds_toArray, List.set_cons_zero, List.set_cons_succ]
        refine take_at (i := 23) (d := some 90) (v := .pointer (some ⟨bP + 1, 2, none⟩)) (by kernel_rfl) (by kernel_rfl) (by kernel_rfl) (by kernel_rfl) (fun _ _ _ h => h) ?_ hS ?_
        · intro o ho
          simp only [List.getElem?_toArray, List.getElem?_cons_succ, List.getElem?_cons_zero, Option.some.injEq] at ho
          subst ho
          refine Or.inl ⟨by rfl, ?_⟩
          intro w hSw
          (try dsimp only at hSw)
          go_simp
        simp only [Act.put, List.setIfInBounds_toArray, List.set_cons_zero, List.set_cons_succ]
        refine take_at (i := 24) (d := some 91) (v := .agg #[.float .f64 fx, .float .f64 fy]) (by kernel_rfl) (by kernel_rfl) (by kernel_rfl) (by kernel_rfl) (fun _ _ _ h => h) ?_ hS ?_
        · intro o ho
          simp only [List.getElem?_toArray, List.getElem?_cons_succ, List.getElem?_cons_zero, Option.some.injEq] at ho
          subst ho
          refine Or.inl ⟨by rfl, ?_⟩
          intro w hSw
          (try dsimp only at hSw)
          go_simp
        simp only [Act.put, List.setIfInBounds_toArray, List.set_cons_zero, List.set_cons_succ]
        refine take_at (i := 25) (d := some 92) (v := .pointer (some ⟨bP + 1, 4, none⟩)) (by kernel_rfl) (by kernel_rfl) (by kernel_rfl) (by kernel_rfl) (fun _ _ _ h => h) ?_ hS ?_
        · intro o ho
          simp only [List.getElem?_toArray, List.getElem?_cons_succ, List.getElem?_cons_zero, Option.some.injEq] at ho
          subst ho
          refine Or.inl ⟨by rfl, ?_⟩
          intro w hSw
          (try dsimp only at hSw)
          go_simp
        simp only [Act.put, List.setIfInBounds_toArray, List.set_cons_zero, List.set_cons_succ]
        refine take_at (i := 26) (d := some 93) (v := .agg #[.float .f64 gx, .float .f64 gy]) (by kernel_rfl) (by kernel_rfl) (by kernel_rfl) (by kernel_rfl) (fun _ _ _ h => h) ?_ hS ?_
        · intro o ho
          simp only [List.getElem?_toArray, List.getElem?_cons_succ, List.getElem?_cons_zero, Option.some.injEq] at ho
          subst ho
          refine Or.inl ⟨by rfl, ?_⟩
          intro w hSw
          (try dsimp only at hSw)
          go_simp
        simp only [Act.put, List.setIfInBounds_toArray, List.set_cons_zero, List.set_cons_succ]
        refine take_at (i := 27) (d := some 94) (v := .pointer (some ⟨bP + 1, 6, none⟩)) (by kernel_rfl) (by kernel_rfl) (by kernel_rfl) (by kernel_rfl) (fun _ _ _ h => h) ?_ hS ?_
        · intro o ho
          simp only [List.getElem?_toArray, List.getElem?_cons_succ, List.getElem?_cons_zero, Option.some.injEq] at ho
          subst ho
          refine Or.inl ⟨by rfl, ?_⟩
          intro w hSw
          (try dsimp only at hSw)
          go_simp
        simp only [Act.put, List.setIfInBounds_toArray, List.set_cons_zero, List.set_cons_succ]
        refine take_at (i := 28) (d := some 95) (v := .agg #[.float .f64 hx, .float .f64 hy]) (by kernel_rfl) (by kernel_rfl) (by kernel_rfl) (by kernel_rfl) (fun _ _ _ h => h) ?_ hS ?_
        · intro o ho
          simp only [List.getElem?_toArray, List.getElem?_cons_succ, List.getElem?_cons_zero, Option.some.injEq] at ho
          subst ho
          refine Or.inl ⟨by rfl, ?_⟩
          intro w hSw
          (try dsimp only at hSw)
          go_simp
        simp only [Act.put, List.setIfInBounds_toArray, List.set_cons_zero, List.set_cons_succ]
        refine call_at 20 (by kernel_rfl) (by kernel_rfl) ?_
        intro o ho
        simp only [List.getElem?_toArray, List.getElem?_cons_succ, List.getElem?_cons_zero, Option.some.injEq] at ho
        subst ho
        intro KF hK
        go_simp
        refine (within_is ax ay bx by' cx cy dx dy _ tw HPQ.out.1.1 HTP.out).mono ?_
        rintro e wx ⟨rfl, hbx⟩
        go_wp2_with fail
        refine hK.out _ _ ⟨box_cell hbx hS.1, box_cell hbx hS.2.1, box_cell hbx hS.2.2.1, box_cell hbx hS.2.2.2.1, box_cell hbx hS.2.2.2.2.1, box_cell hbx hS.2.2.2.2.2.1, box_cell hbx hS.2.2.2.2.2.2.1, box_cell hbx hS.2.2.2.2.2.2.2.1, box_cell hbx hS.2.2.2.2.2.2.2.2.1, box_cell hbx hS.2.2.2.2.2.2.2.2.2.1, box_cell hbx hS.2.2.2.2.2.2.2.2.2.2.1, box_cell hbx hS.2.2.2.2.2.2.2.2.2.2.2.1, box_cell hbx hS.2.2.2.2.2.2.2.2.2.2.2.2.1, box_cell hbx hS.2.2.2.2.2.2.2.2.2.2.2.2.2.1, box_cell hbx hS.2.2.2.2.2.2.2.2.2.2.2.2.2.2.1, box_cell hbx hS.2.2.2.2.2.2.2.2.2.2.2.2.2.2.2.1, below_step hS.2.2.2.2.2.2.2.2.2.2.2.2.2.2.2.2 hbx⟩ ?_
        clear hS hbx
        intro hS
        clear hK KF
        try simp only [Act.put, List.setIfInBounds_toArray, List.set_cons_zero, List.set_cons_succ]
        refine call_at 29 (by kernel_rfl) (by kernel_rfl) ?_
        intro o ho
        simp only [List.getElem?_toArray, List.getElem?_cons_succ, List.getElem?_cons_zero, Option.some.injEq] at ho
        subst ho
        intro KF hK
        go_simp
        refine (within_is ex ey fx fy gx gy hx hy _ tw HPQ.out.2.1 HTQ.out).mono ?_
        rintro e wx ⟨rfl, hbx⟩
        go_wp2_with fail
        refine hK.out _ _ ⟨box_cell hbx hS.1, box_cell hbx hS.2.1, box_cell hbx hS.2.2.1, box_cell hbx hS.2.2.2.1, box_cell hbx hS.2.2.2.2.1, box_cell hbx hS.2.2.2.2.2.1, box_cell hbx hS.2.2.2.2.2.2.1, box_cell hbx hS.2.2.2.2.2.2.2.1, box_cell hbx hS.2.2.2.2.2.2.2.2.1, box_cell hbx hS.2.2.2.2.2.2.2.2.2.1, box_cell hbx hS.2.2.2.2.2.2.2.2.2.2.1, box_cell hbx hS.2.2.2.2.2.2.2.2.2.2.2.1, box_cell hbx hS.2.2.2.2.2.2.2.2.2.2.2.2.1, box_cell hbx hS.2.2.2.2.2.2.2.2.2.2.2.2.2.1, box_cell hbx hS.2.2.2.2.2.2.2.2.2.2.2.2.2.2.1, box_cell hbx hS.2.2.2.2.2.2.2.2.2.2.2.2.2.2.2.1, below_step hS.2.2.2.2.2.2.2.2.2.2.2.2.2.2.2.2 hbx⟩ ?_
        clear hS hbx
        intro hS
        clear hK KF
        try simp only [Act.put, List.setIfInBounds_toArray, List.set_cons_zero, List.set_cons_succ]
        refine take_at (i := 30) (d := some 97) (v := .bool true) (by kernel_rfl) (by kernel_rfl) (by kernel_rfl) (by kernel_rfl) (fun _ _ _ h => h) ?_ hS ?_
        · intro o ho
          simp only [List.getElem?_toArray, List.getElem?_cons_succ, List.getElem?_cons_zero, Option.some.injEq] at ho
          subst ho
          refine Or.inl ⟨by rfl, ?_⟩
          intro w hSw
          (try dsimp only at hSw)
          go_simp
        simp only [Act.put, List.setIfInBounds_toArray, List.set_cons_zero, List.set_cons_succ]
        refine take_at (i := 31) (d := some 98) (v := .bool true) (by kernel_rfl) (by kernel_rfl) (by kernel_rfl) (by kernel_rfl) (fun _ _ _ h => h) ?_ hS ?_
        · intro o ho
          simp only [List.getElem?_toArray, List.getElem?_cons_succ, List.getElem?_cons_zero, Option.some.injEq] at ho
          subst ho
          refine Or.inl ⟨by rfl, ?_⟩
          intro w hSw
          (try dsimp only at hSw)
          go_simp
        simp only [Act.put, List.setIfInBounds_toArray, List.set_cons_zero, List.set_cons_succ]
        refine take_at (i := 32) (d := some 10) (v := .bool true) (by kernel_rfl) (by kernel_rfl) (by kernel_rfl) (by kernel_rfl) (fun _ _ _ h => h) ?_ hS ?_
        · intro o ho
          simp only [List.getElem?_toArray, List.getElem?_cons_succ, List.getElem?_cons_zero, Option.some.injEq] at ho
          subst ho
          refine Or.inl ⟨by rfl, ?_⟩
          intro w hSw
          (try dsimp only at hSw)
          go_simp
        simp only [Act.put, List.setIfInBounds_toArray, List.set_cons_zero, List.set_cons_succ]
        refine wpAnyH_done (by kernel_rfl) ?_ _
        have HE : Hid (Below w.heap.size w _) := hS.2.2.2.2.2.2.2.2.2.2.2.2.2.2.2.2
        clear hS hMW
        go_wp2
        go_ret
        exact ⟨rfl, HE.out⟩
      · obtain ⟨z', hz'⟩ : ∃ z', Hid (-z = z') := ⟨_, rfl⟩
        have HZ' : Hid (sg4 ex ey fx fy gx gy hx hy = z') := by rw [HSG.out.1]; show -sg4 _ _ _ _ _ _ _ _ = z'; rw [hz.out, ← hz'.out]
        have HTQ : Hid (decide (0 < sg3 ex ey fx fy gx gy * sg4 ex ey fx fy gx gy hx hy) = tw) := by
          rw [HSG.out.1, HSG.out.2, ← HTP.out]
          show decide (0 < -sg3 _ _ _ _ _ _ * -sg4 _ _ _ _ _ _ _ _) = _
          rw [Int.neg_mul_neg]
        go_wp2_with fail
        rw [hz'.out]
        refine wp_region_held_drew (S := (fun W => W.cell? ⟨bP, 0, none⟩ = some (.float .f64 ax) ∧ W.cell? ⟨bP, 1, none⟩ = some (.float .f64 ay) ∧ W.cell? ⟨bP, 2, none⟩ = some (.float .f64 bx) ∧ W.cell? ⟨bP, 3, none⟩ = some (.float .f64 by') ∧ W.cell? ⟨bP, 4, none⟩ = some (.float .f64 cx) ∧ W.cell? ⟨bP, 5, none⟩ = some (.float .f64 cy) ∧ W.cell? ⟨bP, 6, none⟩ = some (.float .f64 dx) ∧ W.cell? ⟨bP, 7, none⟩ = some (.float .f64 dy) ∧ W.cell? ⟨bP + 1, 0, none⟩ = some (.float .f64 ex) ∧ W.cell? ⟨bP + 1, 1, none⟩ = some (.float .f64 ey) ∧ W.cell? ⟨bP + 1, 2, none⟩ = some (.float .f64 fx) ∧ W.cell? ⟨bP + 1, 3, none⟩ = some (.float .f64 fy) ∧ W.cell? ⟨bP + 1, 4, none⟩ = some (.float .f64 gx) ∧ W.cell? ⟨bP + 1, 5, none⟩ = some (.float .f64 gy) ∧ W.cell? ⟨bP + 1, 6, none⟩ = some (.float .f64 hx) ∧ W.cell? ⟨bP + 1, 7, none⟩ = some (.float .f64 hy) ∧ Below w.heap.size w W)) (by kernel_rfl) ⟨hMW.2.1.cells8.1.1, hMW.2.1.cells8.1.2, hMW.2.1.cells8.2.1.1, hMW.2.1.cells8.2.1.2, hMW.2.1.cells8.2.2.1.1, hMW.2.1.cells8.2.2.1.2, hMW.2.1.cells8.2.2.2.1, hMW.2.1.cells8.2.2.2.2, hMW.2.2.1.cells8.1.1, hMW.2.2.1.cells8.1.2, hMW.2.2.1.cells8.2.1.1, hMW.2.2.1.cells8.2.1.2, hMW.2.2.1.cells8.2.2.1.1, hMW.2.2.1.cells8.2.2.1.2, hMW.2.2.1.cells8.2.2.2.1, hMW.2.2.1.cells8.2.2.2.2, hMW.2.2.2.drew⟩ (fun hS => ?_)
        refine take_at (i := 0) (d := some 67) (v := .pointer (some ⟨bP + 1, 0, none⟩)) (by kernel_rfl) (by kernel_rfl) (by kernel_rfl) (by kernel_rfl) (fun _ _ _ h => h) ?_ hS ?_
        · intro o ho
          simp only [List.getElem?_toArray, List.getElem?_cons_zero, Option.some.injEq] at ho
          subst ho
          refine Or.inl ⟨by rfl, ?_⟩
          intro w hSw
          (try dsimp only at hSw)
          go_simp
        simp only [Act.put, List.setIfInBounds_toArray, List.set_cons_zero, List.set_cons_succ]
        refine take_at (i := 1) (d := some 68) (v := .agg #[.float .f64 ex, .float .f64 ey]) (by kernel_rfl) (by kernel_rfl) (by kernel_rfl) (by kernel_rfl) (fun _ _ _ h => h) ?_ hS ?_
        · intro o ho
          simp only [List.getElem?_toArray, List.getElem?_cons_succ, List.getElem?_cons_zero, Option.some.injEq] at ho
          subst ho
          refine Or.inl ⟨by rfl, ?_⟩
          intro w hSw
          (try dsimp only at hSw)
          go_simp
        simp only [Act.put, List.setIfInBounds_toArray, List.set_cons_zero, List.set_cons_succ]
        refine take_at (i := 2) (d := some 69) (v := .pointer (some ⟨bP + 1, 2, none⟩)) (by kernel_rfl) (by kernel_rfl) (by kernel_rfl) (by kernel_rfl) (fun _ _ _ h => h) ?_ hS ?_
        · intro o ho
          simp only [List.getElem?_toArray, List.getElem?_cons_succ, List.getElem?_cons_zero, Option.some.injEq] at ho
          subst ho
          refine Or.inl ⟨by rfl, ?_⟩
          intro w hSw
          (try dsimp only at hSw)
          go_simp
        simp only [Act.put, List.setIfInBounds_toArray, List.set_cons_zero, List.set_cons_succ]
        refine take_at (i := 3) (d := some 70) (v := .agg #[.float .f64 fx, .float .f64 fy]) (by kernel_rfl) (by kernel_rfl) (by kernel_rfl) (by kernel_rfl) (fun _ _ _ h => h) ?_ hS ?_
        · intro o ho
          simp only [List.getElem?_toArray, List.getElem?_cons_succ, List.getElem?_cons_zero, Option.some.injEq] at ho
          subst ho
          refine Or.inl ⟨by rfl, ?_⟩
          intro w hSw
          (try dsimp only at hSw)
          go_simp
        simp only [Act.put, List.setIfInBounds_toArray, List.set_cons_zero, List.set_cons_succ]
        refine take_at (i := 4) (d := some 71) (v := .pointer (some ⟨bP + 1, 4, none⟩)) (by kernel_rfl) (by kernel_rfl) (by kernel_rfl) (by kernel_rfl) (fun _ _ _ h => h) ?_ hS ?_
        · intro o ho
          simp only [List.getElem?_toArray, List.getElem?_cons_succ, List.getElem?_cons_zero, Option.some.injEq] at ho
          subst ho
          refine Or.inl ⟨by rfl, ?_⟩
          intro w hSw
          (try dsimp only at hSw)
          go_simp
        simp only [Act.put, List.setIfInBounds_toArray, List.set_cons_zero, List.set_cons_succ]
        refine take_at (i := 5) (d := some 72) (v := .agg #[.float .f64 gx, .float .f64 gy]) (by kernel_rfl) (by kernel_rfl) (by kernel_rfl) (by kernel_rfl) (fun _ _ _ h => h) ?_ hS ?_
        · intro o ho
          simp only [List.getElem?_toArray, List.getElem?_cons_succ, List.getElem?_cons_zero, Option.some.injEq] at ho
          subst ho
          refine Or.inl ⟨by rfl, ?_⟩
          intro w hSw
          (try dsimp only at hSw)
          go_simp
        simp only [Act.put, List.setIfInBounds_toArray, List.set_cons_zero, List.set_cons_succ]
        refine take_at (i := 6) (d := some 73) (v := .pointer (some ⟨bP + 1, 6, none⟩)) (by kernel_rfl) (by kernel_rfl) (by kernel_rfl) (by kernel_rfl) (fun _ _ _ h => h) ?_ hS ?_
        · intro o ho
          simp only [List.getElem?_toArray, List.getElem?_cons_succ, List.getElem?_cons_zero, Option.some.injEq] at ho
          subst ho
          refine Or.inl ⟨by rfl, ?_⟩
          intro w hSw
          (try dsimp only at hSw)
          go_simp
        simp only [Act.put, List.setIfInBounds_toArray, List.set_cons_zero, List.set_cons_succ]
        refine take_at (i := 7) (d := some 74) (v := .agg #[.float .f64 hx, .float .f64 hy]) (by kernel_rfl) (by kernel_rfl) (by kernel_rfl) (by kernel_rfl) (fun _ _ _ h => h) ?_ hS ?_
        · intro o ho
          simp only [List.getElem?_toArray, List.getElem?_cons_succ, List.getElem?_cons_zero, Option.some.injEq] at ho
          subst ho
          refine Or.inl ⟨by rfl, ?_⟩
          intro w hSw
          (try dsimp only at hSw)
          go_simp
        simp only [Act.put, List.setIfInBounds_toArray, List.set_cons_zero, List.set_cons_succ]
        refine take_at (i := 9) (d := some 76) (v := .int .i64 z') (by kernel_rfl) (by kernel_rfl) (by kernel_rfl) (by kernel_rfl) (fun _ _ _ h => h) ?_ hS ?_
        · intro o ho
          simp only [List.getElem?_toArray, List.getElem?_cons_succ, List.getElem?_cons_zero, Option.some.injEq] at ho
          subst ho
          refine Or.inl ⟨by rfl, ?_⟩
          intro w hSw
          (try dsimp only at hSw)
          go_simp
        simp only [Act.put, List.setIfInBounds_toArray, List.set_cons_zero, List.set_cons_succ]
        refine call_at 8 (by kernel_rfl) (by kernel_rfl) ?_
        intro o ho
        simp only [List.getElem?_toArray, List.getElem?_cons_succ, List.getElem?_cons_zero, Option.some.injEq] at ho
        subst ho
        intro KF hK
        go_simp
        refine (sign4_is ex ey fx fy gx gy hx hy _ z' HPQ.out.2.1 HZ'.out).mono ?_
        rintro e wx ⟨rfl, hbx⟩
        go_wp2_with fail
        refine hK.out _ _ ⟨box_cell hbx hS.1, box_cell hbx hS.2.1, box_cell hbx hS.2.2.1, box_cell hbx hS.2.2.2.1, box_cell hbx hS.2.2.2.2.1, box_cell hbx hS.2.2.2.2.2.1, box_cell hbx hS.2.2.2.2.2.2.1, box_cell hbx hS.2.2.2.2.2.2.2.1, box_cell hbx hS.2.2.2.2.2.2.2.2.1, box_cell hbx hS.2.2.2.2.2.2.2.2.2.1, box_cell hbx hS.2.2.2.2.2.2.2.2.2.2.1, box_cell hbx hS.2.2.2.2.2.2.2.2.2.2.2.1, box_cell hbx hS.2.2.2.2.2.2.2.2.2.2.2.2.1, box_cell hbx hS.2.2.2.2.2.2.2.2.2.2.2.2.2.1, box_cell hbx hS.2.2.2.2.2.2.2.2.2.2.2.2.2.2.1, box_cell hbx hS.2.2.2.2.2.2.2.2.2.2.2.2.2.2.2.1, below_step hS.2.2.2.2.2.2.2.2.2.2.2.2.2.2.2.2 hbx⟩ ?_
        clear hS hbx
        intro hS
        clear hK KF
        try simp only [Act.put, List.setIfInBounds_toArray, List.set_cons_zero, List.set_cons_succ]
        refine take_at (i := 10) (d := some 77) (v := .bool true) (by kernel_rfl) (by kernel_rfl) (by kernel_rfl) (by kernel_rfl) (fun _ _ _ h => h) ?_ hS ?_
        · intro o ho
          simp only [List.getElem?_toArray, List.getElem?_cons_succ, List.getElem?_cons_zero, Option.some.injEq] at ho
          subst ho
          refine Or.inl ⟨by rfl, ?_⟩
          intro w hSw
          (try dsimp only at hSw)
          go_simp
        simp only [Act.put, List.setIfInBounds_toArray, List.set_cons_zero, List.set_cons_succ]
        refine take_at (i := 11) (d := some 78) (v := .bool true) (by kernel_rfl) (by kernel_rfl) (by kernel_rfl) (by kernel_rfl) (fun _ _ _ h => h) ?_ hS ?_
        · intro o ho
          simp only [List.getElem?_toArray, List.getElem?_cons_succ, List.getElem?_cons_zero, Option.some.injEq] at ho
          subst ho
          refine Or.inl ⟨by rfl, ?_⟩
          intro w hSw
          (try dsimp only at hSw)
          go_simp
        simp only [Act.put, List.setIfInBounds_toArray, List.set_cons_zero, List.set_cons_succ]
        refine take_at (i := 12) (d := some 79) (v := .pointer (some ⟨bP, 0, none⟩)) (by kernel_rfl) (by kernel_rfl) (by kernel_rfl) (by kernel_rfl) (fun _ _ _ h => h) ?_ hS ?_
        · intro o ho
          simp only [List.getElem?_toArray, List.getElem?_cons_succ, List.getElem?_cons_zero, Option.some.injEq] at ho
          subst ho
          refine Or.inl ⟨by rfl, ?_⟩
          intro w hSw
          (try dsimp only at hSw)
          go_simp
        simp only [Act.put, List.setIfInBounds_toArray, List.set_cons_zero, List.set_cons_succ]
        refine take_at (i := 13) (d := some 80) (v := .agg #[.float .f64 ax, .float .f64 ay]) (by kernel_rfl) (by kernel_rfl) (by kernel_rfl) (by kernel_rfl) (fun _ _ _ h => h) ?_ hS ?_
        · intro o ho
          simp only [List.getElem?_toArray, List.getElem?_cons_succ, List.getElem?_cons_zero, Option.some.injEq] at ho
          subst ho
          refine Or.inl ⟨by rfl, ?_⟩
          intro w hSw
          (try dsimp only at hSw)
          go_simp
        simp only [Act.put, List.setIfInBounds_toArray, List.set_cons_zero, List.set_cons_succ]
        refine take_at (i := 14) (d := some 81) (v := .pointer (some ⟨bP, 2, none⟩)) (by kernel_rfl) (by kernel_rfl) (by kernel_rfl) (by kernel_rfl) (fun _ _ _ h => h) ?_ hS ?_
        · intro o ho
          simp only [List.getElem?_toArray, List.getElem?_cons_succ, List.getElem?_cons_zero, Option.some.injEq] at ho
          subst ho
          refine Or.inl ⟨by rfl, ?_⟩
          intro w hSw
          (try dsimp only at hSw)
          go_simp
        simp only [Act.put, List.setIfInBounds_toArray, List.set_cons_zero, List.set_cons_succ]
        refine take_at (i := 15) (d := some 82) (v := .agg #[.float .f64 bx, .float .f64 by']) (by kernel_rfl) (by kernel_rfl) (by kernel_rfl) (by kernel_rfl) (fun _ _ _ h => h) ?_ hS ?_
        · intro o ho
          simp only [List.getElem?_toArray, List.getElem?_cons_succ, List.getElem?_cons_zero, Option.some.injEq] at ho
          subst ho
          refine Or.inl ⟨by rfl, ?_⟩
          intro w hSw
          (try dsimp only at hSw)
          go_simp
        simp only [Act.put, List.setIfInBounds_toArray, List.set_cons_zero, List.set_cons_succ]
        refine take_at (i := 16) (d := some 83) (v := .pointer (some ⟨bP, 4, none⟩)) (by kernel_rfl) (by kernel_rfl) (by kernel_rfl) (by kernel_rfl) (fun _ _ _ h => h) ?_ hS ?_
        · intro o ho
          simp only [List.getElem?_toArray, List.getElem?_cons_succ, List.getElem?_cons_zero, Option.some.injEq] at ho
          subst ho
          refine Or.inl ⟨by rfl, ?_⟩
          intro w hSw
          (try dsimp only at hSw)
          go_simp
        simp only [Act.put, List.setIfInBounds_toArray, List.set_cons_zero, List.set_cons_succ]
        refine take_at (i := 17) (d := some 84) (v := .agg #[.float .f64 cx, .float .f64 cy]) (by kernel_rfl) (by kernel_rfl) (by kernel_rfl) (by kernel_rfl) (fun _ _ _ h => h) ?_ hS ?_
        · intro o ho
          simp only [List.getElem?_toArray, List.getElem?_cons_succ, List.getElem?_cons_zero, Option.some.injEq] at ho
          subst ho
          refine Or.inl ⟨by rfl, ?_⟩
          intro w hSw
          (try dsimp only at hSw)
          go_simp
        simp only [Act.put, List.setIfInBounds_toArray, List.set_cons_zero, List.set_cons_succ]
        refine take_at (i := 18) (d := some 85) (v := .pointer (some ⟨bP, 6, none⟩)) (by kernel_rfl) (by kernel_rfl) (by kernel_rfl) (by kernel_rfl) (fun _ _ _ h => h) ?_ hS ?_
        · intro o ho
          simp only [List.getElem?_toArray, List.getElem?_cons_succ, List.getElem?_cons_zero, Option.some.injEq] at ho
          subst ho
          refine Or.inl ⟨by rfl, ?_⟩
          intro w hSw
          (try dsimp only at hSw)
          go_simp
        simp only [Act.put, List.setIfInBounds_toArray, List.set_cons_zero, List.set_cons_succ]
        refine take_at (i := 19) (d := some 86) (v := .agg #[.float .f64 dx, .float .f64 dy]) (by kernel_rfl) (by kernel_rfl) (by kernel_rfl) (by kernel_rfl) (fun _ _ _ h => h) ?_ hS ?_
        · intro o ho
          simp only [List.getElem?_toArray, List.getElem?_cons_succ, List.getElem?_cons_zero, Option.some.injEq] at ho
          subst ho
          refine Or.inl ⟨by rfl, ?_⟩
          intro w hSw
          (try dsimp only at hSw)
          go_simp
        simp only [Act.put, List.setIfInBounds_toArray, List.set_cons_zero, List.set_cons_succ]
        refine take_at (i := 21) (d := some 88) (v := .pointer (some ⟨bP + 1, 0, none⟩)) (by kernel_rfl) (by kernel_rfl) (by kernel_rfl) (by kernel_rfl) (fun _ _ _ h => h) ?_ hS ?_
        · intro o ho
          simp only [List.getElem?_toArray, List.getElem?_cons_succ, List.getElem?_cons_zero, Option.some.injEq] at ho
          subst ho
          refine Or.inl ⟨by rfl, ?_⟩
          intro w hSw
          (try dsimp only at hSw)
          go_simp
        simp only [Act.put, List.setIfInBounds_toArray, List.set_cons_zero, List.set_cons_succ]
        refine take_at (i := 22) (d := some 89) (v := .agg #[.float .f64 ex, .float .f64 ey]) (by kernel_rfl) (by kernel_rfl) (by kernel_rfl) (by kernel_rfl) (fun _ _ _ h => h) ?_ hS ?_
        · intro o ho
          simp only [List.getElem?_toArray, List.getElem?_cons_succ, List.getElem?_cons_zero, Option.some.injEq] at ho
          subst ho
          refine Or.inl ⟨by rfl, ?_⟩
          intro w hSw
          (try dsimp only at hSw)
          go_simp
        simp only [Act.put, List.setIfInBounds_toArray, List.set_cons_zero, List.set_cons_succ]
        refine take_at (i := 23) (d := some 90) (v := .pointer (some ⟨bP + 1, 2, none⟩)) (by kernel_rfl) (by kernel_rfl) (by kernel_rfl) (by kernel_rfl) (fun _ _ _ h => h) ?_ hS ?_
        · intro o ho
          simp only [List.getElem?_toArray, List.getElem?_cons_succ, List.getElem?_cons_zero, Option.some.injEq] at ho
          subst ho
          refine Or.inl ⟨by rfl, ?_⟩
          intro w hSw
          (try dsimp only at hSw)
          go_simp
        simp only [Act.put, List.setIfInBounds_toArray, List.set_cons_zero, List.set_cons_succ]
        refine take_at (i := 24) (d := some 91) (v := .agg #[.float .f64 fx, .float .f64 fy]) (by kernel_rfl) (by kernel_rfl) (by kernel_rfl) (by kernel_rfl) (fun _ _ _ h => h) ?_ hS ?_
        · intro o ho
          simp only [List.getElem?_toArray, List.getElem?_cons_succ, List.getElem?_cons_zero, Option.some.injEq] at ho
          subst ho
          refine Or.inl ⟨by rfl, ?_⟩
          intro w hSw
          (try dsimp only at hSw)
          go_simp
        simp only [Act.put, List.setIfInBounds_toArray, List.set_cons_zero, List.set_cons_succ]
        refine take_at (i := 25) (d := some 92) (v := .pointer (some ⟨bP + 1, 4, none⟩)) (by kernel_rfl) (by kernel_rfl) (by kernel_rfl) (by kernel_rfl) (fun _ _ _ h => h) ?_ hS ?_
        · intro o ho
          simp only [List.getElem?_toArray, List.getElem?_cons_succ, List.getElem?_cons_zero, Option.some.injEq] at ho
          subst ho
          refine Or.inl ⟨by rfl, ?_⟩
          intro w hSw
          (try dsimp only at hSw)
          go_simp
        simp only [Act.put, List.setIfInBounds_toArray, List.set_cons_zero, List.set_cons_succ]
        refine take_at (i := 26) (d := some 93) (v := .agg #[.float .f64 gx, .float .f64 gy]) (by kernel_rfl) (by kernel_rfl) (by kernel_rfl) (by kernel_rfl) (fun _ _ _ h => h) ?_ hS ?_
        · intro o ho
          simp only [List.getElem?_toArray, List.getElem?_cons_succ, List.getElem?_cons_zero, Option.some.injEq] at ho
          subst ho
          refine Or.inl ⟨by rfl, ?_⟩
          intro w hSw
          (try dsimp only at hSw)
          go_simp
        simp only [Act.put, List.setIfInBounds_toArray, List.set_cons_zero, List.set_cons_succ]
        refine take_at (i := 27) (d := some 94) (v := .pointer (some ⟨bP + 1, 6, none⟩)) (by kernel_rfl) (by kernel_rfl) (by kernel_rfl) (by kernel_rfl) (fun _ _ _ h => h) ?_ hS ?_
        · intro o ho
          simp only [List.getElem?_toArray, List.getElem?_cons_succ, List.getElem?_cons_zero, Option.some.injEq] at ho
          subst ho
          refine Or.inl ⟨by rfl, ?_⟩
          intro w hSw
          (try dsimp only at hSw)
          go_simp
        simp only [Act.put, List.setIfInBounds_toArray, List.set_cons_zero, List.set_cons_succ]
        refine take_at (i := 28) (d := some 95) (v := .agg #[.float .f64 hx, .float .f64 hy]) (by kernel_rfl) (by kernel_rfl) (by kernel_rfl) (by kernel_rfl) (fun _ _ _ h => h) ?_ hS ?_
        · intro o ho
          simp only [List.getElem?_toArray, List.getElem?_cons_succ, List.getElem?_cons_zero, Option.some.injEq] at ho
          subst ho
          refine Or.inl ⟨by rfl, ?_⟩
          intro w hSw
          (try dsimp only at hSw)
          go_simp
        simp only [Act.put, List.setIfInBounds_toArray, List.set_cons_zero, List.set_cons_succ]
        refine call_at 20 (by kernel_rfl) (by kernel_rfl) ?_
        intro o ho
        simp only [List.getElem?_toArray, List.getElem?_cons_succ, List.getElem?_cons_zero, Option.some.injEq] at ho
        subst ho
        intro KF hK
        go_simp
        refine (within_is ax ay bx by' cx cy dx dy _ tw HPQ.out.1.1 HTP.out).mono ?_
        rintro e wx ⟨rfl, hbx⟩
        go_wp2_with fail
        refine hK.out _ _ ⟨box_cell hbx hS.1, box_cell hbx hS.2.1, box_cell hbx hS.2.2.1, box_cell hbx hS.2.2.2.1, box_cell hbx hS.2.2.2.2.1, box_cell hbx hS.2.2.2.2.2.1, box_cell hbx hS.2.2.2.2.2.2.1, box_cell hbx hS.2.2.2.2.2.2.2.1, box_cell hbx hS.2.2.2.2.2.2.2.2.1, box_cell hbx hS.2.2.2.2.2.2.2.2.2.1, box_cell hbx hS.2.2.2.2.2.2.2.2.2.2.1, box_cell hbx hS.2.2.2.2.2.2.2.2.2.2.2.1, box_cell hbx hS.2.2.2.2.2.2.2.2.2.2.2.2.1, box_cell hbx hS.2.2.2.2.2.2.2.2.2.2.2.2.2.1, box_cell hbx hS.2.2.2.2.2.2.2.2.2.2.2.2.2.2.1, box_cell hbx hS.2.2.2.2.2.2.2.2.2.2.2.2.2.2.2.1, below_step hS.2.2.2.2.2.2.2.2.2.2.2.2.2.2.2.2 hbx⟩ ?_
        clear hS hbx
        intro hS
        clear hK KF
        try simp only [Act.put, List.setIfInBounds_toArray, List.set_cons_zero, List.set_cons_succ]
        refine call_at 29 (by kernel_rfl) (by kernel_rfl) ?_
        intro o ho
        simp only [List.getElem?_toArray, List.getElem?_cons_succ, List.getElem?_cons_zero, Option.some.injEq] at ho
        subst ho
        intro KF hK
        go_simp
        refine (within_is ex ey fx fy gx gy hx hy _ tw HPQ.out.2.1 HTQ.out).mono ?_
        rintro e wx ⟨rfl, hbx⟩
        go_wp2_with fail
        refine hK.out _ _ ⟨box_cell hbx hS.1, box_cell hbx hS.2.1, box_cell hbx hS.2.2.1, box_cell hbx hS.2.2.2.1, box_cell hbx hS.2.2.2.2.1, box_cell hbx hS.2.2.2.2.2.1, box_cell hbx hS.2.2.2.2.2.2.1, box_cell hbx hS.2.2.2.2.2.2.2.1, box_cell hbx hS.2.2.2.2.2.2.2.2.1, box_cell hbx hS.2.2.2.2.2.2.2.2.2.1, box_cell hbx hS.2.2.2.2.2.2.2.2.2.2.1, box_cell hbx hS.2.2.2.2.2.2.2.2.2.2.2.1, box_cell hbx hS.2.2.2.2.2.2.2.2.2.2.2.2.1, box_cell hbx hS.2.2.2.2.2.2.2.2.2.2.2.2.2.1, box_cell hbx hS.2.2.2.2.2.2.2.2.2.2.2.2.2.2.1, box_cell hbx hS.2.2.2.2.2.2.2.2.2.2.2.2.2.2.2.1, below_step hS.2.2.2.2.2.2.2.2.2.2.2.2.2.2.2.2 hbx⟩ ?_
        clear hS hbx
        intro hS
        clear hK KF
        try simp only [Act.put, List.setIfInBounds_toArray, List.set_cons_zero, List.set_cons_succ]
        refine take_at (i := 30) (d := some 97) (v := .bool true) (by kernel_rfl) (by kernel_rfl) (by kernel_rfl) (by kernel_rfl) (fun _ _ _ h => h) ?_ hS ?_
        · intro o ho
          simp only [List.getElem?_toArray, List.getElem?_cons_succ, List.getElem?_cons_zero, Option.some.injEq] at ho
          subst ho
          refine Or.inl ⟨by rfl, ?_⟩
          intro w hSw
          (try dsimp only at hSw)
          go_simp
        simp only [Act.put, List.setIfInBounds_toArray, List.set_cons_zero, List.set_cons_succ]
        refine take_at (i := 31) (d := some 98) (v := .bool true) (by kernel_rfl) (by kernel_rfl) (by kernel_rfl) (by kernel_rfl) (fun _ _ _ h => h) ?_ hS ?_
        · intro o ho
          simp only [List.getElem?_toArray, List.getElem?_cons_succ, List.getElem?_cons_zero, Option.some.injEq] at ho
          subst ho
          refine Or.inl ⟨by rfl, ?_⟩
          intro w hSw
          (try dsimp only at hSw)
          go_simp
        simp only [Act.put, List.setIfInBounds_toArray, List.set_cons_zero, List.set_cons_succ]
        refine take_at (i := 32) (d := some 10) (v := .bool true) (by kernel_rfl) (by kernel_rfl) (by kernel_rfl) (by kernel_rfl) (fun _ _ _ h => h) ?_ hS ?_
        · intro o ho
          simp only [List.getElem?_toArray, List.getElem?_cons_succ, List.getElem?_cons_zero, Option.some.injEq] at ho
          subst ho
          refine Or.inl ⟨by rfl, ?_⟩
          intro w hSw
          (try dsimp only at hSw)
          go_simp
        simp only [Act.put, List.setIfInBounds_toArray, List.set_cons_zero, List.set_cons_succ]
        refine wpAnyH_done (by kernel_rfl) ?_ _
        have HE : Hid (Below w.heap.size w _) := hS.2.2.2.2.2.2.2.2.2.2.2.2.2.2.2.2
        clear hS hMW
        go_wp2
        go_ret
        exact ⟨rfl, HE.out⟩

end Go.Proofs.Ytghchejehlljkaa
