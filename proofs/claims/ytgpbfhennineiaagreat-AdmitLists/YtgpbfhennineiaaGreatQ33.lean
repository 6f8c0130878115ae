/- Own texts, put together: Co. -/
import Derived.Test.YtgpbfhennineiaaGreatQ4
import Derived.Test.YtgpbfhennineiaaGreatQ29
import Derived.Test.YtgpbfhennineiaaGreatQ32
/- The document's side of layer 5: Less, cross, Turn, Left. -/
namespace Go.Proofs.YtgpbfhennineiaaGreat
open Go.RowKit Go.Shelf
attribute [local go_sem] run_store_float
theorem fval_fit (x : Nat) (h : Fin64 x) : Fit (fval x) := by have := den_Fit x; rwa [den_fin h] at this
set_option maxRecDepth 100000 in
set_option maxHeartbeats 2000000 in
theorem less_any (x y : Nat) (w : World) (hx : x < 18446744073709551616) (hy : y < 18446744073709551616) (fx : Fin64 x) (fy : Fin64 y) :
   Calls Tryz.prog 65 #[.float .f64 x, .float .f64 y] w fun e w' => RfR w w' (fval x - fval y) e := by
 have H : Hid ((x < 18446744073709551616 ∧ y < 18446744073709551616) ∧ Fin64 x ∧ Fin64 y) := ⟨⟨hx, hy⟩, fx, fy⟩
 clear hx hy fx fy
 have HAL : Hid (Below w.heap.size w (w.alloc (.cells #[.int .i64 0, .slice none 0 0, .int .i64 0] 55))) := (Below.refl _ w).alloc (Nat.le_refl _) _
 go_enter Tryz.func65, Tryz.ntmps65
 go_wp2_with fail
 refine (refOf_any x _ H.out.1.1).mono ?_
 rintro e w1 ⟨v1, rfl, hr1, hb1⟩
 rw [den_fin H.out.2.1] at hr1
 have R1 : Hid (Rf w1 v1 (fval x)) := hr1
 have HB1 : Hid (Below w.heap.size w w1) := below_step HAL.out hb1
 have X1 : Hid (BoxN w1 w.heap.size 0 (.slice none 0 0) 0) := (BoxN.new w 0 0 _).later hb1
 clear hr1 hb1
 go_wp2_with fail
 refine (refOf_any y _ H.out.1.2).mono ?_
 rintro e w2 ⟨v2, rfl, hr2, hb2⟩
 rw [den_fin H.out.2.2] at hr2
 have R2 : Hid (Rf w2 v2 (fval y) ∧ Rf w2 v1 (fval x)) := ⟨hr2, R1.out.later hb2⟩
 have HB2 : Hid (Below w.heap.size w w2) := below_step HB1.out hb2
 have X2 : Hid (BoxN w2 w.heap.size 0 (.slice none 0 0) 0) := X1.out.later hb2
 clear hr2 hb2 R1 X1
 go_wp2_with fail
 refine (sub_rf _ _ (fval x) (fval y) _ R2.out.2 R2.out.1 (fval_fit x H.out.2.1) (fval_fit y H.out.2.2)).mono ?_
 rintro e w3 ⟨v3, rfl, hr3, hb3⟩
 obtain ⟨S3, a3, n3, c3, E3, rfl⟩ := hr3.agg
 have R3 : Hid (Rf w3 (.agg #[.int .i64 S3, .slice a3 n3 c3, .int .i64 E3]) (fval x - fval y)) := hr3
 have HB3 : Hid (Below w.heap.size w w3) := below_step HB2.out hb3
 have X3 : Hid (BoxN w3 w.heap.size 0 (.slice none 0 0) 0) := X2.out.later hb3
 clear hr3 hb3 R2 X2
 obtain ⟨t0, t1, t2, tf, _⟩ := X3.out.cells
 have tf0 := tf 0
 have tf1 := tf 1
 have tf2 := tf 2
 clear tf
 go_wp2
 have Y := (X3.out.set3 (S' := S3) (sv' := .slice a3 n3 c3) (E' := E3)).cells
 refine bodyPost_ret (v := .agg #[.int .i64 S3, .slice a3 n3 c3, .int .i64 E3]) (by simp [results, Tryz.results65, go_sem, Y.1, Y.2.1, Y.2.2.1]) rfl ?_
 refine ⟨_, rfl, R3.out.boxed (other_box X3.out) _ _ _, ?_⟩
 exact ((HB3.out.setCell (Nat.le_refl _) _).setCell (Nat.le_refl _) _).setCell (Nat.le_refl _) _
theorem fval_bd2 {x : Nat} (h : Fin64 x) : Bd 1024 (-1074) (fval x) := by have := den_fit x; rwa [den_fin h] at this
def MB (W W' : World) (g : Nat) : Prop := ∀ b, b ≠ g → W'.heap[b]? = W.heap[b]?
theorem mb3 (W : World) (b : Nat) (v0 v1 v2 : Value) : MB W (((W.setCell ⟨b, 0, none⟩ v0).setCell ⟨b, 1, none⟩ v1).setCell ⟨b, 2, none⟩ v2) b := fun g hn => by
 rw [Below.heap_setCell _ ⟨b, 2, none⟩ v2 g hn, Below.heap_setCell _ ⟨b, 1, none⟩ v1 g hn, Below.heap_setCell _ ⟨b, 0, none⟩ v0 g hn]
theorem Dig.mb {W W' : World} {v : Value} {S E : Int} {ds : List Nat} {b : Nat} (h : Dig W v S ds E) (ho : OtherRow W b) (hm : MB W W' b) : Dig W' v S ds E := by
 obtain ⟨⟨a, c, hv, hcap, hf⟩, h2, h3, h4, h5⟩ := h
 refine ⟨⟨a, c, hv, hcap, ?_⟩, h2, h3, h4, h5⟩
 rcases hf with hf | ⟨g, off, ha, hf, hr⟩
 · exact Or.inl hf
 · have hh := hm g (ho.apart hr)
   exact Or.inr ⟨g, off, ha, fun k hk => by rw [World.cell?_of_block (a := ⟨g, off + k, none⟩) hh]; exact hf k hk, hr.block hh⟩
theorem Rf.mb {W W' : World} {v : Value} {q : Rat} {b : Nat} (h : Rf W v q) (ho : OtherRow W b) (hm : MB W W' b) : Rf W' v q := by
 obtain ⟨S, ds, E, h1, h2, h3⟩ := h
 exact ⟨S, ds, E, h1.mb ho hm, h2, h3⟩
theorem CB.mb {W W' : World} {b g t : Nat} {cs : Array Value} (h : CB W g cs t) (hm : MB W W' b) (hn : g ≠ b) : CB W' g cs t := by
 unfold CB
 rw [hm g hn]; exact h
theorem CB.num {W : World} {b : Nat} {cs : Array Value} (h : CB W b cs 55) : OtherRow W b := ⟨_, _, _, h, by decide⟩
theorem Rf.drew {w : World} {v : Value} {q : Rat} (h : Rf w v q) : Rf w.drew v q := h.later (Below.refl _ w).drew
theorem B3.moved {w W W' : World} {ax ay bx by' cx cy g : Nat} (h : B3 w W ax ay bx by' cx cy) (hm : Moved W W' g) (hg : w.heap.size + 1 + 1 < g) : B3 w W' ax ay bx by' cx cy :=
 ⟨hm.cell _ _ _ (by omega) h.a0, hm.cell _ _ _ (by omega) h.a1, hm.cell _ _ _ (by omega) h.b0, hm.cell _ _ _ (by omega) h.b1, hm.cell _ _ _ (by omega) h.c0, hm.cell _ _ _ (by omega) h.c1, hm.bel _ _ (by omega) h.bel⟩
theorem B3.drew {w W : World} {ax ay bx by' cx cy : Nat} (h : B3 w W ax ay bx by' cx cy) : B3 w W.drew ax ay bx by' cx cy := ⟨h.a0, h.a1, h.b0, h.b1, h.c0, h.c1, h.bel.drew⟩
structure CX (w W : World) (v1 v2 v3 v4 : Value) (q1 q2 q3 q4 : Rat) : Prop where
 r1 : Rf W v1 q1
 r2 : Rf W v2 q2
 r3 : Rf W v3 q3
 r4 : Rf W v4 q4
 res : ∃ cs, CB W (w.heap.size + 1 + 1 + 1 + 1) cs 55 ∧ cs.size = 3
 bel : Below w.heap.size w W
theorem CX.later {w W W' : World} {v1 v2 v3 v4 : Value} {q1 q2 q3 q4 : Rat} (h : CX w W v1 v2 v3 v4 q1 q2 q3 q4) (hb : Below W.heap.size W W') : CX w W' v1 v2 v3 v4 q1 q2 q3 q4 :=
 ⟨h.r1.later hb, h.r2.later hb, h.r3.later hb, h.r4.later hb, by obtain ⟨cs, h1, h2⟩ := h.res; exact ⟨cs, h1.later hb, h2⟩, below_step h.bel hb⟩
theorem CX.drew {w W : World} {v1 v2 v3 v4 : Value} {q1 q2 q3 q4 : Rat} (h : CX w W v1 v2 v3 v4 q1 q2 q3 q4) : CX w W.drew v1 v2 v3 v4 q1 q2 q3 q4 :=
 ⟨h.r1.drew, h.r2.drew, h.r3.drew, h.r4.drew, by obtain ⟨cs, h1, h2⟩ := h.res; exact ⟨cs, h1.drew, h2⟩, h.bel.drew⟩
theorem bd_diff {x y : Nat} (hx : Fin64 x) (hy : Fin64 y) : Bd 1025 (-1074) (fval x - fval y) := (fval_bd2 hx).sub (fval_bd2 hy)
structure RT1 (w W : World) (ax ay bx by' cx cy : Nat) : Prop where
 pts : B3 w W ax ay bx by' cx cy
 res : CB W (w.heap.size + 1 + 1 + 1) #[.int .i64 0, .slice none 0 0, .int .i64 0] 55
theorem RT1.later {w W W' : World} {ax ay bx by' cx cy : Nat} (h : RT1 w W ax ay bx by' cx cy) (hb : Below W.heap.size W W') : RT1 w W' ax ay bx by' cx cy := ⟨h.pts.later hb, h.res.later hb⟩
theorem RT1.drew {w W : World} {ax ay bx by' cx cy : Nat} (h : RT1 w W ax ay bx by' cx cy) : RT1 w W.drew ax ay bx by' cx cy := ⟨h.pts.drew, h.res.drew⟩
theorem RT1.lt {w W : World} {ax ay bx by' cx cy : Nat} (h : RT1 w W ax ay bx by' cx cy) : w.heap.size + 1 + 1 + 1 < W.heap.size := h.res.lt
theorem RT1.boxed {w W W' : World} {ax ay bx by' cx cy g : Nat} (h : RT1 w W ax ay bx by' cx cy) (_ho : OtherRow W g) (hm : Moved W W' g) (_hmb : MB W W' g) (hl : w.heap.size + 1 + 1 + 1 < g) : RT1 w W' ax ay bx by' cx cy := ⟨h.pts.moved hm (by omega), hm.box _ _ _ (by omega) h.res⟩
structure RT2 (w W : World) (ax ay bx by' cx cy bb : Nat) (v : Value) (q : Rat) : Prop where
 one : RT1 w W ax ay bx by' cx cy
 box : ∃ S a n c E, v = .agg #[.int .i64 S, .slice a n c, .int .i64 E] ∧ CB W bb #[.int .i64 S, .slice a n c, .int .i64 E] 55
 num : Rf W v q
 low : w.heap.size + 1 + 1 + 1 < bb
theorem RT2.later {w W W' : World} {ax ay bx by' cx cy bb : Nat} {v : Value} {q : Rat} (h : RT2 w W ax ay bx by' cx cy bb v q) (hb : Below W.heap.size W W') : RT2 w W' ax ay bx by' cx cy bb v q := ⟨h.one.later hb, by obtain ⟨S, a, n, c, E, e, h⟩ := h.box; exact ⟨S, a, n, c, E, e, h.later hb⟩, h.num.later hb, h.low⟩
theorem RT2.drew {w W : World} {ax ay bx by' cx cy bb : Nat} {v : Value} {q : Rat} (h : RT2 w W ax ay bx by' cx cy bb v q) : RT2 w W.drew ax ay bx by' cx cy bb v q := ⟨h.one.drew, by obtain ⟨S, a, n, c, E, e, h⟩ := h.box; exact ⟨S, a, n, c, E, e, h.drew⟩, h.num.drew, h.low⟩
theorem RT2.lt {w W : World} {ax ay bx by' cx cy bb : Nat} {v : Value} {q : Rat} (h : RT2 w W ax ay bx by' cx cy bb v q) : bb < W.heap.size := by obtain ⟨S, a, n, c, E, e, h⟩ := h.box; exact h.lt
theorem RT2.boxed {w W W' : World} {ax ay bx by' cx cy bb g : Nat} {v : Value} {q : Rat} (h : RT2 w W ax ay bx by' cx cy bb v q) (ho : OtherRow W g) (hm : Moved W W' g) (hmb : MB W W' g) (hl : bb < g) : RT2 w W' ax ay bx by' cx cy bb v q := ⟨h.one.boxed ho hm hmb (by have := h.low; omega), by obtain ⟨S, a, n, c, E, e, h⟩ := h.box; exact ⟨S, a, n, c, E, e, hm.box _ _ _ (by omega) h⟩, h.num.mb ho hmb, h.low⟩
set_option maxRecDepth 100000 in
set_option maxHeartbeats 8000000 in
theorem turn_rf (ax ay bx by' cx cy : Nat) (w : World) (hw : W6 ax ay bx by' cx cy) (hp : P3 ax ay bx by' cx cy) :
   Calls Tryz.prog 40 #[pv ax ay, pv bx by', pv cx cy] w fun e w' => RfR w w' (S3 ax ay bx by' cx cy) e := by
 have HW : Hid (W6 ax ay bx by' cx cy) := hw
 have HP : Hid (P3 ax ay bx by' cx cy) := hp
 clear hw hp
 go_enter Tryz.func40, Tryz.ntmps40
 go_wp2_with fail
 have hS0 := B3.start w ax ay bx by' cx cy
 obtain ⟨W3, hW3⟩ : ∃ W3, W3 = ((w.alloc (.cells #[.float .f64 ax, .float .f64 ay] 32)).alloc (.cells #[.float .f64 bx, .float .f64 by'] 32)).alloc (.cells #[.float .f64 cx, .float .f64 cy] 32) := ⟨_, rfl⟩
 have hsz : W3.heap.size = w.heap.size + 1 + 1 + 1 := by rw [hW3]; simp
 rw [← hW3] at hS0 ⊢
 clear hW3
 obtain ⟨W0, hW0⟩ : ∃ W0, W0 = W3.alloc (.cells #[.int .i64 0, .slice none 0 0, .int .i64 0] 55) := ⟨_, rfl⟩
 have hc0 := CB.new W3 #[.int .i64 0, .slice none 0 0, .int .i64 0] 55
 rw [hsz, ← hW0] at hc0
 have hB0 : B3 w W0 ax ay bx by' cx cy := hS0.later (by rw [hW0]; exact (Below.refl _ W3).alloc (Nat.le_refl _) _)
 have HX0 : Hid (RT1 w W0 ax ay bx by' cx cy) := ⟨hB0, hc0⟩
 obtain ⟨z0, z1, z2, z3, z4, z5, _⟩ := hB0
 try rw [hsz]
 rw [← hW0]
 clear hW0 hS0 hc0 hsz
 refine wp_region_held_drew (S := (fun W => W.cell? ⟨w.heap.size, 0, none⟩ = some (.float .f64 ax) ∧ W.cell? ⟨w.heap.size, 1, none⟩ = some (.float .f64 ay) ∧ W.cell? ⟨w.heap.size + 1, 0, none⟩ = some (.float .f64 bx) ∧ W.cell? ⟨w.heap.size + 1, 1, none⟩ = some (.float .f64 by') ∧ W.cell? ⟨w.heap.size + 1 + 1, 0, none⟩ = some (.float .f64 cx) ∧ W.cell? ⟨w.heap.size + 1 + 1, 1, none⟩ = some (.float .f64 cy) ∧ RT1 w W ax ay bx by' cx cy)) (by kernel_rfl) ⟨z0, z1, z2, z3, z4, z5, HX0.out.drew⟩ (fun hS => ?_)
 refine takA (i := 0) (d := some 9) (v := .pointer (some ⟨w.heap.size + 1, 0, none⟩)) hS ?_
 simp only [AP]
 refine takA (i := 1) (d := some 10) (v := .float .f64 bx) hS ?_
 simp only [AP]
 refine takA (i := 2) (d := some 11) (v := .pointer (some ⟨w.heap.size, 0, none⟩)) hS ?_
 simp only [AP]
 refine takA (i := 3) (d := some 12) (v := .float .f64 ax) hS ?_
 simp only [AP]
 refine takA (i := 5) (d := some 14) (v := .pointer (some ⟨w.heap.size + 1 + 1, 1, none⟩)) hS ?_
 simp only [AP]
 refine takA (i := 6) (d := some 15) (v := .float .f64 cy) hS ?_
 simp only [AP]
 refine takA (i := 7) (d := some 16) (v := .pointer (some ⟨w.heap.size, 1, none⟩)) hS ?_
 simp only [AP]
 refine takA (i := 8) (d := some 17) (v := .float .f64 ay) hS ?_
 simp only [AP]
 clear z0 z1 z2 z3 z4 z5
 refine frame_named (fun A hA => ?_)
 refine draw1 (f := 1) (n := 3) (al := 11) (fun k => if k = 0 then 4 else if k = 1 then 9 else 10) (fun (x : Bool) (k : Nat) => #[true, true, true, true, decide (1 ≤ k), true, true, true, true, decide (2 ≤ k), decide (3 ≤ k), x, false]) (fun (x : Bool) (k : Nat) (aa : Act) (W : World) => ∃ (vb e1 e2 e3 : Value) (bb : Nat), aa = ((((A.put (some 7) vb).put (some 13) e1).put (some 18) e2).put (some 19) e3) ∧ (W.cell? ⟨w.heap.size, 0, none⟩ = some (.float .f64 ax) ∧ W.cell? ⟨w.heap.size, 1, none⟩ = some (.float .f64 ay) ∧ W.cell? ⟨w.heap.size + 1, 0, none⟩ = some (.float .f64 bx) ∧ W.cell? ⟨w.heap.size + 1, 1, none⟩ = some (.float .f64 by') ∧ W.cell? ⟨w.heap.size + 1 + 1, 0, none⟩ = some (.float .f64 cx) ∧ W.cell? ⟨w.heap.size + 1 + 1, 1, none⟩ = some (.float .f64 cy) ∧ RT1 w W ax ay bx by' cx cy) ∧ (x = true → vb = .pointer (some ⟨bb, 0, none⟩) ∧ CB W bb #[.int .i64 0, .slice none 0 0, .int .i64 0] 55 ∧ w.heap.size + 1 + 1 + 1 < bb) ∧ (1 ≤ k → Rf W e1 (fval bx - fval ax)) ∧ (2 ≤ k → Rf W e2 (fval cy - fval ay)) ∧ (3 ≤ k → Rf W e3 ((fval bx - fval ax) * (fval cy - fval ay)))) ?_ ?_ ?_ ?_ ?_ ?_ 4 false 0 _ _ (by omega) (by decide) ?_
 · intro x k hk hx
   have h5 : k = 0 ∨ k = 1 ∨ k = 2 ∨ k = 3 := by omega
   rcases h5 with rfl | rfl | rfl | rfl <;> cases x <;> first | exact absurd (hx rfl) (by decide) | (show _ = _; kernel_rfl)
 · intro x k hk
   have h5 : k = 0 ∨ k = 1 ∨ k = 2 := by omega
   rcases h5 with rfl | rfl | rfl <;> cases x <;> rfl
 · intro k hk
   have h5 : k = 0 ∨ k = 1 ∨ k = 2 ∨ k = 3 := by omega
   rcases h5 with rfl | rfl | rfl | rfl <;> rfl
 · intro x k hk
   have h5 : k = 0 ∨ k = 1 ∨ k = 2 := by omega
   rcases h5 with rfl | rfl | rfl
   · refine ⟨_, rfl, ?_⟩
     intro aa W hI K' hK
     obtain ⟨vb, e1, e2, e3, bb, rfl, hS, hv, k1, k2, k3⟩ := hI
     have HV : Hid (x = true → vb = .pointer (some ⟨bb, 0, none⟩) ∧ CB W bb #[.int .i64 0, .slice none 0 0, .int .i64 0] 55 ∧ w.heap.size + 1 + 1 + 1 < bb) := hv
     clear hv k1 k2 k3
     rw [hA]
     simp only [AP]
     go_simp
     go_wp2_with fail
     refine (less_any bx ax _ HW.out.2.1.1 HW.out.1.1 (crd_fin HP.out.2.1.1.1) (crd_fin HP.out.1.1.1)).mono ?_
     rintro e wx ⟨vn, rfl, hrn, hb⟩
     have hS2 : wx.cell? ⟨w.heap.size, 0, none⟩ = some (.float .f64 ax) ∧ wx.cell? ⟨w.heap.size, 1, none⟩ = some (.float .f64 ay) ∧ wx.cell? ⟨w.heap.size + 1, 0, none⟩ = some (.float .f64 bx) ∧ wx.cell? ⟨w.heap.size + 1, 1, none⟩ = some (.float .f64 by') ∧ wx.cell? ⟨w.heap.size + 1 + 1, 0, none⟩ = some (.float .f64 cx) ∧ wx.cell? ⟨w.heap.size + 1 + 1, 1, none⟩ = some (.float .f64 cy) ∧ RT1 w wx ax ay bx by' cx cy := ⟨box_cell hb hS.1, box_cell hb hS.2.1, box_cell hb hS.2.2.1, box_cell hb hS.2.2.2.1, box_cell hb hS.2.2.2.2.1, box_cell hb hS.2.2.2.2.2.1, hS.2.2.2.2.2.2.later hb⟩
     go_wp2_with fail
     exact hK.out _ _ hS2 ⟨vb, vn, e2, e3, bb, by rw [hA]; rfl, hS2, fun h => ⟨(HV.out h).1, (HV.out h).2.1.later hb, (HV.out h).2.2⟩, fun _ => hrn, fun h => by omega, fun h => by omega⟩
   · refine ⟨_, rfl, ?_⟩
     intro aa W hI K' hK
     obtain ⟨vb, e1, e2, e3, bb, rfl, hS, hv, k1, k2, k3⟩ := hI
     have r1 := k1 (by omega)
     have HV : Hid (x = true → vb = .pointer (some ⟨bb, 0, none⟩) ∧ CB W bb #[.int .i64 0, .slice none 0 0, .int .i64 0] 55 ∧ w.heap.size + 1 + 1 + 1 < bb) := hv
     clear hv k1 k2 k3
     rw [hA]
     simp only [AP]
     go_simp
     go_wp2_with fail
     refine (less_any cy ay _ HW.out.2.2.2 HW.out.1.2 (crd_fin HP.out.2.2.2.1) (crd_fin HP.out.1.2.1)).mono ?_
     rintro e wx ⟨vn, rfl, hrn, hb⟩
     have hS2 : wx.cell? ⟨w.heap.size, 0, none⟩ = some (.float .f64 ax) ∧ wx.cell? ⟨w.heap.size, 1, none⟩ = some (.float .f64 ay) ∧ wx.cell? ⟨w.heap.size + 1, 0, none⟩ = some (.float .f64 bx) ∧ wx.cell? ⟨w.heap.size + 1, 1, none⟩ = some (.float .f64 by') ∧ wx.cell? ⟨w.heap.size + 1 + 1, 0, none⟩ = some (.float .f64 cx) ∧ wx.cell? ⟨w.heap.size + 1 + 1, 1, none⟩ = some (.float .f64 cy) ∧ RT1 w wx ax ay bx by' cx cy := ⟨box_cell hb hS.1, box_cell hb hS.2.1, box_cell hb hS.2.2.1, box_cell hb hS.2.2.2.1, box_cell hb hS.2.2.2.2.1, box_cell hb hS.2.2.2.2.2.1, hS.2.2.2.2.2.2.later hb⟩
     go_wp2_with fail
     exact hK.out _ _ hS2 ⟨vb, e1, vn, e3, bb, by rw [hA]; rfl, hS2, fun h => ⟨(HV.out h).1, (HV.out h).2.1.later hb, (HV.out h).2.2⟩, fun _ => r1.later hb, fun _ => hrn, fun h => by omega⟩
   · refine ⟨_, rfl, ?_⟩
     intro aa W hI K' hK
     obtain ⟨vb, e1, e2, e3, bb, rfl, hS, hv, k1, k2, k3⟩ := hI
     have r1 := k1 (by omega)
     have r2 := k2 (by omega)
     have HV : Hid (x = true → vb = .pointer (some ⟨bb, 0, none⟩) ∧ CB W bb #[.int .i64 0, .slice none 0 0, .int .i64 0] 55 ∧ w.heap.size + 1 + 1 + 1 < bb) := hv
     clear hv k1 k2 k3
     rw [hA]
     simp only [AP]
     go_simp
     go_wp2_with fail
     refine (mul_rf e1 e2 (fval bx - fval ax) (fval cy - fval ay) _ r1 r2 ((bd_diff (crd_fin HP.out.2.1.1.1) (crd_fin HP.out.1.1.1)).mono (by omega) (by omega)) ((bd_diff (crd_fin HP.out.2.2.2.1) (crd_fin HP.out.1.2.1)).mono (by omega) (by omega))).mono ?_
     rintro e wx ⟨vn, rfl, hrn, hb⟩
     have hS2 : wx.cell? ⟨w.heap.size, 0, none⟩ = some (.float .f64 ax) ∧ wx.cell? ⟨w.heap.size, 1, none⟩ = some (.float .f64 ay) ∧ wx.cell? ⟨w.heap.size + 1, 0, none⟩ = some (.float .f64 bx) ∧ wx.cell? ⟨w.heap.size + 1, 1, none⟩ = some (.float .f64 by') ∧ wx.cell? ⟨w.heap.size + 1 + 1, 0, none⟩ = some (.float .f64 cx) ∧ wx.cell? ⟨w.heap.size + 1 + 1, 1, none⟩ = some (.float .f64 cy) ∧ RT1 w wx ax ay bx by' cx cy := ⟨box_cell hb hS.1, box_cell hb hS.2.1, box_cell hb hS.2.2.1, box_cell hb hS.2.2.2.1, box_cell hb hS.2.2.2.2.1, box_cell hb hS.2.2.2.2.2.1, hS.2.2.2.2.2.2.later hb⟩
     go_wp2_with fail
     exact hK.out _ _ hS2 ⟨vb, e1, e2, vn, bb, by rw [hA]; rfl, hS2, fun h => ⟨(HV.out h).1, (HV.out h).2.1.later hb, (HV.out h).2.2⟩, fun _ => r1.later hb, fun _ => r2.later hb, fun _ => hrn⟩
 · intro k hk
   refine ⟨_, rfl, ?_⟩
   intro aa W hI K' hK
   obtain ⟨vb, e1, e2, e3, bb, rfl, hS, hv, k1, k2, k3⟩ := hI
   have HK : Hid ((1 ≤ k → Rf W e1 (fval bx - fval ax)) ∧ (2 ≤ k → Rf W e2 (fval cy - fval ay)) ∧ (3 ≤ k → Rf W e3 ((fval bx - fval ax) * (fval cy - fval ay)))) := ⟨k1, k2, k3⟩
   clear hv k1 k2 k3
   have hb : Below W.heap.size W (W.alloc (.cells #[.int .i64 0, .slice none 0 0, .int .i64 0] 55)) := (Below.refl _ W).alloc (Nat.le_refl _) _
   have hlt2 : w.heap.size + 1 + 1 + 1 < W.heap.size := hS.2.2.2.2.2.2.lt
   have hS2 : (fun W => W.cell? ⟨w.heap.size, 0, none⟩ = some (.float .f64 ax) ∧ W.cell? ⟨w.heap.size, 1, none⟩ = some (.float .f64 ay) ∧ W.cell? ⟨w.heap.size + 1, 0, none⟩ = some (.float .f64 bx) ∧ W.cell? ⟨w.heap.size + 1, 1, none⟩ = some (.float .f64 by') ∧ W.cell? ⟨w.heap.size + 1 + 1, 0, none⟩ = some (.float .f64 cx) ∧ W.cell? ⟨w.heap.size + 1 + 1, 1, none⟩ = some (.float .f64 cy) ∧ RT1 w W ax ay bx by' cx cy) (W.alloc (.cells #[.int .i64 0, .slice none 0 0, .int .i64 0] 55)) := ⟨box_cell hb hS.1, box_cell hb hS.2.1, box_cell hb hS.2.2.1, box_cell hb hS.2.2.2.1, box_cell hb hS.2.2.2.2.1, box_cell hb hS.2.2.2.2.2.1, hS.2.2.2.2.2.2.later hb⟩
   rw [hA]
   simp only [AP]
   go_simp
   go_wp2_with fail
   exact hK.out _ _ hS2 ⟨_, e1, e2, e3, W.heap.size, by rw [hA]; rfl, hS2, fun _ => ⟨rfl, CB.new W _ _, hlt2⟩, fun h => (HK.out.1 h).later hb, fun h => (HK.out.2.1 h).later hb, fun h => (HK.out.2.2 h).later hb⟩
 · intro aa W hI
   obtain ⟨vb, e1, e2, e3, bb, rfl, hS, hv, k1, k2, k3⟩ := hI
   obtain ⟨rfl, hc, hl⟩ := hv rfl
   have hR := k3 (by omega)
   clear hv k1 k2 k3
   obtain ⟨S7, a7, n7, c7, E7, rfl⟩ := hR.agg
   subst hA
   simp only [AP]
   have hO : OtherRow W bb := ⟨_, _, _, hc, by decide⟩
   have hm := moved3 W bb (.int .i64 S7) (.slice a7 n7 c7) (.int .i64 E7)
   have hmb := mb3 W bb (.int .i64 S7) (.slice a7 n7 c7) (.int .i64 E7)
   have hS2 : (fun W => W.cell? ⟨w.heap.size, 0, none⟩ = some (.float .f64 ax) ∧ W.cell? ⟨w.heap.size, 1, none⟩ = some (.float .f64 ay) ∧ W.cell? ⟨w.heap.size + 1, 0, none⟩ = some (.float .f64 bx) ∧ W.cell? ⟨w.heap.size + 1, 1, none⟩ = some (.float .f64 by') ∧ W.cell? ⟨w.heap.size + 1 + 1, 0, none⟩ = some (.float .f64 cx) ∧ W.cell? ⟨w.heap.size + 1 + 1, 1, none⟩ = some (.float .f64 cy) ∧ RT1 w W ax ay bx by' cx cy) (((W.setCell ⟨bb, 0, none⟩ (.int .i64 S7)).setCell ⟨bb, 1, none⟩ (.slice a7 n7 c7)).setCell ⟨bb, 2, none⟩ (.int .i64 E7)) := ⟨hm.cell _ _ _ (by omega) hS.1, hm.cell _ _ _ (by omega) hS.2.1, hm.cell _ _ _ (by omega) hS.2.2.1, hm.cell _ _ _ (by omega) hS.2.2.2.1, hm.cell _ _ _ (by omega) hS.2.2.2.2.1, hm.cell _ _ _ (by omega) hS.2.2.2.2.2.1, hS.2.2.2.2.2.2.boxed hO hm hmb hl⟩
   have hc2 := hc.set3 (.int .i64 S7) (.slice a7 n7 c7) (.int .i64 E7)
   have hR2 := hR.boxed hO (.int .i64 S7) (.slice a7 n7 c7) (.int .i64 E7)
   have f0 := hc.frozen 0
   have f1 := hc.frozen 1
   have f2 := hc.frozen 2
   obtain ⟨g0, g1, g2⟩ := hc.cells3
   refine calA 12 fun KF hK => ?_
   go_simp
   go_wp2_with fail
   refine hK.out _ _ hS2 ?_
   intro _
   clear hK KF f0 f1 f2 g0 g1 g2 hS hO hm hmb hc hR
   try simp only [List.setIfInBounds_toArray, List.set_cons_zero, List.set_cons_succ]
   refine wpAnyH_done (by kernel_rfl) ?_ _
   generalize ((W.setCell ⟨bb, 0, none⟩ (.int .i64 S7)).setCell ⟨bb, 1, none⟩ (.slice a7 n7 c7)).setCell ⟨bb, 2, none⟩ (.int .i64 E7) = WL at *
   have HX1 : Hid (RT2 w WL ax ay bx by' cx cy bb (.agg #[.int .i64 S7, .slice a7 n7 c7, .int .i64 E7]) ((fval bx - fval ax) * (fval cy - fval ay))) := ⟨hS2.2.2.2.2.2.2, ⟨_, _, _, _, _, rfl, hc2⟩, hR2, hl⟩
   have z0 := hS2.1
   have z1 := hS2.2.1
   have z2 := hS2.2.2.1
   have z3 := hS2.2.2.2.1
   have z4 := hS2.2.2.2.2.1
   have z5 := hS2.2.2.2.2.2.1
   clear hS2 hc2 hR2 hl
   go_wp2_with fail
   refine wp_region_held_drew (S := (fun W => W.cell? ⟨w.heap.size, 0, none⟩ = some (.float .f64 ax) ∧ W.cell? ⟨w.heap.size, 1, none⟩ = some (.float .f64 ay) ∧ W.cell? ⟨w.heap.size + 1, 0, none⟩ = some (.float .f64 bx) ∧ W.cell? ⟨w.heap.size + 1, 1, none⟩ = some (.float .f64 by') ∧ W.cell? ⟨w.heap.size + 1 + 1, 0, none⟩ = some (.float .f64 cx) ∧ W.cell? ⟨w.heap.size + 1 + 1, 1, none⟩ = some (.float .f64 cy) ∧ RT2 w W ax ay bx by' cx cy bb (.agg #[.int .i64 S7, .slice a7 n7 c7, .int .i64 E7]) ((fval bx - fval ax) * (fval cy - fval ay)))) (by kernel_rfl) ⟨z0, z1, z2, z3, z4, z5, HX1.out.drew⟩ (fun hS => ?_)
   refine takA (i := 0) (d := some 20) (v := .pointer (some ⟨w.heap.size + 1, 1, none⟩)) hS ?_
   simp only [AP]
   refine takA (i := 1) (d := some 21) (v := .float .f64 by') hS ?_
   simp only [AP]
   refine takA (i := 2) (d := some 22) (v := .pointer (some ⟨w.heap.size, 1, none⟩)) hS ?_
   simp only [AP]
   refine takA (i := 3) (d := some 23) (v := .float .f64 ay) hS ?_
   simp only [AP]
   refine takA (i := 5) (d := some 25) (v := .pointer (some ⟨w.heap.size + 1 + 1, 0, none⟩)) hS ?_
   simp only [AP]
   refine takA (i := 6) (d := some 26) (v := .float .f64 cx) hS ?_
   simp only [AP]
   refine takA (i := 7) (d := some 27) (v := .pointer (some ⟨w.heap.size, 0, none⟩)) hS ?_
   simp only [AP]
   refine takA (i := 8) (d := some 28) (v := .float .f64 ax) hS ?_
   simp only [AP]
   clear z0 z1 z2 z3 z4 z5
   refine frame_named (fun A hA => ?_)
   refine draw1 (f := 1) (n := 3) (al := 11) (fun k => if k = 0 then 4 else if k = 1 then 9 else 10) (fun (x : Bool) (k : Nat) => #[true, true, true, true, decide (1 ≤ k), true, true, true, true, decide (2 ≤ k), decide (3 ≤ k), x, false]) (fun (x : Bool) (k : Nat) (aa : Act) (W : World) => ∃ (vb e1 e2 e3 : Value) (bc : Nat), aa = ((((A.put (some 8) vb).put (some 24) e1).put (some 29) e2).put (some 30) e3) ∧ (W.cell? ⟨w.heap.size, 0, none⟩ = some (.float .f64 ax) ∧ W.cell? ⟨w.heap.size, 1, none⟩ = some (.float .f64 ay) ∧ W.cell? ⟨w.heap.size + 1, 0, none⟩ = some (.float .f64 bx) ∧ W.cell? ⟨w.heap.size + 1, 1, none⟩ = some (.float .f64 by') ∧ W.cell? ⟨w.heap.size + 1 + 1, 0, none⟩ = some (.float .f64 cx) ∧ W.cell? ⟨w.heap.size + 1 + 1, 1, none⟩ = some (.float .f64 cy) ∧ RT2 w W ax ay bx by' cx cy bb (.agg #[.int .i64 S7, .slice a7 n7 c7, .int .i64 E7]) ((fval bx - fval ax) * (fval cy - fval ay))) ∧ (x = true → vb = .pointer (some ⟨bc, 0, none⟩) ∧ CB W bc #[.int .i64 0, .slice none 0 0, .int .i64 0] 55 ∧ bb < bc) ∧ (1 ≤ k → Rf W e1 (fval by' - fval ay)) ∧ (2 ≤ k → Rf W e2 (fval cx - fval ax)) ∧ (3 ≤ k → Rf W e3 ((fval by' - fval ay) * (fval cx - fval ax)))) ?_ ?_ ?_ ?_ ?_ ?_ 4 false 0 _ _ (by omega) (by decide) ?_
   · intro x k hk hx
     have h5 : k = 0 ∨ k = 1 ∨ k = 2 ∨ k = 3 := by omega
     rcases h5 with rfl | rfl | rfl | rfl <;> cases x <;> first | exact absurd (hx rfl) (by decide) | (show _ = _; kernel_rfl)
   · intro x k hk
     have h5 : k = 0 ∨ k = 1 ∨ k = 2 := by omega
     rcases h5 with rfl | rfl | rfl <;> cases x <;> rfl
   · intro k hk
     have h5 : k = 0 ∨ k = 1 ∨ k = 2 ∨ k = 3 := by omega
     rcases h5 with rfl | rfl | rfl | rfl <;> rfl
   · intro x k hk
     have h5 : k = 0 ∨ k = 1 ∨ k = 2 := by omega
     rcases h5 with rfl | rfl | rfl
     · refine ⟨_, rfl, ?_⟩
       intro aa W hI K' hK
       obtain ⟨vb, e1, e2, e3, bc, rfl, hS, hv, k1, k2, k3⟩ := hI
       have HV : Hid (x = true → vb = .pointer (some ⟨bc, 0, none⟩) ∧ CB W bc #[.int .i64 0, .slice none 0 0, .int .i64 0] 55 ∧ bb < bc) := hv
       clear hv k1 k2 k3
       rw [hA]
       simp only [AP]
       go_simp
       go_wp2_with fail
       refine (less_any by' ay _ HW.out.2.1.2 HW.out.1.2 (crd_fin HP.out.2.1.2.1) (crd_fin HP.out.1.2.1)).mono ?_
       rintro e wx ⟨vn, rfl, hrn, hb⟩
       have hS2 : wx.cell? ⟨w.heap.size, 0, none⟩ = some (.float .f64 ax) ∧ wx.cell? ⟨w.heap.size, 1, none⟩ = some (.float .f64 ay) ∧ wx.cell? ⟨w.heap.size + 1, 0, none⟩ = some (.float .f64 bx) ∧ wx.cell? ⟨w.heap.size + 1, 1, none⟩ = some (.float .f64 by') ∧ wx.cell? ⟨w.heap.size + 1 + 1, 0, none⟩ = some (.float .f64 cx) ∧ wx.cell? ⟨w.heap.size + 1 + 1, 1, none⟩ = some (.float .f64 cy) ∧ RT2 w wx ax ay bx by' cx cy bb (.agg #[.int .i64 S7, .slice a7 n7 c7, .int .i64 E7]) ((fval bx - fval ax) * (fval cy - fval ay)) := ⟨box_cell hb hS.1, box_cell hb hS.2.1, box_cell hb hS.2.2.1, box_cell hb hS.2.2.2.1, box_cell hb hS.2.2.2.2.1, box_cell hb hS.2.2.2.2.2.1, hS.2.2.2.2.2.2.later hb⟩
       go_wp2_with fail
       exact hK.out _ _ hS2 ⟨vb, vn, e2, e3, bc, by rw [hA]; rfl, hS2, fun h => ⟨(HV.out h).1, (HV.out h).2.1.later hb, (HV.out h).2.2⟩, fun _ => hrn, fun h => by omega, fun h => by omega⟩
     · refine ⟨_, rfl, ?_⟩
       intro aa W hI K' hK
       obtain ⟨vb, e1, e2, e3, bc, rfl, hS, hv, k1, k2, k3⟩ := hI
       have r1 := k1 (by omega)
       have HV : Hid (x = true → vb = .pointer (some ⟨bc, 0, none⟩) ∧ CB W bc #[.int .i64 0, .slice none 0 0, .int .i64 0] 55 ∧ bb < bc) := hv
       clear hv k1 k2 k3
       rw [hA]
       simp only [AP]
       go_simp
       go_wp2_with fail
       refine (less_any cx ax _ HW.out.2.2.1 HW.out.1.1 (crd_fin HP.out.2.2.1.1) (crd_fin HP.out.1.1.1)).mono ?_
       rintro e wx ⟨vn, rfl, hrn, hb⟩
       have hS2 : wx.cell? ⟨w.heap.size, 0, none⟩ = some (.float .f64 ax) ∧ wx.cell? ⟨w.heap.size, 1, none⟩ = some (.float .f64 ay) ∧ wx.cell? ⟨w.heap.size + 1, 0, none⟩ = some (.float .f64 bx) ∧ wx.cell? ⟨w.heap.size + 1, 1, none⟩ = some (.float .f64 by') ∧ wx.cell? ⟨w.heap.size + 1 + 1, 0, none⟩ = some (.float .f64 cx) ∧ wx.cell? ⟨w.heap.size + 1 + 1, 1, none⟩ = some (.float .f64 cy) ∧ RT2 w wx ax ay bx by' cx cy bb (.agg #[.int .i64 S7, .slice a7 n7 c7, .int .i64 E7]) ((fval bx - fval ax) * (fval cy - fval ay)) := ⟨box_cell hb hS.1, box_cell hb hS.2.1, box_cell hb hS.2.2.1, box_cell hb hS.2.2.2.1, box_cell hb hS.2.2.2.2.1, box_cell hb hS.2.2.2.2.2.1, hS.2.2.2.2.2.2.later hb⟩
       go_wp2_with fail
       exact hK.out _ _ hS2 ⟨vb, e1, vn, e3, bc, by rw [hA]; rfl, hS2, fun h => ⟨(HV.out h).1, (HV.out h).2.1.later hb, (HV.out h).2.2⟩, fun _ => r1.later hb, fun _ => hrn, fun h => by omega⟩
     · refine ⟨_, rfl, ?_⟩
       intro aa W hI K' hK
       obtain ⟨vb, e1, e2, e3, bc, rfl, hS, hv, k1, k2, k3⟩ := hI
       have r1 := k1 (by omega)
       have r2 := k2 (by omega)
       have HV : Hid (x = true → vb = .pointer (some ⟨bc, 0, none⟩) ∧ CB W bc #[.int .i64 0, .slice none 0 0, .int .i64 0] 55 ∧ bb < bc) := hv
       clear hv k1 k2 k3
       rw [hA]
       simp only [AP]
       go_simp
       go_wp2_with fail
       refine (mul_rf e1 e2 (fval by' - fval ay) (fval cx - fval ax) _ r1 r2 ((bd_diff (crd_fin HP.out.2.1.2.1) (crd_fin HP.out.1.2.1)).mono (by omega) (by omega)) ((bd_diff (crd_fin HP.out.2.2.1.1) (crd_fin HP.out.1.1.1)).mono (by omega) (by omega))).mono ?_
       rintro e wx ⟨vn, rfl, hrn, hb⟩
       have hS2 : wx.cell? ⟨w.heap.size, 0, none⟩ = some (.float .f64 ax) ∧ wx.cell? ⟨w.heap.size, 1, none⟩ = some (.float .f64 ay) ∧ wx.cell? ⟨w.heap.size + 1, 0, none⟩ = some (.float .f64 bx) ∧ wx.cell? ⟨w.heap.size + 1, 1, none⟩ = some (.float .f64 by') ∧ wx.cell? ⟨w.heap.size + 1 + 1, 0, none⟩ = some (.float .f64 cx) ∧ wx.cell? ⟨w.heap.size + 1 + 1, 1, none⟩ = some (.float .f64 cy) ∧ RT2 w wx ax ay bx by' cx cy bb (.agg #[.int .i64 S7, .slice a7 n7 c7, .int .i64 E7]) ((fval bx - fval ax) * (fval cy - fval ay)) := ⟨box_cell hb hS.1, box_cell hb hS.2.1, box_cell hb hS.2.2.1, box_cell hb hS.2.2.2.1, box_cell hb hS.2.2.2.2.1, box_cell hb hS.2.2.2.2.2.1, hS.2.2.2.2.2.2.later hb⟩
       go_wp2_with fail
       exact hK.out _ _ hS2 ⟨vb, e1, e2, vn, bc, by rw [hA]; rfl, hS2, fun h => ⟨(HV.out h).1, (HV.out h).2.1.later hb, (HV.out h).2.2⟩, fun _ => r1.later hb, fun _ => r2.later hb, fun _ => hrn⟩
   · intro k hk
     refine ⟨_, rfl, ?_⟩
     intro aa W hI K' hK
     obtain ⟨vb, e1, e2, e3, bc, rfl, hS, hv, k1, k2, k3⟩ := hI
     have HK : Hid ((1 ≤ k → Rf W e1 (fval by' - fval ay)) ∧ (2 ≤ k → Rf W e2 (fval cx - fval ax)) ∧ (3 ≤ k → Rf W e3 ((fval by' - fval ay) * (fval cx - fval ax)))) := ⟨k1, k2, k3⟩
     clear hv k1 k2 k3
     have hb : Below W.heap.size W (W.alloc (.cells #[.int .i64 0, .slice none 0 0, .int .i64 0] 55)) := (Below.refl _ W).alloc (Nat.le_refl _) _
     have hlt2 : bb < W.heap.size := hS.2.2.2.2.2.2.lt
     have hS2 : (fun W => W.cell? ⟨w.heap.size, 0, none⟩ = some (.float .f64 ax) ∧ W.cell? ⟨w.heap.size, 1, none⟩ = some (.float .f64 ay) ∧ W.cell? ⟨w.heap.size + 1, 0, none⟩ = some (.float .f64 bx) ∧ W.cell? ⟨w.heap.size + 1, 1, none⟩ = some (.float .f64 by') ∧ W.cell? ⟨w.heap.size + 1 + 1, 0, none⟩ = some (.float .f64 cx) ∧ W.cell? ⟨w.heap.size + 1 + 1, 1, none⟩ = some (.float .f64 cy) ∧ RT2 w W ax ay bx by' cx cy bb (.agg #[.int .i64 S7, .slice a7 n7 c7, .int .i64 E7]) ((fval bx - fval ax) * (fval cy - fval ay))) (W.alloc (.cells #[.int .i64 0, .slice none 0 0, .int .i64 0] 55)) := ⟨box_cell hb hS.1, box_cell hb hS.2.1, box_cell hb hS.2.2.1, box_cell hb hS.2.2.2.1, box_cell hb hS.2.2.2.2.1, box_cell hb hS.2.2.2.2.2.1, hS.2.2.2.2.2.2.later hb⟩
     rw [hA]
     simp only [AP]
     go_simp
     go_wp2_with fail
     exact hK.out _ _ hS2 ⟨_, e1, e2, e3, W.heap.size, by rw [hA]; rfl, hS2, fun _ => ⟨rfl, CB.new W _ _, hlt2⟩, fun h => (HK.out.1 h).later hb, fun h => (HK.out.2.1 h).later hb, fun h => (HK.out.2.2 h).later hb⟩
   · intro aa W hI
     obtain ⟨vb, e1, e2, e3, bc, rfl, hS, hv, k1, k2, k3⟩ := hI
     obtain ⟨rfl, hc, hl⟩ := hv rfl
     have hR := k3 (by omega)
     clear hv k1 k2 k3
     obtain ⟨S8, a8, n8, c8, E8, rfl⟩ := hR.agg
     subst hA
     simp only [AP]
     have hlow := hS.2.2.2.2.2.2.low
     have hO : OtherRow W bc := ⟨_, _, _, hc, by decide⟩
     have hm := moved3 W bc (.int .i64 S8) (.slice a8 n8 c8) (.int .i64 E8)
     have hmb := mb3 W bc (.int .i64 S8) (.slice a8 n8 c8) (.int .i64 E8)
     have hS2 : (fun W => W.cell? ⟨w.heap.size, 0, none⟩ = some (.float .f64 ax) ∧ W.cell? ⟨w.heap.size, 1, none⟩ = some (.float .f64 ay) ∧ W.cell? ⟨w.heap.size + 1, 0, none⟩ = some (.float .f64 bx) ∧ W.cell? ⟨w.heap.size + 1, 1, none⟩ = some (.float .f64 by') ∧ W.cell? ⟨w.heap.size + 1 + 1, 0, none⟩ = some (.float .f64 cx) ∧ W.cell? ⟨w.heap.size + 1 + 1, 1, none⟩ = some (.float .f64 cy) ∧ RT2 w W ax ay bx by' cx cy bb (.agg #[.int .i64 S7, .slice a7 n7 c7, .int .i64 E7]) ((fval bx - fval ax) * (fval cy - fval ay))) (((W.setCell ⟨bc, 0, none⟩ (.int .i64 S8)).setCell ⟨bc, 1, none⟩ (.slice a8 n8 c8)).setCell ⟨bc, 2, none⟩ (.int .i64 E8)) := ⟨hm.cell _ _ _ (by omega) hS.1, hm.cell _ _ _ (by omega) hS.2.1, hm.cell _ _ _ (by omega) hS.2.2.1, hm.cell _ _ _ (by omega) hS.2.2.2.1, hm.cell _ _ _ (by omega) hS.2.2.2.2.1, hm.cell _ _ _ (by omega) hS.2.2.2.2.2.1, hS.2.2.2.2.2.2.boxed hO hm hmb hl⟩
     have hc2 := hc.set3 (.int .i64 S8) (.slice a8 n8 c8) (.int .i64 E8)
     have hR2 := hR.boxed hO (.int .i64 S8) (.slice a8 n8 c8) (.int .i64 E8)
     have f0 := hc.frozen 0
     have f1 := hc.frozen 1
     have f2 := hc.frozen 2
     obtain ⟨g0, g1, g2⟩ := hc.cells3
     refine calA 12 fun KF hK => ?_
     go_simp
     go_wp2_with fail
     refine hK.out _ _ hS2 ?_
     intro _
     clear hK KF f0 f1 f2 g0 g1 g2 hS hO hm hmb hc hR
     try simp only [List.setIfInBounds_toArray, List.set_cons_zero, List.set_cons_succ]
     refine wpAnyH_done (by kernel_rfl) ?_ _
     generalize ((W.setCell ⟨bc, 0, none⟩ (.int .i64 S8)).setCell ⟨bc, 1, none⟩ (.slice a8 n8 c8)).setCell ⟨bc, 2, none⟩ (.int .i64 E8) = WL at *
     have HE : Hid (RT2 w WL ax ay bx by' cx cy bb (.agg #[.int .i64 S7, .slice a7 n7 c7, .int .i64 E7]) ((fval bx - fval ax) * (fval cy - fval ay)) ∧ (CB WL bc #[.int .i64 S8, .slice a8 n8 c8, .int .i64 E8] 55 ∧ Rf WL (.agg #[.int .i64 S8, .slice a8 n8 c8, .int .i64 E8]) ((fval by' - fval ay) * (fval cx - fval ax))) ∧ bb < bc) := ⟨hS2.2.2.2.2.2.2, ⟨hc2, hR2⟩, hl⟩
     clear hS2 hc2 hR2 hl
     obtain ⟨S7', a7', n7', c7', E7', e7, hc7⟩ := HE.out.1.box
     cases e7
     obtain ⟨t0, t1, t2⟩ := hc7.cells3
     obtain ⟨t3, t4, t5⟩ := HE.out.2.1.1.cells3
     go_wp2_with fail
     refine (sub_rf (.agg #[.int .i64 S7, .slice a7 n7 c7, .int .i64 E7]) (.agg #[.int .i64 S8, .slice a8 n8 c8, .int .i64 E8]) ((fval bx - fval ax) * (fval cy - fval ay)) ((fval by' - fval ay) * (fval cx - fval ax)) _ HE.out.1.num HE.out.2.1.2 ((((bd_diff (crd_fin HP.out.2.1.1.1) (crd_fin HP.out.1.1.1))).mul ((bd_diff (crd_fin HP.out.2.2.2.1) (crd_fin HP.out.1.2.1)))).mono (by omega) (by omega)) ((((bd_diff (crd_fin HP.out.2.1.2.1) (crd_fin HP.out.1.2.1))).mul ((bd_diff (crd_fin HP.out.2.2.1.1) (crd_fin HP.out.1.1.1)))).mono (by omega) (by omega))).mono ?_
     rintro e wz ⟨v9, rfl, hr9, hb9⟩
     obtain ⟨S9, a9, n9, c9, E9, rfl⟩ := hr9.agg
     have hc := HE.out.1.one.res.later hb9
     have hbel : Below w.heap.size w wz := below_step HE.out.1.one.pts.bel hb9
     have f0 := hc.frozen 0
     have f1 := hc.frozen 1
     have f2 := hc.frozen 2
     obtain ⟨g0, g1, g2⟩ := hc.cells3
     have HF : Hid (CB wz (w.heap.size + 1 + 1 + 1) #[.int .i64 0, .slice none 0 0, .int .i64 0] 55 ∧ Rf wz (.agg #[.int .i64 S9, .slice a9 n9 c9, .int .i64 E9]) (S3 ax ay bx by' cx cy) ∧ Below w.heap.size w wz) := ⟨hc, hr9, hbel⟩
     clear hr9 hb9 hc hbel t0 t1 t2 t3 t4 t5 hc7
     go_wp2
     have hO := HF.out.1.num
     have hm := moved3 wz (w.heap.size + 1 + 1 + 1) (.int .i64 S9) (.slice a9 n9 c9) (.int .i64 E9)
     have hmb := mb3 wz (w.heap.size + 1 + 1 + 1) (.int .i64 S9) (.slice a9 n9 c9) (.int .i64 E9)
     obtain ⟨x0, x1, x2⟩ := (HF.out.1.set3 (.int .i64 S9) (.slice a9 n9 c9) (.int .i64 E9)).cells3
     refine bodyPost_ret (v := .agg #[.int .i64 S9, .slice a9 n9 c9, .int .i64 E9]) (by simp [results, Tryz.results40, go_sem, x0, x1, x2]) rfl ?_
     exact ⟨_, rfl, HF.out.2.1.mb hO hmb, hm.bel _ _ (by omega) HF.out.2.2⟩
   · exact ⟨undef, undef, undef, undef, 0, by rw [hA]; rfl, hS, fun h => Bool.noConfusion h, fun h => by omega, fun h => by omega, fun h => by omega⟩
 · exact ⟨undef, undef, undef, undef, 0, by rw [hA]; rfl, hS, fun h => Bool.noConfusion h, fun h => by omega, fun h => by omega, fun h => by omega⟩
end Go.Proofs.YtgpbfhennineiaaGreat
