/- Own texts, put together: Ac. -/
import Derived.Test.YtgpbfhennineiaaGreatQ4
import Derived.Test.YtgpbfhennineiaaGreatQ5
import Derived.Test.YtgpbfhennineiaaGreatQ32
import Derived.Sort.Grow
/- Package admit: two points held against each other. -/
namespace Go.Proofs.YtgpbfhennineiaaGreat
open Go.RowKit Go.Shelf Go.Sort
attribute [local go_sem ↓] Go.wp_at_zero Go.wp_at_succ
attribute [local go_sem] run_store_float
def GrW (w W : World) : Prop := ∃ q os, W = grow (w.drewN q) os
theorem GrW.refl (w : World) : GrW w w := ⟨0, #[], by rw [grow_empty]; rfl⟩
theorem GrW.alloc {w W : World} (h : GrW w W) (o : Obj) : GrW w (W.alloc o) := by
 obtain ⟨q, os, rfl⟩ := h
 exact ⟨q, os ++ #[o], by rw [alloc_eq_grow, grow_grow]⟩
theorem GrW.drew {w W : World} (h : GrW w W) : GrW w W.drew := by
 obtain ⟨q, os, rfl⟩ := h
 exact ⟨q + 1, os, rfl⟩
theorem GrW.trans {w W V : World} (h : GrW w W) (h' : GrW W V) : GrW w V := by
 obtain ⟨q, os, rfl⟩ := h
 obtain ⟨q', os', rfl⟩ := h'
 refine ⟨q + q', os ++ os', ?_⟩
 show grow (grow ((w.drewN q).drewN q') os) os' = _
 rw [grow_grow]
 congr 1
 simp [World.drewN, Nat.add_assoc]
theorem GrW.below {w W : World} (h : GrW w W) : Below w.heap.size w W := by
 obtain ⟨q, os, rfl⟩ := h
 refine ⟨rfl, rfl, rfl, by simp [grow, World.drewN], fun k hk => ?_⟩
 show (w.heap ++ os)[k]? = _
 rw [Array.getElem?_append_left hk]
theorem keepG {w W : World} {q1 q2 q3 q4 : Addr} {x1 x2 x3 x4 : Value} (h : W.cell? q1 = some x1 ∧ W.cell? q2 = some x2 ∧ W.cell? q3 = some x3 ∧ W.cell? q4 = some x4 ∧ GrW w W) (o : Obj) : (W.alloc o).cell? q1 = some x1 ∧ (W.alloc o).cell? q2 = some x2 ∧ (W.alloc o).cell? q3 = some x3 ∧ (W.alloc o).cell? q4 = some x4 ∧ GrW w (W.alloc o) :=
 have hb : Below W.heap.size W (W.alloc o) := (Below.refl _ W).alloc (Nat.le_refl _) _
 ⟨box_cell hb h.1, box_cell hb h.2.1, box_cell hb h.2.2.1, box_cell hb h.2.2.2.1, h.2.2.2.2.alloc o⟩
theorem order_ltF {a b : Nat} (fa : Fin64 a) (fb : Fin64 b) (h : fval a < fval b) : FloatKind.f64.format.order a b = some .lt := by rw [order_val fa fb, if_pos h]
theorem order_eqF {a b : Nat} (fa : Fin64 a) (fb : Fin64 b) (h : fval a = fval b) : FloatKind.f64.format.order a b = some .eq := by rw [order_val fa fb, if_neg (by rw [h]; exact Rat.lt_irrefl), if_pos h]
theorem order_gtF {a b : Nat} (fa : Fin64 a) (fb : Fin64 b) (h : fval b < fval a) : FloatKind.f64.format.order a b = some .gt := by rw [order_val fa fb, if_neg (by grind), if_neg (by grind)]
def cmpQ (p q : Rat) : Int := if p < q then -1 else if q < p then 1 else 0
theorem hold_is (p q : Nat × Nat) : hold p q = if cmpQ (fval p.1) (fval q.1) ≠ 0 then cmpQ (fval p.1) (fval q.1) else cmpQ (fval p.2) (fval q.2) := by
 unfold hold cmpQ
 by_cases h1 : fval p.1 < fval q.1
 · simp [h1]
 · by_cases h2 : fval q.1 < fval p.1
   · simp [h1, h2]
   · simp [h1, h2]
theorem isNaN64_any (b : Nat) (h : Fin64 b) (w : World) : Calls Tryz.prog 57 #[.float .f64 b] w fun e w' => e = .returned (.bool false) ∧ w' = w := by
 have o := order_eqF h h rfl
 clear h
 go_enter Tryz.func57, Tryz.ntmps57
 go_wp2
 go_ret
 exact ⟨rfl, rfl⟩
set_option maxHeartbeats 1000000 in
theorem compare64_any (a b : Nat) (fa : Fin64 a) (fb : Fin64 b) (w : World) : Calls Tryz.prog 36 #[.float .f64 a, .float .f64 b] w fun e w' => e = .returned (.int .i64 (cmpQ (fval a) (fval b))) ∧ w' = w := by
 have H : Hid (Fin64 a ∧ Fin64 b) := ⟨fa, fb⟩
 obtain ⟨z, hz⟩ : ∃ z, Hid (cmpQ (fval a) (fval b) = z) := ⟨_, rfl⟩
 rw [hz.out]
 have key : (FloatKind.f64.format.order a b = some .lt ∧ z = -1) ∨ (FloatKind.f64.format.order a b = some .gt ∧ z = 1) ∨ (FloatKind.f64.format.order a b = some .eq ∧ z = 0) := by
   rw [← hz.out]
   unfold cmpQ
   by_cases h1 : fval a < fval b
   · exact Or.inl ⟨order_ltF fa fb h1, by rw [if_pos h1]⟩
   · by_cases h2 : fval b < fval a
     · exact Or.inr (Or.inl ⟨order_gtF fa fb h2, by rw [if_neg h1, if_pos h2]⟩)
     · exact Or.inr (Or.inr ⟨order_eqF fa fb (by grind), by rw [if_neg h1, if_neg h2]⟩)
 clear fa fb hz
 rcases key with ⟨o, rfl⟩ | ⟨o, rfl⟩ | ⟨o, rfl⟩
 all_goals
   go_enter Tryz.func36, Tryz.ntmps36
   go_wp2_with fail
   refine (isNaN64_any a H.out.1 _).mono ?_
   rintro e w1 ⟨rfl, rfl⟩
   go_wp2_with fail
   refine (isNaN64_any b H.out.2 _).mono ?_
   rintro e w1 ⟨rfl, rfl⟩
   go_wp2
   go_ret
   exact ⟨rfl, rfl⟩
def orI (a b : Int) : Int := if a ≠ 0 then a else b
set_option maxHeartbeats 1000000 in
theorem or2_any (g : Nat) (a b : Int) (w : World) (h0 : w.cell? ⟨g, 0, none⟩ = some (.int .i64 a)) (h1 : w.cell? ⟨g, 1, none⟩ = some (.int .i64 b)) :
   Calls Tryz.prog 20 #[.slice (some ⟨g, 0, none⟩) 2 2] w fun e w' => e = .returned (.int .i64 (orI a b)) ∧ w' = w := by
 obtain ⟨z, hz⟩ : ∃ z, Hid (orI a b = z) := ⟨_, rfl⟩
 rw [hz.out]
 go_enter Tryz.func20, Tryz.ntmps20
 go_wp2
 go_loopw [8] (fun i wr => ∃ k : Nat, k ≤ 2 ∧ i = .int .i64 (k : Nat) ∧ wr = w ∧ Hid ((0 < k → a = 0) ∧ (1 < k → b = 0))) (fun i _ => 2 - (intOf i).toNat)
 case atStart => exact ⟨0, by omega, rfl, rfl, fun h => by omega, fun h => by omega⟩
 case round =>
   obtain ⟨k, hk, rfl, rfl, hB⟩ := hrel
   have : k = 0 ∨ k = 1 ∨ k = 2 := by omega
   rcases this with rfl | rfl | rfl
   · by_cases ha : a = 0
     · subst ha
       go_wp2
       refine ⟨⟨1, by omega, by go_num, by trivial, fun _ => by trivial, fun h => by omega⟩, by simp [intOf]⟩
     · have HA : Hid (a ≠ 0) := ha
       go_wp2
       go_ret
       exact ⟨by rw [← hz.out]; unfold orI; rw [if_pos HA.out]; rfl, rfl⟩
   · have ha : a = 0 := hB.out.1 (by omega)
     subst ha
     by_cases hb : b = 0
     · subst hb
       go_wp2
       refine ⟨⟨2, by omega, by go_num, by trivial, fun _ => by trivial, fun _ => by trivial⟩, by simp [intOf]⟩
     · have HA : Hid (b ≠ 0) := hb
       go_wp2
       go_ret
       exact ⟨by rw [← hz.out]; unfold orI; rw [if_neg (by simp)]; rfl, rfl⟩
   · have HA : Hid (a = 0) := hB.out.1 (by omega)
     have HB : Hid (b = 0) := hB.out.2 (by omega)
     go_wp2
     go_ret
     exact ⟨by rw [← hz.out, HA.out, HB.out]; rfl, rfl⟩
set_option maxRecDepth 100000 in
set_option maxHeartbeats 2000000 in
theorem held_any (px py qx qy : Nat) (fp : Fin64 px ∧ Fin64 py) (fq : Fin64 qx ∧ Fin64 qy) (w : World) : Calls Tryz.prog 21 #[pv px py, pv qx qy] w fun e w' => e = .returned (.int .i64 (hold (px, py) (qx, qy))) ∧ GrW w w' := by
 have HF : Hid (Fin64 px ∧ Fin64 py ∧ Fin64 qx ∧ Fin64 qy) := ⟨fp.1, fp.2, fq.1, fq.2⟩
 rw [hold_is]
 obtain ⟨z1, hz1⟩ : ∃ z, Hid (cmpQ (fval px) (fval qx) = z) := ⟨_, rfl⟩
 obtain ⟨z2, hz2⟩ : ∃ z, Hid (cmpQ (fval py) (fval qy) = z) := ⟨_, rfl⟩
 show Calls _ _ _ _ fun e w' => e = .returned (.int .i64 (orI (cmpQ (fval px) (fval qx)) (cmpQ (fval py) (fval qy)))) ∧ GrW w w'
 rw [hz1.out, hz2.out]
 clear fp fq
 go_enter Tryz.func21, Tryz.ntmps21
 go_wp2_with fail
 have HG : Hid (GrW w ((w.alloc (.cells #[.float .f64 px, .float .f64 py] 32)).alloc (.cells #[.float .f64 qx, .float .f64 qy] 32))) := ((GrW.refl w).alloc _).alloc _
 have d1 : ((w.alloc (.cells #[.float .f64 px, .float .f64 py] 32)).alloc (.cells #[.float .f64 qx, .float .f64 qy] 32)).drew.cell? ⟨w.heap.size, 0, none⟩ = some (.float .f64 px) := by go_simp
 have d2 : ((w.alloc (.cells #[.float .f64 px, .float .f64 py] 32)).alloc (.cells #[.float .f64 qx, .float .f64 qy] 32)).drew.cell? ⟨w.heap.size, 1, none⟩ = some (.float .f64 py) := by go_simp
 have d3 : ((w.alloc (.cells #[.float .f64 px, .float .f64 py] 32)).alloc (.cells #[.float .f64 qx, .float .f64 qy] 32)).drew.cell? ⟨w.heap.size + 1, 0, none⟩ = some (.float .f64 qx) := by go_simp
 have d4 : ((w.alloc (.cells #[.float .f64 px, .float .f64 py] 32)).alloc (.cells #[.float .f64 qx, .float .f64 qy] 32)).drew.cell? ⟨w.heap.size + 1, 1, none⟩ = some (.float .f64 qy) := by go_simp
 refine wp_region_held_drew (S := (fun W => W.cell? ⟨w.heap.size, 0, none⟩ = some (.float .f64 px) ∧ W.cell? ⟨w.heap.size, 1, none⟩ = some (.float .f64 py) ∧ W.cell? ⟨w.heap.size + 1, 0, none⟩ = some (.float .f64 qx) ∧ W.cell? ⟨w.heap.size + 1, 1, none⟩ = some (.float .f64 qy) ∧ GrW w W)) (by kernel_rfl) ⟨d1, d2, d3, d4, HG.out.drew⟩ (fun hS => ?_)
 refine takA (i := 0) (d := some 5) (v := .pointer (some ⟨w.heap.size, 0, none⟩)) hS ?_
 simp only [AP]
 refine takA (i := 1) (d := some 6) (v := .float .f64 px) hS ?_
 simp only [AP]
 refine takA (i := 2) (d := some 7) (v := .pointer (some ⟨w.heap.size + 1, 0, none⟩)) hS ?_
 simp only [AP]
 refine takA (i := 3) (d := some 8) (v := .float .f64 qx) hS ?_
 simp only [AP]
 refine takA (i := 5) (d := some 10) (v := .pointer (some ⟨w.heap.size, 1, none⟩)) hS ?_
 simp only [AP]
 refine takA (i := 6) (d := some 11) (v := .float .f64 py) hS ?_
 simp only [AP]
 refine takA (i := 7) (d := some 12) (v := .pointer (some ⟨w.heap.size + 1, 1, none⟩)) hS ?_
 simp only [AP]
 refine takA (i := 8) (d := some 13) (v := .float .f64 qy) hS ?_
 simp only [AP]
 refine calA 4 fun KF hK => ?_
 go_simp
 refine (compare64_any px qx HF.out.1 HF.out.2.2.1 _).mono ?_
 rintro e wx ⟨rfl, hbx⟩
 subst hbx
 rw [hz1.out]
 have hbx := True.intro
 go_wp2_with fail
 refine hK.out _ _ hS ?_
 clear hS hbx
 intro hS
 clear hK KF
 try simp only [AP]
 refine calA 9 fun KF hK => ?_
 go_simp
 refine (compare64_any py qy HF.out.2.1 HF.out.2.2.2 _).mono ?_
 rintro e wx ⟨rfl, hbx⟩
 subst hbx
 rw [hz2.out]
 have hbx := True.intro
 go_wp2_with fail
 refine hK.out _ _ hS ?_
 clear hS hbx
 intro hS
 clear hK KF
 try simp only [AP]
 refine calA 10 fun KF hK => ?_
 go_simp
 have hbx := True.intro
 go_wp2_with fail
 refine hK.out _ _ (keepG hS _) ?_
 clear hS hbx
 intro hS
 clear hK KF
 try simp only [AP]
 refine calA 11 fun KF hK => ?_
 go_simp
 refine (or2_any _ z1 z2 _ (by go_simp) (by go_simp)).mono ?_
 rintro e wx ⟨rfl, hbx⟩
 subst hbx
 have hbx := True.intro
 go_wp2_with fail
 refine hK.out _ _ hS ?_
 clear hS hbx
 intro hS
 clear hK KF
 try simp only [AP]
 refine takA (i := 12) (d := some 4) (v := .int .i64 (orI z1 z2)) hS ?_
 simp only [AP]
 refine wpAnyH_done (by kernel_rfl) ?_ _
 have HD : Hid (GrW w _) := hS.2.2.2.2
 clear hS
 go_wp2
 go_ret
 exact ⟨rfl, HD.out⟩
end Go.Proofs.YtgpbfhennineiaaGreat
