/- Own texts, put together: Am. -/
import Derived.Test.YtgpbfhennineiaaQ3
import Derived.Test.YtgpbfhennineiaaQ27
import Derived.Test.YtgpbfhennineiaaQ29
/- AdmitPoints. -/
namespace Go.Proofs.Ytgpbfhennineiaa
open Go.RowKit Go.Shelf Go.Sort Go.Lib
attribute [local go_sem ↓] Go.wp_at_zero Go.wp_at_succ
attribute [local go_sem] run_store_float
theorem keepX4' {w W W' : World} {q1 q2 q3 q4 : Addr} {x1 x2 x3 x4 : Value} (h : W.cell? q1 = some x1 ∧ W.cell? q2 = some x2 ∧ W.cell? q3 = some x3 ∧ W.cell? q4 = some x4 ∧ Below w.heap.size w W) (hb : Below W.heap.size W W') : W'.cell? q1 = some x1 ∧ W'.cell? q2 = some x2 ∧ W'.cell? q3 = some x3 ∧ W'.cell? q4 = some x4 ∧ Below w.heap.size w W' :=
 ⟨box_cell hb h.1, box_cell hb h.2.1, box_cell hb h.2.2.1, box_cell hb h.2.2.2.1, below_step h.2.2.2.2 hb⟩
set_option maxRecDepth 100000 in
set_option maxHeartbeats 2000000 in
theorem holdR_any (p q : Nat × Nat) (fp : Fin64 p.1 ∧ Fin64 p.2) (fq : Fin64 q.1 ∧ Fin64 q.2) (w : World) : Calls Try.prog 20 #[pv p.1 p.2, pv q.1 q.2] w fun e w' => e = .returned (.int .i64 (hold p q)) ∧ Below w.heap.size w w' := by
 obtain ⟨px, py⟩ := p
 obtain ⟨qx, qy⟩ := q
 obtain ⟨z, hz⟩ : ∃ z, hold (px, py) (qx, qy) = z := ⟨_, rfl⟩
 have HB : Hid (Below w.heap.size w ((w.alloc (.cells #[.float .f64 px, .float .f64 py] 28)).alloc (.cells #[.float .f64 qx, .float .f64 qy] 28))) := ((Below.refl _ w).alloc (Nat.le_refl _) _).alloc (by simp) _
 have key : (FloatKind.f64.format.order px qx = some .lt ∧ z = -1) ∨ (FloatKind.f64.format.order px qx = some .gt ∧ z = 1) ∨ (FloatKind.f64.format.order px qx = some .eq ∧ FloatKind.f64.format.order py qy = some .lt ∧ z = -1) ∨ (FloatKind.f64.format.order px qx = some .eq ∧ FloatKind.f64.format.order py qy = some .gt ∧ z = 1) ∨ (FloatKind.f64.format.order px qx = some .eq ∧ FloatKind.f64.format.order py qy = some .eq ∧ z = 0) := by
   rw [← hz]
   unfold hold
   by_cases h1 : fval px < fval qx
   · exact Or.inl ⟨order_ltF fp.1 fq.1 h1, by rw [if_pos h1]⟩
   · by_cases h2 : fval qx < fval px
     · exact Or.inr (Or.inl ⟨order_gtF fp.1 fq.1 h2, by rw [if_neg h1, if_pos h2]⟩)
     · have h0 := order_eqF fp.1 fq.1 (show fval px = fval qx by grind)
       by_cases h3 : fval py < fval qy
       · exact Or.inr (Or.inr (Or.inl ⟨h0, order_ltF fp.2 fq.2 h3, by rw [if_neg h1, if_neg h2, if_pos h3]⟩))
       · by_cases h4 : fval qy < fval py
         · exact Or.inr (Or.inr (Or.inr (Or.inl ⟨h0, order_gtF fp.2 fq.2 h4, by rw [if_neg h1, if_neg h2, if_neg h3, if_pos h4]⟩)))
         · exact Or.inr (Or.inr (Or.inr (Or.inr ⟨h0, order_eqF fp.2 fq.2 (show fval py = fval qy by grind), by rw [if_neg h1, if_neg h2, if_neg h3, if_neg h4]⟩)))
 rw [hz]
 clear fp fq hz
 rcases key with ⟨o1, rfl⟩ | ⟨o1, rfl⟩ | ⟨o1, o2, rfl⟩ | ⟨o1, o2, rfl⟩ | ⟨o1, o2, rfl⟩
 all_goals
   go_enter Try.func20, Try.ntmps20
   go_wp2
   go_ret
   exact ⟨rfl, HB.out⟩
set_option maxRecDepth 100000 in
set_option maxHeartbeats 4000000 in
theorem points_law (px py qx qy : Nat) (w : World) (hw : WdP (px, py) ∧ WdP (qx, qy)) : Calls Try.prog 4 #[pv px py, pv qx qy] w fun e w' => e = .returned (.bool true) ∧ Below w.heap.size w w' := by
 have HW : Hid (WdP (px, py) ∧ WdP (qx, qy)) := hw
 clear hw
 obtain ⟨z, hz⟩ : ∃ z, Hid ((if PtP (px, py) ∧ PtP (qx, qy) then hold (px, py) (qx, qy) else 0) = z) := ⟨_, rfl⟩
 have HB : Hid (Below w.heap.size w ((w.alloc (.cells #[.float .f64 px, .float .f64 py] 28)).alloc (.cells #[.float .f64 qx, .float .f64 qy] 28))) := ((Below.refl _ w).alloc (Nat.le_refl _) _).alloc (by simp) _
 have c1 : ((w.alloc (.cells #[.float .f64 px, .float .f64 py] 28)).alloc (.cells #[.float .f64 qx, .float .f64 qy] 28)).cell? ⟨w.heap.size, 0, none⟩ = some (.float .f64 px) := by go_simp
 have c2 : ((w.alloc (.cells #[.float .f64 px, .float .f64 py] 28)).alloc (.cells #[.float .f64 qx, .float .f64 qy] 28)).cell? ⟨w.heap.size, 1, none⟩ = some (.float .f64 py) := by go_simp
 have c3 : ((w.alloc (.cells #[.float .f64 px, .float .f64 py] 28)).alloc (.cells #[.float .f64 qx, .float .f64 qy] 28)).cell? ⟨w.heap.size + 1, 0, none⟩ = some (.float .f64 qx) := by go_simp
 have c4 : ((w.alloc (.cells #[.float .f64 px, .float .f64 py] 28)).alloc (.cells #[.float .f64 qx, .float .f64 qy] 28)).cell? ⟨w.heap.size + 1, 1, none⟩ = some (.float .f64 qy) := by go_simp
 by_cases hp : Pt px py
 · have HP : Hid (Pt px py) := hp
   clear hp
   by_cases hq : Pt qx qy
   · have HQ : Hid (Pt qx qy) := hq
     clear hq
     go_enter Try.func4, Try.ntmps4
     go_wp2_with fail
     refine (may_any px py _ HW.out.1).mono ?_
     rintro e w1 ⟨⟨t, rfl, ht⟩, hb⟩
     obtain rfl : t = true := by
       exact ht.2 HP.out
     have HB : Hid (Below w.heap.size w w1) := below_step HB.out hb
     have c1 := box_cell hb c1
     have c2 := box_cell hb c2
     have c3 := box_cell hb c3
     have c4 := box_cell hb c4
     clear ht hb
     go_wp2_with fail
     refine (may_any qx qy _ HW.out.2).mono ?_
     rintro e w2 ⟨⟨t, rfl, ht⟩, hb⟩
     obtain rfl : t = true := by
       exact ht.2 HQ.out
     have HB : Hid (Below w.heap.size w w2) := below_step HB.out hb
     have c1 := box_cell hb c1
     have c2 := box_cell hb c2
     have c3 := box_cell hb c3
     have c4 := box_cell hb c4
     clear ht hb
     go_wp2_with fail
     refine (holdR_any (px, py) (qx, qy) (crd_fin' HP.out) (crd_fin' HQ.out) _).mono ?_
     rintro e w3 ⟨rfl, hb⟩
     have HB : Hid (Below w.heap.size w w3) := below_step HB.out hb
     have c1 := box_cell hb c1
     have c2 := box_cell hb c2
     have c3 := box_cell hb c3
     have c4 := box_cell hb c4
     clear hb
     have ez : hold (px, py) (qx, qy) = z := by rw [← hz.out]; exact (if_pos (⟨HP.out, HQ.out⟩ : PtP (px, py) ∧ PtP (qx, qy))).symm
     rw [ez]
     clear ez
     go_wp2_with fail
     refine wp_region_held_drew (S := (fun W => W.cell? ⟨w.heap.size, 0, none⟩ = some (.float .f64 px) ∧ W.cell? ⟨w.heap.size, 1, none⟩ = some (.float .f64 py) ∧ W.cell? ⟨w.heap.size + 1, 0, none⟩ = some (.float .f64 qx) ∧ W.cell? ⟨w.heap.size + 1, 1, none⟩ = some (.float .f64 qy) ∧ Below w.heap.size w W)) (by kernel_rfl) ⟨c1, c2, c3, c4, HB.out.drew⟩ (fun hS => ?_)
     refine takA (i := 0) (d := some 15) (v := .agg #[.float .f64 px, .float .f64 py]) hS ?_
     simp only [AP]
     refine takA (i := 2) (d := some 17) (v := .agg #[.float .f64 px, .float .f64 py]) hS ?_
     simp only [AP]
     refine calA 1 fun KF hK => ?_
     go_simp
     refine (may1_any px py _ HW.out.1).mono ?_
     rintro e wx ⟨⟨t, rfl, ht⟩, hbx⟩
     obtain rfl : t = true := by
       exact ht.2 HP.out
     clear ht
     go_wp2_with fail
     refine hK.out _ _ (keepX4' hS hbx) ?_
     clear hS hbx
     intro hS
     clear hK KF
     try simp only [AP]
     refine calA 3 fun KF hK => ?_
     go_simp
     refine (may_any px py _ HW.out.1).mono ?_
     rintro e wx ⟨⟨t, rfl, ht⟩, hbx⟩
     obtain rfl : t = true := by
       exact ht.2 HP.out
     clear ht
     go_wp2_with fail
     refine hK.out _ _ (keepX4' hS hbx) ?_
     clear hS hbx
     intro hS
     clear hK KF
     try simp only [AP]
     refine takA (i := 4) (d := some 19) (v := .bool true) hS ?_
     simp only [AP]
     refine takA (i := 5) (d := some 20) (v := .bool true) hS ?_
     simp only [AP]
     refine takA (i := 6) (d := some 21) (v := .agg #[.float .f64 qx, .float .f64 qy]) hS ?_
     simp only [AP]
     refine takA (i := 8) (d := some 23) (v := .agg #[.float .f64 qx, .float .f64 qy]) hS ?_
     simp only [AP]
     refine calA 7 fun KF hK => ?_
     go_simp
     refine (may1_any qx qy _ HW.out.2).mono ?_
     rintro e wx ⟨⟨t, rfl, ht⟩, hbx⟩
     obtain rfl : t = true := by
       exact ht.2 HQ.out
     clear ht
     go_wp2_with fail
     refine hK.out _ _ (keepX4' hS hbx) ?_
     clear hS hbx
     intro hS
     clear hK KF
     try simp only [AP]
     refine calA 9 fun KF hK => ?_
     go_simp
     refine (may_any qx qy _ HW.out.2).mono ?_
     rintro e wx ⟨⟨t, rfl, ht⟩, hbx⟩
     obtain rfl : t = true := by
       exact ht.2 HQ.out
     clear ht
     go_wp2_with fail
     refine hK.out _ _ (keepX4' hS hbx) ?_
     clear hS hbx
     intro hS
     clear hK KF
     try simp only [AP]
     refine takA (i := 10) (d := some 25) (v := .bool true) hS ?_
     simp only [AP]
     refine takA (i := 11) (d := some 26) (v := .bool true) hS ?_
     simp only [AP]
     refine takA (i := 12) (d := some 27) (v := .bool true) hS ?_
     simp only [AP]
     refine takA (i := 13) (d := some 28) (v := .agg #[.float .f64 px, .float .f64 py]) hS ?_
     simp only [AP]
     refine takA (i := 14) (d := some 29) (v := .agg #[.float .f64 qx, .float .f64 qy]) hS ?_
     simp only [AP]
     refine takA (i := 16) (d := some 31) (v := .int .i64 z) hS ?_
     simp only [AP]
     refine calA 15 fun KF hK => ?_
     go_simp
     refine (cmp7_any (px, py) (qx, qy) _ HW.out.1 HW.out.2).mono ?_
     rintro e wx ⟨rfl, hbx⟩
     rw [hz.out]
     go_wp2_with fail
     refine hK.out _ _ (keepX4' hS hbx) ?_
     clear hS hbx
     intro hS
     clear hK KF
     try simp only [AP]
     refine takA (i := 17) (d := some 32) (v := .bool true) hS ?_
     simp only [AP]
     refine takA (i := 18) (d := some 33) (v := .bool true) hS ?_
     simp only [AP]
     refine takA (i := 19) (d := some 4) (v := .bool true) hS ?_
     simp only [AP]
     refine wpAnyH_done (by kernel_rfl) ?_ _
     have HD : Hid (Below w.heap.size w _) := hS.2.2.2.2
     clear hS
     go_wp2
     go_ret
     exact ⟨rfl, HD.out⟩
   · have HQ : Hid (¬ Pt qx qy) := hq
     clear hq
     go_enter Try.func4, Try.ntmps4
     go_wp2_with fail
     refine (may_any px py _ HW.out.1).mono ?_
     rintro e w1 ⟨⟨t, rfl, ht⟩, hb⟩
     obtain rfl : t = true := by
       exact ht.2 HP.out
     have HB : Hid (Below w.heap.size w w1) := below_step HB.out hb
     have c1 := box_cell hb c1
     have c2 := box_cell hb c2
     have c3 := box_cell hb c3
     have c4 := box_cell hb c4
     clear ht hb
     go_wp2_with fail
     refine (may_any qx qy _ HW.out.2).mono ?_
     rintro e w2 ⟨⟨t, rfl, ht⟩, hb⟩
     obtain rfl : t = false := by
       cases t
       · rfl
       · exact absurd (ht.1 rfl) HQ.out
     have HB : Hid (Below w.heap.size w w2) := below_step HB.out hb
     have c1 := box_cell hb c1
     have c2 := box_cell hb c2
     have c3 := box_cell hb c3
     have c4 := box_cell hb c4
     clear ht hb
     obtain rfl : z = 0 := by rw [← hz.out]; exact if_neg (fun h => HQ.out h.2)
     go_wp2_with fail
     refine wp_region_held_drew (S := (fun W => W.cell? ⟨w.heap.size, 0, none⟩ = some (.float .f64 px) ∧ W.cell? ⟨w.heap.size, 1, none⟩ = some (.float .f64 py) ∧ W.cell? ⟨w.heap.size + 1, 0, none⟩ = some (.float .f64 qx) ∧ W.cell? ⟨w.heap.size + 1, 1, none⟩ = some (.float .f64 qy) ∧ Below w.heap.size w W)) (by kernel_rfl) ⟨c1, c2, c3, c4, HB.out.drew⟩ (fun hS => ?_)
     refine takA (i := 0) (d := some 15) (v := .agg #[.float .f64 px, .float .f64 py]) hS ?_
     simp only [AP]
     refine takA (i := 2) (d := some 17) (v := .agg #[.float .f64 px, .float .f64 py]) hS ?_
     simp only [AP]
     refine calA 1 fun KF hK => ?_
     go_simp
     refine (may1_any px py _ HW.out.1).mono ?_
     rintro e wx ⟨⟨t, rfl, ht⟩, hbx⟩
     obtain rfl : t = true := by
       exact ht.2 HP.out
     clear ht
     go_wp2_with fail
     refine hK.out _ _ (keepX4' hS hbx) ?_
     clear hS hbx
     intro hS
     clear hK KF
     try simp only [AP]
     refine calA 3 fun KF hK => ?_
     go_simp
     refine (may_any px py _ HW.out.1).mono ?_
     rintro e wx ⟨⟨t, rfl, ht⟩, hbx⟩
     obtain rfl : t = true := by
       exact ht.2 HP.out
     clear ht
     go_wp2_with fail
     refine hK.out _ _ (keepX4' hS hbx) ?_
     clear hS hbx
     intro hS
     clear hK KF
     try simp only [AP]
     refine takA (i := 4) (d := some 19) (v := .bool true) hS ?_
     simp only [AP]
     refine takA (i := 5) (d := some 20) (v := .bool true) hS ?_
     simp only [AP]
     refine takA (i := 6) (d := some 21) (v := .agg #[.float .f64 qx, .float .f64 qy]) hS ?_
     simp only [AP]
     refine takA (i := 8) (d := some 23) (v := .agg #[.float .f64 qx, .float .f64 qy]) hS ?_
     simp only [AP]
     refine calA 7 fun KF hK => ?_
     go_simp
     refine (may1_any qx qy _ HW.out.2).mono ?_
     rintro e wx ⟨⟨t, rfl, ht⟩, hbx⟩
     obtain rfl : t = false := by
       cases t
       · rfl
       · exact absurd (ht.1 rfl) HQ.out
     clear ht
     go_wp2_with fail
     refine hK.out _ _ (keepX4' hS hbx) ?_
     clear hS hbx
     intro hS
     clear hK KF
     try simp only [AP]
     refine calA 9 fun KF hK => ?_
     go_simp
     refine (may_any qx qy _ HW.out.2).mono ?_
     rintro e wx ⟨⟨t, rfl, ht⟩, hbx⟩
     obtain rfl : t = false := by
       cases t
       · rfl
       · exact absurd (ht.1 rfl) HQ.out
     clear ht
     go_wp2_with fail
     refine hK.out _ _ (keepX4' hS hbx) ?_
     clear hS hbx
     intro hS
     clear hK KF
     try simp only [AP]
     refine takA (i := 10) (d := some 25) (v := .bool true) hS ?_
     simp only [AP]
     refine takA (i := 11) (d := some 26) (v := .bool true) hS ?_
     simp only [AP]
     refine takA (i := 12) (d := some 27) (v := .bool true) hS ?_
     simp only [AP]
     refine takA (i := 13) (d := some 28) (v := .agg #[.float .f64 px, .float .f64 py]) hS ?_
     simp only [AP]
     refine takA (i := 14) (d := some 29) (v := .agg #[.float .f64 qx, .float .f64 qy]) hS ?_
     simp only [AP]
     refine takA (i := 16) (d := some 31) (v := .int .i64 0) hS ?_
     simp only [AP]
     refine calA 15 fun KF hK => ?_
     go_simp
     refine (cmp7_any (px, py) (qx, qy) _ HW.out.1 HW.out.2).mono ?_
     rintro e wx ⟨rfl, hbx⟩
     rw [hz.out]
     go_wp2_with fail
     refine hK.out _ _ (keepX4' hS hbx) ?_
     clear hS hbx
     intro hS
     clear hK KF
     try simp only [AP]
     refine takA (i := 17) (d := some 32) (v := .bool true) hS ?_
     simp only [AP]
     refine takA (i := 18) (d := some 33) (v := .bool true) hS ?_
     simp only [AP]
     refine takA (i := 19) (d := some 4) (v := .bool true) hS ?_
     simp only [AP]
     refine wpAnyH_done (by kernel_rfl) ?_ _
     have HD : Hid (Below w.heap.size w _) := hS.2.2.2.2
     clear hS
     go_wp2
     go_ret
     exact ⟨rfl, HD.out⟩
 · have HP : Hid (¬ Pt px py) := hp
   clear hp
   by_cases hq : Pt qx qy
   · have HQ : Hid (Pt qx qy) := hq
     clear hq
     go_enter Try.func4, Try.ntmps4
     go_wp2_with fail
     refine (may_any px py _ HW.out.1).mono ?_
     rintro e w1 ⟨⟨t, rfl, ht⟩, hb⟩
     obtain rfl : t = false := by
       cases t
       · rfl
       · exact absurd (ht.1 rfl) HP.out
     have HB : Hid (Below w.heap.size w w1) := below_step HB.out hb
     have c1 := box_cell hb c1
     have c2 := box_cell hb c2
     have c3 := box_cell hb c3
     have c4 := box_cell hb c4
     clear ht hb
     obtain rfl : z = 0 := by rw [← hz.out]; exact if_neg (fun h => HP.out h.1)
     go_wp2_with fail
     refine wp_region_held_drew (S := (fun W => W.cell? ⟨w.heap.size, 0, none⟩ = some (.float .f64 px) ∧ W.cell? ⟨w.heap.size, 1, none⟩ = some (.float .f64 py) ∧ W.cell? ⟨w.heap.size + 1, 0, none⟩ = some (.float .f64 qx) ∧ W.cell? ⟨w.heap.size + 1, 1, none⟩ = some (.float .f64 qy) ∧ Below w.heap.size w W)) (by kernel_rfl) ⟨c1, c2, c3, c4, HB.out.drew⟩ (fun hS => ?_)
     refine takA (i := 0) (d := some 15) (v := .agg #[.float .f64 px, .float .f64 py]) hS ?_
     simp only [AP]
     refine takA (i := 2) (d := some 17) (v := .agg #[.float .f64 px, .float .f64 py]) hS ?_
     simp only [AP]
     refine calA 1 fun KF hK => ?_
     go_simp
     refine (may1_any px py _ HW.out.1).mono ?_
     rintro e wx ⟨⟨t, rfl, ht⟩, hbx⟩
     obtain rfl : t = false := by
       cases t
       · rfl
       · exact absurd (ht.1 rfl) HP.out
     clear ht
     go_wp2_with fail
     refine hK.out _ _ (keepX4' hS hbx) ?_
     clear hS hbx
     intro hS
     clear hK KF
     try simp only [AP]
     refine calA 3 fun KF hK => ?_
     go_simp
     refine (may_any px py _ HW.out.1).mono ?_
     rintro e wx ⟨⟨t, rfl, ht⟩, hbx⟩
     obtain rfl : t = false := by
       cases t
       · rfl
       · exact absurd (ht.1 rfl) HP.out
     clear ht
     go_wp2_with fail
     refine hK.out _ _ (keepX4' hS hbx) ?_
     clear hS hbx
     intro hS
     clear hK KF
     try simp only [AP]
     refine takA (i := 4) (d := some 19) (v := .bool true) hS ?_
     simp only [AP]
     refine takA (i := 5) (d := some 20) (v := .bool true) hS ?_
     simp only [AP]
     refine takA (i := 6) (d := some 21) (v := .agg #[.float .f64 qx, .float .f64 qy]) hS ?_
     simp only [AP]
     refine takA (i := 8) (d := some 23) (v := .agg #[.float .f64 qx, .float .f64 qy]) hS ?_
     simp only [AP]
     refine calA 7 fun KF hK => ?_
     go_simp
     refine (may1_any qx qy _ HW.out.2).mono ?_
     rintro e wx ⟨⟨t, rfl, ht⟩, hbx⟩
     obtain rfl : t = true := by
       exact ht.2 HQ.out
     clear ht
     go_wp2_with fail
     refine hK.out _ _ (keepX4' hS hbx) ?_
     clear hS hbx
     intro hS
     clear hK KF
     try simp only [AP]
     refine calA 9 fun KF hK => ?_
     go_simp
     refine (may_any qx qy _ HW.out.2).mono ?_
     rintro e wx ⟨⟨t, rfl, ht⟩, hbx⟩
     obtain rfl : t = true := by
       exact ht.2 HQ.out
     clear ht
     go_wp2_with fail
     refine hK.out _ _ (keepX4' hS hbx) ?_
     clear hS hbx
     intro hS
     clear hK KF
     try simp only [AP]
     refine takA (i := 10) (d := some 25) (v := .bool true) hS ?_
     simp only [AP]
     refine takA (i := 11) (d := some 26) (v := .bool true) hS ?_
     simp only [AP]
     refine takA (i := 12) (d := some 27) (v := .bool true) hS ?_
     simp only [AP]
     refine takA (i := 13) (d := some 28) (v := .agg #[.float .f64 px, .float .f64 py]) hS ?_
     simp only [AP]
     refine takA (i := 14) (d := some 29) (v := .agg #[.float .f64 qx, .float .f64 qy]) hS ?_
     simp only [AP]
     refine takA (i := 16) (d := some 31) (v := .int .i64 0) hS ?_
     simp only [AP]
     refine calA 15 fun KF hK => ?_
     go_simp
     refine (cmp7_any (px, py) (qx, qy) _ HW.out.1 HW.out.2).mono ?_
     rintro e wx ⟨rfl, hbx⟩
     rw [hz.out]
     go_wp2_with fail
     refine hK.out _ _ (keepX4' hS hbx) ?_
     clear hS hbx
     intro hS
     clear hK KF
     try simp only [AP]
     refine takA (i := 17) (d := some 32) (v := .bool true) hS ?_
     simp only [AP]
     refine takA (i := 18) (d := some 33) (v := .bool true) hS ?_
     simp only [AP]
     refine takA (i := 19) (d := some 4) (v := .bool true) hS ?_
     simp only [AP]
     refine wpAnyH_done (by kernel_rfl) ?_ _
     have HD : Hid (Below w.heap.size w _) := hS.2.2.2.2
     clear hS
     go_wp2
     go_ret
     exact ⟨rfl, HD.out⟩
   · have HQ : Hid (¬ Pt qx qy) := hq
     clear hq
     go_enter Try.func4, Try.ntmps4
     go_wp2_with fail
     refine (may_any px py _ HW.out.1).mono ?_
     rintro e w1 ⟨⟨t, rfl, ht⟩, hb⟩
     obtain rfl : t = false := by
       cases t
       · rfl
       · exact absurd (ht.1 rfl) HP.out
     have HB : Hid (Below w.heap.size w w1) := below_step HB.out hb
     have c1 := box_cell hb c1
     have c2 := box_cell hb c2
     have c3 := box_cell hb c3
     have c4 := box_cell hb c4
     clear ht hb
     obtain rfl : z = 0 := by rw [← hz.out]; exact if_neg (fun h => HP.out h.1)
     go_wp2_with fail
     refine wp_region_held_drew (S := (fun W => W.cell? ⟨w.heap.size, 0, none⟩ = some (.float .f64 px) ∧ W.cell? ⟨w.heap.size, 1, none⟩ = some (.float .f64 py) ∧ W.cell? ⟨w.heap.size + 1, 0, none⟩ = some (.float .f64 qx) ∧ W.cell? ⟨w.heap.size + 1, 1, none⟩ = some (.float .f64 qy) ∧ Below w.heap.size w W)) (by kernel_rfl) ⟨c1, c2, c3, c4, HB.out.drew⟩ (fun hS => ?_)
     refine takA (i := 0) (d := some 15) (v := .agg #[.float .f64 px, .float .f64 py]) hS ?_
     simp only [AP]
     refine takA (i := 2) (d := some 17) (v := .agg #[.float .f64 px, .float .f64 py]) hS ?_
     simp only [AP]
     refine calA 1 fun KF hK => ?_
     go_simp
     refine (may1_any px py _ HW.out.1).mono ?_
     rintro e wx ⟨⟨t, rfl, ht⟩, hbx⟩
     obtain rfl : t = false := by
       cases t
       · rfl
       · exact absurd (ht.1 rfl) HP.out
     clear ht
     go_wp2_with fail
     refine hK.out _ _ (keepX4' hS hbx) ?_
     clear hS hbx
     intro hS
     clear hK KF
     try simp only [AP]
     refine calA 3 fun KF hK => ?_
     go_simp
     refine (may_any px py _ HW.out.1).mono ?_
     rintro e wx ⟨⟨t, rfl, ht⟩, hbx⟩
     obtain rfl : t = false := by
       cases t
       · rfl
       · exact absurd (ht.1 rfl) HP.out
     clear ht
     go_wp2_with fail
     refine hK.out _ _ (keepX4' hS hbx) ?_
     clear hS hbx
     intro hS
     clear hK KF
     try simp only [AP]
     refine takA (i := 4) (d := some 19) (v := .bool true) hS ?_
     simp only [AP]
     refine takA (i := 5) (d := some 20) (v := .bool true) hS ?_
     simp only [AP]
     refine takA (i := 6) (d := some 21) (v := .agg #[.float .f64 qx, .float .f64 qy]) hS ?_
     simp only [AP]
     refine takA (i := 8) (d := some 23) (v := .agg #[.float .f64 qx, .float .f64 qy]) hS ?_
     simp only [AP]
     refine calA 7 fun KF hK => ?_
     go_simp
     refine (may1_any qx qy _ HW.out.2).mono ?_
     rintro e wx ⟨⟨t, rfl, ht⟩, hbx⟩
     obtain rfl : t = false := by
       cases t
       · rfl
       · exact absurd (ht.1 rfl) HQ.out
     clear ht
     go_wp2_with fail
     refine hK.out _ _ (keepX4' hS hbx) ?_
     clear hS hbx
     intro hS
     clear hK KF
     try simp only [AP]
     refine calA 9 fun KF hK => ?_
     go_simp
     refine (may_any qx qy _ HW.out.2).mono ?_
     rintro e wx ⟨⟨t, rfl, ht⟩, hbx⟩
     obtain rfl : t = false := by
       cases t
       · rfl
       · exact absurd (ht.1 rfl) HQ.out
     clear ht
     go_wp2_with fail
     refine hK.out _ _ (keepX4' hS hbx) ?_
     clear hS hbx
     intro hS
     clear hK KF
     try simp only [AP]
     refine takA (i := 10) (d := some 25) (v := .bool true) hS ?_
     simp only [AP]
     refine takA (i := 11) (d := some 26) (v := .bool true) hS ?_
     simp only [AP]
     refine takA (i := 12) (d := some 27) (v := .bool true) hS ?_
     simp only [AP]
     refine takA (i := 13) (d := some 28) (v := .agg #[.float .f64 px, .float .f64 py]) hS ?_
     simp only [AP]
     refine takA (i := 14) (d := some 29) (v := .agg #[.float .f64 qx, .float .f64 qy]) hS ?_
     simp only [AP]
     refine takA (i := 16) (d := some 31) (v := .int .i64 0) hS ?_
     simp only [AP]
     refine calA 15 fun KF hK => ?_
     go_simp
     refine (cmp7_any (px, py) (qx, qy) _ HW.out.1 HW.out.2).mono ?_
     rintro e wx ⟨rfl, hbx⟩
     rw [hz.out]
     go_wp2_with fail
     refine hK.out _ _ (keepX4' hS hbx) ?_
     clear hS hbx
     intro hS
     clear hK KF
     try simp only [AP]
     refine takA (i := 17) (d := some 32) (v := .bool true) hS ?_
     simp only [AP]
     refine takA (i := 18) (d := some 33) (v := .bool true) hS ?_
     simp only [AP]
     refine takA (i := 19) (d := some 4) (v := .bool true) hS ?_
     simp only [AP]
     refine wpAnyH_done (by kernel_rfl) ?_ _
     have HD : Hid (Below w.heap.size w _) := hS.2.2.2.2
     clear hS
     go_wp2
     go_ret
     exact ⟨rfl, HD.out⟩
end Go.Proofs.Ytgpbfhennineiaa
