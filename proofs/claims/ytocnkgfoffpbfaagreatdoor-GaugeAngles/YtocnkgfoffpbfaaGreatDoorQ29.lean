/- Own texts, put together: Gn Gt. -/
import Derived.Test.YtocnkgfoffpbfaaGreatDoorQ4
import Derived.Test.YtocnkgfoffpbfaaGreatDoorQ24
import Derived.Test.YtocnkgfoffpbfaaGreatDoorQ25
import Derived.Test.YtocnkgfoffpbfaaGreatDoorQ26
import Derived.Test.YtocnkgfoffpbfaaGreatDoorQ27
namespace Go.Proofs.YtocnkgfoffpbfaaGreatDoor
/- A point of a segment: Point. -/
section
open Go.RowKit Go.Shelf
attribute [local go_sem ↓] Go.wp_at_zero Go.wp_at_succ
attribute [local go_sem] run_store_float
def T01 (t : Nat) : Prop := Fin64 t ∧ 0 ≤ fval t ∧ fval t ≤ 1
theorem order_fin_inf {b c : Nat} (hb : Fin64 b) (hc : frung c = 9218868437227405312) : Ieee.double.order b c = some (if fneg c then .gt else .lt) := by
 unfold Ieee.Format.order
 rw [read_fin hb, read_inf hc]; rfl
theorem fone : fval 4607182418800017408 = 1 := by
 have := fval_rung 1022 4503599627370496 (by omega) (Or.inr (by omega)) (by omega)
 have h := U_52 1022
 rw [show (4607182418800017408 : Nat) = 1022 * 4503599627370496 + 4503599627370496 from rfl, this]
 rw [show ((4503599627370496 : Nat) : Rat) = 4503599627370496 from rfl, ← h]
 exact U1074
theorem fin_one : Fin64 4607182418800017408 := by unfold Fin64 frung; omega
theorem leq_fin {a b : Nat} (fa : Fin64 a) (fb : Fin64 b) : (FloatKind.f64.format.order a b == some .lt || FloatKind.f64.format.order a b == some .eq) = decide (fval a ≤ fval b) := by
 rw [order_val fa fb]
 by_cases h : fval a < fval b
 · rw [if_pos h, decide_eq_true (by grind)]; rfl
 · by_cases h2 : fval a = fval b
   · rw [if_neg h, if_pos h2, decide_eq_true (by grind)]; rfl
   · rw [if_neg h, if_neg h2, decide_eq_false (by grind)]; rfl
theorem t01_leq (t : Nat) : ∃ b1 b2, (FloatKind.f64.format.order 0 t == some .lt || FloatKind.f64.format.order 0 t == some .eq) = b1 ∧ (FloatKind.f64.format.order t 4607182418800017408 == some .lt || FloatKind.f64.format.order t 4607182418800017408 == some .eq) = b2 ∧ ((b1 && b2) = true ↔ T01 t) := by
 refine ⟨_, _, rfl, rfl, ?_⟩
 unfold T01
 by_cases hf : Fin64 t
 · rw [leq_fin fin0 hf, leq_fin hf fin_one, fval0, fone]
   simp [hf]
 · constructor
   · intro h
     exfalso
     rcases Nat.lt_or_ge 9218868437227405312 (frung t) with hn | hn
     · rw [show FloatKind.f64.format.order 0 t = none from order_nan_right hn] at h
       simp at h
     · have hi : frung t = 9218868437227405312 := by unfold Fin64 at hf; omega
       rw [show FloatKind.f64.format.order 0 t = _ from order_fin_inf fin0 hi, show FloatKind.f64.format.order t 4607182418800017408 = _ from order_inf_fin hi fin_one] at h
       cases hs : fneg t <;> rw [hs] at h <;> simp at h
   · intro h; exact absurd h.1 hf
theorem step_is {t a b : Nat} (ht : T01 t) (ha : Crd a) (hb : Crd b) : ∃ x, StepE t a b x ∧ x < 18446744073709551616 := by
 obtain ⟨d, e1, f1, w1, n1, m1, l1⟩ := diff_word ha hb
 have hl := n1.le l1
 have hs : ab (fval t * fval d) ≤ U 1175 := by
   rw [ab_mul, ab_pos' ht.2.1]
   have := Rat.mul_le_mul_of_nonneg_right ht.2.2 (ab_nonneg (fval d))
   grind
 have lim : ∀ {q : Rat} {p : Nat}, ab q ≤ U p → p ≤ 2000 → ab q < 18014398509481983 * p2 970 := fun h hp => by
   have h1 := U_small (p := _) (show _ ≤ 2043 from Nat.le_trans hp (by omega))
   have h2 := p2_pos 970
   grind
 obtain ⟨s, e2, r2⟩ := mul_full ht.1 f1
 obtain ⟨w2, f2, v2⟩ := r2.fin (lim hs (by omega))
 have l2 := v2.rn.le hs
 have l3 : ab (fval a + fval s) ≤ U 1176 := by
   have a1 := ab_add (fval a) (fval s)
   have a2 := crd_ab ha.1
   have a3 := U_two' 1175
   have a4 := U_mono (show 1174 ≤ 1175 by omega)
   grind
 obtain ⟨x, e3, r3⟩ := add_full (crd_fin ha.1) f2
 obtain ⟨w3, f3, v3⟩ := r3.fin (lim l3 (by omega))
 exact ⟨x, ⟨d, s, e1, e2, e3⟩, w3⟩
theorem StepE.one {t a b x y : Nat} (h1 : StepE t a b x) (h2 : StepE t a b y) : x = y := by
 obtain ⟨d, s, e1, e2, e3⟩ := h1
 obtain ⟨d', s', e1', e2', e3'⟩ := h2
 rw [e1] at e1'
 cases e1'
 rw [e2] at e2'
 cases e2'
 rw [e3] at e3'
 cases e3'
 rfl
theorem StR.one {x y u v u' v' : Nat} {t t' : Bool} (h1 : StR x y u v t) (h2 : StR x y u' v' t') : u = u' ∧ v = v' ∧ t = t' := by
 rcases h1 with ⟨a1, a2, a3, a4⟩ | ⟨a1, a2, a3, a4⟩ <;> rcases h2 with ⟨b1, b2, b3, b4⟩ | ⟨b1, b2, b3, b4⟩
 · exact ⟨by rw [a3, b3], by rw [a4, b4], by rw [a1, b1]⟩
 · exact absurd a2 b2
 · exact absurd b2 a2
 · exact ⟨by rw [a3, b3], by rw [a4, b4], by rw [a1, b1]⟩
def GPt (ax ay bx by' t u v : Nat) (ok : Bool) : Prop := ((Pt ax ay ∧ Pt bx by') ∧ T01 t → ∃ x y, StepE t ax bx x ∧ StepE t ay by' y ∧ StR x y u v ok) ∧ (¬ ((Pt ax ay ∧ Pt bx by') ∧ T01 t) → u = 0 ∧ v = 0 ∧ ok = false)
theorem GPt.one {ax ay bx by' t u v u' v' : Nat} {k k' : Bool} (h1 : GPt ax ay bx by' t u v k) (h2 : GPt ax ay bx by' t u' v' k') : u = u' ∧ v = v' ∧ k = k' := by
 by_cases h : (Pt ax ay ∧ Pt bx by') ∧ T01 t
 · obtain ⟨x, y, a1, a2, a3⟩ := h1.1 h
   obtain ⟨x', y', b1, b2, b3⟩ := h2.1 h
   cases a1.one b1
   cases a2.one b2
   exact a3.one b3
 · obtain ⟨a1, a2, a3⟩ := h1.2 h
   obtain ⟨b1, b2, b3⟩ := h2.2 h
   exact ⟨by rw [a1, b1], by rw [a2, b2], by rw [a3, b3]⟩
set_option maxRecDepth 100000 in
set_option maxHeartbeats 4000000 in
theorem gpoint_any (ax ay bx by' t : Nat) (w : World) (ha : ax < 18446744073709551616 ∧ ay < 18446744073709551616) (hb : bx < 18446744073709551616 ∧ by' < 18446744073709551616) :
   Calls Tryz.prog 21 #[pv ax ay, pv bx by', .float .f64 t] w fun e w' => (∃ u v ok, e = .returned (.tuple #[pv u v, .bool ok]) ∧ GPt ax ay bx by' t u v ok) ∧ Below w.heap.size w w' := by
 have HW : Hid ((ax < 18446744073709551616 ∧ ay < 18446744073709551616) ∧ bx < 18446744073709551616 ∧ by' < 18446744073709551616) := ⟨ha, hb⟩
 obtain ⟨b1, b2, o1, o2, h12⟩ := t01_leq t
 have HT1 : Hid ((b1 && b2) = true ↔ T01 t) := h12
 clear ha hb h12
 go_enter Tryz.func21, Tryz.ntmps21
 go_wp2_with fail
 refine (has2' ax ay bx by' _ _ (by simp) HW.out.1 HW.out.2).mono ?_
 rintro e w1 ⟨⟨tt, rfl, ht⟩, hb1⟩
 have HTt : Hid (tt = true ↔ Pt ax ay ∧ Pt bx by') := ht
 have HB1 : Hid (Below w.heap.size w w1) := below_step ((((Below.refl _ w).alloc (Nat.le_refl _) _).alloc (by simp) _).alloc (by simp; omega) _ |>.alloc (by simp; omega) _) hb1
 have HR : CB w1 (w.heap.size + 1 + 1 + 1) #[.float .f64 0, .float .f64 0] 24 := by
   have := CB.later (CB.new (((w.alloc (.cells #[.float .f64 ax, .float .f64 ay] 24)).alloc (.cells #[.float .f64 bx, .float .f64 by'] 24)).alloc (.cells #[.float .f64 t] 22)) #[.float .f64 0, .float .f64 0] 24) hb1
   simpa using this
 have z0 : w1.cell? ⟨w.heap.size, 0, none⟩ = some (.float .f64 ax) := box_cell hb1 (by go_simp)
 have z1 : w1.cell? ⟨w.heap.size, 1, none⟩ = some (.float .f64 ay) := box_cell hb1 (by go_simp)
 have z2 : w1.cell? ⟨w.heap.size + 1, 0, none⟩ = some (.float .f64 bx) := box_cell hb1 (by go_simp)
 have z3 : w1.cell? ⟨w.heap.size + 1, 1, none⟩ = some (.float .f64 by') := box_cell hb1 (by go_simp)
 have z4 : w1.cell? ⟨w.heap.size + 1 + 1, 0, none⟩ = some (.float .f64 t) := box_cell hb1 (by go_simp)
 clear hb1 ht
 have f0 := HR.frozen 0
 have f1 := HR.frozen 1
 have k0 := HR.cell 0 (by decide)
 have k1 := HR.cell 1 (by decide)
 cases tt
 · have HNO : ¬ ((Pt ax ay ∧ Pt bx by') ∧ T01 t) := fun h => Bool.noConfusion (HTt.out.2 h.1)
   go_wp2
   have Y := HR.set2 (.float .f64 0) (.float .f64 0)
   have y0 := Y.cell 0 (by simp)
   have y1 := Y.cell 1 (by simp)
   refine bodyPost_ret (v := .tuple #[.agg #[.float .f64 0, .float .f64 0], .bool false]) (by simp [results, Tryz.results21, go_sem, y0, y1]) rfl ?_
   exact ⟨⟨0, 0, false, rfl, fun h => absurd h HNO, fun _ => ⟨rfl, rfl, rfl⟩⟩, below_set2 HB1.out (by omega) _ _⟩
 · cases b1
   · have HNO : ¬ ((Pt ax ay ∧ Pt bx by') ∧ T01 t) := fun h => by have := HT1.out.2 h.2; simp at this
     go_wp2
     have Y := HR.set2 (.float .f64 0) (.float .f64 0)
     have y0 := Y.cell 0 (by simp)
     have y1 := Y.cell 1 (by simp)
     refine bodyPost_ret (v := .tuple #[.agg #[.float .f64 0, .float .f64 0], .bool false]) (by simp [results, Tryz.results21, go_sem, y0, y1]) rfl ?_
     exact ⟨⟨0, 0, false, rfl, fun h => absurd h HNO, fun _ => ⟨rfl, rfl, rfl⟩⟩, below_set2 HB1.out (by omega) _ _⟩
   · cases b2
     · have HNO : ¬ ((Pt ax ay ∧ Pt bx by') ∧ T01 t) := fun h => by have := HT1.out.2 h.2; simp at this
       go_wp2
       have Y := HR.set2 (.float .f64 0) (.float .f64 0)
       have y0 := Y.cell 0 (by simp)
       have y1 := Y.cell 1 (by simp)
       refine bodyPost_ret (v := .tuple #[.agg #[.float .f64 0, .float .f64 0], .bool false]) (by simp [results, Tryz.results21, go_sem, y0, y1]) rfl ?_
       exact ⟨⟨0, 0, false, rfl, fun h => absurd h HNO, fun _ => ⟨rfl, rfl, rfl⟩⟩, below_set2 HB1.out (by omega) _ _⟩
     · have HC : Hid ((Pt ax ay ∧ Pt bx by') ∧ T01 t) := ⟨HTt.out.1 (by simp), HT1.out.1 (by simp)⟩
       obtain ⟨x, s1, x1⟩ := step_is HC.out.2 HC.out.1.1.1 HC.out.1.2.1
       obtain ⟨y, s2, x2⟩ := step_is HC.out.2 HC.out.1.1.2 HC.out.1.2.2
       have HX : Hid (StepE t ax bx x ∧ StepE t ay by' y ∧ x < 18446744073709551616 ∧ y < 18446744073709551616) := ⟨s1, s2, x1, x2⟩
       clear s1 s2 x1 x2 f0 f1 k0 k1
       go_wp2_with fail
       replace HR := HR.drew
       refine wp_region_held_drew (S := (fun W => W.cell? ⟨w.heap.size, 0, none⟩ = some (.float .f64 ax) ∧ W.cell? ⟨w.heap.size, 1, none⟩ = some (.float .f64 ay) ∧ W.cell? ⟨w.heap.size + 1, 0, none⟩ = some (.float .f64 bx) ∧ W.cell? ⟨w.heap.size + 1, 1, none⟩ = some (.float .f64 by') ∧ W.cell? ⟨w.heap.size + 1 + 1, 0, none⟩ = some (.float .f64 t) ∧ Below w.heap.size w W)) (by kernel_rfl) ⟨z0, z1, z2, z3, z4, HB1.out.drew⟩ (fun hS => ?_)
       refine takA (i := 0) (d := some 25) (v := (.func (Fn.func 62) #[] #[.pointer (some ⟨w.heap.size + 1 + 1, 0, none⟩)])) hS ?_
       simp only [AP]
       refine takA (i := 1) (d := some 26) (v := .pointer (some ⟨w.heap.size, 0, none⟩)) hS ?_
       simp only [AP]
       refine takA (i := 2) (d := some 27) (v := .float .f64 ax) hS ?_
       simp only [AP]
       refine takA (i := 3) (d := some 28) (v := .pointer (some ⟨w.heap.size + 1, 0, none⟩)) hS ?_
       simp only [AP]
       refine takA (i := 4) (d := some 29) (v := .float .f64 bx) hS ?_
       simp only [AP]
       refine takA (i := 6) (d := some 31) (v := (.func (Fn.func 62) #[] #[.pointer (some ⟨w.heap.size + 1 + 1, 0, none⟩)])) hS ?_
       simp only [AP]
       refine takA (i := 7) (d := some 32) (v := .pointer (some ⟨w.heap.size, 1, none⟩)) hS ?_
       simp only [AP]
       refine takA (i := 8) (d := some 33) (v := .float .f64 ay) hS ?_
       simp only [AP]
       refine takA (i := 9) (d := some 34) (v := .pointer (some ⟨w.heap.size + 1, 1, none⟩)) hS ?_
       simp only [AP]
       refine takA (i := 10) (d := some 35) (v := .float .f64 by') hS ?_
       simp only [AP]
       refine calA 5 fun KF hK => ?_
       go_simp
       go_wp2_with fail
       refine (along_is (w.heap.size + 1 + 1) t ax bx x _ hS.2.2.2.2.1 HX.out.1).mono ?_
       rintro e wx ⟨rfl, hbx⟩
       subst hbx
       have hbx := True.intro
       go_wp2_with fail
       refine hK.out _ _ hS ?_
       clear hS hbx
       intro hS
       clear hK KF
       try simp only [AP]
       refine calA 11 fun KF hK => ?_
       go_simp
       go_wp2_with fail
       refine (along_is (w.heap.size + 1 + 1) t ay by' y _ hS.2.2.2.2.1 HX.out.2.1).mono ?_
       rintro e wx ⟨rfl, hbx⟩
       subst hbx
       have hbx := True.intro
       go_wp2_with fail
       refine hK.out _ _ hS ?_
       clear hS hbx
       intro hS
       clear hK KF
       try simp only [AP]
       refine calA 12 fun KF hK => ?_
       go_simp
       refine (standing_any x y _ HX.out.2.2.1 HX.out.2.2.2).mono ?_
       rintro e wx ⟨⟨u, v, ok, rfl, hst⟩, hbx⟩
       replace HR := HR.later hbx
       go_wp2_with fail
       refine hK.out _ _ (kp5 hbx hS) ?_
       clear hS hbx
       intro hS
       clear hK KF
       try simp only [AP]
       refine takA (i := 13) (d := some 38) (v := .agg #[.float .f64 u, .float .f64 v]) hS ?_
       simp only [AP]
       refine takA (i := 14) (d := some 39) (v := .bool ok) hS ?_
       simp only [AP]
       clear z0 z1 z2 z3 z4
       have f0 := HR.frozen 0
       have f1 := HR.frozen 1
       have k0 := HR.cell 0 (by decide)
       have k1 := HR.cell 1 (by decide)
       have hP : (fun W' => CB W' (w.heap.size + 1 + 1 + 1) #[.float .f64 u, .float .f64 v] 24) ((wx.setCell ⟨w.heap.size + 1 + 1 + 1, 0, none⟩ (.float .f64 u)).setCell ⟨w.heap.size + 1 + 1 + 1, 1, none⟩ (.float .f64 v)) := HR.set2 _ _
       have hS2 : (fun W => W.cell? ⟨w.heap.size, 0, none⟩ = some (.float .f64 ax) ∧ W.cell? ⟨w.heap.size, 1, none⟩ = some (.float .f64 ay) ∧ W.cell? ⟨w.heap.size + 1, 0, none⟩ = some (.float .f64 bx) ∧ W.cell? ⟨w.heap.size + 1, 1, none⟩ = some (.float .f64 by') ∧ W.cell? ⟨w.heap.size + 1 + 1, 0, none⟩ = some (.float .f64 t) ∧ Below w.heap.size w W) ((wx.setCell ⟨w.heap.size + 1 + 1 + 1, 0, none⟩ (.float .f64 u)).setCell ⟨w.heap.size + 1 + 1 + 1, 1, none⟩ (.float .f64 v)) := ⟨Sets.cell (by omega) [(0, .float .f64 u), (1, .float .f64 v)] hS.1, Sets.cell (by omega) [(0, .float .f64 u), (1, .float .f64 v)] hS.2.1, Sets.cell (by omega) [(0, .float .f64 u), (1, .float .f64 v)] hS.2.2.1, Sets.cell (by omega) [(0, .float .f64 u), (1, .float .f64 v)] hS.2.2.2.1, Sets.cell (by omega) [(0, .float .f64 u), (1, .float .f64 v)] hS.2.2.2.2.1, Sets.below (by omega) [(0, .float .f64 u), (1, .float .f64 v)] hS.2.2.2.2.2⟩
       refine calA 15 fun KF hK => ?_
       go_simp
       go_wp2_with fail
       refine hK.out _ _ hS2 ?_
       clear hS
       intro hS
       clear hK KF f0 f1 k0 k1
       try simp only [Act.put]
       try simp only [List.setIfInBounds_toArray, List.set_cons_zero, List.set_cons_succ]
       generalize ((wx.setCell ⟨w.heap.size + 1 + 1 + 1, 0, none⟩ (.float .f64 u)).setCell ⟨w.heap.size + 1 + 1 + 1, 1, none⟩ (.float .f64 v)) = WL at *
       refine calA 16 fun KF hK => ?_
       go_simp
       go_wp2_with fail
       refine hK.out _ _ hS ?_
       clear hS
       intro hS
       clear hK KF 
       try simp only [Act.put]
       try simp only [List.setIfInBounds_toArray, List.set_cons_zero, List.set_cons_succ]
       refine wpAnyH_done (by kernel_rfl) ?_ _
       have HBE : Hid (Below w.heap.size w WL) := hS.2.2.2.2.2
       clear hS hS2 HR
       go_wp2
       have y0 := hP.cell 0 (by simp)
       have y1 := hP.cell 1 (by simp)
       refine bodyPost_ret (v := .tuple #[.agg #[.float .f64 u, .float .f64 v], .bool ok]) (by simp [results, Tryz.results21, go_sem, y0, y1]) rfl ?_
       exact ⟨⟨u, v, ok, rfl, fun _ => ⟨x, y, HX.out.1, HX.out.2.1, hst⟩, fun h => absurd HC.out h⟩, HBE.out⟩
end

/- The float nearest to a quotient: plain facts; Nextafter towards the infinite ones. -/
section
open Go.RowKit
attribute [local go_sem ↓] Go.wp_at_zero Go.wp_at_succ
def sidx (b : Nat) : Int := if b < 9223372036854775808 then (b : Int) else 9223372036854775808 - (b : Int)
def V (i : Int) : Rat := if 0 ≤ i then fval i.toNat else -fval (-i).toNat
def RR : Int := 8660422083433463808 + 0
theorem RR_eq : RR = 8660422083433463808 := rfl
theorem fval_RR : fval 8660422083433463808 = U 1974 := by
 have := fval_rung 1922 4503599627370496 (by omega) (Or.inr (by omega)) (by omega)
 have h := U_52 1922
 rw [show (8660422083433463808 : Nat) = 1922 * 4503599627370496 + 4503599627370496 from rfl, this]
 exact h.symm
theorem V_val {b : Nat} (h : Fin64 b) (hb : b < 18446744073709551616) : V (sidx b) = fval b := by
 unfold sidx V
 unfold Fin64 frung at h
 by_cases h1 : b < 9223372036854775808
 · rw [if_pos h1, if_pos (by omega)]; rfl
 · rw [if_neg h1]
   by_cases h2 : b = 9223372036854775808
   · subst h2
     rw [if_pos (by omega), show ((9223372036854775808 : Int) - ((9223372036854775808 : Nat) : Int)).toNat = 0 by decide, fval0, fval_zero_iff.2 (by decide)]
   · rw [if_neg (by omega)]
     obtain ⟨r, rfl⟩ : ∃ r, b = 9223372036854775808 + r := ⟨b - 9223372036854775808, by omega⟩
     rw [fval_word (by omega), show (-(9223372036854775808 - ((9223372036854775808 + r : Nat) : Int))).toNat = r by omega]
theorem V_lt {i j : Int} (h : i < j) (hj : j < 9218868437227405312) (hi : -9218868437227405312 < i) : V i < V j := by
 unfold V
 by_cases h1 : 0 ≤ i
 · rw [if_pos h1, if_pos (by omega)]
   exact fval_lt (by omega) (by omega)
 · rw [if_neg h1]
   by_cases h2 : 0 ≤ j
   · rw [if_pos h2]
     have a := fval_nonneg (r := j.toNat) (by omega)
     have b := pos_fval (r := (-i).toNat) (by omega) (by omega)
     grind
   · rw [if_neg h2]
     have := fval_lt (r := (-j).toNat) (s := (-i).toNat) (by omega) (by omega)
     grind
theorem V_neg (i : Int) : V (-i) = -V i := by
 unfold V
 by_cases h0 : i = 0
 · subst h0
   rw [if_pos (by omega), if_pos (by omega)]
   rw [show (-(0 : Int)).toNat = 0 by decide, show (0 : Int).toNat = 0 by decide, fval0]; grind
 · by_cases h1 : 0 ≤ i
   · rw [if_neg (by omega), if_pos h1, Int.neg_neg]
   · rw [if_pos (by omega), if_neg h1]; grind
theorem V_nat (r : Nat) : V (r : Int) = fval r := by unfold V; rw [if_pos (by omega)]; rfl
def dnW (b : Nat) : Nat := if frung b = 0 then 9223372036854775809 else if b < 9223372036854775808 then b - 1 else b + 1
def upW (b : Nat) : Nat := if frung b = 0 then 1 else if b < 9223372036854775808 then b + 1 else b - 1
theorem dn_idx {b : Nat} (hb : b < 18446744073709551616) (h1 : -RR ≤ sidx b) (h2 : sidx b ≤ RR) : dnW b < 18446744073709551616 ∧ Fin64 (dnW b) ∧ sidx (dnW b) = sidx b - 1 := by
 unfold RR sidx at *
 unfold dnW Fin64 frung
 split at h1 <;> split <;> (try split) <;> (try split) <;> omega
theorem up_idx {b : Nat} (hb : b < 18446744073709551616) (h1 : -RR ≤ sidx b) (h2 : sidx b ≤ RR) : upW b < 18446744073709551616 ∧ Fin64 (upW b) ∧ sidx (upW b) = sidx b + 1 := by
 unfold RR sidx at *
 unfold upW Fin64 frung
 split at h1 <;> split <;> (try split) <;> (try split) <;> omega
theorem idx_fin {b : Nat} (hb : b < 18446744073709551616) (h1 : -RR ≤ sidx b) (h2 : sidx b ≤ RR) : Fin64 b := by
 unfold RR sidx at *
 unfold Fin64 frung
 split at h1 <;> omega
theorem idx_odd (b : Nat) : (b % 2 = 1) ↔ (sidx b % 2 = 1) := by
 unfold sidx
 split <;> omega
theorem idx_bound {b : Nat} (hb : b < 18446744073709551616) (hf : Fin64 b) (h : ab (fval b) ≤ U 1974) : -RR ≤ sidx b ∧ sidx b ≤ RR := by
 rw [← ab_fval b hf, ← fval_RR] at h
 have hr : frung b ≤ 8660422083433463808 := by
   apply Classical.byContradiction
   intro hn
   have := fval_lt (r := 8660422083433463808) (s := frung b) (by omega) hf
   grind
 unfold RR sidx
 unfold frung at hr
 split <;> omega
def LoI (q : Rat) (i : Int) : Prop := V (i - 1) + V i ≤ 2 * q ∧ (V (i - 1) + V i = 2 * q → i % 2 = 0)
def HiI (q : Rat) (i : Int) : Prop := 2 * q ≤ V i + V (i + 1) ∧ (2 * q = V i + V (i + 1) → i % 2 = 0)
def NearV (q : Rat) (b : Nat) : Prop := (0 ≤ q → NQ q (frung b) ∧ (b = frung b ∨ frung b = 0)) ∧ (q ≤ 0 → NQ (-q) (frung b) ∧ (b = 9223372036854775808 + frung b ∨ frung b = 0))
theorem NearV.one {q : Rat} {b c : Nat} (h1 : NearV q b) (h2 : NearV q c) : nm0 b = nm0 c := by
 unfold nm0
 rcases (by grind : 0 ≤ q ∨ q ≤ 0) with h | h
 · obtain ⟨a1, a2⟩ := h1.1 h
   obtain ⟨b1, b2⟩ := h2.1 h
   have e := a1.one b1
   by_cases hz : frung b = 0
   · rw [if_pos hz, if_pos (by omega)]
   · rw [if_neg hz, if_neg (by omega)]; omega
 · obtain ⟨a1, a2⟩ := h1.2 h
   obtain ⟨b1, b2⟩ := h2.2 h
   have e := a1.one b1
   by_cases hz : frung b = 0
   · rw [if_pos hz, if_pos (by omega)]
   · rw [if_neg hz, if_neg (by omega)]; omega
theorem near_pos {q : Rat} {i : Int} (h0 : 0 ≤ q) (hl : LoI q i) (hh : HiI q i) (h1 : -RR ≤ i) (h2 : i ≤ RR) : 0 ≤ i ∧ NQ q i.toNat := by
 unfold RR at *
 have h3 : 0 ≤ i := by
   apply Classical.byContradiction
   intro hn
   have a := V_lt (i := i) (j := 0) (by omega) (by omega) (by omega)
   have b : V (i + 1) ≤ 0 := by
     rcases (by omega : i + 1 = 0 ∨ i + 1 < 0) with e | e
     · rw [e, show (0 : Int) = ((0 : Nat) : Int) from rfl, V_nat, fval0]; exact Rat.le_refl
     · have := V_lt (i := i + 1) (j := 0) e (by omega) (by omega)
       rw [show (0 : Int) = ((0 : Nat) : Int) from rfl, V_nat, fval0] at this
       exact Rat.le_of_lt this
   rw [show (0 : Int) = ((0 : Nat) : Int) from rfl, V_nat, fval0] at a
   have := hh.1
   grind
 refine ⟨h3, ?_⟩
 obtain ⟨r, rfl⟩ : ∃ r : Nat, i = (r : Int) := ⟨i.toNat, by omega⟩
 rw [Int.toNat_natCast]
 unfold LoI HiI at *
 have e2 : V ((r : Int) + 1) = upv r := by
   unfold upv
   rw [if_pos (by omega), show (r : Int) + 1 = ((r + 1 : Nat) : Int) by omega, V_nat]
 rw [V_nat, e2] at hh
 refine ⟨by omega, fun hr => ?_, hh.1, fun e => by have := hh.2 e; omega⟩
 rw [V_nat, show (r : Int) - 1 = ((r - 1 : Nat) : Int) by omega, V_nat] at hl
 exact ⟨hl.1, fun e => by have := hl.2 e; omega⟩
theorem near_v {q : Rat} {b : Nat} (hb : b < 18446744073709551616) (hl : LoI q (sidx b)) (hh : HiI q (sidx b)) (h1 : -RR ≤ sidx b) (h2 : sidx b ≤ RR) : NearV q b := by
 constructor
 · intro h0
   obtain ⟨a, n⟩ := near_pos h0 hl hh h1 h2
   unfold sidx at a n
   unfold frung
   split at a
   · rename_i h
     rw [if_pos h] at n
     rw [show b % 9223372036854775808 = ((b : Nat) : Int).toNat by omega]
     exact ⟨n, Or.inl (by omega)⟩
   · rename_i h
     rw [if_neg h] at n
     have e : b = 9223372036854775808 := by omega
     subst e
     exact ⟨n, Or.inr (by decide)⟩
 · intro h0
   have hl' : LoI (-q) (-sidx b) := by
     unfold HiI at hh
     unfold LoI
     rw [show -sidx b - 1 = -(sidx b + 1) by omega, V_neg, V_neg]
     exact ⟨by grind, fun e => by have := hh.2 (by grind); omega⟩
   have hh' : HiI (-q) (-sidx b) := by
     unfold LoI at hl
     unfold HiI
     rw [show -sidx b + 1 = -(sidx b - 1) by omega, V_neg, V_neg]
     exact ⟨by grind, fun e => by have := hl.2 (by grind); omega⟩
   obtain ⟨a, n⟩ := near_pos (q := -q) (by grind) hl' hh' (by omega) (by omega)
   unfold sidx at a n
   unfold frung
   split at a
   · rename_i h
     have e : b = 0 := by omega
     subst e
     exact ⟨n, Or.inr (by decide)⟩
   · rename_i h
     rw [if_neg h] at n
     rw [show b % 9223372036854775808 = (-(9223372036854775808 - (b : Int))).toNat by omega]
     exact ⟨n, Or.inl (by omega)⟩
/- NEXT -/
theorem nan_inf (b : Nat) (h : frung b = 9218868437227405312) (w : World) : Calls Tryz.prog 78 #[.float .f64 b] w fun e w' => e = .returned (.bool false) ∧ w' = w := by
 have := isNaN_any b w
 rwa [show isnan b = false by unfold isnan; exact decide_eq_false (by omega)] at this
set_option maxHeartbeats 1000000 in
theorem next_a (x : Nat) (w : World) (fx : Fin64 x) (hx : x < 18446744073709551616) (h0 : 0 < fval x) : Calls Tryz.prog 90 #[.float .f64 x, .float .f64 9218868437227405312] w fun e w' => e = .returned (.float .f64 (x + 1)) ∧ w' = w := by
 have o1 : FloatKind.f64.format.order x 9218868437227405312 = some .lt := by
   have := order_fin_inf (b := x) (c := 9218868437227405312) fx (by decide)
   exact this
 have o2 : FloatKind.f64.format.order x 0 = some .gt := by rw [order_val fx fin0, fval0]; rw [if_neg (by grind), if_neg (by grind)]
 have o3 : FloatKind.f64.format.order 9218868437227405312 x = some .gt := by
   have := order_inf_fin (b := 9218868437227405312) (c := x) (by decide) fx
   exact this
 have HN : Hid (∀ w, Calls Tryz.prog 78 #[.float .f64 x] w fun e w' => e = .returned (.bool false) ∧ w' = w) := isNaN_fin fx
 have HM : Hid (∀ w, Calls Tryz.prog 78 #[.float .f64 9218868437227405312] w fun e w' => e = .returned (.bool false) ∧ w' = w) := nan_inf _ (by decide)
 have rb := run_bits x
 have hx00 : x ≠ 0 := by
   intro e; subst e; rw [fval0] at h0; grind
 have rf : ∀ w, (callFunc 75 #[.int .u64 ((x : Int) + 1)]).run Tryz.prog w = .ok (.value (.float .f64 (x + 1))) w := fun w => by
   have := run_frombits (x + 1) w
   rwa [show (((x + 1 : Nat)) : Int) = (x : Int) + 1 by omega] at this
 have hx1 : (x : Int) < 18446744073709551615 := by unfold Fin64 frung at fx; omega
 have hx0 : (1 : Int) ≤ (x : Int) := by
   have : x ≠ 0 := by
     intro e; subst e; rw [fval0] at h0; grind
   omega
 clear fx hx h0
 go_enter Tryz.func90, Tryz.ntmps90
 go_wp2_with fail
 refine (HN.out _).mono ?_
 rintro e w1 ⟨rfl, rfl⟩
 go_wp2_with fail
 refine (HM.out _).mono ?_
 rintro e w1 ⟨rfl, rfl⟩
 go_wp2
 go_ret
 exact ⟨by rfl, rfl⟩
set_option maxHeartbeats 1000000 in
theorem next_b (x : Nat) (w : World) (fx : Fin64 x) (hx : x < 18446744073709551616) (h0 : 0 < fval x) : Calls Tryz.prog 90 #[.float .f64 x, .float .f64 18442240474082181120] w fun e w' => e = .returned (.float .f64 (x - 1)) ∧ w' = w := by
 have o1 : FloatKind.f64.format.order x 18442240474082181120 = some .gt := by
   have := order_fin_inf (b := x) (c := 18442240474082181120) fx (by decide)
   exact this
 have o2 : FloatKind.f64.format.order x 0 = some .gt := by rw [order_val fx fin0, fval0]; rw [if_neg (by grind), if_neg (by grind)]
 have o3 : FloatKind.f64.format.order 18442240474082181120 x = some .lt := by
   have := order_inf_fin (b := 18442240474082181120) (c := x) (by decide) fx
   exact this
 have HN : Hid (∀ w, Calls Tryz.prog 78 #[.float .f64 x] w fun e w' => e = .returned (.bool false) ∧ w' = w) := isNaN_fin fx
 have HM : Hid (∀ w, Calls Tryz.prog 78 #[.float .f64 18442240474082181120] w fun e w' => e = .returned (.bool false) ∧ w' = w) := nan_inf _ (by decide)
 have rb := run_bits x
 have hx00 : x ≠ 0 := by
   intro e; subst e; rw [fval0] at h0; grind
 have rf : ∀ w, (callFunc 75 #[.int .u64 ((x : Int) - 1)]).run Tryz.prog w = .ok (.value (.float .f64 (x - 1))) w := fun w => by
   have := run_frombits (x - 1) w
   rwa [show (((x - 1 : Nat)) : Int) = (x : Int) - 1 by omega] at this
 have hx1 : (x : Int) < 18446744073709551615 := by unfold Fin64 frung at fx; omega
 have hx0 : (1 : Int) ≤ (x : Int) := by
   have : x ≠ 0 := by
     intro e; subst e; rw [fval0] at h0; grind
   omega
 clear fx hx h0
 go_enter Tryz.func90, Tryz.ntmps90
 go_wp2_with fail
 refine (HN.out _).mono ?_
 rintro e w1 ⟨rfl, rfl⟩
 go_wp2_with fail
 refine (HM.out _).mono ?_
 rintro e w1 ⟨rfl, rfl⟩
 go_wp2
 go_ret
 exact ⟨by rfl, rfl⟩
set_option maxHeartbeats 1000000 in
theorem next_c (x : Nat) (w : World) (fx : Fin64 x) (hx : x < 18446744073709551616) (h0 : fval x < 0) : Calls Tryz.prog 90 #[.float .f64 x, .float .f64 9218868437227405312] w fun e w' => e = .returned (.float .f64 (x - 1)) ∧ w' = w := by
 have o1 : FloatKind.f64.format.order x 9218868437227405312 = some .lt := by
   have := order_fin_inf (b := x) (c := 9218868437227405312) fx (by decide)
   exact this
 have o2 : FloatKind.f64.format.order x 0 = some .lt := by rw [order_val fx fin0, fval0]; rw [if_pos h0]
 have o3 : FloatKind.f64.format.order 9218868437227405312 x = some .gt := by
   have := order_inf_fin (b := 9218868437227405312) (c := x) (by decide) fx
   exact this
 have HN : Hid (∀ w, Calls Tryz.prog 78 #[.float .f64 x] w fun e w' => e = .returned (.bool false) ∧ w' = w) := isNaN_fin fx
 have HM : Hid (∀ w, Calls Tryz.prog 78 #[.float .f64 9218868437227405312] w fun e w' => e = .returned (.bool false) ∧ w' = w) := nan_inf _ (by decide)
 have rb := run_bits x
 have hx00 : x ≠ 0 := by
   intro e; subst e; rw [fval0] at h0; grind
 have rf : ∀ w, (callFunc 75 #[.int .u64 ((x : Int) - 1)]).run Tryz.prog w = .ok (.value (.float .f64 (x - 1))) w := fun w => by
   have := run_frombits (x - 1) w
   rwa [show (((x - 1 : Nat)) : Int) = (x : Int) - 1 by omega] at this
 have hx1 : (x : Int) < 18446744073709551615 := by unfold Fin64 frung at fx; omega
 have hx0 : (1 : Int) ≤ (x : Int) := by
   have : x ≠ 0 := by
     intro e; subst e; rw [fval0] at h0; grind
   omega
 clear fx hx h0
 go_enter Tryz.func90, Tryz.ntmps90
 go_wp2_with fail
 refine (HN.out _).mono ?_
 rintro e w1 ⟨rfl, rfl⟩
 go_wp2_with fail
 refine (HM.out _).mono ?_
 rintro e w1 ⟨rfl, rfl⟩
 go_wp2
 go_ret
 exact ⟨by rfl, rfl⟩
set_option maxHeartbeats 1000000 in
theorem next_d (x : Nat) (w : World) (fx : Fin64 x) (hx : x < 18446744073709551616) (h0 : fval x < 0) : Calls Tryz.prog 90 #[.float .f64 x, .float .f64 18442240474082181120] w fun e w' => e = .returned (.float .f64 (x + 1)) ∧ w' = w := by
 have o1 : FloatKind.f64.format.order x 18442240474082181120 = some .gt := by
   have := order_fin_inf (b := x) (c := 18442240474082181120) fx (by decide)
   exact this
 have o2 : FloatKind.f64.format.order x 0 = some .lt := by rw [order_val fx fin0, fval0]; rw [if_pos h0]
 have o3 : FloatKind.f64.format.order 18442240474082181120 x = some .lt := by
   have := order_inf_fin (b := 18442240474082181120) (c := x) (by decide) fx
   exact this
 have HN : Hid (∀ w, Calls Tryz.prog 78 #[.float .f64 x] w fun e w' => e = .returned (.bool false) ∧ w' = w) := isNaN_fin fx
 have HM : Hid (∀ w, Calls Tryz.prog 78 #[.float .f64 18442240474082181120] w fun e w' => e = .returned (.bool false) ∧ w' = w) := nan_inf _ (by decide)
 have rb := run_bits x
 have hx00 : x ≠ 0 := by
   intro e; subst e; rw [fval0] at h0; grind
 have rf : ∀ w, (callFunc 75 #[.int .u64 ((x : Int) + 1)]).run Tryz.prog w = .ok (.value (.float .f64 (x + 1))) w := fun w => by
   have := run_frombits (x + 1) w
   rwa [show (((x + 1 : Nat)) : Int) = (x : Int) + 1 by omega] at this
 have hx1 : (x : Int) < 18446744073709551615 := by unfold Fin64 frung at fx; omega
 have hx0 : (1 : Int) ≤ (x : Int) := by
   have : x ≠ 0 := by
     intro e; subst e; rw [fval0] at h0; grind
   omega
 clear fx hx h0
 go_enter Tryz.func90, Tryz.ntmps90
 go_wp2_with fail
 refine (HN.out _).mono ?_
 rintro e w1 ⟨rfl, rfl⟩
 go_wp2_with fail
 refine (HM.out _).mono ?_
 rintro e w1 ⟨rfl, rfl⟩
 go_wp2
 go_ret
 exact ⟨by rfl, rfl⟩
set_option maxHeartbeats 1000000 in
theorem copysign_gen (a b c : Nat) (x y : Int) (w : World) (h1 : bits .andNot .u64 (a : Int) 9223372036854775808 = x) (h2 : bits .and .u64 (b : Int) 9223372036854775808 = y) (h3 : bits .or .u64 x y = (c : Int)) : Calls Tryz.prog 120 #[.float .f64 a, .float .f64 b] w fun e w' => e = .returned (.float .f64 c) ∧ w' = w := by
 have r1 := run_bits a
 have r2 := run_bits b
 have r3 := run_frombits c
 go_enter Tryz.func120, Tryz.ntmps120
 go_wp2
 go_ret
 exact ⟨rfl, rfl⟩
theorem copysign_neg (w : World) : Calls Tryz.prog 120 #[.float .f64 1, .float .f64 18442240474082181120] w fun e w' => e = .returned (.float .f64 9223372036854775809) ∧ w' = w :=
 copysign_gen 1 18442240474082181120 9223372036854775809 1 9223372036854775808 w (by decide +kernel) (by decide +kernel) (by decide +kernel)
set_option maxHeartbeats 1000000 in
theorem next_zp (x : Nat) (w : World) (fx : Fin64 x) (h0 : fval x = 0) : Calls Tryz.prog 90 #[.float .f64 x, .float .f64 9218868437227405312] w fun e w' => e = .returned (.float .f64 1) ∧ w' = w := by
 have o1 : FloatKind.f64.format.order x 9218868437227405312 = some .lt := by
   have := order_fin_inf (b := x) (c := 9218868437227405312) fx (by decide)
   exact this
 have o2 : FloatKind.f64.format.order x 0 = some .eq := by rw [order_val fx fin0, fval0, h0, if_neg (by grind), if_pos rfl]
 have HN : Hid (∀ w, Calls Tryz.prog 78 #[.float .f64 x] w fun e w' => e = .returned (.bool false) ∧ w' = w) := isNaN_fin fx
 have HM : Hid (∀ w, Calls Tryz.prog 78 #[.float .f64 9218868437227405312] w fun e w' => e = .returned (.bool false) ∧ w' = w) := nan_inf _ (by decide)
 have rf : ∀ w, (callFunc 75 #[.int .u64 1]).run Tryz.prog w = .ok (.value (.float .f64 1)) w := run_frombits 1
 have HC : Hid (∀ w, Calls Tryz.prog 120 #[.float .f64 1, .float .f64 9218868437227405312] w fun e w' => e = .returned (.float .f64 1) ∧ w' = w) := fun w => copysign_pos 1 9218868437227405312 w (by decide +kernel) (by decide +kernel) (by decide +kernel)
 clear fx h0
 go_enter Tryz.func90, Tryz.ntmps90
 go_wp2_with fail
 refine (HN.out _).mono ?_
 rintro e w1 ⟨rfl, rfl⟩
 go_wp2_with fail
 refine (HM.out _).mono ?_
 rintro e w1 ⟨rfl, rfl⟩
 go_wp2_with fail
 refine (HC.out _).mono ?_
 rintro e w1 ⟨rfl, rfl⟩
 go_wp2
 go_ret
 exact ⟨by rfl, rfl⟩
set_option maxHeartbeats 1000000 in
theorem next_zn (x : Nat) (w : World) (fx : Fin64 x) (h0 : fval x = 0) : Calls Tryz.prog 90 #[.float .f64 x, .float .f64 18442240474082181120] w fun e w' => e = .returned (.float .f64 9223372036854775809) ∧ w' = w := by
 have o1 : FloatKind.f64.format.order x 18442240474082181120 = some .gt := by
   have := order_fin_inf (b := x) (c := 18442240474082181120) fx (by decide)
   exact this
 have o2 : FloatKind.f64.format.order x 0 = some .eq := by rw [order_val fx fin0, fval0, h0, if_neg (by grind), if_pos rfl]
 have HN : Hid (∀ w, Calls Tryz.prog 78 #[.float .f64 x] w fun e w' => e = .returned (.bool false) ∧ w' = w) := isNaN_fin fx
 have HM : Hid (∀ w, Calls Tryz.prog 78 #[.float .f64 18442240474082181120] w fun e w' => e = .returned (.bool false) ∧ w' = w) := nan_inf _ (by decide)
 have rf : ∀ w, (callFunc 75 #[.int .u64 1]).run Tryz.prog w = .ok (.value (.float .f64 1)) w := run_frombits 1
 have HC : Hid (∀ w, Calls Tryz.prog 120 #[.float .f64 1, .float .f64 18442240474082181120] w fun e w' => e = .returned (.float .f64 9223372036854775809) ∧ w' = w) := fun w => copysign_neg w
 clear fx h0
 go_enter Tryz.func90, Tryz.ntmps90
 go_wp2_with fail
 refine (HN.out _).mono ?_
 rintro e w1 ⟨rfl, rfl⟩
 go_wp2_with fail
 refine (HM.out _).mono ?_
 rintro e w1 ⟨rfl, rfl⟩
 go_wp2_with fail
 refine (HC.out _).mono ?_
 rintro e w1 ⟨rfl, rfl⟩
 go_wp2
 go_ret
 exact ⟨by rfl, rfl⟩
theorem fval_sign {b : Nat} (hb : b < 18446744073709551616) (hf : Fin64 b) : (frung b = 0 ∧ fval b = 0) ∨ (frung b ≠ 0 ∧ b < 9223372036854775808 ∧ 0 < fval b) ∨ (frung b ≠ 0 ∧ ¬ b < 9223372036854775808 ∧ fval b < 0) := by
 by_cases h : frung b = 0
 · exact Or.inl ⟨h, fval_zero_iff.2 h⟩
 · right
   unfold Fin64 at hf
   by_cases h2 : b < 9223372036854775808
   · left
     have e : frung b = b := by unfold frung; omega
     exact ⟨h, h2, pos_fval (by omega) (by omega)⟩
   · right
     obtain ⟨r, rfl⟩ : ∃ r, b = 9223372036854775808 + r := ⟨b - 9223372036854775808, by omega⟩
     have e : frung (9223372036854775808 + r) = r := by unfold frung; omega
     rw [e] at h hf
     have := pos_fval (r := r) hf h
     refine ⟨by rw [e]; exact h, h2, ?_⟩
     rw [fval_word hf]; grind
theorem next_dn_any (b : Nat) (w : World) (hb : b < 18446744073709551616) (hf : Fin64 b) : Calls Tryz.prog 90 #[.float .f64 b, .float .f64 18442240474082181120] w fun e w' => e = .returned (.float .f64 (dnW b)) ∧ w' = w := by
 unfold dnW
 rcases fval_sign hb hf with ⟨h1, h2⟩ | ⟨h1, h2, h3⟩ | ⟨h1, h2, h3⟩
 · rw [if_pos h1]; exact next_zn b w hf h2
 · rw [if_neg h1, if_pos h2]; exact next_b b w hf hb h3
 · rw [if_neg h1, if_neg h2]; exact next_d b w hf hb h3
theorem next_up_any (b : Nat) (w : World) (hb : b < 18446744073709551616) (hf : Fin64 b) : Calls Tryz.prog 90 #[.float .f64 b, .float .f64 9218868437227405312] w fun e w' => e = .returned (.float .f64 (upW b)) ∧ w' = w := by
 unfold upW
 rcases fval_sign hb hf with ⟨h1, h2⟩ | ⟨h1, h2, h3⟩ | ⟨h1, h2, h3⟩
 · rw [if_pos h1]; exact next_zp b w hf h2
 · rw [if_neg h1, if_pos h2]; exact next_a b w hf hb h3
 · rw [if_neg h1, if_neg h2]; exact next_c b w hf hb h3
end
end Go.Proofs.YtocnkgfoffpbfaaGreatDoor
