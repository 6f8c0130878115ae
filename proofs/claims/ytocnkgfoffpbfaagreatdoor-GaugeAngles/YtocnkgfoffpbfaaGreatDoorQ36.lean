/- Own texts, put together: Gv. -/
import Derived.Test.YtocnkgfoffpbfaaGreatDoorQ4
import Derived.Test.YtocnkgfoffpbfaaGreatDoorQ24
import Derived.Test.YtocnkgfoffpbfaaGreatDoorQ31
/- The float nearest to a quotient: nearest. -/
namespace Go.Proofs.YtocnkgfoffpbfaaGreatDoor
open Go.RowKit Go.Shelf
attribute [local go_sem ↓] Go.wp_at_zero Go.wp_at_succ
attribute [local go_sem] run_store_float
theorem sgq_mul_self {a d : Rat} (hd : d ≠ 0) : sgq (a * d) * sgq d = sgq a := by
 have key : ∀ x : Rat, (x < 0 ∧ sgq x = -1) ∨ (x = 0 ∧ sgq x = 0) ∨ (0 < x ∧ sgq x = 1) := fun x => by
   unfold sgq
   split
   · exact Or.inl ⟨by assumption, rfl⟩
   · split
     · exact Or.inr (Or.inl ⟨by assumption, rfl⟩)
     · exact Or.inr (Or.inr ⟨by grind, rfl⟩)
 rcases key a with ⟨a1, a2⟩ | ⟨a1, a2⟩ | ⟨a1, a2⟩
 · rcases key d with ⟨d1, d2⟩ | ⟨d1, d2⟩ | ⟨d1, d2⟩
   · have := Rat.mul_pos (show 0 < -a by grind) (show 0 < -d by grind)
     rcases key (a * d) with ⟨e1, e2⟩ | ⟨e1, e2⟩ | ⟨e1, e2⟩
     · grind
     · grind
     · rw [e2, d2, a2]; decide
   · exact absurd d1 hd
   · have := Rat.mul_pos (show 0 < -a by grind) d1
     rcases key (a * d) with ⟨e1, e2⟩ | ⟨e1, e2⟩ | ⟨e1, e2⟩
     · rw [e2, d2, a2]; decide
     · grind
     · grind
 · subst a1
   rw [Rat.zero_mul, a2]; simp
 · rcases key d with ⟨d1, d2⟩ | ⟨d1, d2⟩ | ⟨d1, d2⟩
   · have := Rat.mul_pos a1 (show 0 < -d by grind)
     rcases key (a * d) with ⟨e1, e2⟩ | ⟨e1, e2⟩ | ⟨e1, e2⟩
     · rw [e2, d2, a2]; decide
     · grind
     · grind
   · exact absurd d1 hd
   · have := Rat.mul_pos a1 d1
     rcases key (a * d) with ⟨e1, e2⟩ | ⟨e1, e2⟩ | ⟨e1, e2⟩
     · grind
     · grind
     · rw [e2, d2, a2]; decide
theorem floatOf_rn {q : Rat} {f : Nat} (h : FloatOf q f) (hq : ab q < p2 1023) : f < 18446744073709551616 ∧ Fin64 f ∧ RN q (fval f) := by
 have hl := ab_lt.1 hq
 rcases h with ⟨h0, hn⟩ | ⟨h0, r, hn, e⟩
 · have hr := near_lt hn hl.1
   obtain ⟨T, k, R⟩ := near_rnd hn hr
   exact ⟨by omega, fin_small hr, T, k, R⟩
 · have hr := near_lt hn hl.2
   obtain ⟨T, k, R⟩ := near_rnd hn hr
   have R' := R.neg
   rw [show - -q = q by grind] at R'
   by_cases hz : r = 0
   · rw [if_pos hz] at e
     subst e hz
     rw [fval0, show -(0 : Rat) = 0 by grind] at R'
     exact ⟨by omega, fin0, T, _, by rw [fval0]; exact R'⟩
   · rw [if_neg hz] at e
     subst e
     refine ⟨by omega, by unfold Fin64 frung; omega, T, -k, ?_⟩
     rw [fval_word hr]; exact R'
theorem quot_word {n d : Rat} {fa fb : Nat} (ha : FloatOf n fa) (hb : FloatOf d fb) (hn : ab n ≤ U 1380) (hd : ab d ≤ U 1380) (md : M (U 874) d) (h0 : d ≠ 0) : ∃ f, floatBits .quo .f64 fa fb = some f ∧ f < 18446744073709551616 ∧ Fin64 f ∧ ab (fval f) ≤ U 1974 := by
 have lim : U 1380 < p2 1023 := by unfold U; exact p2_lt (by omega)
 obtain ⟨wa, f1, r1⟩ := floatOf_rn ha (by grind)
 obtain ⟨wb, f2, r2⟩ := floatOf_rn hb (by grind)
 have l1 := r1.le hn
 have z2 : fval fb ≠ 0 := by
   intro e
   have := r2.rel md
   rw [e, show ab 0 = 0 by unfold ab; grind] at this
   have := ab_zero (x := d - 0) (by have := ab_nonneg (d - 0); grind)
   exact h0 (by grind)
 have g2 := (r2.mm md).ge (U_pos 874) z2
 obtain ⟨f, q, e, rw', hq⟩ := div_word f1 f2 z2
 have hq2 : ab q ≤ U 1581 := by
   have a1 := Rat.mul_le_mul_of_nonneg_left g2 (ab_nonneg q)
   have a2 : ab q * U 874 ≤ U 1381 := by
     have := U_two' 1380
     grind
   have a3 : U 1274 * U 874 = 1 := by rw [U_mulX' (s := 1274) (t := 874) (r := 1074) (by omega)]; exact U1074
   have a4 : U 1274 * U 1381 = U 1581 := U_mulX' (by omega)
   have a5 := Rat.mul_le_mul_of_nonneg_left a2 (Rat.le_of_lt (U_pos 1274))
   rw [a4, show U 1274 * (ab q * U 874) = ab q * (U 1274 * U 874) by grind, a3, Rat.mul_one] at a5
   exact a5
 have hlim : ab q < 18014398509481983 * p2 970 := by
   have h1 := U_small (p := 1581) (by omega)
   have h2 := p2_pos 970
   grind
 obtain ⟨wf, ff, rv⟩ := rw'.fin hlim
 exact ⟨f, e, wf, ff, Rat.le_trans (rv.rn.le hq2) (U_mono (by omega))⟩
theorem dn_step {q : Rat} {b : Nat} (hb : b < 18446744073709551616) (h1 : -RR ≤ sidx b) (h2 : sidx b ≤ RR) (t : Bool) (ht : t = (if sgq (2 * q - (fval b + fval (dnW b))) = 1 then false else if sgq (2 * q - (fval b + fval (dnW b))) = -1 then true else (b : Int) % 2 == 1)) (hq : ab q < U 1974) :
   (t = false → LoI q (sidx b)) ∧ (t = true → -RR ≤ sidx (dnW b)) := by
 have hf := idx_fin hb h1 h2
 obtain ⟨d1, d2, d3⟩ := dn_idx hb h1 h2
 have e1 := V_val hf hb
 have e2 := V_val d2 d1
 rw [d3] at e2
 have ho := idx_odd b
 rw [← e1, ← e2] at ht
 unfold sgq at ht
 constructor
 · intro h
   rw [h] at ht
   unfold LoI
   by_cases c1 : 2 * q - (V (sidx b) + V (sidx b - 1)) < 0
   · rw [if_pos c1] at ht
     simp at ht
   · by_cases c2 : 2 * q - (V (sidx b) + V (sidx b - 1)) = 0
     · rw [if_neg c1, if_pos c2] at ht
       simp at ht
       exact ⟨by grind, fun _ => by omega⟩
     · exact ⟨by grind, fun e => by exfalso; grind⟩
 · intro h
   rw [d3]
   apply Classical.byContradiction
   intro hn
   have hi : sidx b = -RR := by omega
   have hv : V (sidx b) = -U 1974 := by
     rw [hi, V_neg, show RR = ((8660422083433463808 : Nat) : Int) from rfl, V_nat, fval_RR]
   have hv2 := V_lt (i := sidx b - 1) (j := sidx b) (by omega) (by unfold RR at *; omega) (by unfold RR at *; omega)
   have hq' := ab_lt.1 hq
   have c1 : ¬ 2 * q - (V (sidx b) + V (sidx b - 1)) < 0 := by grind
   have c2 : ¬ 2 * q - (V (sidx b) + V (sidx b - 1)) = 0 := by grind
   rw [if_neg c1, if_neg c2, if_pos rfl, h] at ht
   cases ht
theorem up_step {q : Rat} {b : Nat} (hb : b < 18446744073709551616) (h1 : -RR ≤ sidx b) (h2 : sidx b ≤ RR) (t : Bool) (ht : t = (if sgq (2 * q - (fval b + fval (upW b))) = 1 then true else if sgq (2 * q - (fval b + fval (upW b))) = -1 then false else (b : Int) % 2 == 1)) (hq : ab q < U 1974) :
   (t = false → HiI q (sidx b)) ∧ (t = true → sidx (upW b) ≤ RR ∧ LoI q (sidx (upW b))) := by
 have hf := idx_fin hb h1 h2
 obtain ⟨d1, d2, d3⟩ := up_idx hb h1 h2
 have e1 := V_val hf hb
 have e2 := V_val d2 d1
 rw [d3] at e2
 have ho := idx_odd b
 rw [← e1, ← e2] at ht
 unfold sgq at ht
 constructor
 · intro h
   rw [h] at ht
   unfold HiI
   by_cases c1 : 2 * q - (V (sidx b) + V (sidx b + 1)) < 0
   · exact ⟨by grind, fun e => by exfalso; grind⟩
   · by_cases c2 : 2 * q - (V (sidx b) + V (sidx b + 1)) = 0
     · rw [if_neg c1, if_pos c2] at ht
       simp at ht
       exact ⟨by grind, fun _ => by omega⟩
     · rw [if_neg c1, if_neg c2] at ht
       simp at ht
 · intro h
   rw [d3]
   have hlt : ¬ 2 * q - (V (sidx b) + V (sidx b + 1)) < 0 := by
     intro c1
     rw [if_pos c1, h] at ht
     simp at ht
   constructor
   · apply Classical.byContradiction
     intro hn
     have hi : sidx b = RR := by omega
     have hv : V (sidx b) = U 1974 := by
       rw [hi, show RR = ((8660422083433463808 : Nat) : Int) from rfl, V_nat, fval_RR]
     have hv2 := V_lt (i := sidx b) (j := sidx b + 1) (by omega) (by unfold RR at *; omega) (by unfold RR at *; omega)
     have hq' := ab_lt.1 hq
     grind
   · unfold LoI
     rw [show sidx b + 1 - 1 = sidx b by omega]
     refine ⟨by grind, fun e => ?_⟩
     have c2 : 2 * q - (V (sidx b) + V (sidx b + 1)) = 0 := by grind
     rw [if_neg hlt, if_pos c2, h] at ht
     simp at ht
     omega
def wOf : Value → Nat
 | .float _ b => b
 | _ => 0
set_option maxRecDepth 100000 in
set_option maxHeartbeats 4000000 in
theorem gnearest_any {n d q : Rat} (aN : Option Addr) (nN cN : Nat) (lN : Int) (gN oN : Bool) (aD : Option Addr) (nD cD : Nat) (lD : Int) (gD oD : Bool) (w : World) (hT : Tab w) (h1 : IsNum w (.agg #[.slice aN nN cN, .int .i64 lN, .bool gN, .bool oN]) (some n)) (h2 : IsNum w (.agg #[.slice aD nD cD, .int .i64 lD, .bool gD, .bool oD]) (some d)) (hn : ab n ≤ U 1380) (hd : ab d ≤ U 1380) (md : M (U 874) d) (h0 : d ≠ 0) (hqd : q * d = n) (bn : Bd 5000 (-9000) n) (bd : Bd 5000 (-9000) d) :
   Calls Tryz.prog 55 #[(.agg #[.slice aN nN cN, .int .i64 lN, .bool gN, .bool oN]), (.agg #[.slice aD nD cD, .int .i64 lD, .bool gD, .bool oD])] w fun e w' => (∃ b, e = .returned (.float .f64 b) ∧ b < 18446744073709551616 ∧ NearV q b) ∧ Below w.heap.size w w' := by
 have hq : ab q < U 1974 := by
   have g := md.ge (U_pos 874) h0
   have a1 := Rat.mul_le_mul_of_nonneg_left g (ab_nonneg q)
   rw [← ab_mul, hqd] at a1
   have a3 : U 1274 * U 874 = 1 := by rw [U_mulX' (s := 1274) (t := 874) (r := 1074) (by omega)]; exact U1074
   have a4 : U 1274 * U 1380 = U 1580 := U_mulX' (by omega)
   have a5 := Rat.mul_le_mul_of_nonneg_left (Rat.le_trans a1 hn) (Rat.le_of_lt (U_pos 1274))
   rw [a4, show U 1274 * (ab q * U 874) = ab q * (U 1274 * U 874) by grind, a3, Rat.mul_one] at a5
   have a6 : U 1580 < U 1974 := U_lt_iff.2 (by omega)
   grind
 have HT : Hid (Tab w) := hT
 have HN : Hid (IsNum w (.agg #[.slice aN nN cN, .int .i64 lN, .bool gN, .bool oN]) (some n) ∧ IsNum w (.agg #[.slice aD nD cD, .int .i64 lD, .bool gD, .bool oD]) (some d)) := ⟨h1, h2⟩
 have HQ : Hid (ab n ≤ U 1380 ∧ ab d ≤ U 1380 ∧ M (U 874) d ∧ d ≠ 0 ∧ q * d = n ∧ ab q < U 1974) := ⟨hn, hd, md, h0, hqd, hq⟩
 have HBd : Hid (May (2 * n) ∧ Bd 5000 (-9000) d) := ⟨by
   rw [show 2 * n = n + n by grind]
   exact (bn.add bn).may (by omega) (by omega), bd⟩
 clear hT h1 h2 hn hd md h0 hqd hq bn bd
 go_enter Tryz.func55, Tryz.ntmps55
 go_wp2_with fail
 obtain ⟨W0, hW0⟩ : ∃ W0, W0 = (w.alloc (.cells #[.slice aN nN cN, .int .i64 lN, .bool gN, .bool oN] 49)).alloc (.cells #[.slice aD nD cD, .int .i64 lD, .bool gD, .bool oD] 49) := ⟨_, rfl⟩
 have z0 : W0.drew.cell? ⟨w.heap.size, 0, none⟩ = some (.slice aN nN cN) := by rw [hW0]; go_simp
 have z1 : W0.drew.cell? ⟨w.heap.size, 1, none⟩ = some (.int .i64 lN) := by rw [hW0]; go_simp
 have z2 : W0.drew.cell? ⟨w.heap.size, 2, none⟩ = some (.bool gN) := by rw [hW0]; go_simp
 have z3 : W0.drew.cell? ⟨w.heap.size, 3, none⟩ = some (.bool oN) := by rw [hW0]; go_simp
 have z4 : W0.drew.cell? ⟨w.heap.size + 1, 0, none⟩ = some (.slice aD nD cD) := by rw [hW0]; go_simp
 have z5 : W0.drew.cell? ⟨w.heap.size + 1, 1, none⟩ = some (.int .i64 lD) := by rw [hW0]; go_simp
 have z6 : W0.drew.cell? ⟨w.heap.size + 1, 2, none⟩ = some (.bool gD) := by rw [hW0]; go_simp
 have z7 : W0.drew.cell? ⟨w.heap.size + 1, 3, none⟩ = some (.bool oD) := by rw [hW0]; go_simp
 have HB0 : Hid (Below w.heap.size w W0) := by
   rw [hW0]
   exact ((Below.refl _ w).alloc (Nat.le_refl _) _).alloc (by simp) _
 have HC1 : CB W0.drew w.heap.size #[.slice aN nN cN, .int .i64 lN, .bool gN, .bool oN] 49 := by
   rw [hW0]
   exact CB.drew (CB.later (CB.new w _ _) ((Below.refl _ _).alloc (Nat.le_refl _) _))
 have HC2 : CB W0.drew (w.heap.size + 1) #[.slice aD nD cD, .int .i64 lD, .bool gD, .bool oD] 49 := by
   have := CB.new (w.alloc (.cells #[.slice aN nN cN, .int .i64 lN, .bool gN, .bool oN] 49)) #[.slice aD nD cD, .int .i64 lD, .bool gD, .bool oD] 49
   rw [hW0]
   exact CB.drew (by simpa using this)
 rw [← hW0]
 clear hW0
 refine wp_region_held_drew (S := (fun W => W.cell? ⟨w.heap.size, 0, none⟩ = some (.slice aN nN cN) ∧ W.cell? ⟨w.heap.size, 1, none⟩ = some (.int .i64 lN) ∧ W.cell? ⟨w.heap.size, 2, none⟩ = some (.bool gN) ∧ W.cell? ⟨w.heap.size, 3, none⟩ = some (.bool oN) ∧ W.cell? ⟨w.heap.size + 1, 0, none⟩ = some (.slice aD nD cD) ∧ W.cell? ⟨w.heap.size + 1, 1, none⟩ = some (.int .i64 lD) ∧ W.cell? ⟨w.heap.size + 1, 2, none⟩ = some (.bool gD) ∧ W.cell? ⟨w.heap.size + 1, 3, none⟩ = some (.bool oD) ∧ Below w.heap.size w W)) (by kernel_rfl) ⟨z0, z1, z2, z3, z4, z5, z6, z7, HB0.out.drew⟩ (fun hS => ?_)
 refine takA (i := 0) (d := some 9) (v := .agg #[.slice aN nN cN, .int .i64 lN, .bool gN, .bool oN]) hS ?_
 simp only [AP]
 refine takA (i := 2) (d := some 11) (v := .agg #[.slice aD nD cD, .int .i64 lD, .bool gD, .bool oD]) hS ?_
 simp only [AP]
 refine calA 1 fun KF hK => ?_
 go_simp
 refine (float_any _ (some n) _ (HN.out.1.later hS.2.2.2.2.2.2.2.2)).mono ?_
 rintro e wx ⟨⟨fa, rfl, hfa⟩, hbx⟩
 replace HC1 := HC1.later hbx
 replace HC2 := HC2.later hbx
 go_wp2_with fail
 refine hK.out _ _ (kp8 hbx hS) ?_
 clear hS hbx
 intro hS
 clear hK KF
 try simp only [AP]
 refine calA 3 fun KF hK => ?_
 go_simp
 refine (float_any _ (some d) _ (HN.out.2.later hS.2.2.2.2.2.2.2.2)).mono ?_
 rintro e wx ⟨⟨fb, rfl, hfb⟩, hbx⟩
 replace HC1 := HC1.later hbx
 replace HC2 := HC2.later hbx
 obtain ⟨f0, q1, q2, q3, q4⟩ := quot_word hfa hfb HQ.out.1 HQ.out.2.1 HQ.out.2.2.1 HQ.out.2.2.2.1
 have rq : ∀ w, (binOp .quo 22 (.float .f64 fa) (.float .f64 fb)).run Tryz.prog w = .ok (.float .f64 f0) w := fun w => run_float_arith w .quo _ .f64 _ _ _ q1
 have HF0 : Hid (f0 < 18446744073709551616 ∧ -RR ≤ sidx f0 ∧ sidx f0 ≤ RR) := ⟨q2, idx_bound q2 q3 q4⟩
 clear q1 q2 q3 q4 hfa hfb
 go_wp2_with fail
 refine hK.out _ _ (kp8 hbx hS) ?_
 clear hS hbx
 intro hS
 clear hK KF
 try simp only [AP]
 refine takA (i := 4) (d := some 13) (v := .float .f64 f0) hS ?_
 simp only [AP]
 refine takA (i := 5) (d := some 5) (v := .float .f64 f0) hS ?_
 simp only [AP]
 refine wpAnyH_done (by kernel_rfl) ?_ _
 clear z0 z1 z2 z3 z4 z5 z6 z7
 have HWs : Hid (CB _ w.heap.size #[.slice aN nN cN, .int .i64 lN, .bool gN, .bool oN] 49 ∧ CB _ (w.heap.size + 1) #[.slice aD nD cD, .int .i64 lD, .bool gD, .bool oD] 49 ∧ Below w.heap.size w _) := ⟨HC1, HC2, hS.2.2.2.2.2.2.2.2⟩
 clear hS HC1 HC2 HB0 rq
 go_wp2_with fail
 refine (inf_neg _).mono ?_
 rintro e w1 ⟨rfl, hbx⟩
 subst hbx
 go_wp2_with fail
 refine (inf_pos _).mono ?_
 rintro e w1 ⟨rfl, hbx⟩
 subst hbx
 have ix0 : ∀ w, (Instr.index 62 (.agg #[.float .f64 18442240474082181120, .float .f64 9218868437227405312]) (.int .i64 0)).run Tryz.prog w = .ok (.float .f64 18442240474082181120) w := fun _ => by kernel_rfl
 have ix1 : ∀ w, (Instr.index 62 (.agg #[.float .f64 18442240474082181120, .float .f64 9218868437227405312]) (.int .i64 1)).run Tryz.prog w = .ok (.float .f64 9218868437227405312) w := fun _ => by kernel_rfl
 go_wp2_with fail
 go_loopw [5, 17] (fun f i wr => ∃ b : Nat, f = .float .f64 b ∧ ((i = .int .i64 0 ∧ b < 18446744073709551616 ∧ -RR ≤ sidx b ∧ sidx b ≤ RR) ∨ (i = .int .i64 1 ∧ (b < 18446744073709551616 ∧ -RR ≤ sidx b ∧ sidx b ≤ RR) ∧ LoI q (sidx b)) ∨ (i = .int .i64 2 ∧ (b < 18446744073709551616 ∧ -RR ≤ sidx b ∧ sidx b ≤ RR) ∧ LoI q (sidx b) ∧ HiI q (sidx b))) ∧ Hid (CB wr w.heap.size #[.slice aN nN cN, .int .i64 lN, .bool gN, .bool oN] 49 ∧ CB wr (w.heap.size + 1) #[.slice aD nD cD, .int .i64 lD, .bool gD, .bool oD] 49 ∧ Below w.heap.size w wr)) (fun _ i _ => 2 - (intOf i).toNat)
 case atStart => exact ⟨_, rfl, Or.inl ⟨rfl, HF0.out⟩, HWs.out⟩
 case round =>
   obtain ⟨b, rfl, hcase, hB⟩ := hrel
   clear HF0 HWs
   rcases hcase with ⟨rfl, hb'⟩ | ⟨rfl, hb', hlo⟩ | ⟨rfl, hb', hlo, hhi⟩
   · have hb : Hid (b < 18446744073709551616 ∧ -RR ≤ sidx b ∧ sidx b ≤ RR) := hb'
     clear hb'
     have hfin := idx_fin hb.out.1 hb.out.2.1 hb.out.2.2
     go_wp2_with fail
     refine (next_dn_any b _ hb.out.1 hfin).mono ?_
     rintro e wx ⟨rfl, hbx⟩
     subst hbx
     clear hfin
     go_wp2_with fail
     generalize wx = wo at *
     go_loopw [5, 8] (fun f x wr => ∃ c : Nat, f = .float .f64 c ∧ x = .float .f64 (dnW c) ∧ Hid (c < 18446744073709551616 ∧ -RR ≤ sidx c ∧ sidx c ≤ RR) ∧ Hid (CB wr w.heap.size #[.slice aN nN cN, .int .i64 lN, .bool gN, .bool oN] 49 ∧ CB wr (w.heap.size + 1) #[.slice aD nD cD, .int .i64 lD, .bool gD, .bool oD] 49 ∧ Below w.heap.size w wr)) (fun f _ _ => (sidx (wOf f) + RR + 1).toNat)
     case atStart => exact ⟨b, rfl, rfl, hb.out, hB.out⟩
     case round =>
       obtain ⟨c, rfl, rfl, hc, hW⟩ := hrel
       clear hb hB
       have ic := hc.out
       obtain ⟨n1, n2, n3⟩ := dn_idx ic.1 ic.2.1 ic.2.2
       have hfc := idx_fin ic.1 ic.2.1 ic.2.2
       have e1 := V_val hfc ic.1
       have e2 := V_val n2 n1
       rw [n3] at e2
       have hR := RR_eq
       have hVlt : fval (dnW c) < fval c := by rw [← e1, ← e2]; exact V_lt (by omega) (by omega) (by omega)
       have hg : (FloatKind.f64.format.order (dnW c) c == some .gt) = false := by rw [order_val n2 hfc]; rw [if_pos hVlt]; rfl
       have hl : (FloatKind.f64.format.order (dnW c) c == some .lt) = true := by rw [order_val n2 hfc]; rw [if_pos hVlt]; rfl
       obtain ⟨t, ht⟩ : ∃ t : Bool, t = (if sgq (2 * q - (fval c + fval (dnW c))) = 1 then false else if sgq (2 * q - (fval c + fval (dnW c))) = -1 then true else (c : Int) % 2 == 1) := ⟨_, rfl⟩
       have hst := dn_step ic.1 ic.2.1 ic.2.2 t ht HQ.out.2.2.2.2.2
       have hzz : sgq (2 * n - (fval c + fval (dnW c)) * d) * sgq d = sgq (2 * q - (fval c + fval (dnW c))) := by
         rw [show 2 * n - (fval c + fval (dnW c)) * d = (2 * q - (fval c + fval (dnW c))) * d by rw [← HQ.out.2.2.2.2.1]; grind]
         exact sgq_mul_self HQ.out.2.2.2.1
       have bs := (fval_bd hfc).add (fval_bd n2)
       have HM : Hid (May (fval c + fval (dnW c)) ∧ May ((fval c + fval (dnW c)) * d) ∧ May (2 * n)) := ⟨bs.may (by omega) (by omega), (bs.mul HBd.out.2).may (by omega) (by omega), HBd.out.1⟩
       have HX : Hid ((c < 18446744073709551616 ∧ Fin64 c) ∧ dnW c < 18446744073709551616 ∧ Fin64 (dnW c)) := ⟨⟨ic.1, hfc⟩, n1, n2⟩
       have HST : Hid ((t = false → LoI q (sidx c)) ∧ (t = true → -RR ≤ sidx (dnW c))) := hst
       have HG : Hid _ := hg
       have HLl : Hid _ := hl
       have HTt : Hid _ := ht
       have HZZ : Hid _ := hzz
       have HN3 : Hid (sidx (dnW c) = sidx c - 1) := n3
       clear e1 e2 hR hVlt hg hl ht hst hzz bs n1 n2 n3 hfc ic
       have k0 := hW.out.1.cell 0 (by simp)
       have k1 := hW.out.1.cell 1 (by simp)
       have k2 := hW.out.1.cell 2 (by simp)
       have k3 := hW.out.1.cell 3 (by simp)
       have m0 := hW.out.2.1.cell 0 (by simp)
       have m1 := hW.out.2.1.cell 1 (by simp)
       have m2 := hW.out.2.1.cell 2 (by simp)
       have m3 := hW.out.2.1.cell 3 (by simp)
       go_wp2_with fail
       have hcl := nearer_any (n := n) (d := d) c (dnW c) _ _ _ _ aN nN cN lN gN oN aD nD cD lD gD oD wr (HT.out.later hW.out.2.2) (HN.out.1.later hW.out.2.2) (HN.out.2.later hW.out.2.2) HX.out.1 HX.out.2 HM.out.1 HM.out.2.1 HM.out.2.2 rfl rfl HG.out HLl.out
       rw [HZZ.out, ← HTt.out] at hcl
       refine hcl.mono ?_
       rintro e w2 ⟨rfl, hb2⟩
       have HW2 : Hid (CB w2 w.heap.size #[.slice aN nN cN, .int .i64 lN, .bool gN, .bool oN] 49 ∧ CB w2 (w.heap.size + 1) #[.slice aD nD cD, .int .i64 lD, .bool gD, .bool oD] 49 ∧ Below w.heap.size w w2) := ⟨hW.out.1.later hb2, hW.out.2.1.later hb2, below_step hW.out.2.2 hb2⟩
       clear hb2 hcl k0 k1 k2 k3 m0 m1 m2 m3
       cases t
       · go_wp2
         exact ⟨⟨c, rfl, Or.inr (Or.inl ⟨rfl, hc.out, HST.out.1 (by simp)⟩), HW2.out⟩, by simp [intOf]⟩
       · go_wp2_with fail
         refine (next_dn_any (dnW c) _ HX.out.2.1 HX.out.2.2).mono ?_
         rintro e wx ⟨rfl, hbx⟩
         subst hbx
         go_wp2
         have hs := HST.out.2 (by simp)
         have h3 := HN3.out
         have hc' := hc.out
         refine ⟨⟨dnW c, rfl, rfl, ⟨HX.out.2.1, hs, by omega⟩, HW2.out⟩, ?_⟩
         show (sidx (dnW c) + RR + 1).toNat < (sidx c + RR + 1).toNat
         omega
   · have hb : Hid (b < 18446744073709551616 ∧ -RR ≤ sidx b ∧ sidx b ≤ RR ∧ LoI q (sidx b)) := ⟨hb'.1, hb'.2.1, hb'.2.2, hlo⟩
     clear hb' hlo
     have hfin := idx_fin hb.out.1 hb.out.2.1 hb.out.2.2.1
     go_wp2_with fail
     refine (next_up_any b _ hb.out.1 hfin).mono ?_
     rintro e wx ⟨rfl, hbx⟩
     subst hbx
     clear hfin
     go_wp2_with fail
     generalize wx = wo at *
     go_loopw [5, 8] (fun f x wr => ∃ c : Nat, f = .float .f64 c ∧ x = .float .f64 (upW c) ∧ Hid (c < 18446744073709551616 ∧ -RR ≤ sidx c ∧ sidx c ≤ RR ∧ LoI q (sidx c)) ∧ Hid (CB wr w.heap.size #[.slice aN nN cN, .int .i64 lN, .bool gN, .bool oN] 49 ∧ CB wr (w.heap.size + 1) #[.slice aD nD cD, .int .i64 lD, .bool gD, .bool oD] 49 ∧ Below w.heap.size w wr)) (fun f _ _ => (RR + 1 - sidx (wOf f)).toNat)
     case atStart => exact ⟨b, rfl, rfl, hb.out, hB.out⟩
     case round =>
       obtain ⟨c, rfl, rfl, hc, hW⟩ := hrel
       clear hb hB
       have ic := hc.out
       obtain ⟨n1, n2, n3⟩ := up_idx ic.1 ic.2.1 ic.2.2.1
       have hfc := idx_fin ic.1 ic.2.1 ic.2.2.1
       have e1 := V_val hfc ic.1
       have e2 := V_val n2 n1
       rw [n3] at e2
       have hR := RR_eq
       have hVlt : fval c < fval (upW c) := by rw [← e1, ← e2]; exact V_lt (by omega) (by omega) (by omega)
       have hg : (FloatKind.f64.format.order (upW c) c == some .gt) = true := by rw [order_val n2 hfc]; rw [if_neg (by grind), if_neg (by grind)]; rfl
       have hl : (FloatKind.f64.format.order (upW c) c == some .lt) = false := by rw [order_val n2 hfc]; rw [if_neg (by grind), if_neg (by grind)]; rfl
       obtain ⟨t, ht⟩ : ∃ t : Bool, t = (if sgq (2 * q - (fval c + fval (upW c))) = 1 then true else if sgq (2 * q - (fval c + fval (upW c))) = -1 then false else (c : Int) % 2 == 1) := ⟨_, rfl⟩
       have hst := up_step ic.1 ic.2.1 ic.2.2.1 t ht HQ.out.2.2.2.2.2
       have hzz : sgq (2 * n - (fval c + fval (upW c)) * d) * sgq d = sgq (2 * q - (fval c + fval (upW c))) := by
         rw [show 2 * n - (fval c + fval (upW c)) * d = (2 * q - (fval c + fval (upW c))) * d by rw [← HQ.out.2.2.2.2.1]; grind]
         exact sgq_mul_self HQ.out.2.2.2.1
       have bs := (fval_bd hfc).add (fval_bd n2)
       have HM : Hid (May (fval c + fval (upW c)) ∧ May ((fval c + fval (upW c)) * d) ∧ May (2 * n)) := ⟨bs.may (by omega) (by omega), (bs.mul HBd.out.2).may (by omega) (by omega), HBd.out.1⟩
       have HX : Hid ((c < 18446744073709551616 ∧ Fin64 c) ∧ upW c < 18446744073709551616 ∧ Fin64 (upW c)) := ⟨⟨ic.1, hfc⟩, n1, n2⟩
       have HST : Hid ((t = false → HiI q (sidx c)) ∧ (t = true → sidx (upW c) ≤ RR ∧ LoI q (sidx (upW c)))) := hst
       have HG : Hid _ := hg
       have HLl : Hid _ := hl
       have HTt : Hid _ := ht
       have HZZ : Hid _ := hzz
       have HN3 : Hid (sidx (upW c) = sidx c + 1) := n3
       clear e1 e2 hR hVlt hg hl ht hst hzz bs n1 n2 n3 hfc ic
       have k0 := hW.out.1.cell 0 (by simp)
       have k1 := hW.out.1.cell 1 (by simp)
       have k2 := hW.out.1.cell 2 (by simp)
       have k3 := hW.out.1.cell 3 (by simp)
       have m0 := hW.out.2.1.cell 0 (by simp)
       have m1 := hW.out.2.1.cell 1 (by simp)
       have m2 := hW.out.2.1.cell 2 (by simp)
       have m3 := hW.out.2.1.cell 3 (by simp)
       go_wp2_with fail
       have hcl := nearer_any (n := n) (d := d) c (upW c) _ _ _ _ aN nN cN lN gN oN aD nD cD lD gD oD wr (HT.out.later hW.out.2.2) (HN.out.1.later hW.out.2.2) (HN.out.2.later hW.out.2.2) HX.out.1 HX.out.2 HM.out.1 HM.out.2.1 HM.out.2.2 rfl rfl HG.out HLl.out
       rw [HZZ.out, ← HTt.out] at hcl
       refine hcl.mono ?_
       rintro e w2 ⟨rfl, hb2⟩
       have HW2 : Hid (CB w2 w.heap.size #[.slice aN nN cN, .int .i64 lN, .bool gN, .bool oN] 49 ∧ CB w2 (w.heap.size + 1) #[.slice aD nD cD, .int .i64 lD, .bool gD, .bool oD] 49 ∧ Below w.heap.size w w2) := ⟨hW.out.1.later hb2, hW.out.2.1.later hb2, below_step hW.out.2.2 hb2⟩
       clear hb2 hcl k0 k1 k2 k3 m0 m1 m2 m3
       cases t
       · go_wp2
         exact ⟨⟨c, rfl, Or.inr (Or.inr ⟨rfl, ⟨hc.out.1, hc.out.2.1, hc.out.2.2.1⟩, hc.out.2.2.2, HST.out.1 (by simp)⟩), HW2.out⟩, by simp [intOf]⟩
       · go_wp2_with fail
         refine (next_up_any (upW c) _ HX.out.2.1 HX.out.2.2).mono ?_
         rintro e wx ⟨rfl, hbx⟩
         subst hbx
         go_wp2
         have hs := HST.out.2 (by simp)
         have h3 := HN3.out
         have hc' := hc.out
         refine ⟨⟨upW c, rfl, rfl, ⟨HX.out.2.1, by omega, hs.1, hs.2⟩, HW2.out⟩, ?_⟩
         show (RR + 1 - sidx (upW c)).toNat < (RR + 1 - sidx c).toNat
         omega
   · have HR : Hid (b < 18446744073709551616 ∧ NearV q b) := ⟨hb'.1, near_v hb'.1 hlo hhi hb'.2.1 hb'.2.2⟩
     clear hb' hlo hhi
     go_wp2
     go_ret
     exact ⟨⟨b, rfl, HR.out⟩, hB.out.2.2⟩
end Go.Proofs.YtocnkgfoffpbfaaGreatDoor
