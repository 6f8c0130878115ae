/- Own texts, put together: Yl. -/
import Derived.Test.YtifjfgafpfefpaaDoorV14
import Derived.Test.YtifjfgafpfefpaaDoorV22
import Derived.Deep.DeepCutAuto
/- Package switches: the document's Check. (gen_yl.py) -/
namespace Go.Proofs.YtifjfgafpfefpaaDoor
set_option maxRecDepth 100000
open Go.RowKit Go.Shelf Go.Lib
attribute [local go_sem] run_store_float
theorem fin_lt {a b : Nat} (ha : Fin64 a) (hb : Fin64 b) (h : Ieee.double.order a b = some .lt) : fval a < fval b := by
 rw [order_fin ha hb] at h
 apply Classical.byContradiction
 intro hn
 rw [if_neg hn] at h
 split at h <;> cases h
theorem zero_is {x : Nat} (h : oeq x 0 = true) : oge x 0 = true ∧ ole x 4633641066610819072 = true := by
 refine ⟨by unfold oge; unfold oeq at h; rw [h]; simp, ?_⟩
 have hz : frung x = 0 := by
   unfold oeq at h
   rw [eql_zero2] at h
   simpa using h
 have hf : Fin64 x := by unfold Fin64; rw [hz]; omega
 have f60 : Fin64 4633641066610819072 := by unfold Fin64 frung; decide
 have h60 : fval 0 < fval 4633641066610819072 := fin_lt fin_zero f60 (by decide)
 have hx : fval x = fval 0 := by rw [fval_zero, fval_zero_iff.2 hz]
 unfold ole
 show (Ieee.double.order x 4633641066610819072 == some .lt || _) = true
 rw [order_fin hf f60, hx, if_pos h60]; rfl
theorem big_is {x : Nat} (h : ogt x 0 = true) : (!ogt x 9218868437227405311) = ole x 9218868437227405311 := by
 have hM : Fin64 9218868437227405311 := by unfold Fin64 frung; decide
 have key : ∀ o : Option Ordering, o ≠ none → (!(o == some .gt)) = (o == some .lt || o == some .eq) := by
   intro o ho
   cases o with
   | none => exact absurd rfl ho
   | some v => cases v <;> rfl
 unfold ogt ole
 refine key _ ?_
 show Ieee.double.order x 9218868437227405311 ≠ none
 rcases Nat.lt_trichotomy (frung x) 9218868437227405312 with hx | hx | hx
 · rw [order_fin hx hM]; simp
 · rw [order_inf_fin hx hM]; simp
 · exfalso
   unfold ogt at h
   have : FloatKind.f64.format.order x 0 = none := order_nan_left hx
   rw [this] at h; cases h
def r1S (p : Pn) : Bool := !(oge p.ang 0 && ole p.ang 4633641066610819072) || (!p.fl 2 && !oeq p.ang 0)
def r3S (p : Pn) : Bool := (p.fl 4 && !(ogt p.area 0 && ole p.area 9218868437227405311)) || (!p.fl 4 && !oeq p.area 0)
def r5S (p : Pn) : Bool := decide (p.st < -1) || decide (1048576 < p.st) || decide (p.bd < 1) || decide (3 < p.bd)
def r7S (p : Pn) : Bool := (p.fl 13 && p.bd != 1) || (p.fl 1 && (p.bd != 1 || p.fl 13))
def r9S (p : Pn) : Bool := (p.fl 6 || p.fl 8 || p.fl 9 || p.fl 20) && !p.fl 0
def r11S (p : Pn) : Bool := (p.fl 10 || decide (0 ≤ p.st)) && !p.fl 2 && !p.fl 4 && !p.fl 6 && !p.fl 7
theorem r1_is (p : Pn) : r1S p = !angS p := by
 unfold r1S angS
 cases p.fl 2 with
 | true => simp
 | false =>
   cases h : oeq p.ang 0 with
   | true =>
     obtain ⟨h1, h2⟩ := zero_is h
     simp [h1, h2]
   | false => simp
theorem r3_is (p : Pn) : r3S p = !areaS p := by
 unfold r3S areaS
 cases p.fl 4 with
 | true =>
   cases h : ogt p.area 0 with
   | true => simp [← big_is h]
   | false => simp
 | false => simp
theorem r5_is (p : Pn) : r5S p = !(decide (-1 ≤ p.st) && decide (p.st ≤ 1048576) && bdS p.bd) := by
 unfold r5S bdS
 rw [Bool.eq_iff_iff]
 simp only [Bool.or_eq_true, decide_eq_true_eq, Bool.not_eq_true', Bool.and_eq_false_iff, decide_eq_false_iff_not, Bool.or_eq_false_iff, beq_eq_false_iff_ne]
 omega
theorem r7_is (p : Pn) : r7S p = !bgoS p := by
 unfold r7S bgoS
 have e : (p.bd != 1) = !(p.bd == 1) := rfl
 rw [e]
 cases (p.bd == 1) <;> cases p.fl 1 <;> cases p.fl 13 <;> rfl
theorem r9_is (p : Pn) : r9S p = !ggoS p := by
 unfold r9S ggoS
 cases p.fl 6 <;> cases p.fl 8 <;> cases p.fl 9 <;> cases p.fl 20 <;> cases p.fl 0 <;> rfl
theorem r11_is (p : Pn) (h : -1 ≤ p.st) : r11S p = !rgoS p := by
 unfold r11S rgoS
 have e : decide (0 ≤ p.st) = !(p.st == -1) := by
   rw [Bool.eq_iff_iff]
   simp
   omega
 rw [e]
 cases p.fl 10 <;> cases p.fl 2 <;> cases p.fl 4 <;> cases p.fl 6 <;> cases p.fl 7 <;> cases (p.st == -1) <;> rfl
def chkR (p : Pn) : Int := if r1S p = true then 1 else if r3S p = true then 1 else if r5S p = true then 1 else if r7S p = true then 16 else if r9S p = true then 16 else if r11S p = true then 16 else 0
theorem chkR_is (p : Pn) : chkR p = chkS p := by
 unfold chkR chkS
 rw [r1_is, r3_is, r5_is, r7_is, r9_is]
 by_cases h1 : angS p = true
 · by_cases h3 : areaS p = true
   · by_cases h5 : (decide (-1 ≤ p.st) && decide (p.st ≤ 1048576) && bdS p.bd) = true
     · have hst : -1 ≤ p.st := by simp at h5; exact h5.1.1
       rw [r11_is p hst]
       have h5' := h5
       simp only [Bool.and_eq_true] at h5'
       obtain ⟨⟨ha, hb⟩, hc⟩ := h5'
       simp only [h1, h3, ha, hb, hc]
       cases bgoS p <;> cases ggoS p <;> cases rgoS p <;> rfl
     · have h5' : (decide (-1 ≤ p.st) && decide (p.st ≤ 1048576) && bdS p.bd) = false := by simpa using h5
       rw [h5', h1, h3]
       have : (true && true && decide (-1 ≤ p.st) && decide (p.st ≤ 1048576) && bdS p.bd) = false := by rw [← h5']; simp
       rw [this]; rfl
   · have : areaS p = false := by simpa using h3
     rw [this, h1]; simp
 · have : angS p = false := by simpa using h1
   rw [this]; simp
set_option maxHeartbeats 8000000 in
theorem refCheck_any (p : Pn) (w : World) : Calls Tryd.prog 10 #[.agg (pls p).toArray] w fun e w' => e = .returned (.int .i64 (chkR p)) ∧ Below w.heap.size w w' := by
 obtain ⟨W, hW⟩ : ∃ W, w.alloc (.cells (pls p).toArray 24) = W := ⟨_, rfl⟩
 have hP : Pl W w.heap.size p := by rw [← hW]; exact CB.new w _ _
 have HB : Hid (Below w.heap.size w W) := Lib.hid (by rw [← hW]; exact (Below.refl _ w).alloc (Nat.le_refl _) _)
 have k0 : W.cell? ⟨w.heap.size, 0, none⟩ = some (.bool (p.fl 0)) := hP.at (by omega)
 have k1 : W.cell? ⟨w.heap.size, 1, none⟩ = some (.bool (p.fl 1)) := hP.at (by omega)
 have k2 : W.cell? ⟨w.heap.size, 2, none⟩ = some (.bool (p.fl 2)) := hP.at (by omega)
 have k3 : W.cell? ⟨w.heap.size, 3, none⟩ = some (.float .f64 p.ang) := hP.at (by omega)
 have k4 : W.cell? ⟨w.heap.size, 4, none⟩ = some (.bool (p.fl 4)) := hP.at (by omega)
 have k5 : W.cell? ⟨w.heap.size, 5, none⟩ = some (.float .f64 p.area) := hP.at (by omega)
 have k6 : W.cell? ⟨w.heap.size, 6, none⟩ = some (.bool (p.fl 6)) := hP.at (by omega)
 have k7 : W.cell? ⟨w.heap.size, 7, none⟩ = some (.bool (p.fl 7)) := hP.at (by omega)
 have k8 : W.cell? ⟨w.heap.size, 8, none⟩ = some (.bool (p.fl 8)) := hP.at (by omega)
 have k9 : W.cell? ⟨w.heap.size, 9, none⟩ = some (.bool (p.fl 9)) := hP.at (by omega)
 have k10 : W.cell? ⟨w.heap.size, 10, none⟩ = some (.bool (p.fl 10)) := hP.at (by omega)
 have k11 : W.cell? ⟨w.heap.size, 11, none⟩ = some (.int .i64 p.st) := hP.at (by omega)
 have k12 : W.cell? ⟨w.heap.size, 12, none⟩ = some (.int .u8 (p.bd : Nat)) := hP.at (by omega)
 have k13 : W.cell? ⟨w.heap.size, 13, none⟩ = some (.bool (p.fl 13)) := hP.at (by omega)
 have k20 : W.cell? ⟨w.heap.size, 20, none⟩ = some (.bool (p.fl 20)) := hP.at (by omega)
 clear hP
 unfold chkR
 obtain ⟨b1, hb1⟩ : ∃ b, r1S p = b := ⟨_, rfl⟩
 rw [hb1]
 have HB1 := Lib.hid hb1
 clear hb1
 obtain ⟨b3, hb3⟩ : ∃ b, r3S p = b := ⟨_, rfl⟩
 rw [hb3]
 have HB3 := Lib.hid hb3
 clear hb3
 obtain ⟨b5, hb5⟩ : ∃ b, r5S p = b := ⟨_, rfl⟩
 rw [hb5]
 have HB5 := Lib.hid hb5
 clear hb5
 obtain ⟨b7, hb7⟩ : ∃ b, r7S p = b := ⟨_, rfl⟩
 rw [hb7]
 have HB7 := Lib.hid hb7
 clear hb7
 obtain ⟨b9, hb9⟩ : ∃ b, r9S p = b := ⟨_, rfl⟩
 rw [hb9]
 have HB9 := Lib.hid hb9
 clear hb9
 obtain ⟨b11, hb11⟩ : ∃ b, r11S p = b := ⟨_, rfl⟩
 rw [hb11]
 have HB11 := Lib.hid hb11
 clear hb11
 go_enter Tryd.func10, Tryd.ntmps10
 go_upto_region 1 with fail
 go_cut [21] (fun b wx => b = .bool b1 ∧ wx = W)
 case first =>
  as_aux_lemma =>
   cases hG : oge p.ang 0 with
   | true =>
     have gg : (FloatKind.f64.format.order p.ang 0 == some .gt || FloatKind.f64.format.order p.ang 0 == some .eq) = true := hG
     cases hL : ole p.ang 4633641066610819072 with
     | true =>
       have gl : (FloatKind.f64.format.order p.ang 4633641066610819072 == some .lt || FloatKind.f64.format.order p.ang 4633641066610819072 == some .eq) = true := hL
       cases hf2 : p.fl 2 with
       | true =>
         rw [hf2] at k2
         have hv : b1 = _ := HB1.out.symm
         unfold r1S at hv
         simp [hG, hL, hf2] at hv
         go_wp2_with fail
         all_goals (go_meet; exact ⟨by (rw [hv]; try rfl), rfl⟩)
       | false =>
         rw [hf2] at k2
         cases hE : oeq p.ang 0 with
         | true =>
           have ge : (FloatKind.f64.format.order p.ang 0 == some .eq) = true := hE
           have ge2 : (FloatKind.f64.format.order p.ang 0 != some .eq) = false := by rw [bne, ge]; rfl
           have hv : b1 = _ := HB1.out.symm
           unfold r1S at hv
           simp [hG, hL, hf2, hE] at hv
           go_wp2_with fail
           all_goals (go_meet; exact ⟨by (rw [hv]; try rfl), rfl⟩)
         | false =>
           have ge : (FloatKind.f64.format.order p.ang 0 == some .eq) = false := hE
           have ge2 : (FloatKind.f64.format.order p.ang 0 != some .eq) = true := by rw [bne, ge]; rfl
           have hv : b1 = _ := HB1.out.symm
           unfold r1S at hv
           simp [hG, hL, hf2, hE] at hv
           go_wp2_with fail
           all_goals (go_meet; exact ⟨by (rw [hv]; try rfl), rfl⟩)
     | false =>
       have gl : (FloatKind.f64.format.order p.ang 4633641066610819072 == some .lt || FloatKind.f64.format.order p.ang 4633641066610819072 == some .eq) = false := hL
       have hv : b1 = _ := HB1.out.symm
       unfold r1S at hv
       simp [hG, hL] at hv
       go_wp2_with fail
       all_goals (go_meet; exact ⟨by (rw [hv]; try rfl), rfl⟩)
   | false =>
     have gg : (FloatKind.f64.format.order p.ang 0 == some .gt || FloatKind.f64.format.order p.ang 0 == some .eq) = false := hG
     have hv : b1 = _ := HB1.out.symm
     unfold r1S at hv
     simp [hG] at hv
     go_wp2_with fail
     all_goals (go_meet; exact ⟨by (rw [hv]; try rfl), rfl⟩)
 obtain ⟨rfl, hwc⟩ := hcut
 have hwc2 := hwc.symm
 subst hwc2
 cases b1 with
 | true =>
   go_wp2
   go_ret
   exact ⟨rfl, HB.out⟩
 | false =>
 go_upto_region 3 with fail
 go_cut [44] (fun b wx => b = .bool b3 ∧ wx = W)
 case first =>
  as_aux_lemma =>
   cases hf4 : p.fl 4 with
   | true =>
     rw [hf4] at k4
     cases hA : ogt p.area 0 with
     | true =>
       have ga : (FloatKind.f64.format.order p.area 0 == some .gt) = true := hA
       cases hM : ole p.area 9218868437227405311 with
       | true =>
         have gm : (FloatKind.f64.format.order p.area 9218868437227405311 == some .lt || FloatKind.f64.format.order p.area 9218868437227405311 == some .eq) = true := hM
         have hv : b3 = _ := HB3.out.symm
         unfold r3S at hv
         simp [hf4, hA, hM] at hv
         go_wp2_with fail
         all_goals (go_meet; exact ⟨by (rw [hv]; try rfl), rfl⟩)
       | false =>
         have gm : (FloatKind.f64.format.order p.area 9218868437227405311 == some .lt || FloatKind.f64.format.order p.area 9218868437227405311 == some .eq) = false := hM
         have hv : b3 = _ := HB3.out.symm
         unfold r3S at hv
         simp [hf4, hA, hM] at hv
         go_wp2_with fail
         all_goals (go_meet; exact ⟨by (rw [hv]; try rfl), rfl⟩)
     | false =>
       have ga : (FloatKind.f64.format.order p.area 0 == some .gt) = false := hA
       have hv : b3 = _ := HB3.out.symm
       unfold r3S at hv
       simp [hf4, hA] at hv
       go_wp2_with fail
       all_goals (go_meet; exact ⟨by (rw [hv]; try rfl), rfl⟩)
   | false =>
     rw [hf4] at k4
     cases hZ : oeq p.area 0 with
     | true =>
       have gz : (FloatKind.f64.format.order p.area 0 == some .eq) = true := hZ
       have gz2 : (FloatKind.f64.format.order p.area 0 != some .eq) = false := by rw [bne, gz]; rfl
       have hv : b3 = _ := HB3.out.symm
       unfold r3S at hv
       simp [hf4, hZ] at hv
       go_wp2_with fail
       all_goals (go_meet; exact ⟨by (rw [hv]; try rfl), rfl⟩)
     | false =>
       have gz : (FloatKind.f64.format.order p.area 0 == some .eq) = false := hZ
       have gz2 : (FloatKind.f64.format.order p.area 0 != some .eq) = true := by rw [bne, gz]; rfl
       have hv : b3 = _ := HB3.out.symm
       unfold r3S at hv
       simp [hf4, hZ] at hv
       go_wp2_with fail
       all_goals (go_meet; exact ⟨by (rw [hv]; try rfl), rfl⟩)
 obtain ⟨rfl, hwc⟩ := hcut
 have hwc2 := hwc.symm
 subst hwc2
 cases b3 with
 | true =>
   go_wp2
   go_ret
   exact ⟨rfl, HB.out⟩
 | false =>
 go_upto_region 5 with fail
 go_cut [62] (fun b wx => b = .bool b5 ∧ wx = W)
 case first =>
  as_aux_lemma =>
   by_cases hlo : p.st < -1
   · have hv : b5 = _ := HB5.out.symm
     unfold r5S at hv
     simp [hlo] at hv
     go_wp2_with fail
     all_goals (go_meet; exact ⟨by (rw [hv]; try rfl), rfl⟩)
   · by_cases hhi : 1048576 < p.st
     · have hv : b5 = _ := HB5.out.symm
       unfold r5S at hv
       simp [hlo, hhi] at hv
       go_wp2_with fail
       all_goals (go_meet; exact ⟨by (rw [hv]; try rfl), rfl⟩)
     · by_cases hb1 : p.bd < 1
       · have q1 : ((p.bd : Nat) : Int) < 1 := by omega
         have hv : b5 = _ := HB5.out.symm
         unfold r5S at hv
         simp [hlo, hhi, hb1] at hv
         go_wp2_with fail
         all_goals (go_meet; exact ⟨by (rw [hv]; try rfl), rfl⟩)
       · have q1 : ¬ ((p.bd : Nat) : Int) < 1 := by omega
         by_cases hb3 : 3 < p.bd
         · have q3 : (3 : Int) < ((p.bd : Nat) : Int) := by omega
           have hv : b5 = _ := HB5.out.symm
           unfold r5S at hv
           simp [hlo, hhi, hb1, hb3] at hv
           go_wp2_with fail
           all_goals (go_meet; exact ⟨by (rw [hv]; try rfl), rfl⟩)
         · have q3 : ¬ (3 : Int) < ((p.bd : Nat) : Int) := by omega
           have hv : b5 = _ := HB5.out.symm
           unfold r5S at hv
           simp [hlo, hhi, hb1, hb3] at hv
           go_wp2_with fail
           all_goals (go_meet; exact ⟨by (rw [hv]; try rfl), rfl⟩)
 obtain ⟨rfl, hwc⟩ := hcut
 have hwc2 := hwc.symm
 subst hwc2
 cases b5 with
 | true =>
   go_wp2
   go_ret
   exact ⟨rfl, HB.out⟩
 | false =>
 go_upto_region 7 with fail
 go_cut [82] (fun b wx => b = .bool b7 ∧ wx = W)
 case first =>
  as_aux_lemma =>
   cases hf13 : p.fl 13 with
   | true =>
     rw [hf13] at k13
     by_cases hone : p.bd = 1
     · have q1 : (((p.bd : Nat) : Int) == 1) = true := by rw [hone]; rfl
       have q2 : (((p.bd : Nat) : Int) != 1) = false := by rw [hone]; rfl
       have q5 : (p.bd != 1) = false := by rw [hone]; rfl
       cases hf1 : p.fl 1 with
       | true =>
         rw [hf1] at k1
         have hv : b7 = _ := HB7.out.symm
         unfold r7S at hv
         simp [hf13, q5, hf1] at hv
         go_wp2_with fail
         all_goals (go_meet; exact ⟨by (rw [hv]; try rfl), rfl⟩)
       | false =>
         rw [hf1] at k1
         have hv : b7 = _ := HB7.out.symm
         unfold r7S at hv
         simp [hf13, q5, hf1] at hv
         go_wp2_with fail
         all_goals (go_meet; exact ⟨by (rw [hv]; try rfl), rfl⟩)
     · have q1 : (((p.bd : Nat) : Int) == 1) = false := by rw [beq_eq_false_iff_ne]; omega
       have q2 : (((p.bd : Nat) : Int) != 1) = true := by rw [bne, q1]; rfl
       have q5 : (p.bd != 1) = true := by simpa using hone
       have hv : b7 = _ := HB7.out.symm
       unfold r7S at hv
       simp [hf13, q5] at hv
       go_wp2_with fail
       all_goals (go_meet; exact ⟨by (rw [hv]; try rfl), rfl⟩)
   | false =>
     rw [hf13] at k13
     cases hf1 : p.fl 1 with
     | true =>
       rw [hf1] at k1
       by_cases hone : p.bd = 1
       · have q1 : (((p.bd : Nat) : Int) == 1) = true := by rw [hone]; rfl
         have q2 : (((p.bd : Nat) : Int) != 1) = false := by rw [hone]; rfl
         have q5 : (p.bd != 1) = false := by rw [hone]; rfl
         have hv : b7 = _ := HB7.out.symm
         unfold r7S at hv
         simp [hf13, hf1, q5] at hv
         go_wp2_with fail
         all_goals (go_meet; exact ⟨by (rw [hv]; try rfl), rfl⟩)
       · have q1 : (((p.bd : Nat) : Int) == 1) = false := by rw [beq_eq_false_iff_ne]; omega
         have q2 : (((p.bd : Nat) : Int) != 1) = true := by rw [bne, q1]; rfl
         have q5 : (p.bd != 1) = true := by simpa using hone
         have hv : b7 = _ := HB7.out.symm
         unfold r7S at hv
         simp [hf13, hf1, q5] at hv
         go_wp2_with fail
         all_goals (go_meet; exact ⟨by (rw [hv]; try rfl), rfl⟩)
     | false =>
       rw [hf1] at k1
       have hv : b7 = _ := HB7.out.symm
       unfold r7S at hv
       simp [hf13, hf1] at hv
       go_wp2_with fail
       all_goals (go_meet; exact ⟨by (rw [hv]; try rfl), rfl⟩)
 obtain ⟨rfl, hwc⟩ := hcut
 have hwc2 := hwc.symm
 subst hwc2
 cases b7 with
 | true =>
   go_wp2
   go_ret
   exact ⟨rfl, HB.out⟩
 | false =>
 go_upto_region 9 with fail
 go_cut [101] (fun b wx => b = .bool b9 ∧ wx = W)
 case first =>
  as_aux_lemma =>
   cases hf6 : p.fl 6 with
   | true =>
     rw [hf6] at k6
     cases hf0 : p.fl 0 with
     | true =>
       rw [hf0] at k0
       have hv : b9 = _ := HB9.out.symm
       unfold r9S at hv
       simp [hf6, hf0] at hv
       go_wp2_with fail
       all_goals (go_meet; exact ⟨by (rw [hv]; try rfl), rfl⟩)
     | false =>
       rw [hf0] at k0
       have hv : b9 = _ := HB9.out.symm
       unfold r9S at hv
       simp [hf6, hf0] at hv
       go_wp2_with fail
       all_goals (go_meet; exact ⟨by (rw [hv]; try rfl), rfl⟩)
   | false =>
     rw [hf6] at k6
     cases hf8 : p.fl 8 with
     | true =>
       rw [hf8] at k8
       cases hf0 : p.fl 0 with
       | true =>
         rw [hf0] at k0
         have hv : b9 = _ := HB9.out.symm
         unfold r9S at hv
         simp [hf6, hf8, hf0] at hv
         go_wp2_with fail
         all_goals (go_meet; exact ⟨by (rw [hv]; try rfl), rfl⟩)
       | false =>
         rw [hf0] at k0
         have hv : b9 = _ := HB9.out.symm
         unfold r9S at hv
         simp [hf6, hf8, hf0] at hv
         go_wp2_with fail
         all_goals (go_meet; exact ⟨by (rw [hv]; try rfl), rfl⟩)
     | false =>
       rw [hf8] at k8
       cases hf9 : p.fl 9 with
       | true =>
         rw [hf9] at k9
         cases hf0 : p.fl 0 with
         | true =>
           rw [hf0] at k0
           have hv : b9 = _ := HB9.out.symm
           unfold r9S at hv
           simp [hf6, hf8, hf9, hf0] at hv
           go_wp2_with fail
           all_goals (go_meet; exact ⟨by (rw [hv]; try rfl), rfl⟩)
         | false =>
           rw [hf0] at k0
           have hv : b9 = _ := HB9.out.symm
           unfold r9S at hv
           simp [hf6, hf8, hf9, hf0] at hv
           go_wp2_with fail
           all_goals (go_meet; exact ⟨by (rw [hv]; try rfl), rfl⟩)
       | false =>
         rw [hf9] at k9
         cases hf20 : p.fl 20 with
         | true =>
           rw [hf20] at k20
           cases hf0 : p.fl 0 with
           | true =>
             rw [hf0] at k0
             have hv : b9 = _ := HB9.out.symm
             unfold r9S at hv
             simp [hf6, hf8, hf9, hf20, hf0] at hv
             go_wp2_with fail
             all_goals (go_meet; exact ⟨by (rw [hv]; try rfl), rfl⟩)
           | false =>
             rw [hf0] at k0
             have hv : b9 = _ := HB9.out.symm
             unfold r9S at hv
             simp [hf6, hf8, hf9, hf20, hf0] at hv
             go_wp2_with fail
             all_goals (go_meet; exact ⟨by (rw [hv]; try rfl), rfl⟩)
         | false =>
           rw [hf20] at k20
           have hv : b9 = _ := HB9.out.symm
           unfold r9S at hv
           simp [hf6, hf8, hf9, hf20] at hv
           go_wp2_with fail
           all_goals (go_meet; exact ⟨by (rw [hv]; try rfl), rfl⟩)
 obtain ⟨rfl, hwc⟩ := hcut
 have hwc2 := hwc.symm
 subst hwc2
 cases b9 with
 | true =>
   go_wp2
   go_ret
   exact ⟨rfl, HB.out⟩
 | false =>
 go_upto_region 11 with fail
 go_cut [128] (fun b wx => b = .bool b11 ∧ wx = W)
 case first =>
  as_aux_lemma =>
   cases hf10 : p.fl 10 with
   | true =>
     rw [hf10] at k10
     cases hf2 : p.fl 2 with
     | true =>
       rw [hf2] at k2
       have hv : b11 = _ := HB11.out.symm
       unfold r11S at hv
       simp [hf10, hf2] at hv
       go_wp2_with fail
       all_goals (go_meet; exact ⟨by (rw [hv]; try rfl), rfl⟩)
     | false =>
       rw [hf2] at k2
       cases hf4 : p.fl 4 with
       | true =>
         rw [hf4] at k4
         have hv : b11 = _ := HB11.out.symm
         unfold r11S at hv
         simp [hf10, hf2, hf4] at hv
         go_wp2_with fail
         all_goals (go_meet; exact ⟨by (rw [hv]; try rfl), rfl⟩)
       | false =>
         rw [hf4] at k4
         cases hf6 : p.fl 6 with
         | true =>
           rw [hf6] at k6
           have hv : b11 = _ := HB11.out.symm
           unfold r11S at hv
           simp [hf10, hf2, hf4, hf6] at hv
           go_wp2_with fail
           all_goals (go_meet; exact ⟨by (rw [hv]; try rfl), rfl⟩)
         | false =>
           rw [hf6] at k6
           cases hf7 : p.fl 7 with
           | true =>
             rw [hf7] at k7
             have hv : b11 = _ := HB11.out.symm
             unfold r11S at hv
             simp [hf10, hf2, hf4, hf6, hf7] at hv
             go_wp2_with fail
             all_goals (go_meet; exact ⟨by (rw [hv]; try rfl), rfl⟩)
           | false =>
             rw [hf7] at k7
             have hv : b11 = _ := HB11.out.symm
             unfold r11S at hv
             simp [hf10, hf2, hf4, hf6, hf7] at hv
             go_wp2_with fail
             all_goals (go_meet; exact ⟨by (rw [hv]; try rfl), rfl⟩)
   | false =>
     rw [hf10] at k10
     by_cases hge : 0 ≤ p.st
     · cases hf2 : p.fl 2 with
       | true =>
         rw [hf2] at k2
         have hv : b11 = _ := HB11.out.symm
         unfold r11S at hv
         simp [hf10, hge, hf2] at hv
         go_wp2_with fail
         all_goals (go_meet; exact ⟨by (rw [hv]; try rfl), rfl⟩)
       | false =>
         rw [hf2] at k2
         cases hf4 : p.fl 4 with
         | true =>
           rw [hf4] at k4
           have hv : b11 = _ := HB11.out.symm
           unfold r11S at hv
           simp [hf10, hge, hf2, hf4] at hv
           go_wp2_with fail
           all_goals (go_meet; exact ⟨by (rw [hv]; try rfl), rfl⟩)
         | false =>
           rw [hf4] at k4
           cases hf6 : p.fl 6 with
           | true =>
             rw [hf6] at k6
             have hv : b11 = _ := HB11.out.symm
             unfold r11S at hv
             simp [hf10, hge, hf2, hf4, hf6] at hv
             go_wp2_with fail
             all_goals (go_meet; exact ⟨by (rw [hv]; try rfl), rfl⟩)
           | false =>
             rw [hf6] at k6
             cases hf7 : p.fl 7 with
             | true =>
               rw [hf7] at k7
               have hv : b11 = _ := HB11.out.symm
               unfold r11S at hv
               simp [hf10, hge, hf2, hf4, hf6, hf7] at hv
               go_wp2_with fail
               all_goals (go_meet; exact ⟨by (rw [hv]; try rfl), rfl⟩)
             | false =>
               rw [hf7] at k7
               have hv : b11 = _ := HB11.out.symm
               unfold r11S at hv
               simp [hf10, hge, hf2, hf4, hf6, hf7] at hv
               go_wp2_with fail
               all_goals (go_meet; exact ⟨by (rw [hv]; try rfl), rfl⟩)
     · have hv : b11 = _ := HB11.out.symm
       unfold r11S at hv
       simp [hf10, hge] at hv
       go_wp2_with fail
       all_goals (go_meet; exact ⟨by (rw [hv]; try rfl), rfl⟩)
 obtain ⟨rfl, hwc⟩ := hcut
 have hwc2 := hwc.symm
 subst hwc2
 cases b11 with
 | true =>
   go_wp2
   go_ret
   exact ⟨rfl, HB.out⟩
 | false =>
 go_wp2
 go_ret
 exact ⟨rfl, HB.out⟩
end Go.Proofs.YtifjfgafpfefpaaDoor
