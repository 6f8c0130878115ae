/- Own texts, put together: Yk. -/
import Derived.Test.YtkgnlobakicnjaaDoorQ6
import Derived.Test.YtkgnlobakicnjaaDoorQ21
import Derived.Deep.Cut
/- Package switches: Check. (gen_yk.py) -/
namespace Go.Proofs.YtkgnlobakicnjaaDoor
set_option maxRecDepth 100000
open Go.RowKit Go.Shelf Go.Lib
attribute [local go_sem] run_store_float
theorem inf1_any (b : Nat) (w : World) : Calls Tryd.prog 54 #[.float .f64 b, .int .i64 1] w fun e w' => e = .returned (.bool (ogt b 9218868437227405311)) ∧ w' = w := by
 unfold ogt
 go_enter Tryd.func54, Tryd.ntmps54
 go_wp2
 go_ret
 exact ⟨rfl, rfl⟩
set_option maxHeartbeats 2000000 in
theorem buildMay_any (n : Nat) (w : World) : Calls Tryd.prog 27 #[.int .u8 (n : Nat)] w fun e w' => e = .returned (.bool (bdS n)) ∧ w' = w := by
 have hb : bdS n = (((n : Nat) : Int) == 1 || ((n : Nat) : Int) == 2 || ((n : Nat) : Int) == 3) := by
   unfold bdS
   rw [Bool.eq_iff_iff]
   simp only [Bool.or_eq_true, beq_iff_eq]
   omega
 rw [hb]
 clear hb
 cases h1 : ((n : Nat) : Int) == 1 with
 | true =>
   go_enter Tryd.func27, Tryd.ntmps27
   go_wp2
   go_ret
   exact ⟨rfl, rfl⟩
 | false =>
   cases h2 : ((n : Nat) : Int) == 2 with
   | true =>
     go_enter Tryd.func27, Tryd.ntmps27
     go_wp2
     go_ret
     exact ⟨rfl, rfl⟩
   | false =>
     go_enter Tryd.func27, Tryd.ntmps27
     go_wp2
     go_ret
     exact ⟨by simp, rfl⟩
set_option maxHeartbeats 2000000 in
theorem graphGoes_any (p : Pn) (w : World) : Calls Tryd.prog 29 #[.agg (pls p).toArray] w fun e w' => e = .returned (.bool (ggoS p)) ∧ Below w.heap.size w w' := by
 obtain ⟨W, hW⟩ : ∃ W, w.alloc (.cells (pls p).toArray 42) = W := ⟨_, rfl⟩
 have hP : Pl W w.heap.size p := by rw [← hW]; exact CB.new w _ _
 have HB : Hid (Below w.heap.size w W) := Lib.hid (by rw [← hW]; exact (Below.refl _ w).alloc (Nat.le_refl _) _)
 have k0 : W.cell? ⟨w.heap.size, 0, none⟩ = some (.bool (p.fl 0)) := hP.at (by omega)
 have k6 : W.cell? ⟨w.heap.size, 6, none⟩ = some (.bool (p.fl 6)) := hP.at (by omega)
 have k8 : W.cell? ⟨w.heap.size, 8, none⟩ = some (.bool (p.fl 8)) := hP.at (by omega)
 have k9 : W.cell? ⟨w.heap.size, 9, none⟩ = some (.bool (p.fl 9)) := hP.at (by omega)
 have k20 : W.cell? ⟨w.heap.size, 20, none⟩ = some (.bool (p.fl 20)) := hP.at (by omega)
 clear hP
 cases hf0 : p.fl 0 with
 | true =>
   rw [hf0] at k0
   have HR : Hid (ggoS p = true) := Lib.hid (by unfold ggoS; simp [hf0])
   rw [HR.out]
   go_enter Tryd.func29, Tryd.ntmps29
   go_wp2
   go_ret
   exact ⟨rfl, HB.out⟩
 | false =>
   rw [hf0] at k0
   cases hf6 : p.fl 6 with
   | true =>
     rw [hf6] at k6
     have HR : Hid (ggoS p = false) := Lib.hid (by unfold ggoS; simp [hf0, hf6])
     rw [HR.out]
     go_enter Tryd.func29, Tryd.ntmps29
     go_wp2
     go_ret
     exact ⟨rfl, HB.out⟩
   | false =>
     rw [hf6] at k6
     cases hf8 : p.fl 8 with
     | true =>
       rw [hf8] at k8
       have HR : Hid (ggoS p = false) := Lib.hid (by unfold ggoS; simp [hf0, hf6, hf8])
       rw [HR.out]
       go_enter Tryd.func29, Tryd.ntmps29
       go_wp2
       go_ret
       exact ⟨rfl, HB.out⟩
     | false =>
       rw [hf8] at k8
       cases hf9 : p.fl 9 with
       | true =>
         rw [hf9] at k9
         have HR : Hid (ggoS p = false) := Lib.hid (by unfold ggoS; simp [hf0, hf6, hf8, hf9])
         rw [HR.out]
         go_enter Tryd.func29, Tryd.ntmps29
         go_wp2
         go_ret
         exact ⟨rfl, HB.out⟩
       | false =>
         rw [hf9] at k9
         cases hf20 : p.fl 20 with
         | true =>
           rw [hf20] at k20
           have HR : Hid (ggoS p = false) := Lib.hid (by unfold ggoS; simp [hf0, hf6, hf8, hf9, hf20])
           rw [HR.out]
           go_enter Tryd.func29, Tryd.ntmps29
           go_wp2
           go_ret
           exact ⟨rfl, HB.out⟩
         | false =>
           rw [hf20] at k20
           have HR : Hid (ggoS p = true) := Lib.hid (by unfold ggoS; simp [hf0, hf6, hf8, hf9, hf20])
           rw [HR.out]
           go_enter Tryd.func29, Tryd.ntmps29
           go_wp2
           go_ret
           exact ⟨rfl, HB.out⟩
set_option maxHeartbeats 2000000 in
theorem refineGoes_any (p : Pn) (w : World) : Calls Tryd.prog 30 #[.agg (pls p).toArray] w fun e w' => e = .returned (.bool (rgoS p)) ∧ Below w.heap.size w w' := by
 obtain ⟨W, hW⟩ : ∃ W, w.alloc (.cells (pls p).toArray 42) = W := ⟨_, rfl⟩
 have hP : Pl W w.heap.size p := by rw [← hW]; exact CB.new w _ _
 have HB : Hid (Below w.heap.size w W) := Lib.hid (by rw [← hW]; exact (Below.refl _ w).alloc (Nat.le_refl _) _)
 have k2 : W.cell? ⟨w.heap.size, 2, none⟩ = some (.bool (p.fl 2)) := hP.at (by omega)
 have k4 : W.cell? ⟨w.heap.size, 4, none⟩ = some (.bool (p.fl 4)) := hP.at (by omega)
 have k6 : W.cell? ⟨w.heap.size, 6, none⟩ = some (.bool (p.fl 6)) := hP.at (by omega)
 have k7 : W.cell? ⟨w.heap.size, 7, none⟩ = some (.bool (p.fl 7)) := hP.at (by omega)
 have k10 : W.cell? ⟨w.heap.size, 10, none⟩ = some (.bool (p.fl 10)) := hP.at (by omega)
 have k11 : W.cell? ⟨w.heap.size, 11, none⟩ = some (.int .i64 p.st) := hP.at (by omega)
 clear hP
 cases hf2 : p.fl 2 with
 | true =>
   rw [hf2] at k2
   have HR : Hid (rgoS p = true) := Lib.hid (by unfold rgoS; simp [hf2])
   rw [HR.out]
   go_enter Tryd.func30, Tryd.ntmps30
   go_wp2
   go_ret
   exact ⟨rfl, HB.out⟩
 | false =>
   rw [hf2] at k2
   cases hf4 : p.fl 4 with
   | true =>
     rw [hf4] at k4
     have HR : Hid (rgoS p = true) := Lib.hid (by unfold rgoS; simp [hf2, hf4])
     rw [HR.out]
     go_enter Tryd.func30, Tryd.ntmps30
     go_wp2
     go_ret
     exact ⟨rfl, HB.out⟩
   | false =>
     rw [hf4] at k4
     cases hf6 : p.fl 6 with
     | true =>
       rw [hf6] at k6
       have HR : Hid (rgoS p = true) := Lib.hid (by unfold rgoS; simp [hf2, hf4, hf6])
       rw [HR.out]
       go_enter Tryd.func30, Tryd.ntmps30
       go_wp2
       go_ret
       exact ⟨rfl, HB.out⟩
     | false =>
       rw [hf6] at k6
       cases hf7 : p.fl 7 with
       | true =>
         rw [hf7] at k7
         have HR : Hid (rgoS p = true) := Lib.hid (by unfold rgoS; simp [hf2, hf4, hf6, hf7])
         rw [HR.out]
         go_enter Tryd.func30, Tryd.ntmps30
         go_wp2
         go_ret
         exact ⟨rfl, HB.out⟩
       | false =>
         rw [hf7] at k7
         cases hf10 : p.fl 10 with
         | true =>
           rw [hf10] at k10
           have HR : Hid (rgoS p = false) := Lib.hid (by unfold rgoS; simp [hf2, hf4, hf6, hf7, hf10])
           rw [HR.out]
           go_enter Tryd.func30, Tryd.ntmps30
           go_wp2
           go_ret
           exact ⟨rfl, HB.out⟩
         | false =>
           rw [hf10] at k10
           by_cases hst : p.st = -1
           · have hs2 : (p.st == -1) = true := by rw [hst]; rfl
             have hs3 : (p.st != -1) = false := by rw [hst]; rfl
             have HR : Hid (rgoS p = true) := Lib.hid (by unfold rgoS; simp [hf2, hf4, hf6, hf7, hf10, hst])
             rw [HR.out]
             go_enter Tryd.func30, Tryd.ntmps30
             go_wp2
             go_ret
             exact ⟨rfl, HB.out⟩
           · have hs2 : (p.st == -1) = false := by simpa using hst
             have hs3 : (p.st != -1) = true := by simpa using hst
             have HR : Hid (rgoS p = false) := Lib.hid (by unfold rgoS; simp [hf2, hf4, hf6, hf7, hf10, hst])
             rw [HR.out]
             go_enter Tryd.func30, Tryd.ntmps30
             go_wp2
             go_ret
             exact ⟨rfl, HB.out⟩
set_option maxHeartbeats 2000000 in
theorem buildGoes_any (p : Pn) (w : World) : Calls Tryd.prog 28 #[.agg (pls p).toArray] w fun e w' => e = .returned (.bool (bgoS p)) ∧ Below w.heap.size w w' := by
 obtain ⟨W, hW⟩ : ∃ W, w.alloc (.cells (pls p).toArray 42) = W := ⟨_, rfl⟩
 have hP : Pl W w.heap.size p := by rw [← hW]; exact CB.new w _ _
 have HB : Hid (Below w.heap.size w W) := Lib.hid (by rw [← hW]; exact (Below.refl _ w).alloc (Nat.le_refl _) _)
 have k1 : W.cell? ⟨w.heap.size, 1, none⟩ = some (.bool (p.fl 1)) := hP.at (by omega)
 have k12 : W.cell? ⟨w.heap.size, 12, none⟩ = some (.int .u8 (p.bd : Nat)) := hP.at (by omega)
 have k13 : W.cell? ⟨w.heap.size, 13, none⟩ = some (.bool (p.fl 13)) := hP.at (by omega)
 clear hP
 by_cases hbd : p.bd = 1
 · have hb2 : (((p.bd : Nat) : Int) == 1) = true := by rw [hbd]; rfl
   cases hf1 : p.fl 1 with
   | true =>
     rw [hf1] at k1
     cases hf13 : p.fl 13 with
     | true =>
       rw [hf13] at k13
       have HR : Hid (bgoS p = false) := Lib.hid (by unfold bgoS; simp [hbd, hf1, hf13])
       rw [HR.out]
       go_enter Tryd.func28, Tryd.ntmps28
       go_wp2
       go_ret
       exact ⟨rfl, HB.out⟩
     | false =>
       rw [hf13] at k13
       have HR : Hid (bgoS p = true) := Lib.hid (by unfold bgoS; simp [hbd, hf1, hf13])
       rw [HR.out]
       go_enter Tryd.func28, Tryd.ntmps28
       go_wp2
       go_ret
       exact ⟨rfl, HB.out⟩
   | false =>
     rw [hf1] at k1
     have HR : Hid (bgoS p = true) := Lib.hid (by unfold bgoS; simp [hbd, hf1])
     rw [HR.out]
     go_enter Tryd.func28, Tryd.ntmps28
     go_wp2
     go_ret
     exact ⟨rfl, HB.out⟩
 · have hb2 : (((p.bd : Nat) : Int) == 1) = false := by rw [beq_eq_false_iff_ne]; omega
   cases hf1 : p.fl 1 with
   | true =>
     rw [hf1] at k1
     have HR : Hid (bgoS p = false) := Lib.hid (by unfold bgoS; simp [hbd, hf1])
     rw [HR.out]
     go_enter Tryd.func28, Tryd.ntmps28
     go_wp2
     go_ret
     exact ⟨rfl, HB.out⟩
   | false =>
     rw [hf1] at k1
     cases hf13 : p.fl 13 with
     | true =>
       rw [hf13] at k13
       have HR : Hid (bgoS p = false) := Lib.hid (by unfold bgoS; simp [hbd, hf1, hf13])
       rw [HR.out]
       go_enter Tryd.func28, Tryd.ntmps28
       go_wp2
       go_ret
       exact ⟨rfl, HB.out⟩
     | false =>
       rw [hf13] at k13
       have HR : Hid (bgoS p = true) := Lib.hid (by unfold bgoS; simp [hbd, hf1, hf13])
       rw [HR.out]
       go_enter Tryd.func28, Tryd.ntmps28
       go_wp2
       go_ret
       exact ⟨rfl, HB.out⟩
set_option maxHeartbeats 2000000 in
theorem angleMay_any (p : Pn) (w : World) : Calls Tryd.prog 25 #[.agg (pls p).toArray] w fun e w' => e = .returned (.bool (angS p)) ∧ Below w.heap.size w w' := by
 obtain ⟨W, hW⟩ : ∃ W, w.alloc (.cells (pls p).toArray 42) = W := ⟨_, rfl⟩
 have hP : Pl W w.heap.size p := by rw [← hW]; exact CB.new w _ _
 have HB : Hid (Below w.heap.size w W) := Lib.hid (by rw [← hW]; exact (Below.refl _ w).alloc (Nat.le_refl _) _)
 have k2 : W.cell? ⟨w.heap.size, 2, none⟩ = some (.bool (p.fl 2)) := hP.at (by omega)
 have k3 : W.cell? ⟨w.heap.size, 3, none⟩ = some (.float .f64 p.ang) := hP.at (by omega)
 clear hP
 unfold angS
 cases hf2 : p.fl 2 with
 | false =>
   rw [hf2] at k2
   rw [if_neg (by decide)]
   unfold oeq
   go_enter Tryd.func25, Tryd.ntmps25
   go_wp2
   go_ret
   exact ⟨rfl, HB.out⟩
 | true =>
   rw [hf2] at k2
   rw [if_pos rfl]
   cases hg : oge p.ang 0 with
   | false =>
     have hg' := hg
     unfold oge at hg'
     go_enter Tryd.func25, Tryd.ntmps25
     go_wp2
     go_ret
     exact ⟨rfl, HB.out⟩
   | true =>
     have hg' := hg
     unfold oge at hg'
     unfold ole
     go_enter Tryd.func25, Tryd.ntmps25
     go_wp2
     go_ret
     exact ⟨by simp, HB.out⟩
set_option maxHeartbeats 2000000 in
theorem areaMay_any (p : Pn) (w : World) : Calls Tryd.prog 26 #[.agg (pls p).toArray] w fun e w' => e = .returned (.bool (areaS p)) ∧ Below w.heap.size w w' := by
 obtain ⟨W, hW⟩ : ∃ W, w.alloc (.cells (pls p).toArray 42) = W := ⟨_, rfl⟩
 have hP : Pl W w.heap.size p := by rw [← hW]; exact CB.new w _ _
 have HB : Hid (Below w.heap.size w W) := Lib.hid (by rw [← hW]; exact (Below.refl _ w).alloc (Nat.le_refl _) _)
 have k4 : W.cell? ⟨w.heap.size, 4, none⟩ = some (.bool (p.fl 4)) := hP.at (by omega)
 have k5 : W.cell? ⟨w.heap.size, 5, none⟩ = some (.float .f64 p.area) := hP.at (by omega)
 clear hP
 unfold areaS
 cases hf4 : p.fl 4 with
 | false =>
   rw [hf4] at k4
   rw [if_neg (by decide)]
   unfold oeq
   go_enter Tryd.func26, Tryd.ntmps26
   go_wp2
   go_ret
   exact ⟨rfl, HB.out⟩
 | true =>
   rw [hf4] at k4
   rw [if_pos rfl]
   cases hg : ogt p.area 0 with
   | false =>
     have hg' := hg
     unfold ogt at hg'
     go_enter Tryd.func26, Tryd.ntmps26
     go_wp2
     go_ret
     exact ⟨rfl, HB.out⟩
   | true =>
     have HI := Lib.hid (fun W => inf1_any p.area W)
     unfold ogt at hg
     obtain ⟨z, hz⟩ : ∃ z, ogt p.area 9218868437227405311 = z := ⟨_, rfl⟩
     rw [hz] at HI
     rw [hz]
     clear hz
     go_enter Tryd.func26, Tryd.ntmps26
     go_wp2_with (go_at_call 54; refine (HI.out _).mono ?_; rintro e w' ⟨rfl, rfl⟩)
     go_ret
     exact ⟨by simp, HB.out⟩
theorem chk_is (p : Pn) : chkS p = if angS p = true then (if areaS p = true then (if p.st < -1 then 1 else if 1048576 < p.st then 1 else if bdS p.bd = true then (if bgoS p = true then (if ggoS p = true then (if rgoS p = true then 0 else 16) else 16) else 16) else 1) else 1) else 1 := by
 unfold chkS
 cases angS p <;> cases areaS p <;> cases bdS p.bd <;> cases bgoS p <;> cases ggoS p <;> cases rgoS p <;> simp <;> (repeat' split) <;> first | rfl | omega
set_option maxHeartbeats 8000000 in
theorem checkS_any (p : Pn) (w : World) : Calls Tryd.prog 12 #[.agg (pls p).toArray] w fun e w' => e = .returned (.int .i64 (chkS p)) ∧ Below w.heap.size w w' := by
 obtain ⟨W, hW⟩ : ∃ W, w.alloc (.cells (pls p).toArray 42) = W := ⟨_, rfl⟩
 have HP : Hid (Pl W w.heap.size p) := Lib.hid (by rw [← hW]; exact CB.new w _ _)
 have HB : Hid (Below w.heap.size w W) := Lib.hid (by rw [← hW]; exact (Below.refl _ w).alloc (Nat.le_refl _) _)
 rw [chk_is]
 have HA := Lib.hid (fun W => angleMay_any p W)
 have HR := Lib.hid (fun W => areaMay_any p W)
 have HU := Lib.hid (fun W => buildMay_any p.bd W)
 have HG := Lib.hid (fun W => buildGoes_any p W)
 have HH := Lib.hid (fun W => graphGoes_any p W)
 have HF := Lib.hid (fun W => refineGoes_any p W)
 obtain ⟨ba, hba⟩ : ∃ b, angS p = b := ⟨_, rfl⟩
 obtain ⟨br, hbr⟩ : ∃ b, areaS p = b := ⟨_, rfl⟩
 obtain ⟨bu, hbu⟩ : ∃ b, bdS p.bd = b := ⟨_, rfl⟩
 obtain ⟨bg, hbg⟩ : ∃ b, bgoS p = b := ⟨_, rfl⟩
 obtain ⟨bh, hbh⟩ : ∃ b, ggoS p = b := ⟨_, rfl⟩
 obtain ⟨bf, hbf⟩ : ∃ b, rgoS p = b := ⟨_, rfl⟩
 rw [hba] at HA
 rw [hbr] at HR
 rw [hbu] at HU
 rw [hbg] at HG
 rw [hbh] at HH
 rw [hbf] at HF
 rw [hba, hbr, hbu, hbg, hbh, hbf]
 obtain ⟨st, hst⟩ : ∃ st, p.st = st := ⟨_, rfl⟩
 rw [hst]
 have HK : Hid (∀ W', Below W.heap.size W W' → Pl W' w.heap.size p ∧ Below w.heap.size w W' ∧ W'.cell? ⟨w.heap.size, 11, none⟩ = some (.int .i64 st) ∧ W'.cell? ⟨w.heap.size, 12, none⟩ = some (.int .u8 (p.bd : Nat))) := Lib.hid fun W' hb => by
   have h1 := CB.later HP.out hb
   exact ⟨h1, HB.out.trans (hb.mono HB.out.size), by rw [← hst]; exact Pl.at h1 (by omega), Pl.at h1 (by omega)⟩
 clear hba hbr hbu hbg hbh hbf hst
 have HZ : Hid (Below W.heap.size W W) := Lib.hid (Below.refl _ _)
 cases ba with
 | false =>
   rw [if_neg (by decide)]
   go_enter Tryd.func12, Tryd.ntmps12
   go_upto_region 1 with fail
   refine wp_region_lit ?_
   refine wpList_load_mid rfl 42 _ rfl _ 0 (by rfl) (pls p) _ (HK.out _ HZ.out).1.range Tryd.underlying42 rfl (by rw [pls_len]; kernel_rfl) ?_
   go_wp2_with (first
     | (go_at_call 25; refine (HA.out _).mono ?_; rintro e w' ⟨rfl, hb⟩; replace HZ := Lib.hid (HZ.out.trans (hb.mono HZ.out.size)); obtain ⟨hpl, _, k11, k12⟩ := HK.out _ HZ.out; clear hb hpl)
     | (go_at_call 26; refine (HR.out _).mono ?_; rintro e w' ⟨rfl, hb⟩; replace HZ := Lib.hid (HZ.out.trans (hb.mono HZ.out.size)); obtain ⟨hpl, _, k11, k12⟩ := HK.out _ HZ.out; clear hb hpl)
     | (go_at_call 27; refine (HU.out _).mono ?_; rintro e w' ⟨rfl, rfl⟩)
     | (go_at_call 28; refine (HG.out _).mono ?_; rintro e w' ⟨rfl, hb⟩; replace HZ := Lib.hid (HZ.out.trans (hb.mono HZ.out.size)); clear hb)
     | (go_at_call 29; refine (HH.out _).mono ?_; rintro e w' ⟨rfl, hb⟩; replace HZ := Lib.hid (HZ.out.trans (hb.mono HZ.out.size)); clear hb)
     | (go_at_call 30; refine (HF.out _).mono ?_; rintro e w' ⟨rfl, hb⟩; replace HZ := Lib.hid (HZ.out.trans (hb.mono HZ.out.size)); clear hb))
   go_ret
   exact ⟨rfl, (HK.out _ HZ.out).2.1⟩
 | true =>
   rw [if_pos rfl]
   cases br with
   | false =>
     rw [if_neg (by decide)]
     go_enter Tryd.func12, Tryd.ntmps12
     go_upto_region 1 with fail
     refine wp_region_lit ?_
     refine wpList_load_mid rfl 42 _ rfl _ 0 (by rfl) (pls p) _ (HK.out _ HZ.out).1.range Tryd.underlying42 rfl (by rw [pls_len]; kernel_rfl) ?_
     go_upto_region 2 with (first
       | (go_at_call 25; refine (HA.out _).mono ?_; rintro e w' ⟨rfl, hb⟩; replace HZ := Lib.hid (HZ.out.trans (hb.mono HZ.out.size)); obtain ⟨hpl, _, k11, k12⟩ := HK.out _ HZ.out; clear hb hpl)
       | (go_at_call 26; refine (HR.out _).mono ?_; rintro e w' ⟨rfl, hb⟩; replace HZ := Lib.hid (HZ.out.trans (hb.mono HZ.out.size)); obtain ⟨hpl, _, k11, k12⟩ := HK.out _ HZ.out; clear hb hpl)
       | (go_at_call 27; refine (HU.out _).mono ?_; rintro e w' ⟨rfl, rfl⟩)
       | (go_at_call 28; refine (HG.out _).mono ?_; rintro e w' ⟨rfl, hb⟩; replace HZ := Lib.hid (HZ.out.trans (hb.mono HZ.out.size)); clear hb)
       | (go_at_call 29; refine (HH.out _).mono ?_; rintro e w' ⟨rfl, hb⟩; replace HZ := Lib.hid (HZ.out.trans (hb.mono HZ.out.size)); clear hb)
       | (go_at_call 30; refine (HF.out _).mono ?_; rintro e w' ⟨rfl, hb⟩; replace HZ := Lib.hid (HZ.out.trans (hb.mono HZ.out.size)); clear hb))
     refine wp_region_lit ?_
     refine wpList_load_mid rfl 42 _ rfl _ 0 (by rfl) (pls p) _ (HK.out _ HZ.out).1.range Tryd.underlying42 rfl (by rw [pls_len]; kernel_rfl) ?_
     go_wp2_with (first
       | (go_at_call 25; refine (HA.out _).mono ?_; rintro e w' ⟨rfl, hb⟩; replace HZ := Lib.hid (HZ.out.trans (hb.mono HZ.out.size)); obtain ⟨hpl, _, k11, k12⟩ := HK.out _ HZ.out; clear hb hpl)
       | (go_at_call 26; refine (HR.out _).mono ?_; rintro e w' ⟨rfl, hb⟩; replace HZ := Lib.hid (HZ.out.trans (hb.mono HZ.out.size)); obtain ⟨hpl, _, k11, k12⟩ := HK.out _ HZ.out; clear hb hpl)
       | (go_at_call 27; refine (HU.out _).mono ?_; rintro e w' ⟨rfl, rfl⟩)
       | (go_at_call 28; refine (HG.out _).mono ?_; rintro e w' ⟨rfl, hb⟩; replace HZ := Lib.hid (HZ.out.trans (hb.mono HZ.out.size)); clear hb)
       | (go_at_call 29; refine (HH.out _).mono ?_; rintro e w' ⟨rfl, hb⟩; replace HZ := Lib.hid (HZ.out.trans (hb.mono HZ.out.size)); clear hb)
       | (go_at_call 30; refine (HF.out _).mono ?_; rintro e w' ⟨rfl, hb⟩; replace HZ := Lib.hid (HZ.out.trans (hb.mono HZ.out.size)); clear hb))
     go_ret
     exact ⟨rfl, (HK.out _ HZ.out).2.1⟩
   | true =>
     rw [if_pos rfl]
     by_cases hlo : st < -1
     · rw [if_pos hlo]
       go_enter Tryd.func12, Tryd.ntmps12
       go_upto_region 1 with fail
       refine wp_region_lit ?_
       refine wpList_load_mid rfl 42 _ rfl _ 0 (by rfl) (pls p) _ (HK.out _ HZ.out).1.range Tryd.underlying42 rfl (by rw [pls_len]; kernel_rfl) ?_
       go_upto_region 2 with (first
         | (go_at_call 25; refine (HA.out _).mono ?_; rintro e w' ⟨rfl, hb⟩; replace HZ := Lib.hid (HZ.out.trans (hb.mono HZ.out.size)); obtain ⟨hpl, _, k11, k12⟩ := HK.out _ HZ.out; clear hb hpl)
         | (go_at_call 26; refine (HR.out _).mono ?_; rintro e w' ⟨rfl, hb⟩; replace HZ := Lib.hid (HZ.out.trans (hb.mono HZ.out.size)); obtain ⟨hpl, _, k11, k12⟩ := HK.out _ HZ.out; clear hb hpl)
         | (go_at_call 27; refine (HU.out _).mono ?_; rintro e w' ⟨rfl, rfl⟩)
         | (go_at_call 28; refine (HG.out _).mono ?_; rintro e w' ⟨rfl, hb⟩; replace HZ := Lib.hid (HZ.out.trans (hb.mono HZ.out.size)); clear hb)
         | (go_at_call 29; refine (HH.out _).mono ?_; rintro e w' ⟨rfl, hb⟩; replace HZ := Lib.hid (HZ.out.trans (hb.mono HZ.out.size)); clear hb)
         | (go_at_call 30; refine (HF.out _).mono ?_; rintro e w' ⟨rfl, hb⟩; replace HZ := Lib.hid (HZ.out.trans (hb.mono HZ.out.size)); clear hb))
       refine wp_region_lit ?_
       refine wpList_load_mid rfl 42 _ rfl _ 0 (by rfl) (pls p) _ (HK.out _ HZ.out).1.range Tryd.underlying42 rfl (by rw [pls_len]; kernel_rfl) ?_
       go_wp2_with (first
         | (go_at_call 25; refine (HA.out _).mono ?_; rintro e w' ⟨rfl, hb⟩; replace HZ := Lib.hid (HZ.out.trans (hb.mono HZ.out.size)); obtain ⟨hpl, _, k11, k12⟩ := HK.out _ HZ.out; clear hb hpl)
         | (go_at_call 26; refine (HR.out _).mono ?_; rintro e w' ⟨rfl, hb⟩; replace HZ := Lib.hid (HZ.out.trans (hb.mono HZ.out.size)); obtain ⟨hpl, _, k11, k12⟩ := HK.out _ HZ.out; clear hb hpl)
         | (go_at_call 27; refine (HU.out _).mono ?_; rintro e w' ⟨rfl, rfl⟩)
         | (go_at_call 28; refine (HG.out _).mono ?_; rintro e w' ⟨rfl, hb⟩; replace HZ := Lib.hid (HZ.out.trans (hb.mono HZ.out.size)); clear hb)
         | (go_at_call 29; refine (HH.out _).mono ?_; rintro e w' ⟨rfl, hb⟩; replace HZ := Lib.hid (HZ.out.trans (hb.mono HZ.out.size)); clear hb)
         | (go_at_call 30; refine (HF.out _).mono ?_; rintro e w' ⟨rfl, hb⟩; replace HZ := Lib.hid (HZ.out.trans (hb.mono HZ.out.size)); clear hb))
       go_ret
       exact ⟨rfl, (HK.out _ HZ.out).2.1⟩
     · rw [if_neg hlo]
       by_cases hhi : 1048576 < st
       · rw [if_pos hhi]
         go_enter Tryd.func12, Tryd.ntmps12
         go_upto_region 1 with fail
         refine wp_region_lit ?_
         refine wpList_load_mid rfl 42 _ rfl _ 0 (by rfl) (pls p) _ (HK.out _ HZ.out).1.range Tryd.underlying42 rfl (by rw [pls_len]; kernel_rfl) ?_
         go_upto_region 2 with (first
           | (go_at_call 25; refine (HA.out _).mono ?_; rintro e w' ⟨rfl, hb⟩; replace HZ := Lib.hid (HZ.out.trans (hb.mono HZ.out.size)); obtain ⟨hpl, _, k11, k12⟩ := HK.out _ HZ.out; clear hb hpl)
           | (go_at_call 26; refine (HR.out _).mono ?_; rintro e w' ⟨rfl, hb⟩; replace HZ := Lib.hid (HZ.out.trans (hb.mono HZ.out.size)); obtain ⟨hpl, _, k11, k12⟩ := HK.out _ HZ.out; clear hb hpl)
           | (go_at_call 27; refine (HU.out _).mono ?_; rintro e w' ⟨rfl, rfl⟩)
           | (go_at_call 28; refine (HG.out _).mono ?_; rintro e w' ⟨rfl, hb⟩; replace HZ := Lib.hid (HZ.out.trans (hb.mono HZ.out.size)); clear hb)
           | (go_at_call 29; refine (HH.out _).mono ?_; rintro e w' ⟨rfl, hb⟩; replace HZ := Lib.hid (HZ.out.trans (hb.mono HZ.out.size)); clear hb)
           | (go_at_call 30; refine (HF.out _).mono ?_; rintro e w' ⟨rfl, hb⟩; replace HZ := Lib.hid (HZ.out.trans (hb.mono HZ.out.size)); clear hb))
         refine wp_region_lit ?_
         refine wpList_load_mid rfl 42 _ rfl _ 0 (by rfl) (pls p) _ (HK.out _ HZ.out).1.range Tryd.underlying42 rfl (by rw [pls_len]; kernel_rfl) ?_
         go_wp2_with (first
           | (go_at_call 25; refine (HA.out _).mono ?_; rintro e w' ⟨rfl, hb⟩; replace HZ := Lib.hid (HZ.out.trans (hb.mono HZ.out.size)); obtain ⟨hpl, _, k11, k12⟩ := HK.out _ HZ.out; clear hb hpl)
           | (go_at_call 26; refine (HR.out _).mono ?_; rintro e w' ⟨rfl, hb⟩; replace HZ := Lib.hid (HZ.out.trans (hb.mono HZ.out.size)); obtain ⟨hpl, _, k11, k12⟩ := HK.out _ HZ.out; clear hb hpl)
           | (go_at_call 27; refine (HU.out _).mono ?_; rintro e w' ⟨rfl, rfl⟩)
           | (go_at_call 28; refine (HG.out _).mono ?_; rintro e w' ⟨rfl, hb⟩; replace HZ := Lib.hid (HZ.out.trans (hb.mono HZ.out.size)); clear hb)
           | (go_at_call 29; refine (HH.out _).mono ?_; rintro e w' ⟨rfl, hb⟩; replace HZ := Lib.hid (HZ.out.trans (hb.mono HZ.out.size)); clear hb)
           | (go_at_call 30; refine (HF.out _).mono ?_; rintro e w' ⟨rfl, hb⟩; replace HZ := Lib.hid (HZ.out.trans (hb.mono HZ.out.size)); clear hb))
         go_ret
         exact ⟨rfl, (HK.out _ HZ.out).2.1⟩
       · rw [if_neg hhi]
         cases bu with
         | false =>
           rw [if_neg (by decide)]
           go_enter Tryd.func12, Tryd.ntmps12
           go_upto_region 1 with fail
           refine wp_region_lit ?_
           refine wpList_load_mid rfl 42 _ rfl _ 0 (by rfl) (pls p) _ (HK.out _ HZ.out).1.range Tryd.underlying42 rfl (by rw [pls_len]; kernel_rfl) ?_
           go_upto_region 2 with (first
             | (go_at_call 25; refine (HA.out _).mono ?_; rintro e w' ⟨rfl, hb⟩; replace HZ := Lib.hid (HZ.out.trans (hb.mono HZ.out.size)); obtain ⟨hpl, _, k11, k12⟩ := HK.out _ HZ.out; clear hb hpl)
             | (go_at_call 26; refine (HR.out _).mono ?_; rintro e w' ⟨rfl, hb⟩; replace HZ := Lib.hid (HZ.out.trans (hb.mono HZ.out.size)); obtain ⟨hpl, _, k11, k12⟩ := HK.out _ HZ.out; clear hb hpl)
             | (go_at_call 27; refine (HU.out _).mono ?_; rintro e w' ⟨rfl, rfl⟩)
             | (go_at_call 28; refine (HG.out _).mono ?_; rintro e w' ⟨rfl, hb⟩; replace HZ := Lib.hid (HZ.out.trans (hb.mono HZ.out.size)); clear hb)
             | (go_at_call 29; refine (HH.out _).mono ?_; rintro e w' ⟨rfl, hb⟩; replace HZ := Lib.hid (HZ.out.trans (hb.mono HZ.out.size)); clear hb)
             | (go_at_call 30; refine (HF.out _).mono ?_; rintro e w' ⟨rfl, hb⟩; replace HZ := Lib.hid (HZ.out.trans (hb.mono HZ.out.size)); clear hb))
           refine wp_region_lit ?_
           refine wpList_load_mid rfl 42 _ rfl _ 0 (by rfl) (pls p) _ (HK.out _ HZ.out).1.range Tryd.underlying42 rfl (by rw [pls_len]; kernel_rfl) ?_
           go_wp2_with (first
             | (go_at_call 25; refine (HA.out _).mono ?_; rintro e w' ⟨rfl, hb⟩; replace HZ := Lib.hid (HZ.out.trans (hb.mono HZ.out.size)); obtain ⟨hpl, _, k11, k12⟩ := HK.out _ HZ.out; clear hb hpl)
             | (go_at_call 26; refine (HR.out _).mono ?_; rintro e w' ⟨rfl, hb⟩; replace HZ := Lib.hid (HZ.out.trans (hb.mono HZ.out.size)); obtain ⟨hpl, _, k11, k12⟩ := HK.out _ HZ.out; clear hb hpl)
             | (go_at_call 27; refine (HU.out _).mono ?_; rintro e w' ⟨rfl, rfl⟩)
             | (go_at_call 28; refine (HG.out _).mono ?_; rintro e w' ⟨rfl, hb⟩; replace HZ := Lib.hid (HZ.out.trans (hb.mono HZ.out.size)); clear hb)
             | (go_at_call 29; refine (HH.out _).mono ?_; rintro e w' ⟨rfl, hb⟩; replace HZ := Lib.hid (HZ.out.trans (hb.mono HZ.out.size)); clear hb)
             | (go_at_call 30; refine (HF.out _).mono ?_; rintro e w' ⟨rfl, hb⟩; replace HZ := Lib.hid (HZ.out.trans (hb.mono HZ.out.size)); clear hb))
           go_ret
           exact ⟨rfl, (HK.out _ HZ.out).2.1⟩
         | true =>
           rw [if_pos rfl]
           cases bg with
           | false =>
             rw [if_neg (by decide)]
             go_enter Tryd.func12, Tryd.ntmps12
             go_upto_region 1 with fail
             refine wp_region_lit ?_
             refine wpList_load_mid rfl 42 _ rfl _ 0 (by rfl) (pls p) _ (HK.out _ HZ.out).1.range Tryd.underlying42 rfl (by rw [pls_len]; kernel_rfl) ?_
             go_upto_region 2 with (first
               | (go_at_call 25; refine (HA.out _).mono ?_; rintro e w' ⟨rfl, hb⟩; replace HZ := Lib.hid (HZ.out.trans (hb.mono HZ.out.size)); obtain ⟨hpl, _, k11, k12⟩ := HK.out _ HZ.out; clear hb hpl)
               | (go_at_call 26; refine (HR.out _).mono ?_; rintro e w' ⟨rfl, hb⟩; replace HZ := Lib.hid (HZ.out.trans (hb.mono HZ.out.size)); obtain ⟨hpl, _, k11, k12⟩ := HK.out _ HZ.out; clear hb hpl)
               | (go_at_call 27; refine (HU.out _).mono ?_; rintro e w' ⟨rfl, rfl⟩)
               | (go_at_call 28; refine (HG.out _).mono ?_; rintro e w' ⟨rfl, hb⟩; replace HZ := Lib.hid (HZ.out.trans (hb.mono HZ.out.size)); clear hb)
               | (go_at_call 29; refine (HH.out _).mono ?_; rintro e w' ⟨rfl, hb⟩; replace HZ := Lib.hid (HZ.out.trans (hb.mono HZ.out.size)); clear hb)
               | (go_at_call 30; refine (HF.out _).mono ?_; rintro e w' ⟨rfl, hb⟩; replace HZ := Lib.hid (HZ.out.trans (hb.mono HZ.out.size)); clear hb))
             refine wp_region_lit ?_
             refine wpList_load_mid rfl 42 _ rfl _ 0 (by rfl) (pls p) _ (HK.out _ HZ.out).1.range Tryd.underlying42 rfl (by rw [pls_len]; kernel_rfl) ?_
             go_upto_region 7 with (first
               | (go_at_call 25; refine (HA.out _).mono ?_; rintro e w' ⟨rfl, hb⟩; replace HZ := Lib.hid (HZ.out.trans (hb.mono HZ.out.size)); obtain ⟨hpl, _, k11, k12⟩ := HK.out _ HZ.out; clear hb hpl)
               | (go_at_call 26; refine (HR.out _).mono ?_; rintro e w' ⟨rfl, hb⟩; replace HZ := Lib.hid (HZ.out.trans (hb.mono HZ.out.size)); obtain ⟨hpl, _, k11, k12⟩ := HK.out _ HZ.out; clear hb hpl)
               | (go_at_call 27; refine (HU.out _).mono ?_; rintro e w' ⟨rfl, rfl⟩)
               | (go_at_call 28; refine (HG.out _).mono ?_; rintro e w' ⟨rfl, hb⟩; replace HZ := Lib.hid (HZ.out.trans (hb.mono HZ.out.size)); clear hb)
               | (go_at_call 29; refine (HH.out _).mono ?_; rintro e w' ⟨rfl, hb⟩; replace HZ := Lib.hid (HZ.out.trans (hb.mono HZ.out.size)); clear hb)
               | (go_at_call 30; refine (HF.out _).mono ?_; rintro e w' ⟨rfl, hb⟩; replace HZ := Lib.hid (HZ.out.trans (hb.mono HZ.out.size)); clear hb))
             refine wp_region_lit ?_
             refine wpList_load_mid rfl 42 _ rfl _ 0 (by rfl) (pls p) _ (HK.out _ HZ.out).1.range Tryd.underlying42 rfl (by rw [pls_len]; kernel_rfl) ?_
             go_wp2_with (first
               | (go_at_call 25; refine (HA.out _).mono ?_; rintro e w' ⟨rfl, hb⟩; replace HZ := Lib.hid (HZ.out.trans (hb.mono HZ.out.size)); obtain ⟨hpl, _, k11, k12⟩ := HK.out _ HZ.out; clear hb hpl)
               | (go_at_call 26; refine (HR.out _).mono ?_; rintro e w' ⟨rfl, hb⟩; replace HZ := Lib.hid (HZ.out.trans (hb.mono HZ.out.size)); obtain ⟨hpl, _, k11, k12⟩ := HK.out _ HZ.out; clear hb hpl)
               | (go_at_call 27; refine (HU.out _).mono ?_; rintro e w' ⟨rfl, rfl⟩)
               | (go_at_call 28; refine (HG.out _).mono ?_; rintro e w' ⟨rfl, hb⟩; replace HZ := Lib.hid (HZ.out.trans (hb.mono HZ.out.size)); clear hb)
               | (go_at_call 29; refine (HH.out _).mono ?_; rintro e w' ⟨rfl, hb⟩; replace HZ := Lib.hid (HZ.out.trans (hb.mono HZ.out.size)); clear hb)
               | (go_at_call 30; refine (HF.out _).mono ?_; rintro e w' ⟨rfl, hb⟩; replace HZ := Lib.hid (HZ.out.trans (hb.mono HZ.out.size)); clear hb))
             go_ret
             exact ⟨rfl, (HK.out _ HZ.out).2.1⟩
           | true =>
             rw [if_pos rfl]
             cases bh with
             | false =>
               rw [if_neg (by decide)]
               go_enter Tryd.func12, Tryd.ntmps12
               go_upto_region 1 with fail
               refine wp_region_lit ?_
               refine wpList_load_mid rfl 42 _ rfl _ 0 (by rfl) (pls p) _ (HK.out _ HZ.out).1.range Tryd.underlying42 rfl (by rw [pls_len]; kernel_rfl) ?_
               go_upto_region 2 with (first
                 | (go_at_call 25; refine (HA.out _).mono ?_; rintro e w' ⟨rfl, hb⟩; replace HZ := Lib.hid (HZ.out.trans (hb.mono HZ.out.size)); obtain ⟨hpl, _, k11, k12⟩ := HK.out _ HZ.out; clear hb hpl)
                 | (go_at_call 26; refine (HR.out _).mono ?_; rintro e w' ⟨rfl, hb⟩; replace HZ := Lib.hid (HZ.out.trans (hb.mono HZ.out.size)); obtain ⟨hpl, _, k11, k12⟩ := HK.out _ HZ.out; clear hb hpl)
                 | (go_at_call 27; refine (HU.out _).mono ?_; rintro e w' ⟨rfl, rfl⟩)
                 | (go_at_call 28; refine (HG.out _).mono ?_; rintro e w' ⟨rfl, hb⟩; replace HZ := Lib.hid (HZ.out.trans (hb.mono HZ.out.size)); clear hb)
                 | (go_at_call 29; refine (HH.out _).mono ?_; rintro e w' ⟨rfl, hb⟩; replace HZ := Lib.hid (HZ.out.trans (hb.mono HZ.out.size)); clear hb)
                 | (go_at_call 30; refine (HF.out _).mono ?_; rintro e w' ⟨rfl, hb⟩; replace HZ := Lib.hid (HZ.out.trans (hb.mono HZ.out.size)); clear hb))
               refine wp_region_lit ?_
               refine wpList_load_mid rfl 42 _ rfl _ 0 (by rfl) (pls p) _ (HK.out _ HZ.out).1.range Tryd.underlying42 rfl (by rw [pls_len]; kernel_rfl) ?_
               go_upto_region 7 with (first
                 | (go_at_call 25; refine (HA.out _).mono ?_; rintro e w' ⟨rfl, hb⟩; replace HZ := Lib.hid (HZ.out.trans (hb.mono HZ.out.size)); obtain ⟨hpl, _, k11, k12⟩ := HK.out _ HZ.out; clear hb hpl)
                 | (go_at_call 26; refine (HR.out _).mono ?_; rintro e w' ⟨rfl, hb⟩; replace HZ := Lib.hid (HZ.out.trans (hb.mono HZ.out.size)); obtain ⟨hpl, _, k11, k12⟩ := HK.out _ HZ.out; clear hb hpl)
                 | (go_at_call 27; refine (HU.out _).mono ?_; rintro e w' ⟨rfl, rfl⟩)
                 | (go_at_call 28; refine (HG.out _).mono ?_; rintro e w' ⟨rfl, hb⟩; replace HZ := Lib.hid (HZ.out.trans (hb.mono HZ.out.size)); clear hb)
                 | (go_at_call 29; refine (HH.out _).mono ?_; rintro e w' ⟨rfl, hb⟩; replace HZ := Lib.hid (HZ.out.trans (hb.mono HZ.out.size)); clear hb)
                 | (go_at_call 30; refine (HF.out _).mono ?_; rintro e w' ⟨rfl, hb⟩; replace HZ := Lib.hid (HZ.out.trans (hb.mono HZ.out.size)); clear hb))
               refine wp_region_lit ?_
               refine wpList_load_mid rfl 42 _ rfl _ 0 (by rfl) (pls p) _ (HK.out _ HZ.out).1.range Tryd.underlying42 rfl (by rw [pls_len]; kernel_rfl) ?_
               go_upto_region 8 with (first
                 | (go_at_call 25; refine (HA.out _).mono ?_; rintro e w' ⟨rfl, hb⟩; replace HZ := Lib.hid (HZ.out.trans (hb.mono HZ.out.size)); obtain ⟨hpl, _, k11, k12⟩ := HK.out _ HZ.out; clear hb hpl)
                 | (go_at_call 26; refine (HR.out _).mono ?_; rintro e w' ⟨rfl, hb⟩; replace HZ := Lib.hid (HZ.out.trans (hb.mono HZ.out.size)); obtain ⟨hpl, _, k11, k12⟩ := HK.out _ HZ.out; clear hb hpl)
                 | (go_at_call 27; refine (HU.out _).mono ?_; rintro e w' ⟨rfl, rfl⟩)
                 | (go_at_call 28; refine (HG.out _).mono ?_; rintro e w' ⟨rfl, hb⟩; replace HZ := Lib.hid (HZ.out.trans (hb.mono HZ.out.size)); clear hb)
                 | (go_at_call 29; refine (HH.out _).mono ?_; rintro e w' ⟨rfl, hb⟩; replace HZ := Lib.hid (HZ.out.trans (hb.mono HZ.out.size)); clear hb)
                 | (go_at_call 30; refine (HF.out _).mono ?_; rintro e w' ⟨rfl, hb⟩; replace HZ := Lib.hid (HZ.out.trans (hb.mono HZ.out.size)); clear hb))
               refine wp_region_lit ?_
               refine wpList_load_mid rfl 42 _ rfl _ 0 (by rfl) (pls p) _ (HK.out _ HZ.out).1.range Tryd.underlying42 rfl (by rw [pls_len]; kernel_rfl) ?_
               go_wp2_with (first
                 | (go_at_call 25; refine (HA.out _).mono ?_; rintro e w' ⟨rfl, hb⟩; replace HZ := Lib.hid (HZ.out.trans (hb.mono HZ.out.size)); obtain ⟨hpl, _, k11, k12⟩ := HK.out _ HZ.out; clear hb hpl)
                 | (go_at_call 26; refine (HR.out _).mono ?_; rintro e w' ⟨rfl, hb⟩; replace HZ := Lib.hid (HZ.out.trans (hb.mono HZ.out.size)); obtain ⟨hpl, _, k11, k12⟩ := HK.out _ HZ.out; clear hb hpl)
                 | (go_at_call 27; refine (HU.out _).mono ?_; rintro e w' ⟨rfl, rfl⟩)
                 | (go_at_call 28; refine (HG.out _).mono ?_; rintro e w' ⟨rfl, hb⟩; replace HZ := Lib.hid (HZ.out.trans (hb.mono HZ.out.size)); clear hb)
                 | (go_at_call 29; refine (HH.out _).mono ?_; rintro e w' ⟨rfl, hb⟩; replace HZ := Lib.hid (HZ.out.trans (hb.mono HZ.out.size)); clear hb)
                 | (go_at_call 30; refine (HF.out _).mono ?_; rintro e w' ⟨rfl, hb⟩; replace HZ := Lib.hid (HZ.out.trans (hb.mono HZ.out.size)); clear hb))
               go_ret
               exact ⟨rfl, (HK.out _ HZ.out).2.1⟩
             | true =>
               rw [if_pos rfl]
               cases bf with
               | false =>
                 rw [if_neg (by decide)]
                 go_enter Tryd.func12, Tryd.ntmps12
                 go_upto_region 1 with fail
                 refine wp_region_lit ?_
                 refine wpList_load_mid rfl 42 _ rfl _ 0 (by rfl) (pls p) _ (HK.out _ HZ.out).1.range Tryd.underlying42 rfl (by rw [pls_len]; kernel_rfl) ?_
                 go_upto_region 2 with (first
                   | (go_at_call 25; refine (HA.out _).mono ?_; rintro e w' ⟨rfl, hb⟩; replace HZ := Lib.hid (HZ.out.trans (hb.mono HZ.out.size)); obtain ⟨hpl, _, k11, k12⟩ := HK.out _ HZ.out; clear hb hpl)
                   | (go_at_call 26; refine (HR.out _).mono ?_; rintro e w' ⟨rfl, hb⟩; replace HZ := Lib.hid (HZ.out.trans (hb.mono HZ.out.size)); obtain ⟨hpl, _, k11, k12⟩ := HK.out _ HZ.out; clear hb hpl)
                   | (go_at_call 27; refine (HU.out _).mono ?_; rintro e w' ⟨rfl, rfl⟩)
                   | (go_at_call 28; refine (HG.out _).mono ?_; rintro e w' ⟨rfl, hb⟩; replace HZ := Lib.hid (HZ.out.trans (hb.mono HZ.out.size)); clear hb)
                   | (go_at_call 29; refine (HH.out _).mono ?_; rintro e w' ⟨rfl, hb⟩; replace HZ := Lib.hid (HZ.out.trans (hb.mono HZ.out.size)); clear hb)
                   | (go_at_call 30; refine (HF.out _).mono ?_; rintro e w' ⟨rfl, hb⟩; replace HZ := Lib.hid (HZ.out.trans (hb.mono HZ.out.size)); clear hb))
                 refine wp_region_lit ?_
                 refine wpList_load_mid rfl 42 _ rfl _ 0 (by rfl) (pls p) _ (HK.out _ HZ.out).1.range Tryd.underlying42 rfl (by rw [pls_len]; kernel_rfl) ?_
                 go_upto_region 7 with (first
                   | (go_at_call 25; refine (HA.out _).mono ?_; rintro e w' ⟨rfl, hb⟩; replace HZ := Lib.hid (HZ.out.trans (hb.mono HZ.out.size)); obtain ⟨hpl, _, k11, k12⟩ := HK.out _ HZ.out; clear hb hpl)
                   | (go_at_call 26; refine (HR.out _).mono ?_; rintro e w' ⟨rfl, hb⟩; replace HZ := Lib.hid (HZ.out.trans (hb.mono HZ.out.size)); obtain ⟨hpl, _, k11, k12⟩ := HK.out _ HZ.out; clear hb hpl)
                   | (go_at_call 27; refine (HU.out _).mono ?_; rintro e w' ⟨rfl, rfl⟩)
                   | (go_at_call 28; refine (HG.out _).mono ?_; rintro e w' ⟨rfl, hb⟩; replace HZ := Lib.hid (HZ.out.trans (hb.mono HZ.out.size)); clear hb)
                   | (go_at_call 29; refine (HH.out _).mono ?_; rintro e w' ⟨rfl, hb⟩; replace HZ := Lib.hid (HZ.out.trans (hb.mono HZ.out.size)); clear hb)
                   | (go_at_call 30; refine (HF.out _).mono ?_; rintro e w' ⟨rfl, hb⟩; replace HZ := Lib.hid (HZ.out.trans (hb.mono HZ.out.size)); clear hb))
                 refine wp_region_lit ?_
                 refine wpList_load_mid rfl 42 _ rfl _ 0 (by rfl) (pls p) _ (HK.out _ HZ.out).1.range Tryd.underlying42 rfl (by rw [pls_len]; kernel_rfl) ?_
                 go_upto_region 8 with (first
                   | (go_at_call 25; refine (HA.out _).mono ?_; rintro e w' ⟨rfl, hb⟩; replace HZ := Lib.hid (HZ.out.trans (hb.mono HZ.out.size)); obtain ⟨hpl, _, k11, k12⟩ := HK.out _ HZ.out; clear hb hpl)
                   | (go_at_call 26; refine (HR.out _).mono ?_; rintro e w' ⟨rfl, hb⟩; replace HZ := Lib.hid (HZ.out.trans (hb.mono HZ.out.size)); obtain ⟨hpl, _, k11, k12⟩ := HK.out _ HZ.out; clear hb hpl)
                   | (go_at_call 27; refine (HU.out _).mono ?_; rintro e w' ⟨rfl, rfl⟩)
                   | (go_at_call 28; refine (HG.out _).mono ?_; rintro e w' ⟨rfl, hb⟩; replace HZ := Lib.hid (HZ.out.trans (hb.mono HZ.out.size)); clear hb)
                   | (go_at_call 29; refine (HH.out _).mono ?_; rintro e w' ⟨rfl, hb⟩; replace HZ := Lib.hid (HZ.out.trans (hb.mono HZ.out.size)); clear hb)
                   | (go_at_call 30; refine (HF.out _).mono ?_; rintro e w' ⟨rfl, hb⟩; replace HZ := Lib.hid (HZ.out.trans (hb.mono HZ.out.size)); clear hb))
                 refine wp_region_lit ?_
                 refine wpList_load_mid rfl 42 _ rfl _ 0 (by rfl) (pls p) _ (HK.out _ HZ.out).1.range Tryd.underlying42 rfl (by rw [pls_len]; kernel_rfl) ?_
                 go_upto_region 9 with (first
                   | (go_at_call 25; refine (HA.out _).mono ?_; rintro e w' ⟨rfl, hb⟩; replace HZ := Lib.hid (HZ.out.trans (hb.mono HZ.out.size)); obtain ⟨hpl, _, k11, k12⟩ := HK.out _ HZ.out; clear hb hpl)
                   | (go_at_call 26; refine (HR.out _).mono ?_; rintro e w' ⟨rfl, hb⟩; replace HZ := Lib.hid (HZ.out.trans (hb.mono HZ.out.size)); obtain ⟨hpl, _, k11, k12⟩ := HK.out _ HZ.out; clear hb hpl)
                   | (go_at_call 27; refine (HU.out _).mono ?_; rintro e w' ⟨rfl, rfl⟩)
                   | (go_at_call 28; refine (HG.out _).mono ?_; rintro e w' ⟨rfl, hb⟩; replace HZ := Lib.hid (HZ.out.trans (hb.mono HZ.out.size)); clear hb)
                   | (go_at_call 29; refine (HH.out _).mono ?_; rintro e w' ⟨rfl, hb⟩; replace HZ := Lib.hid (HZ.out.trans (hb.mono HZ.out.size)); clear hb)
                   | (go_at_call 30; refine (HF.out _).mono ?_; rintro e w' ⟨rfl, hb⟩; replace HZ := Lib.hid (HZ.out.trans (hb.mono HZ.out.size)); clear hb))
                 refine wp_region_lit ?_
                 refine wpList_load_mid rfl 42 _ rfl _ 0 (by rfl) (pls p) _ (HK.out _ HZ.out).1.range Tryd.underlying42 rfl (by rw [pls_len]; kernel_rfl) ?_
                 go_wp2_with (first
                   | (go_at_call 25; refine (HA.out _).mono ?_; rintro e w' ⟨rfl, hb⟩; replace HZ := Lib.hid (HZ.out.trans (hb.mono HZ.out.size)); obtain ⟨hpl, _, k11, k12⟩ := HK.out _ HZ.out; clear hb hpl)
                   | (go_at_call 26; refine (HR.out _).mono ?_; rintro e w' ⟨rfl, hb⟩; replace HZ := Lib.hid (HZ.out.trans (hb.mono HZ.out.size)); obtain ⟨hpl, _, k11, k12⟩ := HK.out _ HZ.out; clear hb hpl)
                   | (go_at_call 27; refine (HU.out _).mono ?_; rintro e w' ⟨rfl, rfl⟩)
                   | (go_at_call 28; refine (HG.out _).mono ?_; rintro e w' ⟨rfl, hb⟩; replace HZ := Lib.hid (HZ.out.trans (hb.mono HZ.out.size)); clear hb)
                   | (go_at_call 29; refine (HH.out _).mono ?_; rintro e w' ⟨rfl, hb⟩; replace HZ := Lib.hid (HZ.out.trans (hb.mono HZ.out.size)); clear hb)
                   | (go_at_call 30; refine (HF.out _).mono ?_; rintro e w' ⟨rfl, hb⟩; replace HZ := Lib.hid (HZ.out.trans (hb.mono HZ.out.size)); clear hb))
                 go_ret
                 exact ⟨rfl, (HK.out _ HZ.out).2.1⟩
               | true =>
                 rw [if_pos rfl]
                 go_enter Tryd.func12, Tryd.ntmps12
                 go_upto_region 1 with fail
                 refine wp_region_lit ?_
                 refine wpList_load_mid rfl 42 _ rfl _ 0 (by rfl) (pls p) _ (HK.out _ HZ.out).1.range Tryd.underlying42 rfl (by rw [pls_len]; kernel_rfl) ?_
                 go_upto_region 2 with (first
                   | (go_at_call 25; refine (HA.out _).mono ?_; rintro e w' ⟨rfl, hb⟩; replace HZ := Lib.hid (HZ.out.trans (hb.mono HZ.out.size)); obtain ⟨hpl, _, k11, k12⟩ := HK.out _ HZ.out; clear hb hpl)
                   | (go_at_call 26; refine (HR.out _).mono ?_; rintro e w' ⟨rfl, hb⟩; replace HZ := Lib.hid (HZ.out.trans (hb.mono HZ.out.size)); obtain ⟨hpl, _, k11, k12⟩ := HK.out _ HZ.out; clear hb hpl)
                   | (go_at_call 27; refine (HU.out _).mono ?_; rintro e w' ⟨rfl, rfl⟩)
                   | (go_at_call 28; refine (HG.out _).mono ?_; rintro e w' ⟨rfl, hb⟩; replace HZ := Lib.hid (HZ.out.trans (hb.mono HZ.out.size)); clear hb)
                   | (go_at_call 29; refine (HH.out _).mono ?_; rintro e w' ⟨rfl, hb⟩; replace HZ := Lib.hid (HZ.out.trans (hb.mono HZ.out.size)); clear hb)
                   | (go_at_call 30; refine (HF.out _).mono ?_; rintro e w' ⟨rfl, hb⟩; replace HZ := Lib.hid (HZ.out.trans (hb.mono HZ.out.size)); clear hb))
                 refine wp_region_lit ?_
                 refine wpList_load_mid rfl 42 _ rfl _ 0 (by rfl) (pls p) _ (HK.out _ HZ.out).1.range Tryd.underlying42 rfl (by rw [pls_len]; kernel_rfl) ?_
                 go_upto_region 7 with (first
                   | (go_at_call 25; refine (HA.out _).mono ?_; rintro e w' ⟨rfl, hb⟩; replace HZ := Lib.hid (HZ.out.trans (hb.mono HZ.out.size)); obtain ⟨hpl, _, k11, k12⟩ := HK.out _ HZ.out; clear hb hpl)
                   | (go_at_call 26; refine (HR.out _).mono ?_; rintro e w' ⟨rfl, hb⟩; replace HZ := Lib.hid (HZ.out.trans (hb.mono HZ.out.size)); obtain ⟨hpl, _, k11, k12⟩ := HK.out _ HZ.out; clear hb hpl)
                   | (go_at_call 27; refine (HU.out _).mono ?_; rintro e w' ⟨rfl, rfl⟩)
                   | (go_at_call 28; refine (HG.out _).mono ?_; rintro e w' ⟨rfl, hb⟩; replace HZ := Lib.hid (HZ.out.trans (hb.mono HZ.out.size)); clear hb)
                   | (go_at_call 29; refine (HH.out _).mono ?_; rintro e w' ⟨rfl, hb⟩; replace HZ := Lib.hid (HZ.out.trans (hb.mono HZ.out.size)); clear hb)
                   | (go_at_call 30; refine (HF.out _).mono ?_; rintro e w' ⟨rfl, hb⟩; replace HZ := Lib.hid (HZ.out.trans (hb.mono HZ.out.size)); clear hb))
                 refine wp_region_lit ?_
                 refine wpList_load_mid rfl 42 _ rfl _ 0 (by rfl) (pls p) _ (HK.out _ HZ.out).1.range Tryd.underlying42 rfl (by rw [pls_len]; kernel_rfl) ?_
                 go_upto_region 8 with (first
                   | (go_at_call 25; refine (HA.out _).mono ?_; rintro e w' ⟨rfl, hb⟩; replace HZ := Lib.hid (HZ.out.trans (hb.mono HZ.out.size)); obtain ⟨hpl, _, k11, k12⟩ := HK.out _ HZ.out; clear hb hpl)
                   | (go_at_call 26; refine (HR.out _).mono ?_; rintro e w' ⟨rfl, hb⟩; replace HZ := Lib.hid (HZ.out.trans (hb.mono HZ.out.size)); obtain ⟨hpl, _, k11, k12⟩ := HK.out _ HZ.out; clear hb hpl)
                   | (go_at_call 27; refine (HU.out _).mono ?_; rintro e w' ⟨rfl, rfl⟩)
                   | (go_at_call 28; refine (HG.out _).mono ?_; rintro e w' ⟨rfl, hb⟩; replace HZ := Lib.hid (HZ.out.trans (hb.mono HZ.out.size)); clear hb)
                   | (go_at_call 29; refine (HH.out _).mono ?_; rintro e w' ⟨rfl, hb⟩; replace HZ := Lib.hid (HZ.out.trans (hb.mono HZ.out.size)); clear hb)
                   | (go_at_call 30; refine (HF.out _).mono ?_; rintro e w' ⟨rfl, hb⟩; replace HZ := Lib.hid (HZ.out.trans (hb.mono HZ.out.size)); clear hb))
                 refine wp_region_lit ?_
                 refine wpList_load_mid rfl 42 _ rfl _ 0 (by rfl) (pls p) _ (HK.out _ HZ.out).1.range Tryd.underlying42 rfl (by rw [pls_len]; kernel_rfl) ?_
                 go_upto_region 9 with (first
                   | (go_at_call 25; refine (HA.out _).mono ?_; rintro e w' ⟨rfl, hb⟩; replace HZ := Lib.hid (HZ.out.trans (hb.mono HZ.out.size)); obtain ⟨hpl, _, k11, k12⟩ := HK.out _ HZ.out; clear hb hpl)
                   | (go_at_call 26; refine (HR.out _).mono ?_; rintro e w' ⟨rfl, hb⟩; replace HZ := Lib.hid (HZ.out.trans (hb.mono HZ.out.size)); obtain ⟨hpl, _, k11, k12⟩ := HK.out _ HZ.out; clear hb hpl)
                   | (go_at_call 27; refine (HU.out _).mono ?_; rintro e w' ⟨rfl, rfl⟩)
                   | (go_at_call 28; refine (HG.out _).mono ?_; rintro e w' ⟨rfl, hb⟩; replace HZ := Lib.hid (HZ.out.trans (hb.mono HZ.out.size)); clear hb)
                   | (go_at_call 29; refine (HH.out _).mono ?_; rintro e w' ⟨rfl, hb⟩; replace HZ := Lib.hid (HZ.out.trans (hb.mono HZ.out.size)); clear hb)
                   | (go_at_call 30; refine (HF.out _).mono ?_; rintro e w' ⟨rfl, hb⟩; replace HZ := Lib.hid (HZ.out.trans (hb.mono HZ.out.size)); clear hb))
                 refine wp_region_lit ?_
                 refine wpList_load_mid rfl 42 _ rfl _ 0 (by rfl) (pls p) _ (HK.out _ HZ.out).1.range Tryd.underlying42 rfl (by rw [pls_len]; kernel_rfl) ?_
                 go_wp2_with (first
                   | (go_at_call 25; refine (HA.out _).mono ?_; rintro e w' ⟨rfl, hb⟩; replace HZ := Lib.hid (HZ.out.trans (hb.mono HZ.out.size)); obtain ⟨hpl, _, k11, k12⟩ := HK.out _ HZ.out; clear hb hpl)
                   | (go_at_call 26; refine (HR.out _).mono ?_; rintro e w' ⟨rfl, hb⟩; replace HZ := Lib.hid (HZ.out.trans (hb.mono HZ.out.size)); obtain ⟨hpl, _, k11, k12⟩ := HK.out _ HZ.out; clear hb hpl)
                   | (go_at_call 27; refine (HU.out _).mono ?_; rintro e w' ⟨rfl, rfl⟩)
                   | (go_at_call 28; refine (HG.out _).mono ?_; rintro e w' ⟨rfl, hb⟩; replace HZ := Lib.hid (HZ.out.trans (hb.mono HZ.out.size)); clear hb)
                   | (go_at_call 29; refine (HH.out _).mono ?_; rintro e w' ⟨rfl, hb⟩; replace HZ := Lib.hid (HZ.out.trans (hb.mono HZ.out.size)); clear hb)
                   | (go_at_call 30; refine (HF.out _).mono ?_; rintro e w' ⟨rfl, hb⟩; replace HZ := Lib.hid (HZ.out.trans (hb.mono HZ.out.size)); clear hb))
                 go_ret
                 exact ⟨rfl, (HK.out _ HZ.out).2.1⟩
end Go.Proofs.YtkgnlobakicnjaaDoor
