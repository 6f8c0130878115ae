/- Own texts, put together: Gu. -/
import Derived.Test.YtocnkgfoffpbfaaGreatDoorQ3
import Derived.Test.YtocnkgfoffpbfaaGreatDoorQ40
import Derived.Test.YtocnkgfoffpbfaaGreatDoorQ42
import Derived.Test.YtocnkgfoffpbfaaGreatDoorQ43
/- The float nearest to a quotient: nearer, nearest. -/
namespace Go.Proofs.YtocnkgfoffpbfaaGreatDoor
open Go.RowKit Go.Shelf
attribute [local go_sem ↓] Go.wp_at_zero Go.wp_at_succ
attribute [local go_sem] run_store_float

theorem sgq_mul_cases (p q : Rat) : sgq p * sgq q = 1 ∨ sgq p * sgq q = -1 ∨ sgq p * sgq q = 0 := by
 have h : ∀ x, sgq x = 1 ∨ sgq x = -1 ∨ sgq x = 0 := fun x => by
   unfold sgq
   split
   · exact Or.inr (Or.inl rfl)
   · split
     · exact Or.inr (Or.inr rfl)
     · exact Or.inl rfl
 rcases h p with a | a | a <;> rcases h q with b | b | b <;> rw [a, b] <;> decide

set_option maxRecDepth 100000 in
set_option maxHeartbeats 4000000 in
theorem nearer_any {n d : Rat} (f x : Nat) (z1 z2 : Int) (bg bl : Bool) (aN : Option Addr) (nN cN : Nat) (lN : Int) (gN oN : Bool) (aD : Option Addr) (nD cD : Nat) (lD : Int) (gD oD : Bool) (w : World) (hT : Tab w) (h1 : IsNum w (.agg #[.slice aN nN cN, .int .i64 lN, .bool gN, .bool oN]) (some n)) (h2 : IsNum w (.agg #[.slice aD nD cD, .int .i64 lD, .bool gD, .bool oD]) (some d)) (hf : f < 18446744073709551616 ∧ Fin64 f) (hx : x < 18446744073709551616 ∧ Fin64 x) (m1 : May (fval f + fval x)) (m2 : May ((fval f + fval x) * d)) (m3 : May (2 * n))
   (hz1 : sgq (2 * n - (fval f + fval x) * d) = z1) (hz2 : sgq d = z2) (hg : (FloatKind.f64.format.order x f == some .gt) = bg) (hl : (FloatKind.f64.format.order x f == some .lt) = bl) :
   Calls Tryz.prog 91 #[(.agg #[.slice aN nN cN, .int .i64 lN, .bool gN, .bool oN]), (.agg #[.slice aD nD cD, .int .i64 lD, .bool gD, .bool oD]), .float .f64 f, .float .f64 x] w fun e w' => e = .returned (.bool (if z1 * z2 = 1 then bg else if z1 * z2 = -1 then bl else (f : Int) % 2 == 1)) ∧ Below w.heap.size w w' := by
 have HT : Hid (Tab w) := hT
 have HN : Hid (IsNum w (.agg #[.slice aN nN cN, .int .i64 lN, .bool gN, .bool oN]) (some n) ∧ IsNum w (.agg #[.slice aD nD cD, .int .i64 lD, .bool gD, .bool oD]) (some d)) := ⟨h1, h2⟩
 have HF : Hid ((f < 18446744073709551616 ∧ Fin64 f) ∧ x < 18446744073709551616 ∧ Fin64 x) := ⟨hf, hx⟩
 have HM : Hid (May (fval f + fval x) ∧ May ((fval f + fval x) * d) ∧ May (2 * n)) := ⟨m1, m2, m3⟩
 have HZ1 : Hid (sgq (2 * n - (fval f + fval x) * d) = z1) := hz1
 have HZ2 : Hid (sgq d = z2) := hz2
 have hzz : z1 * z2 = 1 ∨ z1 * z2 = -1 ∨ z1 * z2 = 0 := by rw [← hz1, ← hz2]; exact sgq_mul_cases _ _
 have rb := run_bits f
 have ha := and_one f hf.1
 have hq := eq_one f
 clear hT h1 h2 hf hx m1 m2 m3 hz1 hz2
 go_enter Tryz.func91, Tryz.ntmps91
 go_wp2_with fail
 obtain ⟨W0, hW0⟩ : ∃ W0, W0 = ((w.alloc (.cells #[.slice aN nN cN, .int .i64 lN, .bool gN, .bool oN] 49)).alloc (.cells #[.slice aD nD cD, .int .i64 lD, .bool gD, .bool oD] 49)) := ⟨_, rfl⟩
 have z0 : W0.drew.cell? ⟨w.heap.size, 0, none⟩ = some (.slice aN nN cN) := by rw [hW0]; go_simp
 have z1 : W0.drew.cell? ⟨w.heap.size, 1, none⟩ = some (.int .i64 lN) := by rw [hW0]; go_simp
 have z2 : W0.drew.cell? ⟨w.heap.size, 2, none⟩ = some (.bool gN) := by rw [hW0]; go_simp
 have z3 : W0.drew.cell? ⟨w.heap.size, 3, none⟩ = some (.bool oN) := by rw [hW0]; go_simp
 have z4 : W0.drew.cell? ⟨w.heap.size + 1, 0, none⟩ = some (.slice aD nD cD) := by rw [hW0]; go_simp
 have z5 : W0.drew.cell? ⟨w.heap.size + 1, 1, none⟩ = some (.int .i64 lD) := by rw [hW0]; go_simp
 have z6 : W0.drew.cell? ⟨w.heap.size + 1, 2, none⟩ = some (.bool gD) := by rw [hW0]; go_simp
 have z7 : W0.drew.cell? ⟨w.heap.size + 1, 3, none⟩ = some (.bool oD) := by rw [hW0]; go_simp
 have HB0 : Hid (Below w.heap.size w W0) := by
   rw [hW0]
   exact ((Below.refl _ w).alloc (Nat.le_refl _) _).alloc (by simp) _
 rw [← hW0]
 clear hW0
 refine wp_region_held_drew (S := (fun W => W.cell? ⟨w.heap.size, 0, none⟩ = some (.slice aN nN cN) ∧ W.cell? ⟨w.heap.size, 1, none⟩ = some (.int .i64 lN) ∧ W.cell? ⟨w.heap.size, 2, none⟩ = some (.bool gN) ∧ W.cell? ⟨w.heap.size, 3, none⟩ = some (.bool oN) ∧ W.cell? ⟨w.heap.size + 1, 0, none⟩ = some (.slice aD nD cD) ∧ W.cell? ⟨w.heap.size + 1, 1, none⟩ = some (.int .i64 lD) ∧ W.cell? ⟨w.heap.size + 1, 2, none⟩ = some (.bool gD) ∧ W.cell? ⟨w.heap.size + 1, 3, none⟩ = some (.bool oD) ∧ Below w.heap.size w W)) (by kernel_rfl) ⟨z0, z1, z2, z3, z4, z5, z6, z7, HB0.out.drew⟩ (fun hS => ?_)
 refine takA (i := 0) (d := some 10) (v := .float .f64 f) hS ?_
 simp only [AP]
 refine takA (i := 2) (d := some 12) (v := .float .f64 x) hS ?_
 simp only [AP]
 refine takA (i := 5) (d := some 15) (v := .agg #[.slice aD nD cD, .int .i64 lD, .bool gD, .bool oD]) hS ?_
 simp only [AP]
 clear z0 z1 z2 z3 z4 z5 z6 z7
 refine frame_named (fun A hA => ?_)
 refine draw1 (f := 1) (n := 4) (al := 7) (fun k => if k = 0 then 1 else if k = 1 then 3 else if k = 2 then 4 else 6) (fun (xb : Bool) (kb : Nat) => #[true, decide (1 ≤ kb), true, decide (2 ≤ kb), decide (3 ≤ kb), true, decide (4 ≤ kb), xb, false]) (fun (xb : Bool) (kb : Nat) (aa : Act) (W : World) => ∃ (ea e1 e2 e3 e4 : Value), aa = (((((A.put (some 9) ea).put (some 11) e1).put (some 13) e2).put (some 14) e3).put (some 16) e4) ∧ (W.cell? ⟨w.heap.size, 0, none⟩ = some (.slice aN nN cN) ∧ W.cell? ⟨w.heap.size, 1, none⟩ = some (.int .i64 lN) ∧ W.cell? ⟨w.heap.size, 2, none⟩ = some (.bool gN) ∧ W.cell? ⟨w.heap.size, 3, none⟩ = some (.bool oN) ∧ W.cell? ⟨w.heap.size + 1, 0, none⟩ = some (.slice aD nD cD) ∧ W.cell? ⟨w.heap.size + 1, 1, none⟩ = some (.int .i64 lD) ∧ W.cell? ⟨w.heap.size + 1, 2, none⟩ = some (.bool gD) ∧ W.cell? ⟨w.heap.size + 1, 3, none⟩ = some (.bool oD) ∧ Below w.heap.size w W) ∧ (xb = true → ∃ bb, ea = .pointer (some ⟨bb, 0, none⟩) ∧ NB W bb 0 ∧ w.heap.size + 1 < bb) ∧ (1 ≤ kb → NF W e1 (fval f)) ∧ (2 ≤ kb → NF W e2 (fval x)) ∧ (3 ≤ kb → NF W e3 (fval f + fval x)) ∧ (4 ≤ kb → NF W e4 ((fval f + fval x) * d))) ?_ ?_ ?_ ?_ ?_ ?_ 5 false 0 _ _ (by omega) (by decide) ?_
 · intro xb kb hk hx
   have h5 : kb = 0 ∨ kb = 1 ∨ kb = 2 ∨ kb = 3 ∨ kb = 4 := by omega
   rcases h5 with rfl | rfl | rfl | rfl | rfl <;> cases xb <;> first | exact absurd (hx rfl) (by decide) | (show _ = _; kernel_rfl)
 · intro xb kb hk
   have h5 : kb = 0 ∨ kb = 1 ∨ kb = 2 ∨ kb = 3 := by omega
   rcases h5 with rfl | rfl | rfl | rfl <;> cases xb <;> rfl
 · intro kb hk
   have h5 : kb = 0 ∨ kb = 1 ∨ kb = 2 ∨ kb = 3 ∨ kb = 4 := by omega
   rcases h5 with rfl | rfl | rfl | rfl | rfl <;> rfl
 · intro xb kb hk
   have h5 : kb = 0 ∨ kb = 1 ∨ kb = 2 ∨ kb = 3 := by omega
   rcases h5 with rfl | rfl | rfl | rfl
   · refine ⟨_, rfl, ?_⟩
     intro aa W hI K' hK
     obtain ⟨ea, e1, e2, e3, e4, rfl, hS, hv, k1, k2, k3, k4⟩ := hI
     have HV : Hid (xb = true → ∃ bb, ea = .pointer (some ⟨bb, 0, none⟩) ∧ NB W bb 0 ∧ w.heap.size + 1 < bb) := hv
     clear hv k1 k2 k3 k4
     rw [hA]
     simp only [AP]
     go_simp
     go_wp2_with fail
     refine (ofQ HF.out.1.1 HF.out.1.2 (HT.out.later hS.2.2.2.2.2.2.2.2)).mono ?_
     rintro e wx ⟨aZ, nZ, cZ, lZ, gZ, oZ, rfl, hnew, hbx⟩
     have hS2 : (fun W => W.cell? ⟨w.heap.size, 0, none⟩ = some (.slice aN nN cN) ∧ W.cell? ⟨w.heap.size, 1, none⟩ = some (.int .i64 lN) ∧ W.cell? ⟨w.heap.size, 2, none⟩ = some (.bool gN) ∧ W.cell? ⟨w.heap.size, 3, none⟩ = some (.bool oN) ∧ W.cell? ⟨w.heap.size + 1, 0, none⟩ = some (.slice aD nD cD) ∧ W.cell? ⟨w.heap.size + 1, 1, none⟩ = some (.int .i64 lD) ∧ W.cell? ⟨w.heap.size + 1, 2, none⟩ = some (.bool gD) ∧ W.cell? ⟨w.heap.size + 1, 3, none⟩ = some (.bool oD) ∧ Below w.heap.size w W) wx := ⟨box_cell hbx hS.1, box_cell hbx hS.2.1, box_cell hbx hS.2.2.1, box_cell hbx hS.2.2.2.1, box_cell hbx hS.2.2.2.2.1, box_cell hbx hS.2.2.2.2.2.1, box_cell hbx hS.2.2.2.2.2.2.1, box_cell hbx hS.2.2.2.2.2.2.2.1, below_step hS.2.2.2.2.2.2.2.2 hbx⟩
     go_wp2_with fail
     exact hK.out _ _ hS2 ⟨ea, _, e2, e3, e4, by rw [hA]; rfl, hS2, fun h => (by obtain ⟨bb, h1, h2, h3⟩ := (HV.out h); exact ⟨bb, h1, h2.later hbx, h3⟩), fun _ => ⟨aZ, nZ, cZ, lZ, gZ, oZ, rfl, hnew⟩, fun h => by omega, fun h => by omega, fun h => by omega⟩
   · refine ⟨_, rfl, ?_⟩
     intro aa W hI K' hK
     obtain ⟨ea, e1, e2, e3, e4, rfl, hS, hv, k1, k2, k3, k4⟩ := hI
     have r1 := k1 (by omega)
     have HV : Hid (xb = true → ∃ bb, ea = .pointer (some ⟨bb, 0, none⟩) ∧ NB W bb 0 ∧ w.heap.size + 1 < bb) := hv
     clear hv k1 k2 k3 k4
     have R1 : Hid (NF W e1 (fval f)) := r1
     clear r1
     rw [hA]
     simp only [AP]
     go_simp
     go_wp2_with fail
     refine (ofQ HF.out.2.1 HF.out.2.2 (HT.out.later hS.2.2.2.2.2.2.2.2)).mono ?_
     rintro e wx ⟨aZ, nZ, cZ, lZ, gZ, oZ, rfl, hnew, hbx⟩
     have hS2 : (fun W => W.cell? ⟨w.heap.size, 0, none⟩ = some (.slice aN nN cN) ∧ W.cell? ⟨w.heap.size, 1, none⟩ = some (.int .i64 lN) ∧ W.cell? ⟨w.heap.size, 2, none⟩ = some (.bool gN) ∧ W.cell? ⟨w.heap.size, 3, none⟩ = some (.bool oN) ∧ W.cell? ⟨w.heap.size + 1, 0, none⟩ = some (.slice aD nD cD) ∧ W.cell? ⟨w.heap.size + 1, 1, none⟩ = some (.int .i64 lD) ∧ W.cell? ⟨w.heap.size + 1, 2, none⟩ = some (.bool gD) ∧ W.cell? ⟨w.heap.size + 1, 3, none⟩ = some (.bool oD) ∧ Below w.heap.size w W) wx := ⟨box_cell hbx hS.1, box_cell hbx hS.2.1, box_cell hbx hS.2.2.1, box_cell hbx hS.2.2.2.1, box_cell hbx hS.2.2.2.2.1, box_cell hbx hS.2.2.2.2.2.1, box_cell hbx hS.2.2.2.2.2.2.1, box_cell hbx hS.2.2.2.2.2.2.2.1, below_step hS.2.2.2.2.2.2.2.2 hbx⟩
     go_wp2_with fail
     exact hK.out _ _ hS2 ⟨ea, _, _, e3, e4, by rw [hA]; rfl, hS2, fun h => (by obtain ⟨bb, h1, h2, h3⟩ := (HV.out h); exact ⟨bb, h1, h2.later hbx, h3⟩), fun _ => R1.out.later hbx, fun _ => ⟨aZ, nZ, cZ, lZ, gZ, oZ, rfl, hnew⟩, fun h => by omega, fun h => by omega⟩
   · refine ⟨_, rfl, ?_⟩
     intro aa W hI K' hK
     obtain ⟨ea, e1, e2, e3, e4, rfl, hS, hv, k1, k2, k3, k4⟩ := hI
     have r1 := k1 (by omega)
     have r2 := k2 (by omega)
     have HV : Hid (xb = true → ∃ bb, ea = .pointer (some ⟨bb, 0, none⟩) ∧ NB W bb 0 ∧ w.heap.size + 1 < bb) := hv
     clear hv k1 k2 k3 k4
     have s1 := r1
     obtain ⟨aE, nE, cE, lE, gE, oE, rfl, hnE⟩ := s1
     have s2 := r2
     obtain ⟨aF, nF, cF, lF, gF, oF, rfl, hnF⟩ := s2
     rw [hA]
     simp only [AP]
     go_simp
     go_wp2_with fail
     refine (addQ hnE hnF (HT.out.later hS.2.2.2.2.2.2.2.2) HM.out.1).mono ?_
     rintro e wx ⟨aZ, nZ, cZ, lZ, gZ, oZ, rfl, hnew, hbx⟩
     have hS2 : (fun W => W.cell? ⟨w.heap.size, 0, none⟩ = some (.slice aN nN cN) ∧ W.cell? ⟨w.heap.size, 1, none⟩ = some (.int .i64 lN) ∧ W.cell? ⟨w.heap.size, 2, none⟩ = some (.bool gN) ∧ W.cell? ⟨w.heap.size, 3, none⟩ = some (.bool oN) ∧ W.cell? ⟨w.heap.size + 1, 0, none⟩ = some (.slice aD nD cD) ∧ W.cell? ⟨w.heap.size + 1, 1, none⟩ = some (.int .i64 lD) ∧ W.cell? ⟨w.heap.size + 1, 2, none⟩ = some (.bool gD) ∧ W.cell? ⟨w.heap.size + 1, 3, none⟩ = some (.bool oD) ∧ Below w.heap.size w W) wx := ⟨box_cell hbx hS.1, box_cell hbx hS.2.1, box_cell hbx hS.2.2.1, box_cell hbx hS.2.2.2.1, box_cell hbx hS.2.2.2.2.1, box_cell hbx hS.2.2.2.2.2.1, box_cell hbx hS.2.2.2.2.2.2.1, box_cell hbx hS.2.2.2.2.2.2.2.1, below_step hS.2.2.2.2.2.2.2.2 hbx⟩
     go_wp2_with fail
     exact hK.out _ _ hS2 ⟨ea, _, _, _, e4, by rw [hA]; rfl, hS2, fun h => (by obtain ⟨bb, h1, h2, h3⟩ := (HV.out h); exact ⟨bb, h1, h2.later hbx, h3⟩), fun _ => r1.later hbx, fun _ => r2.later hbx, fun _ => ⟨aZ, nZ, cZ, lZ, gZ, oZ, rfl, hnew⟩, fun h => by omega⟩
   · refine ⟨_, rfl, ?_⟩
     intro aa W hI K' hK
     obtain ⟨ea, e1, e2, e3, e4, rfl, hS, hv, k1, k2, k3, k4⟩ := hI
     have r1 := k1 (by omega)
     have r2 := k2 (by omega)
     have r3 := k3 (by omega)
     have HV : Hid (xb = true → ∃ bb, ea = .pointer (some ⟨bb, 0, none⟩) ∧ NB W bb 0 ∧ w.heap.size + 1 < bb) := hv
     clear hv k1 k2 k3 k4
     have R1 : Hid (NF W e1 (fval f)) := r1
     clear r1
     have R2 : Hid (NF W e2 (fval x)) := r2
     clear r2
     have s3 := r3
     obtain ⟨aG, nG, cG, lG, gG, oG, rfl, hnG⟩ := s3
     rw [hA]
     simp only [AP]
     go_simp
     go_wp2_with fail
     refine (mulQ hnG (HN.out.2.later hS.2.2.2.2.2.2.2.2) (HT.out.later hS.2.2.2.2.2.2.2.2) HM.out.2.1).mono ?_
     rintro e wx ⟨aZ, nZ, cZ, lZ, gZ, oZ, rfl, hnew, hbx⟩
     have hS2 : (fun W => W.cell? ⟨w.heap.size, 0, none⟩ = some (.slice aN nN cN) ∧ W.cell? ⟨w.heap.size, 1, none⟩ = some (.int .i64 lN) ∧ W.cell? ⟨w.heap.size, 2, none⟩ = some (.bool gN) ∧ W.cell? ⟨w.heap.size, 3, none⟩ = some (.bool oN) ∧ W.cell? ⟨w.heap.size + 1, 0, none⟩ = some (.slice aD nD cD) ∧ W.cell? ⟨w.heap.size + 1, 1, none⟩ = some (.int .i64 lD) ∧ W.cell? ⟨w.heap.size + 1, 2, none⟩ = some (.bool gD) ∧ W.cell? ⟨w.heap.size + 1, 3, none⟩ = some (.bool oD) ∧ Below w.heap.size w W) wx := ⟨box_cell hbx hS.1, box_cell hbx hS.2.1, box_cell hbx hS.2.2.1, box_cell hbx hS.2.2.2.1, box_cell hbx hS.2.2.2.2.1, box_cell hbx hS.2.2.2.2.2.1, box_cell hbx hS.2.2.2.2.2.2.1, box_cell hbx hS.2.2.2.2.2.2.2.1, below_step hS.2.2.2.2.2.2.2.2 hbx⟩
     go_wp2_with fail
     exact hK.out _ _ hS2 ⟨ea, _, _, _, _, by rw [hA]; rfl, hS2, fun h => (by obtain ⟨bb, h1, h2, h3⟩ := (HV.out h); exact ⟨bb, h1, h2.later hbx, h3⟩), fun _ => R1.out.later hbx, fun _ => R2.out.later hbx, fun _ => r3.later hbx, fun _ => ⟨aZ, nZ, cZ, lZ, gZ, oZ, rfl, hnew⟩⟩
 · intro kb hk
   refine ⟨_, rfl, ?_⟩
   intro aa W hI K' hK
   obtain ⟨ea, e1, e2, e3, e4, rfl, hS, hv, k1, k2, k3, k4⟩ := hI
   have HK : Hid ((1 ≤ kb → NF W e1 (fval f)) ∧ (2 ≤ kb → NF W e2 (fval x)) ∧ (3 ≤ kb → NF W e3 (fval f + fval x)) ∧ (4 ≤ kb → NF W e4 ((fval f + fval x) * d))) := ⟨k1, k2, k3, k4⟩
   clear hv k1 k2 k3 k4
   have hbx : Below W.heap.size W (W.alloc (.cells #[.slice none 0 0, .int .i64 0, .bool false, .bool false] 49)) := (Below.refl _ W).alloc (Nat.le_refl _) _
   have hlt2 : w.heap.size + 1 < W.heap.size := World.block_lt_of_cell? _ _ hS.2.2.2.2.1
   have hS2 : (fun W => W.cell? ⟨w.heap.size, 0, none⟩ = some (.slice aN nN cN) ∧ W.cell? ⟨w.heap.size, 1, none⟩ = some (.int .i64 lN) ∧ W.cell? ⟨w.heap.size, 2, none⟩ = some (.bool gN) ∧ W.cell? ⟨w.heap.size, 3, none⟩ = some (.bool oN) ∧ W.cell? ⟨w.heap.size + 1, 0, none⟩ = some (.slice aD nD cD) ∧ W.cell? ⟨w.heap.size + 1, 1, none⟩ = some (.int .i64 lD) ∧ W.cell? ⟨w.heap.size + 1, 2, none⟩ = some (.bool gD) ∧ W.cell? ⟨w.heap.size + 1, 3, none⟩ = some (.bool oD) ∧ Below w.heap.size w W) (W.alloc (.cells #[.slice none 0 0, .int .i64 0, .bool false, .bool false] 49)) := ⟨box_cell hbx hS.1, box_cell hbx hS.2.1, box_cell hbx hS.2.2.1, box_cell hbx hS.2.2.2.1, box_cell hbx hS.2.2.2.2.1, box_cell hbx hS.2.2.2.2.2.1, box_cell hbx hS.2.2.2.2.2.2.1, box_cell hbx hS.2.2.2.2.2.2.2.1, below_step hS.2.2.2.2.2.2.2.2 hbx⟩
   rw [hA]
   simp only [AP]
   go_simp
   go_wp2_with fail
   exact hK.out _ _ hS2 ⟨_, e1, e2, e3, e4, by rw [hA]; rfl, hS2, fun _ => ⟨W.heap.size, rfl, NB.zero W, hlt2⟩, fun h => (HK.out.1 h).later hbx, fun h => (HK.out.2.1 h).later hbx, fun h => (HK.out.2.2.1 h).later hbx, fun h => (HK.out.2.2.2 h).later hbx⟩
 · intro aa W hI
   obtain ⟨ea, e1, e2, e3, e4, rfl, hS, hv, k1, k2, k3, k4⟩ := hI
   replace hv := hv rfl
   have r1 := k1 (by omega)
   have r2 := k2 (by omega)
   have r3 := k3 (by omega)
   have r4 := k4 (by omega)
   clear k1 k2 k3 k4
   obtain ⟨bb, rfl, hNB, hlow⟩ := hv
   obtain ⟨aH, nH, cH, lH, gH, oH, rfl, hnH⟩ := r4
   clear r1 r2 r3
   subst hA
   simp only [AP]
   obtain ⟨_, _, _, _, _, _, ⟨k0, k1, k2, k3⟩, _, hfr⟩ := hNB.cells
   have f0 := hfr 0
   have f1 := hfr 1
   have f2 := hfr 2
   have f3 := hfr 3
   have hP : (fun W' => NB W' (bb) _ ∧ Kept W W' (bb) ∧ IsNum W' (.agg #[.slice aH nH cH, .int .i64 lH, .bool gH, .bool oH]) _ ∧ CB W' (bb) #[.slice aH nH cH, .int .i64 lH, .bool gH, .bool oH] 49) ((((W.setCell ⟨bb, 0, none⟩ (.slice aH nH cH)).setCell ⟨bb, 1, none⟩ (.int .i64 lH)).setCell ⟨bb, 2, none⟩ (.bool gH)).setCell ⟨bb, 3, none⟩ (.bool oH)) := hNB.put' hnH
   have hS2 : (fun W => W.cell? ⟨w.heap.size, 0, none⟩ = some (.slice aN nN cN) ∧ W.cell? ⟨w.heap.size, 1, none⟩ = some (.int .i64 lN) ∧ W.cell? ⟨w.heap.size, 2, none⟩ = some (.bool gN) ∧ W.cell? ⟨w.heap.size, 3, none⟩ = some (.bool oN) ∧ W.cell? ⟨w.heap.size + 1, 0, none⟩ = some (.slice aD nD cD) ∧ W.cell? ⟨w.heap.size + 1, 1, none⟩ = some (.int .i64 lD) ∧ W.cell? ⟨w.heap.size + 1, 2, none⟩ = some (.bool gD) ∧ W.cell? ⟨w.heap.size + 1, 3, none⟩ = some (.bool oD) ∧ Below w.heap.size w W) ((((W.setCell ⟨bb, 0, none⟩ (.slice aH nH cH)).setCell ⟨bb, 1, none⟩ (.int .i64 lH)).setCell ⟨bb, 2, none⟩ (.bool gH)).setCell ⟨bb, 3, none⟩ (.bool oH)) := ⟨Sets.cell (by omega) [(0, .slice aH nH cH), (1, .int .i64 lH), (2, .bool gH), (3, .bool oH)] hS.1, Sets.cell (by omega) [(0, .slice aH nH cH), (1, .int .i64 lH), (2, .bool gH), (3, .bool oH)] hS.2.1, Sets.cell (by omega) [(0, .slice aH nH cH), (1, .int .i64 lH), (2, .bool gH), (3, .bool oH)] hS.2.2.1, Sets.cell (by omega) [(0, .slice aH nH cH), (1, .int .i64 lH), (2, .bool gH), (3, .bool oH)] hS.2.2.2.1, Sets.cell (by omega) [(0, .slice aH nH cH), (1, .int .i64 lH), (2, .bool gH), (3, .bool oH)] hS.2.2.2.2.1, Sets.cell (by omega) [(0, .slice aH nH cH), (1, .int .i64 lH), (2, .bool gH), (3, .bool oH)] hS.2.2.2.2.2.1, Sets.cell (by omega) [(0, .slice aH nH cH), (1, .int .i64 lH), (2, .bool gH), (3, .bool oH)] hS.2.2.2.2.2.2.1, Sets.cell (by omega) [(0, .slice aH nH cH), (1, .int .i64 lH), (2, .bool gH), (3, .bool oH)] hS.2.2.2.2.2.2.2.1, Sets.below (by omega) [(0, .slice aH nH cH), (1, .int .i64 lH), (2, .bool gH), (3, .bool oH)] hS.2.2.2.2.2.2.2.2⟩
   refine calA 8 fun KF hK => ?_
   go_simp
   go_wp2_with fail
   refine hK.out _ _ hS2 ?_
   clear hS
   intro hS
   clear hK KF k0 k1 k2 k3 f0 f1 f2 f3 hfr
   try simp only [Act.put]
   try simp only [List.setIfInBounds_toArray, List.set_cons_zero, List.set_cons_succ]
   refine wpAnyH_done (by kernel_rfl) ?_ _
   generalize ((((W.setCell ⟨bb, 0, none⟩ (.slice aH nH cH)).setCell ⟨bb, 1, none⟩ (.int .i64 lH)).setCell ⟨bb, 2, none⟩ (.bool gH)).setCell ⟨bb, 3, none⟩ (.bool oH)) = WL at *
   have HK : Hid (NB WL bb ((fval f + fval x) * d)) := hP.1
   have HS3 : Hid ((fun W => W.cell? ⟨w.heap.size, 0, none⟩ = some (.slice aN nN cN) ∧ W.cell? ⟨w.heap.size, 1, none⟩ = some (.int .i64 lN) ∧ W.cell? ⟨w.heap.size, 2, none⟩ = some (.bool gN) ∧ W.cell? ⟨w.heap.size, 3, none⟩ = some (.bool oN) ∧ W.cell? ⟨w.heap.size + 1, 0, none⟩ = some (.slice aD nD cD) ∧ W.cell? ⟨w.heap.size + 1, 1, none⟩ = some (.int .i64 lD) ∧ W.cell? ⟨w.heap.size + 1, 2, none⟩ = some (.bool gD) ∧ W.cell? ⟨w.heap.size + 1, 3, none⟩ = some (.bool oD) ∧ Below w.heap.size w W) WL) := hS
   clear hP hS hS2 hNB hnH
   obtain ⟨aH, nH, cH, lH, gH, oH, ⟨k0, k1, k2, k3⟩, hnH, _⟩ := (HK.out.later (Below.refl _ _).drew).cells
   go_wp2_with fail
   have hw1 : IntKind.i64.wrap 1 = 1 := by decide
   have hw2 : IntKind.i64.wrap (-1) = -1 := by decide
   have hw0 : IntKind.i64.wrap 0 = 0 := by decide
   rcases hzz with hzz | hzz | hzz
   · refine wp_region_held_drew (S := (fun W => W.cell? ⟨w.heap.size, 0, none⟩ = some (.slice aN nN cN) ∧ W.cell? ⟨w.heap.size, 1, none⟩ = some (.int .i64 lN) ∧ W.cell? ⟨w.heap.size, 2, none⟩ = some (.bool gN) ∧ W.cell? ⟨w.heap.size, 3, none⟩ = some (.bool oN) ∧ W.cell? ⟨w.heap.size + 1, 0, none⟩ = some (.slice aD nD cD) ∧ W.cell? ⟨w.heap.size + 1, 1, none⟩ = some (.int .i64 lD) ∧ W.cell? ⟨w.heap.size + 1, 2, none⟩ = some (.bool gD) ∧ W.cell? ⟨w.heap.size + 1, 3, none⟩ = some (.bool oD) ∧ W.cell? ⟨bb, 0, none⟩ = some (.slice aH nH cH) ∧ W.cell? ⟨bb, 1, none⟩ = some (.int .i64 lH) ∧ W.cell? ⟨bb, 2, none⟩ = some (.bool gH) ∧ W.cell? ⟨bb, 3, none⟩ = some (.bool oH) ∧ Below w.heap.size w W)) (by kernel_rfl) ⟨HS3.out.1, HS3.out.2.1, HS3.out.2.2.1, HS3.out.2.2.2.1, HS3.out.2.2.2.2.1, HS3.out.2.2.2.2.2.1, HS3.out.2.2.2.2.2.2.1, HS3.out.2.2.2.2.2.2.2.1, k0, k1, k2, k3, HS3.out.2.2.2.2.2.2.2.2.drew⟩ (fun hS => ?_)
     refine takA (i := 0) (d := some 17) (v := .agg #[.slice aN nN cN, .int .i64 lN, .bool gN, .bool oN]) hS ?_
     simp only [AP]
     refine takA (i := 2) (d := some 19) (v := .agg #[.slice aH nH cH, .int .i64 lH, .bool gH, .bool oH]) hS ?_
     simp only [AP]
     refine takA (i := 4) (d := some 21) (v := .agg #[.slice aD nD cD, .int .i64 lD, .bool gD, .bool oD]) hS ?_
     simp only [AP]
     refine calA 1 fun KF hK => ?_
     go_simp
     refine (shiftQ (HN.out.1.later hS.2.2.2.2.2.2.2.2.2.2.2.2) HM.out.2.2).mono ?_
     rintro e wx ⟨aJ, nJ, cJ, lJ, gJ, oJ, rfl, hnJ, hbx⟩
     replace hnH := hnH.later hbx
     go_wp2_with fail
     refine hK.out _ _ ⟨box_cell hbx hS.1, box_cell hbx hS.2.1, box_cell hbx hS.2.2.1, box_cell hbx hS.2.2.2.1, box_cell hbx hS.2.2.2.2.1, box_cell hbx hS.2.2.2.2.2.1, box_cell hbx hS.2.2.2.2.2.2.1, box_cell hbx hS.2.2.2.2.2.2.2.1, box_cell hbx hS.2.2.2.2.2.2.2.2.1, box_cell hbx hS.2.2.2.2.2.2.2.2.2.1, box_cell hbx hS.2.2.2.2.2.2.2.2.2.2.1, box_cell hbx hS.2.2.2.2.2.2.2.2.2.2.2.1, below_step hS.2.2.2.2.2.2.2.2.2.2.2.2 hbx⟩ ?_
     clear hS hbx
     intro hS
     clear hK KF
     try simp only [AP]
     refine calA 3 fun KF hK => ?_
     go_simp
     have hc := cmpQ hnJ hnH
     rw [HZ1.out] at hc
     refine hc.mono ?_
     rintro e wx ⟨rfl, hbx⟩
     clear hc
     replace hnH := hnH.later hbx
     go_wp2_with fail
     refine hK.out _ _ ⟨box_cell hbx hS.1, box_cell hbx hS.2.1, box_cell hbx hS.2.2.1, box_cell hbx hS.2.2.2.1, box_cell hbx hS.2.2.2.2.1, box_cell hbx hS.2.2.2.2.2.1, box_cell hbx hS.2.2.2.2.2.2.1, box_cell hbx hS.2.2.2.2.2.2.2.1, box_cell hbx hS.2.2.2.2.2.2.2.2.1, box_cell hbx hS.2.2.2.2.2.2.2.2.2.1, box_cell hbx hS.2.2.2.2.2.2.2.2.2.2.1, box_cell hbx hS.2.2.2.2.2.2.2.2.2.2.2.1, below_step hS.2.2.2.2.2.2.2.2.2.2.2.2 hbx⟩ ?_
     clear hS hbx
     intro hS
     clear hK KF
     try simp only [AP]
     refine calA 5 fun KF hK => ?_
     go_simp
     have hc := signQ (HN.out.2.later hS.2.2.2.2.2.2.2.2.2.2.2.2)
     rw [HZ2.out] at hc
     refine hc.mono ?_
     rintro e wx ⟨rfl, hbx⟩
     clear hc
     go_wp2_with fail
     refine hK.out _ _ ⟨box_cell hbx hS.1, box_cell hbx hS.2.1, box_cell hbx hS.2.2.1, box_cell hbx hS.2.2.2.1, box_cell hbx hS.2.2.2.2.1, box_cell hbx hS.2.2.2.2.2.1, box_cell hbx hS.2.2.2.2.2.2.1, box_cell hbx hS.2.2.2.2.2.2.2.1, box_cell hbx hS.2.2.2.2.2.2.2.2.1, box_cell hbx hS.2.2.2.2.2.2.2.2.2.1, box_cell hbx hS.2.2.2.2.2.2.2.2.2.2.1, box_cell hbx hS.2.2.2.2.2.2.2.2.2.2.2.1, below_step hS.2.2.2.2.2.2.2.2.2.2.2.2 hbx⟩ ?_
     clear hS hbx
     intro hS
     clear hK KF
     try simp only [AP]
     refine takA (i := 6) (d := some 23) (v := .int .i64 1) hS ?_
     simp only [AP]
     refine wpAnyH_done (by kernel_rfl) ?_ _
     have HBE : Hid (Below w.heap.size w _) := hS.2.2.2.2.2.2.2.2.2.2.2.2
     clear hS hnH hnJ HS3 k0 k1 k2 k3
     go_wp2
     go_ret
     exact ⟨rfl, HBE.out⟩
   · refine wp_region_held_drew (S := (fun W => W.cell? ⟨w.heap.size, 0, none⟩ = some (.slice aN nN cN) ∧ W.cell? ⟨w.heap.size, 1, none⟩ = some (.int .i64 lN) ∧ W.cell? ⟨w.heap.size, 2, none⟩ = some (.bool gN) ∧ W.cell? ⟨w.heap.size, 3, none⟩ = some (.bool oN) ∧ W.cell? ⟨w.heap.size + 1, 0, none⟩ = some (.slice aD nD cD) ∧ W.cell? ⟨w.heap.size + 1, 1, none⟩ = some (.int .i64 lD) ∧ W.cell? ⟨w.heap.size + 1, 2, none⟩ = some (.bool gD) ∧ W.cell? ⟨w.heap.size + 1, 3, none⟩ = some (.bool oD) ∧ W.cell? ⟨bb, 0, none⟩ = some (.slice aH nH cH) ∧ W.cell? ⟨bb, 1, none⟩ = some (.int .i64 lH) ∧ W.cell? ⟨bb, 2, none⟩ = some (.bool gH) ∧ W.cell? ⟨bb, 3, none⟩ = some (.bool oH) ∧ Below w.heap.size w W)) (by kernel_rfl) ⟨HS3.out.1, HS3.out.2.1, HS3.out.2.2.1, HS3.out.2.2.2.1, HS3.out.2.2.2.2.1, HS3.out.2.2.2.2.2.1, HS3.out.2.2.2.2.2.2.1, HS3.out.2.2.2.2.2.2.2.1, k0, k1, k2, k3, HS3.out.2.2.2.2.2.2.2.2.drew⟩ (fun hS => ?_)
     refine takA (i := 0) (d := some 17) (v := .agg #[.slice aN nN cN, .int .i64 lN, .bool gN, .bool oN]) hS ?_
     simp only [AP]
     refine takA (i := 2) (d := some 19) (v := .agg #[.slice aH nH cH, .int .i64 lH, .bool gH, .bool oH]) hS ?_
     simp only [AP]
     refine takA (i := 4) (d := some 21) (v := .agg #[.slice aD nD cD, .int .i64 lD, .bool gD, .bool oD]) hS ?_
     simp only [AP]
     refine calA 1 fun KF hK => ?_
     go_simp
     refine (shiftQ (HN.out.1.later hS.2.2.2.2.2.2.2.2.2.2.2.2) HM.out.2.2).mono ?_
     rintro e wx ⟨aJ, nJ, cJ, lJ, gJ, oJ, rfl, hnJ, hbx⟩
     replace hnH := hnH.later hbx
     go_wp2_with fail
     refine hK.out _ _ ⟨box_cell hbx hS.1, box_cell hbx hS.2.1, box_cell hbx hS.2.2.1, box_cell hbx hS.2.2.2.1, box_cell hbx hS.2.2.2.2.1, box_cell hbx hS.2.2.2.2.2.1, box_cell hbx hS.2.2.2.2.2.2.1, box_cell hbx hS.2.2.2.2.2.2.2.1, box_cell hbx hS.2.2.2.2.2.2.2.2.1, box_cell hbx hS.2.2.2.2.2.2.2.2.2.1, box_cell hbx hS.2.2.2.2.2.2.2.2.2.2.1, box_cell hbx hS.2.2.2.2.2.2.2.2.2.2.2.1, below_step hS.2.2.2.2.2.2.2.2.2.2.2.2 hbx⟩ ?_
     clear hS hbx
     intro hS
     clear hK KF
     try simp only [AP]
     refine calA 3 fun KF hK => ?_
     go_simp
     have hc := cmpQ hnJ hnH
     rw [HZ1.out] at hc
     refine hc.mono ?_
     rintro e wx ⟨rfl, hbx⟩
     clear hc
     replace hnH := hnH.later hbx
     go_wp2_with fail
     refine hK.out _ _ ⟨box_cell hbx hS.1, box_cell hbx hS.2.1, box_cell hbx hS.2.2.1, box_cell hbx hS.2.2.2.1, box_cell hbx hS.2.2.2.2.1, box_cell hbx hS.2.2.2.2.2.1, box_cell hbx hS.2.2.2.2.2.2.1, box_cell hbx hS.2.2.2.2.2.2.2.1, box_cell hbx hS.2.2.2.2.2.2.2.2.1, box_cell hbx hS.2.2.2.2.2.2.2.2.2.1, box_cell hbx hS.2.2.2.2.2.2.2.2.2.2.1, box_cell hbx hS.2.2.2.2.2.2.2.2.2.2.2.1, below_step hS.2.2.2.2.2.2.2.2.2.2.2.2 hbx⟩ ?_
     clear hS hbx
     intro hS
     clear hK KF
     try simp only [AP]
     refine calA 5 fun KF hK => ?_
     go_simp
     have hc := signQ (HN.out.2.later hS.2.2.2.2.2.2.2.2.2.2.2.2)
     rw [HZ2.out] at hc
     refine hc.mono ?_
     rintro e wx ⟨rfl, hbx⟩
     clear hc
     go_wp2_with fail
     refine hK.out _ _ ⟨box_cell hbx hS.1, box_cell hbx hS.2.1, box_cell hbx hS.2.2.1, box_cell hbx hS.2.2.2.1, box_cell hbx hS.2.2.2.2.1, box_cell hbx hS.2.2.2.2.2.1, box_cell hbx hS.2.2.2.2.2.2.1, box_cell hbx hS.2.2.2.2.2.2.2.1, box_cell hbx hS.2.2.2.2.2.2.2.2.1, box_cell hbx hS.2.2.2.2.2.2.2.2.2.1, box_cell hbx hS.2.2.2.2.2.2.2.2.2.2.1, box_cell hbx hS.2.2.2.2.2.2.2.2.2.2.2.1, below_step hS.2.2.2.2.2.2.2.2.2.2.2.2 hbx⟩ ?_
     clear hS hbx
     intro hS
     clear hK KF
     try simp only [AP]
     refine takA (i := 6) (d := some 23) (v := .int .i64 (-1)) hS ?_
     simp only [AP]
     refine wpAnyH_done (by kernel_rfl) ?_ _
     have HBE : Hid (Below w.heap.size w _) := hS.2.2.2.2.2.2.2.2.2.2.2.2
     clear hS hnH hnJ HS3 k0 k1 k2 k3
     go_wp2
     go_ret
     exact ⟨rfl, HBE.out⟩
   · refine wp_region_held_drew (S := (fun W => W.cell? ⟨w.heap.size, 0, none⟩ = some (.slice aN nN cN) ∧ W.cell? ⟨w.heap.size, 1, none⟩ = some (.int .i64 lN) ∧ W.cell? ⟨w.heap.size, 2, none⟩ = some (.bool gN) ∧ W.cell? ⟨w.heap.size, 3, none⟩ = some (.bool oN) ∧ W.cell? ⟨w.heap.size + 1, 0, none⟩ = some (.slice aD nD cD) ∧ W.cell? ⟨w.heap.size + 1, 1, none⟩ = some (.int .i64 lD) ∧ W.cell? ⟨w.heap.size + 1, 2, none⟩ = some (.bool gD) ∧ W.cell? ⟨w.heap.size + 1, 3, none⟩ = some (.bool oD) ∧ W.cell? ⟨bb, 0, none⟩ = some (.slice aH nH cH) ∧ W.cell? ⟨bb, 1, none⟩ = some (.int .i64 lH) ∧ W.cell? ⟨bb, 2, none⟩ = some (.bool gH) ∧ W.cell? ⟨bb, 3, none⟩ = some (.bool oH) ∧ Below w.heap.size w W)) (by kernel_rfl) ⟨HS3.out.1, HS3.out.2.1, HS3.out.2.2.1, HS3.out.2.2.2.1, HS3.out.2.2.2.2.1, HS3.out.2.2.2.2.2.1, HS3.out.2.2.2.2.2.2.1, HS3.out.2.2.2.2.2.2.2.1, k0, k1, k2, k3, HS3.out.2.2.2.2.2.2.2.2.drew⟩ (fun hS => ?_)
     refine takA (i := 0) (d := some 17) (v := .agg #[.slice aN nN cN, .int .i64 lN, .bool gN, .bool oN]) hS ?_
     simp only [AP]
     refine takA (i := 2) (d := some 19) (v := .agg #[.slice aH nH cH, .int .i64 lH, .bool gH, .bool oH]) hS ?_
     simp only [AP]
     refine takA (i := 4) (d := some 21) (v := .agg #[.slice aD nD cD, .int .i64 lD, .bool gD, .bool oD]) hS ?_
     simp only [AP]
     refine calA 1 fun KF hK => ?_
     go_simp
     refine (shiftQ (HN.out.1.later hS.2.2.2.2.2.2.2.2.2.2.2.2) HM.out.2.2).mono ?_
     rintro e wx ⟨aJ, nJ, cJ, lJ, gJ, oJ, rfl, hnJ, hbx⟩
     replace hnH := hnH.later hbx
     go_wp2_with fail
     refine hK.out _ _ ⟨box_cell hbx hS.1, box_cell hbx hS.2.1, box_cell hbx hS.2.2.1, box_cell hbx hS.2.2.2.1, box_cell hbx hS.2.2.2.2.1, box_cell hbx hS.2.2.2.2.2.1, box_cell hbx hS.2.2.2.2.2.2.1, box_cell hbx hS.2.2.2.2.2.2.2.1, box_cell hbx hS.2.2.2.2.2.2.2.2.1, box_cell hbx hS.2.2.2.2.2.2.2.2.2.1, box_cell hbx hS.2.2.2.2.2.2.2.2.2.2.1, box_cell hbx hS.2.2.2.2.2.2.2.2.2.2.2.1, below_step hS.2.2.2.2.2.2.2.2.2.2.2.2 hbx⟩ ?_
     clear hS hbx
     intro hS
     clear hK KF
     try simp only [AP]
     refine calA 3 fun KF hK => ?_
     go_simp
     have hc := cmpQ hnJ hnH
     rw [HZ1.out] at hc
     refine hc.mono ?_
     rintro e wx ⟨rfl, hbx⟩
     clear hc
     replace hnH := hnH.later hbx
     go_wp2_with fail
     refine hK.out _ _ ⟨box_cell hbx hS.1, box_cell hbx hS.2.1, box_cell hbx hS.2.2.1, box_cell hbx hS.2.2.2.1, box_cell hbx hS.2.2.2.2.1, box_cell hbx hS.2.2.2.2.2.1, box_cell hbx hS.2.2.2.2.2.2.1, box_cell hbx hS.2.2.2.2.2.2.2.1, box_cell hbx hS.2.2.2.2.2.2.2.2.1, box_cell hbx hS.2.2.2.2.2.2.2.2.2.1, box_cell hbx hS.2.2.2.2.2.2.2.2.2.2.1, box_cell hbx hS.2.2.2.2.2.2.2.2.2.2.2.1, below_step hS.2.2.2.2.2.2.2.2.2.2.2.2 hbx⟩ ?_
     clear hS hbx
     intro hS
     clear hK KF
     try simp only [AP]
     refine calA 5 fun KF hK => ?_
     go_simp
     have hc := signQ (HN.out.2.later hS.2.2.2.2.2.2.2.2.2.2.2.2)
     rw [HZ2.out] at hc
     refine hc.mono ?_
     rintro e wx ⟨rfl, hbx⟩
     clear hc
     go_wp2_with fail
     refine hK.out _ _ ⟨box_cell hbx hS.1, box_cell hbx hS.2.1, box_cell hbx hS.2.2.1, box_cell hbx hS.2.2.2.1, box_cell hbx hS.2.2.2.2.1, box_cell hbx hS.2.2.2.2.2.1, box_cell hbx hS.2.2.2.2.2.2.1, box_cell hbx hS.2.2.2.2.2.2.2.1, box_cell hbx hS.2.2.2.2.2.2.2.2.1, box_cell hbx hS.2.2.2.2.2.2.2.2.2.1, box_cell hbx hS.2.2.2.2.2.2.2.2.2.2.1, box_cell hbx hS.2.2.2.2.2.2.2.2.2.2.2.1, below_step hS.2.2.2.2.2.2.2.2.2.2.2.2 hbx⟩ ?_
     clear hS hbx
     intro hS
     clear hK KF
     try simp only [AP]
     refine takA (i := 6) (d := some 23) (v := .int .i64 0) hS ?_
     simp only [AP]
     refine wpAnyH_done (by kernel_rfl) ?_ _
     have HBE : Hid (Below w.heap.size w _) := hS.2.2.2.2.2.2.2.2.2.2.2.2
     clear hS hnH hnJ HS3 k0 k1 k2 k3
     go_wp2
     go_ret
     exact ⟨rfl, HBE.out⟩
 · exact ⟨_, _, _, _, _, by rw [hA]; rfl, hS, fun h => Bool.noConfusion h, fun h => by omega, fun h => by omega, fun h => by omega, fun h => by omega⟩

end Go.Proofs.YtocnkgfoffpbfaaGreatDoor
