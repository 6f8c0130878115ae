/- Own texts, put together: Gx. -/
import Derived.Test.YtocnkgfoffpbfaaGreatDoorQ3
import Derived.Test.YtocnkgfoffpbfaaGreatDoorQ37
import Derived.Test.YtocnkgfoffpbfaaGreatDoorQ48
import Derived.Test.YtocnkgfoffpbfaaGreatDoorQ49
/- The statements' helpers: at, awake. -/
namespace Go.Proofs.YtocnkgfoffpbfaaGreatDoor
open Go.RowKit Go.Shelf
attribute [local go_sem ↓] Go.wp_at_zero Go.wp_at_succ
attribute [local go_sem] run_store_float

set_option maxRecDepth 100000 in
theorem at6_any (x y : Nat) (w : World) : Calls Tryz.prog 24 #[.float .f64 x, .float .f64 y] w fun e w' => e = .returned (pv x y) ∧ Below w.heap.size w w' := by
 go_enter Tryz.func24, Tryz.ntmps24
 go_wp2
 refine bodyPost_ret (v := pv x y) (by simp [results, Tryz.results24, go_sem]) rfl ?_
 exact ⟨rfl, (Below.refl _ _).alloc (Nat.le_refl _) _⟩
instance decP4 (ax ay bx by' cx cy dx dy : Nat) : Decidable (P4 ax ay bx by' cx cy dx dy) := by unfold P4; exact inferInstance
instance decFin (x : Nat) : Decidable (Fin64 x) := by unfold Fin64; exact inferInstance
instance decGS (ax ay bx by' cx cy g : Nat) : Decidable (GS ax ay bx by' cx cy g) := by unfold GS; exact inferInstance
theorem NearV.exact {b : Nat} (hb : b < 9218868437227405312) (h0 : 0 < fval b) : NearV (fval b) b := by
 have e : frung b = b := by unfold frung; omega
 refine ⟨fun _ => ?_, fun h => by exfalso; grind⟩
 rw [e]
 exact ⟨NQ.exact hb, Or.inl rfl⟩
theorem awC : GCt 0 0 4616189618054758400 0 0 4611686018427387904 4611686018427387904 4607182418800017408 true := by
 refine ⟨fun _ => ⟨4611686018427387904, 4607182418800017408, ?_, ?_, Or.inl ⟨rfl, by decide +kernel, by decide, by decide⟩⟩, fun h => absurd (by decide +kernel) h⟩
 · rw [show cenX 0 0 4616189618054758400 0 0 4611686018427387904 = fval 4611686018427387904 by decide +kernel]
   exact NearV.exact (by omega) (by decide +kernel)
 · rw [show cenY 0 0 4616189618054758400 0 0 4611686018427387904 = fval 4607182418800017408 by decide +kernel]
   exact NearV.exact (by omega) (by decide +kernel)
theorem awP : GPt 0 0 4616189618054758400 0 4598175219545276416 4607182418800017408 0 true := by
 refine ⟨fun _ => ⟨4607182418800017408, 0, ⟨4616189618054758400, 4607182418800017408, by decide +kernel, by decide +kernel, by decide +kernel⟩, ⟨0, 0, by decide +kernel, by decide +kernel, by decide +kernel⟩, Or.inl ⟨rfl, by decide +kernel, by decide, by decide⟩⟩, fun h => absurd ⟨⟨by decide +kernel, by decide +kernel⟩, by unfold Fin64 frung; decide, by decide +kernel, by decide +kernel⟩ h⟩
theorem aw0 : gcmp 0 0 4616189618054758400 0 4616189618054758400 0 0 4611686018427387904 = -1 := (gcmp_yes (by decide +kernel)).trans (by decide +kernel)
theorem awd0 : gdot 0 0 4616189618054758400 0 4607182418800017408 4607182418800017408 = -1 := (gdot_yes (by decide +kernel)).trans (by decide +kernel)
theorem awd1 : gdot 0 0 4616189618054758400 0 4611686018427387904 4611686018427387904 = 0 := (gdot_yes (by decide +kernel)).trans (by decide +kernel)
theorem awd2 : gdot 0 0 4616189618054758400 0 4617315517961601024 4607182418800017408 = 1 := (gdot_yes (by decide +kernel)).trans (by decide +kernel)
theorem awa0 : garea 0 0 4616189618054758400 0 0 4611686018427387904 4616189618054758400 = 0 := (garea_yes (by decide +kernel)).trans (by decide +kernel)
theorem awa1 : garea 0 0 4616189618054758400 0 0 4611686018427387904 4615063718147915776 = 1 := (garea_yes (by decide +kernel)).trans (by decide +kernel)
theorem aws0 : false = true ↔ GS 0 0 4616189618054758400 0 0 4611686018427387904 0 := ⟨fun h => (by cases h), fun h => absurd h (by decide +kernel)⟩
theorem aws1 : true = true ↔ GS 4616189618054758400 0 0 0 0 4611686018427387904 4604930618986332160 := ⟨fun _ => by decide +kernel, fun _ => rfl⟩

set_option maxRecDepth 100000 in
set_option maxHeartbeats 8000000 in
theorem awake6_any (w : World) (hT : Tab w) : Calls Tryz.prog 13 #[] w fun e w' => e = .returned (.bool true) ∧ Below w.heap.size w w' := by
 have HT : Hid (Tab w) := hT
 clear hT
 have em : ∀ w, (binOp .eql 24 (.agg #[.float .f64 4611686018427387904, .float .f64 4607182418800017408]) (.agg #[.float .f64 4611686018427387904, .float .f64 4607182418800017408])).run Tryz.prog w = .ok (.bool true) w := fun _ => by kernel_rfl
 have ep : ∀ w, (binOp .eql 24 (.agg #[.float .f64 4607182418800017408, .float .f64 0]) (.agg #[.float .f64 4607182418800017408, .float .f64 0])).run Tryz.prog w = .ok (.bool true) w := fun _ => by kernel_rfl
 go_enter Tryz.func13, Tryz.ntmps13
 go_wp2_with fail
 refine (at6_any 0 0 _).mono ?_
 rintro e w1 ⟨rfl, hb1⟩
 go_wp2_with fail
 refine (at6_any 4616189618054758400 0 _).mono ?_
 rintro e w2 ⟨rfl, hb2⟩
 go_wp2_with fail
 refine (at6_any 0 4611686018427387904 _).mono ?_
 rintro e w3 ⟨rfl, hb3⟩
 have HB3 : Hid (Below w.heap.size w w3) := below_step (below_step hb1 hb2) hb3
 clear hb1 hb2 hb3
 have HB4 : Hid (Below w3.heap.size w3 (((w3.alloc (.cells #[.float .f64 0, .float .f64 0] 24)).alloc (.cells #[.float .f64 4616189618054758400, .float .f64 0] 24)).alloc (.cells #[.float .f64 0, .float .f64 4611686018427387904] 24))) := (((Below.refl _ w3).alloc (Nat.le_refl _) _).alloc (by simp) _).alloc (by simp; omega) _
 go_wp2_with fail
 refine (gcenter_any 0 0 4616189618054758400 0 0 4611686018427387904 _ (HT.out.later (below_step HB3.out HB4.out)) ⟨⟨by omega, by omega⟩, ⟨by omega, by omega⟩, by omega, by omega⟩).mono ?_
 rintro e w4 ⟨⟨u, v, ok, rfl, hc⟩, hb4⟩
 obtain ⟨rfl, rfl, rfl⟩ := hc.one awC
 clear hc
 obtain ⟨n0, hn0⟩ : ∃ n0, n0 = w3.heap.size := ⟨_, rfl⟩
 have c0 : w4.cell? ⟨n0, 0, none⟩ = some (.float .f64 0) := by rw [hn0]; exact box_cell hb4 (by go_simp)
 have c1 : w4.cell? ⟨n0, 1, none⟩ = some (.float .f64 0) := by rw [hn0]; exact box_cell hb4 (by go_simp)
 have c2 : w4.cell? ⟨n0 + 1, 0, none⟩ = some (.float .f64 4616189618054758400) := by rw [hn0]; exact box_cell hb4 (by go_simp)
 have c3 : w4.cell? ⟨n0 + 1, 1, none⟩ = some (.float .f64 0) := by rw [hn0]; exact box_cell hb4 (by go_simp)
 have c4 : w4.cell? ⟨n0 + 1 + 1, 0, none⟩ = some (.float .f64 0) := by rw [hn0]; exact box_cell hb4 (by go_simp)
 have c5 : w4.cell? ⟨n0 + 1 + 1, 1, none⟩ = some (.float .f64 4611686018427387904) := by rw [hn0]; exact box_cell hb4 (by go_simp)
 have HB5 : Hid (Below w.heap.size w w4) := below_step (below_step HB3.out HB4.out) hb4
 rw [← hn0]
 clear hb4 HB3 HB4 hn0
 obtain ⟨n4, hn4⟩ : ∃ n4, n4 = w4.heap.size := ⟨_, rfl⟩
 obtain ⟨W5, hW5⟩ : ∃ W5, w4.alloc (.cells #[.float .f64 4611686018427387904, .float .f64 4607182418800017408] 24) = W5 := ⟨_, rfl⟩
 have hb45 : Below w4.heap.size w4 W5 := by rw [← hW5]; exact (Below.refl _ w4).alloc (Nat.le_refl _) _
 replace c0 := box_cell hb45 c0
 replace c1 := box_cell hb45 c1
 replace c2 := box_cell hb45 c2
 replace c3 := box_cell hb45 c3
 replace c4 := box_cell hb45 c4
 replace c5 := box_cell hb45 c5
 have hcb : CB W5 n4 #[.float .f64 4611686018427387904, .float .f64 4607182418800017408] 24 := by rw [hn4, ← hW5]; exact CB.new w4 _ _
 have c6 : W5.cell? ⟨n4, 0, none⟩ = some (.float .f64 4611686018427387904) := hcb.cell 0 (by simp)
 have c7 : W5.cell? ⟨n4, 1, none⟩ = some (.float .f64 4607182418800017408) := hcb.cell 1 (by simp)
 clear hcb
 have HB6 : Hid (Below w.heap.size w W5) := below_step HB5.out hb45
 have Hn4 : Hid (n4 = w4.heap.size) := hn4
 clear hn4 hb45 HB5
 go_wp2_with fail
 refine (gpoint_any 0 0 4616189618054758400 0 4598175219545276416 _ ⟨by omega, by omega⟩ ⟨by omega, by omega⟩).mono ?_
 rintro e w5 ⟨⟨u, v, ok, rfl, hc⟩, hb5⟩
 obtain ⟨rfl, rfl, rfl⟩ := hc.one awP
 clear hc
 rw [← Hn4.out]
 replace c0 := box_cell hb5 c0
 replace c1 := box_cell hb5 c1
 replace c2 := box_cell hb5 c2
 replace c3 := box_cell hb5 c3
 replace c4 := box_cell hb5 c4
 replace c5 := box_cell hb5 c5
 replace c6 := box_cell hb5 c6
 replace c7 := box_cell hb5 c7
 replace HB6 : Hid (Below w.heap.size w w5) := below_step HB6.out hb5
 clear hb5 Hn4 hW5
 obtain ⟨W6, hW6⟩ : ∃ W6, W6 = w5.alloc (.cells #[.float .f64 4607182418800017408, .float .f64 0] 24) := ⟨_, rfl⟩
 have hb6 : Below w5.heap.size w5 W6.drew := by rw [hW6]; exact ((Below.refl _ w5).alloc (Nat.le_refl _) _).drew
 obtain ⟨n6, hn6⟩ : ∃ n6, n6 = w5.heap.size := ⟨_, rfl⟩
 replace c0 := box_cell hb6 c0
 replace c1 := box_cell hb6 c1
 replace c2 := box_cell hb6 c2
 replace c3 := box_cell hb6 c3
 replace c4 := box_cell hb6 c4
 replace c5 := box_cell hb6 c5
 replace c6 := box_cell hb6 c6
 replace c7 := box_cell hb6 c7
 have c8 : W6.drew.cell? ⟨n6, 0, none⟩ = some (.float .f64 4607182418800017408) := by rw [hn6, hW6]; go_simp
 have c9 : W6.drew.cell? ⟨n6, 1, none⟩ = some (.float .f64 0) := by rw [hn6, hW6]; go_simp
 have HB7 : Hid (Below w.heap.size w W6.drew) := below_step HB6.out hb6
 go_wp2_with fail
 try rw [← hn6]
 rw [← hW6]
 clear hb6 hn6 hW6 HB6
 refine wp_region_held_drew (S := (fun W => W.cell? ⟨n0, 0, none⟩ = some (.float .f64 0) ∧ W.cell? ⟨n0, 1, none⟩ = some (.float .f64 0) ∧ W.cell? ⟨n0 + 1, 0, none⟩ = some (.float .f64 4616189618054758400) ∧ W.cell? ⟨n0 + 1, 1, none⟩ = some (.float .f64 0) ∧ W.cell? ⟨n0 + 1 + 1, 0, none⟩ = some (.float .f64 0) ∧ W.cell? ⟨n0 + 1 + 1, 1, none⟩ = some (.float .f64 4611686018427387904) ∧ W.cell? ⟨n4, 0, none⟩ = some (.float .f64 4611686018427387904) ∧ W.cell? ⟨n4, 1, none⟩ = some (.float .f64 4607182418800017408) ∧ W.cell? ⟨n6, 0, none⟩ = some (.float .f64 4607182418800017408) ∧ W.cell? ⟨n6, 1, none⟩ = some (.float .f64 0) ∧ Below w.heap.size w W)) (by kernel_rfl) ⟨c0, c1, c2, c3, c4, c5, c6, c7, c8, c9, HB7.out⟩ (fun hS => ?_)
 refine takB (i := 0) (d := some 24) (v := .agg #[.float .f64 0, .float .f64 0]) hS ?_
 simp only [AP]
 refine takB (i := 1) (d := some 25) (v := .agg #[.float .f64 4616189618054758400, .float .f64 0]) hS ?_
 simp only [AP]
 refine takB (i := 2) (d := some 26) (v := .agg #[.float .f64 4616189618054758400, .float .f64 0]) hS ?_
 simp only [AP]
 refine takB (i := 3) (d := some 27) (v := .agg #[.float .f64 0, .float .f64 4611686018427387904]) hS ?_
 simp only [AP]
 refine call_at 4 (by kernel_rfl) (by kernel_rfl) ?_
 intro o ho
 replace ho := Option.some.inj (Eq.trans (Eq.symm ho) rfl)
 subst ho
 intro KF hK
 go_simp
 refine (gcmp_any 0 0 4616189618054758400 0 4616189618054758400 0 0 4611686018427387904 _ (-1) (HT.out.later hS.2.2.2.2.2.2.2.2.2.2) ⟨⟨⟨by omega, by omega⟩, ⟨by omega, by omega⟩, by omega, by omega⟩, by omega, by omega⟩ aw0).mono ?_
 rintro e wx ⟨rfl, hbx⟩
 go_wp2_with fail
 refine hK.out _ _ ⟨box_cell hbx hS.1, box_cell hbx hS.2.1, box_cell hbx hS.2.2.1, box_cell hbx hS.2.2.2.1, box_cell hbx hS.2.2.2.2.1, box_cell hbx hS.2.2.2.2.2.1, box_cell hbx hS.2.2.2.2.2.2.1, box_cell hbx hS.2.2.2.2.2.2.2.1, box_cell hbx hS.2.2.2.2.2.2.2.2.1, box_cell hbx hS.2.2.2.2.2.2.2.2.2.1, below_step hS.2.2.2.2.2.2.2.2.2.2 hbx⟩ ?_
 clear hS hbx
 intro hS
 clear hK KF
 try simp only [AP]
 refine takB (i := 5) (d := some 29) (v := .bool true) hS ?_
 simp only [AP]
 refine takB (i := 6) (d := some 30) (v := .bool true) hS ?_
 simp only [AP]
 refine takB (i := 7) (d := some 31) (v := .agg #[.float .f64 0, .float .f64 0]) hS ?_
 simp only [AP]
 refine takB (i := 8) (d := some 32) (v := .agg #[.float .f64 4616189618054758400, .float .f64 0]) hS ?_
 simp only [AP]
 refine call_at 9 (by kernel_rfl) (by kernel_rfl) ?_
 intro o ho
 replace ho := Option.some.inj (Eq.trans (Eq.symm ho) rfl)
 subst ho
 intro KF hK
 go_simp
 refine (at6_any 4607182418800017408 4607182418800017408 _).mono ?_
 rintro e wx ⟨rfl, hbx⟩
 go_wp2_with fail
 refine hK.out _ _ ⟨box_cell hbx hS.1, box_cell hbx hS.2.1, box_cell hbx hS.2.2.1, box_cell hbx hS.2.2.2.1, box_cell hbx hS.2.2.2.2.1, box_cell hbx hS.2.2.2.2.2.1, box_cell hbx hS.2.2.2.2.2.2.1, box_cell hbx hS.2.2.2.2.2.2.2.1, box_cell hbx hS.2.2.2.2.2.2.2.2.1, box_cell hbx hS.2.2.2.2.2.2.2.2.2.1, below_step hS.2.2.2.2.2.2.2.2.2.2 hbx⟩ ?_
 clear hS hbx
 intro hS
 clear hK KF
 try simp only [AP]
 refine call_at 10 (by kernel_rfl) (by kernel_rfl) ?_
 intro o ho
 replace ho := Option.some.inj (Eq.trans (Eq.symm ho) rfl)
 subst ho
 intro KF hK
 go_simp
 refine (gdot_any 0 0 4616189618054758400 0 4607182418800017408 4607182418800017408 _ (-1) (HT.out.later hS.2.2.2.2.2.2.2.2.2.2) ⟨⟨by omega, by omega⟩, ⟨by omega, by omega⟩, by omega, by omega⟩ awd0).mono ?_
 rintro e wx ⟨rfl, hbx⟩
 go_wp2_with fail
 refine hK.out _ _ ⟨box_cell hbx hS.1, box_cell hbx hS.2.1, box_cell hbx hS.2.2.1, box_cell hbx hS.2.2.2.1, box_cell hbx hS.2.2.2.2.1, box_cell hbx hS.2.2.2.2.2.1, box_cell hbx hS.2.2.2.2.2.2.1, box_cell hbx hS.2.2.2.2.2.2.2.1, box_cell hbx hS.2.2.2.2.2.2.2.2.1, box_cell hbx hS.2.2.2.2.2.2.2.2.2.1, below_step hS.2.2.2.2.2.2.2.2.2.2 hbx⟩ ?_
 clear hS hbx
 intro hS
 clear hK KF
 try simp only [AP]
 refine takB (i := 11) (d := some 35) (v := .bool true) hS ?_
 simp only [AP]
 refine takB (i := 12) (d := some 36) (v := .bool true) hS ?_
 simp only [AP]
 refine takB (i := 13) (d := some 37) (v := .bool true) hS ?_
 simp only [AP]
 refine takB (i := 14) (d := some 38) (v := .agg #[.float .f64 0, .float .f64 0]) hS ?_
 simp only [AP]
 refine takB (i := 15) (d := some 39) (v := .agg #[.float .f64 4616189618054758400, .float .f64 0]) hS ?_
 simp only [AP]
 refine call_at 16 (by kernel_rfl) (by kernel_rfl) ?_
 intro o ho
 replace ho := Option.some.inj (Eq.trans (Eq.symm ho) rfl)
 subst ho
 intro KF hK
 go_simp
 refine (at6_any 4611686018427387904 4611686018427387904 _).mono ?_
 rintro e wx ⟨rfl, hbx⟩
 go_wp2_with fail
 refine hK.out _ _ ⟨box_cell hbx hS.1, box_cell hbx hS.2.1, box_cell hbx hS.2.2.1, box_cell hbx hS.2.2.2.1, box_cell hbx hS.2.2.2.2.1, box_cell hbx hS.2.2.2.2.2.1, box_cell hbx hS.2.2.2.2.2.2.1, box_cell hbx hS.2.2.2.2.2.2.2.1, box_cell hbx hS.2.2.2.2.2.2.2.2.1, box_cell hbx hS.2.2.2.2.2.2.2.2.2.1, below_step hS.2.2.2.2.2.2.2.2.2.2 hbx⟩ ?_
 clear hS hbx
 intro hS
 clear hK KF
 try simp only [AP]
 refine call_at 17 (by kernel_rfl) (by kernel_rfl) ?_
 intro o ho
 replace ho := Option.some.inj (Eq.trans (Eq.symm ho) rfl)
 subst ho
 intro KF hK
 go_simp
 refine (gdot_any 0 0 4616189618054758400 0 4611686018427387904 4611686018427387904 _ (0) (HT.out.later hS.2.2.2.2.2.2.2.2.2.2) ⟨⟨by omega, by omega⟩, ⟨by omega, by omega⟩, by omega, by omega⟩ awd1).mono ?_
 rintro e wx ⟨rfl, hbx⟩
 go_wp2_with fail
 refine hK.out _ _ ⟨box_cell hbx hS.1, box_cell hbx hS.2.1, box_cell hbx hS.2.2.1, box_cell hbx hS.2.2.2.1, box_cell hbx hS.2.2.2.2.1, box_cell hbx hS.2.2.2.2.2.1, box_cell hbx hS.2.2.2.2.2.2.1, box_cell hbx hS.2.2.2.2.2.2.2.1, box_cell hbx hS.2.2.2.2.2.2.2.2.1, box_cell hbx hS.2.2.2.2.2.2.2.2.2.1, below_step hS.2.2.2.2.2.2.2.2.2.2 hbx⟩ ?_
 clear hS hbx
 intro hS
 clear hK KF
 try simp only [AP]
 refine takB (i := 18) (d := some 42) (v := .bool true) hS ?_
 simp only [AP]
 refine takB (i := 19) (d := some 43) (v := .bool true) hS ?_
 simp only [AP]
 refine takB (i := 20) (d := some 44) (v := .bool true) hS ?_
 simp only [AP]
 refine takB (i := 21) (d := some 45) (v := .agg #[.float .f64 0, .float .f64 0]) hS ?_
 simp only [AP]
 refine takB (i := 22) (d := some 46) (v := .agg #[.float .f64 4616189618054758400, .float .f64 0]) hS ?_
 simp only [AP]
 refine call_at 23 (by kernel_rfl) (by kernel_rfl) ?_
 intro o ho
 replace ho := Option.some.inj (Eq.trans (Eq.symm ho) rfl)
 subst ho
 intro KF hK
 go_simp
 refine (at6_any 4617315517961601024 4607182418800017408 _).mono ?_
 rintro e wx ⟨rfl, hbx⟩
 go_wp2_with fail
 refine hK.out _ _ ⟨box_cell hbx hS.1, box_cell hbx hS.2.1, box_cell hbx hS.2.2.1, box_cell hbx hS.2.2.2.1, box_cell hbx hS.2.2.2.2.1, box_cell hbx hS.2.2.2.2.2.1, box_cell hbx hS.2.2.2.2.2.2.1, box_cell hbx hS.2.2.2.2.2.2.2.1, box_cell hbx hS.2.2.2.2.2.2.2.2.1, box_cell hbx hS.2.2.2.2.2.2.2.2.2.1, below_step hS.2.2.2.2.2.2.2.2.2.2 hbx⟩ ?_
 clear hS hbx
 intro hS
 clear hK KF
 try simp only [AP]
 refine call_at 24 (by kernel_rfl) (by kernel_rfl) ?_
 intro o ho
 replace ho := Option.some.inj (Eq.trans (Eq.symm ho) rfl)
 subst ho
 intro KF hK
 go_simp
 refine (gdot_any 0 0 4616189618054758400 0 4617315517961601024 4607182418800017408 _ (1) (HT.out.later hS.2.2.2.2.2.2.2.2.2.2) ⟨⟨by omega, by omega⟩, ⟨by omega, by omega⟩, by omega, by omega⟩ awd2).mono ?_
 rintro e wx ⟨rfl, hbx⟩
 go_wp2_with fail
 refine hK.out _ _ ⟨box_cell hbx hS.1, box_cell hbx hS.2.1, box_cell hbx hS.2.2.1, box_cell hbx hS.2.2.2.1, box_cell hbx hS.2.2.2.2.1, box_cell hbx hS.2.2.2.2.2.1, box_cell hbx hS.2.2.2.2.2.2.1, box_cell hbx hS.2.2.2.2.2.2.2.1, box_cell hbx hS.2.2.2.2.2.2.2.2.1, box_cell hbx hS.2.2.2.2.2.2.2.2.2.1, below_step hS.2.2.2.2.2.2.2.2.2.2 hbx⟩ ?_
 clear hS hbx
 intro hS
 clear hK KF
 try simp only [AP]
 refine takB (i := 25) (d := some 49) (v := .bool true) hS ?_
 simp only [AP]
 refine takB (i := 26) (d := some 50) (v := .bool true) hS ?_
 simp only [AP]
 refine takB (i := 27) (d := some 51) (v := .bool true) hS ?_
 simp only [AP]
 refine takB (i := 28) (d := some 52) (v := .agg #[.float .f64 0, .float .f64 0]) hS ?_
 simp only [AP]
 refine takB (i := 29) (d := some 53) (v := .agg #[.float .f64 4616189618054758400, .float .f64 0]) hS ?_
 simp only [AP]
 refine takB (i := 30) (d := some 54) (v := .agg #[.float .f64 0, .float .f64 4611686018427387904]) hS ?_
 simp only [AP]
 refine call_at 31 (by kernel_rfl) (by kernel_rfl) ?_
 intro o ho
 replace ho := Option.some.inj (Eq.trans (Eq.symm ho) rfl)
 subst ho
 intro KF hK
 go_simp
 refine (garea_any 0 0 4616189618054758400 0 0 4611686018427387904 4616189618054758400 _ (0) (HT.out.later hS.2.2.2.2.2.2.2.2.2.2) ⟨⟨by omega, by omega⟩, ⟨by omega, by omega⟩, by omega, by omega⟩ (by omega) awa0).mono ?_
 rintro e wx ⟨rfl, hbx⟩
 go_wp2_with fail
 refine hK.out _ _ ⟨box_cell hbx hS.1, box_cell hbx hS.2.1, box_cell hbx hS.2.2.1, box_cell hbx hS.2.2.2.1, box_cell hbx hS.2.2.2.2.1, box_cell hbx hS.2.2.2.2.2.1, box_cell hbx hS.2.2.2.2.2.2.1, box_cell hbx hS.2.2.2.2.2.2.2.1, box_cell hbx hS.2.2.2.2.2.2.2.2.1, box_cell hbx hS.2.2.2.2.2.2.2.2.2.1, below_step hS.2.2.2.2.2.2.2.2.2.2 hbx⟩ ?_
 clear hS hbx
 intro hS
 clear hK KF
 try simp only [AP]
 refine takB (i := 32) (d := some 56) (v := .bool true) hS ?_
 simp only [AP]
 refine takB (i := 33) (d := some 57) (v := .bool true) hS ?_
 simp only [AP]
 refine takB (i := 34) (d := some 58) (v := .bool true) hS ?_
 simp only [AP]
 refine takB (i := 35) (d := some 59) (v := .agg #[.float .f64 0, .float .f64 0]) hS ?_
 simp only [AP]
 refine takB (i := 36) (d := some 60) (v := .agg #[.float .f64 4616189618054758400, .float .f64 0]) hS ?_
 simp only [AP]
 refine takB (i := 37) (d := some 61) (v := .agg #[.float .f64 0, .float .f64 4611686018427387904]) hS ?_
 simp only [AP]
 refine call_at 38 (by kernel_rfl) (by kernel_rfl) ?_
 intro o ho
 replace ho := Option.some.inj (Eq.trans (Eq.symm ho) rfl)
 subst ho
 intro KF hK
 go_simp
 refine (garea_any 0 0 4616189618054758400 0 0 4611686018427387904 4615063718147915776 _ (1) (HT.out.later hS.2.2.2.2.2.2.2.2.2.2) ⟨⟨by omega, by omega⟩, ⟨by omega, by omega⟩, by omega, by omega⟩ (by omega) awa1).mono ?_
 rintro e wx ⟨rfl, hbx⟩
 go_wp2_with fail
 refine hK.out _ _ ⟨box_cell hbx hS.1, box_cell hbx hS.2.1, box_cell hbx hS.2.2.1, box_cell hbx hS.2.2.2.1, box_cell hbx hS.2.2.2.2.1, box_cell hbx hS.2.2.2.2.2.1, box_cell hbx hS.2.2.2.2.2.2.1, box_cell hbx hS.2.2.2.2.2.2.2.1, box_cell hbx hS.2.2.2.2.2.2.2.2.1, box_cell hbx hS.2.2.2.2.2.2.2.2.2.1, below_step hS.2.2.2.2.2.2.2.2.2.2 hbx⟩ ?_
 clear hS hbx
 intro hS
 clear hK KF
 try simp only [AP]
 refine takB (i := 39) (d := some 63) (v := .bool true) hS ?_
 simp only [AP]
 refine takB (i := 40) (d := some 64) (v := .bool true) hS ?_
 simp only [AP]
 refine takB (i := 41) (d := some 65) (v := .bool true) hS ?_
 simp only [AP]
 refine takB (i := 42) (d := some 66) (v := .agg #[.float .f64 0, .float .f64 0]) hS ?_
 simp only [AP]
 refine takB (i := 43) (d := some 67) (v := .agg #[.float .f64 4616189618054758400, .float .f64 0]) hS ?_
 simp only [AP]
 refine takB (i := 44) (d := some 68) (v := .agg #[.float .f64 0, .float .f64 4611686018427387904]) hS ?_
 simp only [AP]
 refine call_at 45 (by kernel_rfl) (by kernel_rfl) ?_
 intro o ho
 replace ho := Option.some.inj (Eq.trans (Eq.symm ho) rfl)
 subst ho
 intro KF hK
 go_simp
 refine (gsharp_any 0 0 4616189618054758400 0 0 4611686018427387904 0 _ false (HT.out.later hS.2.2.2.2.2.2.2.2.2.2) ⟨⟨by omega, by omega⟩, ⟨by omega, by omega⟩, by omega, by omega⟩ (by omega) aws0).mono ?_
 rintro e wx ⟨rfl, hbx⟩
 go_wp2_with fail
 refine hK.out _ _ ⟨box_cell hbx hS.1, box_cell hbx hS.2.1, box_cell hbx hS.2.2.1, box_cell hbx hS.2.2.2.1, box_cell hbx hS.2.2.2.2.1, box_cell hbx hS.2.2.2.2.2.1, box_cell hbx hS.2.2.2.2.2.2.1, box_cell hbx hS.2.2.2.2.2.2.2.1, box_cell hbx hS.2.2.2.2.2.2.2.2.1, box_cell hbx hS.2.2.2.2.2.2.2.2.2.1, below_step hS.2.2.2.2.2.2.2.2.2.2 hbx⟩ ?_
 clear hS hbx
 intro hS
 clear hK KF
 try simp only [AP]
 refine takB (i := 46) (d := some 70) (v := .bool true) hS ?_
 simp only [AP]
 refine takB (i := 47) (d := some 71) (v := .bool true) hS ?_
 simp only [AP]
 refine takB (i := 48) (d := some 72) (v := .bool true) hS ?_
 simp only [AP]
 refine takB (i := 49) (d := some 73) (v := .agg #[.float .f64 4616189618054758400, .float .f64 0]) hS ?_
 simp only [AP]
 refine takB (i := 50) (d := some 74) (v := .agg #[.float .f64 0, .float .f64 0]) hS ?_
 simp only [AP]
 refine takB (i := 51) (d := some 75) (v := .agg #[.float .f64 0, .float .f64 4611686018427387904]) hS ?_
 simp only [AP]
 refine call_at 52 (by kernel_rfl) (by kernel_rfl) ?_
 intro o ho
 replace ho := Option.some.inj (Eq.trans (Eq.symm ho) rfl)
 subst ho
 intro KF hK
 go_simp
 refine (gsharp_any 4616189618054758400 0 0 0 0 4611686018427387904 4604930618986332160 _ true (HT.out.later hS.2.2.2.2.2.2.2.2.2.2) ⟨⟨by omega, by omega⟩, ⟨by omega, by omega⟩, by omega, by omega⟩ (by omega) aws1).mono ?_
 rintro e wx ⟨rfl, hbx⟩
 go_wp2_with fail
 refine hK.out _ _ ⟨box_cell hbx hS.1, box_cell hbx hS.2.1, box_cell hbx hS.2.2.1, box_cell hbx hS.2.2.2.1, box_cell hbx hS.2.2.2.2.1, box_cell hbx hS.2.2.2.2.2.1, box_cell hbx hS.2.2.2.2.2.2.1, box_cell hbx hS.2.2.2.2.2.2.2.1, box_cell hbx hS.2.2.2.2.2.2.2.2.1, box_cell hbx hS.2.2.2.2.2.2.2.2.2.1, below_step hS.2.2.2.2.2.2.2.2.2.2 hbx⟩ ?_
 clear hS hbx
 intro hS
 clear hK KF
 try simp only [AP]
 refine takB (i := 53) (d := some 77) (v := .bool true) hS ?_
 simp only [AP]
 refine takB (i := 54) (d := some 78) (v := .bool true) hS ?_
 simp only [AP]
 refine takB (i := 55) (d := some 79) (v := .bool true) hS ?_
 simp only [AP]
 refine takB (i := 56) (d := some 80) (v := .bool true) hS ?_
 simp only [AP]
 refine takB (i := 57) (d := some 81) (v := .bool true) hS ?_
 simp only [AP]
 refine takB (i := 58) (d := some 82) (v := .agg #[.float .f64 4611686018427387904, .float .f64 4607182418800017408]) hS ?_
 simp only [AP]
 refine call_at 59 (by kernel_rfl) (by kernel_rfl) ?_
 intro o ho
 replace ho := Option.some.inj (Eq.trans (Eq.symm ho) rfl)
 subst ho
 intro KF hK
 go_simp
 refine (at6_any 4611686018427387904 4607182418800017408 _).mono ?_
 rintro e wx ⟨rfl, hbx⟩
 go_wp2_with fail
 refine hK.out _ _ ⟨box_cell hbx hS.1, box_cell hbx hS.2.1, box_cell hbx hS.2.2.1, box_cell hbx hS.2.2.2.1, box_cell hbx hS.2.2.2.2.1, box_cell hbx hS.2.2.2.2.2.1, box_cell hbx hS.2.2.2.2.2.2.1, box_cell hbx hS.2.2.2.2.2.2.2.1, box_cell hbx hS.2.2.2.2.2.2.2.2.1, box_cell hbx hS.2.2.2.2.2.2.2.2.2.1, below_step hS.2.2.2.2.2.2.2.2.2.2 hbx⟩ ?_
 clear hS hbx
 intro hS
 clear hK KF
 try simp only [AP]
 refine takB (i := 60) (d := some 84) (v := .bool true) hS ?_
 simp only [AP]
 refine takB (i := 61) (d := some 85) (v := .bool true) hS ?_
 simp only [AP]
 refine takB (i := 62) (d := some 86) (v := .bool true) hS ?_
 simp only [AP]
 refine takB (i := 63) (d := some 87) (v := .bool true) hS ?_
 simp only [AP]
 refine takB (i := 64) (d := some 88) (v := .bool true) hS ?_
 simp only [AP]
 refine takB (i := 65) (d := some 89) (v := .bool true) hS ?_
 simp only [AP]
 refine takB (i := 66) (d := some 90) (v := .agg #[.float .f64 4607182418800017408, .float .f64 0]) hS ?_
 simp only [AP]
 refine call_at 67 (by kernel_rfl) (by kernel_rfl) ?_
 intro o ho
 replace ho := Option.some.inj (Eq.trans (Eq.symm ho) rfl)
 subst ho
 intro KF hK
 go_simp
 refine (at6_any 4607182418800017408 0 _).mono ?_
 rintro e wx ⟨rfl, hbx⟩
 go_wp2_with fail
 refine hK.out _ _ ⟨box_cell hbx hS.1, box_cell hbx hS.2.1, box_cell hbx hS.2.2.1, box_cell hbx hS.2.2.2.1, box_cell hbx hS.2.2.2.2.1, box_cell hbx hS.2.2.2.2.2.1, box_cell hbx hS.2.2.2.2.2.2.1, box_cell hbx hS.2.2.2.2.2.2.2.1, box_cell hbx hS.2.2.2.2.2.2.2.2.1, box_cell hbx hS.2.2.2.2.2.2.2.2.2.1, below_step hS.2.2.2.2.2.2.2.2.2.2 hbx⟩ ?_
 clear hS hbx
 intro hS
 clear hK KF
 try simp only [AP]
 refine takB (i := 68) (d := some 92) (v := .bool true) hS ?_
 simp only [AP]
 refine takB (i := 69) (d := some 93) (v := .bool true) hS ?_
 simp only [AP]
 refine takB (i := 70) (d := some 0) (v := .bool true) hS ?_
 simp only [Act.put, List.setIfInBounds_toArray, List.set_cons_zero]
 refine wpAnyH_done (by kernel_rfl) ?_ _
 go_wp2
 go_ret
 exact ⟨rfl, hS.2.2.2.2.2.2.2.2.2.2⟩

end Go.Proofs.YtocnkgfoffpbfaaGreatDoor
