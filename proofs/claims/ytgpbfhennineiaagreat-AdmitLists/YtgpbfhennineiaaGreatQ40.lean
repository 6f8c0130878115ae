/- Own texts, put together: Dc. -/
import Derived.Test.YtgpbfhennineiaaGreatQ4
import Derived.Test.YtgpbfhennineiaaGreatQ30
import Derived.Test.YtgpbfhennineiaaGreatQ37
import Derived.Test.YtgpbfhennineiaaGreatQ38
/- The document's side of layer 7: Flat. -/
namespace Go.Proofs.YtgpbfhennineiaaGreat
open Go.RowKit Go.Shelf Go.Sort Go.Lib
attribute [local go_sem ↓] Go.wp_at_zero Go.wp_at_succ
attribute [local go_sem] run_store_float
theorem flat_threes {f : Nat → Nat × Nat} {n : Nat} (h : ∀ i, i < n → ∀ k, k < i → ∀ j, j < k → S3p (f i) (f k) (f j) = 0) : FlatP f n := by
 intro i j k hi hj hk
 have sw : ∀ a b c : Nat, S3p (f a) (f b) (f c) = 0 → S3p (f b) (f a) (f c) = 0 := fun a b c h => by unfold S3p S3 at *; grind
 have ro : ∀ a b c : Nat, S3p (f a) (f b) (f c) = 0 → S3p (f b) (f c) (f a) = 0 := fun a b c h => by unfold S3p S3 at *; grind
 have tw1 : ∀ a b : Nat, S3p (f a) (f a) (f b) = 0 := fun a b => by unfold S3p S3; grind
 rcases Nat.lt_trichotomy i j with e1 | e1 | e1
 · rcases Nat.lt_trichotomy j k with e2 | e2 | e2
   · exact sw _ _ _ (ro _ _ _ (h k hk j e2 i e1))
   · rw [e2]; exact ro _ _ _ (ro _ _ _ (tw1 k i))
   · rcases Nat.lt_trichotomy i k with e3 | e3 | e3
     · exact ro _ _ _ (ro _ _ _ (h j hj k e2 i e3))
     · rw [e3]; exact ro _ _ _ (tw1 k j)
     · exact sw _ _ _ (h j hj i e1 k e3)
 · rw [e1]; exact tw1 j k
 · rcases Nat.lt_trichotomy i k with e2 | e2 | e2
   · exact ro _ _ _ (h k hk i e2 j e1)
   · rw [e2]; exact ro _ _ _ (tw1 k j)
   · rcases Nat.lt_trichotomy j k with e3 | e3 | e3
     · exact sw _ _ _ (ro _ _ _ (ro _ _ _ (h i hi k e2 j e3)))
     · rw [e3]; exact ro _ _ _ (ro _ _ _ (tw1 k i))
     · exact h i hi j e1 k e3
set_option maxRecDepth 100000 in
set_option maxHeartbeats 4000000 in
theorem refFlat_any (s : Value) (n : Nat) (f : Nat → Nat × Nat) (w : World) (h : Ps w s n f) (hM : MayL n f) : Calls Tryz.prog 14 #[s] w fun e w' => (∃ t, e = .returned (.bool t) ∧ (t = true ↔ FlatP f n)) ∧ Below w.heap.size w w' := by
 obtain ⟨a, c, rfl, hc, hm⟩ := h.shape
 have HF : Hid (Ps w (.slice a n c) n f) := h
 have HM : Hid (MayL n f) := hM
 have hn : n ≤ 1048576 := hM.1
 clear h hM
 go_enter Tryz.func14, Tryz.ntmps14
 go_wp2
 go_loopw [3] (fun s3 wr => ∃ i : Nat, i ≤ n ∧ s3 = .int .i64 (i : Nat) ∧ Hid (Below w.heap.size w wr ∧ ∀ i', i' < i → ∀ k, k < i' → ∀ j, j < k → S3p (f i') (f k) (f j) = 0)) (fun s3 _ => n - (intOf s3).toNat)
 case atStart => exact ⟨0, Nat.zero_le _, rfl, Below.refl _ _, fun i hi => by omega⟩
 case round =>
   obtain ⟨i, hi, rfl, hI⟩ := hrel
   by_cases hlt : i < n
   · have hlt' : (i : Int) < (n : Int) := by omega
     have hi0 : (0 : Int) ≤ (i : Int) := by omega
     obtain ⟨g, off, rfl, hg, hcell⟩ := HF.out.some (by omega)
     have HC : Hid (∀ k, k < n → w.cell? ⟨g, off + k * 2, none⟩ = some (.float .f64 (f k).1) ∧ w.cell? ⟨g, off + k * 2 + 1, none⟩ = some (.float .f64 (f k).2)) := hcell
     have HA : Hid (∀ i', i' < i → ∀ k, k < i' → ∀ j, j < k → S3p (f i') (f k) (f j) = 0) := hI.out.2
     have HB0 : Hid (Below w.heap.size w wr) := hI.out.1
     clear hcell hI
     go_wp2
     go_loopw [4] (fun s4 wq => ∃ k : Nat, k ≤ i ∧ s4 = .int .i64 (k : Nat) ∧ Hid (Below w.heap.size w wq ∧ ∀ k', k' < k → ∀ j, j < k' → S3p (f i) (f k') (f j) = 0)) (fun s4 _ => i - (intOf s4).toNat)
     case atStart => exact ⟨0, Nat.zero_le _, rfl, HB0.out, fun k hk => by omega⟩
     case round =>
       clear HB0
       obtain ⟨k, hk, rfl, hK⟩ := hrel
       by_cases hki : k < i
       · have hki' : (k : Int) < (i : Int) := by omega
         have hkn : (k : Int) < (n : Int) := by omega
         have hk0 : (0 : Int) ≤ (k : Int) := by omega
         have HA2 : Hid (∀ k', k' < k → ∀ j, j < k' → S3p (f i) (f k') (f j) = 0) := hK.out.2
         have HB1 : Hid (Below w.heap.size w _) := hK.out.1
         clear hK
         go_wp2
         go_loopw [5] (fun s5 wj => ∃ j : Nat, j ≤ k ∧ s5 = .int .i64 (j : Nat) ∧ Hid (Below w.heap.size w wj ∧ ∀ j', j' < j → S3p (f i) (f k) (f j') = 0)) (fun s5 _ => k - (intOf s5).toNat)
         case atStart => exact ⟨0, Nat.zero_le _, rfl, HB1.out, fun k hk => by omega⟩
         case round =>
           clear HB1
           obtain ⟨j, hj, rfl, hJ⟩ := hrel
           by_cases hjk : j < k
           · have hjk' : (j : Int) < (k : Int) := by omega
             have hjn : (j : Int) < (n : Int) := by omega
             have hj0 : (0 : Int) ≤ (j : Int) := by omega
             have b1 := box_cell hJ.out.1 (HC.out i hlt).1
             have b2 := box_cell hJ.out.1 (HC.out i hlt).2
             have b3 := box_cell hJ.out.1 (HC.out k (by omega)).1
             have b4 := box_cell hJ.out.1 (HC.out k (by omega)).2
             have b5 := box_cell hJ.out.1 (HC.out j (by omega)).1
             have b6 := box_cell hJ.out.1 (HC.out j (by omega)).2
             have hS3 : sg3 (f i).1 (f i).2 (f k).1 (f k).2 (f j).1 (f j).2 = sgq (S3p (f i) (f k) (f j)) := sg3_yes ⟨HM.out.2 i hlt, HM.out.2 k (by omega), HM.out.2 j (by omega)⟩
             by_cases hz : S3p (f i) (f k) (f j) = 0
             · have HIK : Hid (W6 (f i).1 (f i).2 (f k).1 (f k).2 (f j).1 (f j).2 ∧ sg3 (f i).1 (f i).2 (f k).1 (f k).2 (f j).1 (f j).2 = 0) := ⟨W6.of (HF.out.word i) (HF.out.word k) (HF.out.word j), by rw [hS3]; exact sgq_zero.2 hz⟩
               have HZ : Hid (S3p (f i) (f k) (f j) = 0) := hz
               clear hS3 hz
               go_wp2_with fail
               refine wp_region_held_drew (S := (fun W => W.cell? ⟨g, off + i * 2, none⟩ = some (.float .f64 (f i).1) ∧ W.cell? ⟨g, off + i * 2 + 1, none⟩ = some (.float .f64 (f i).2) ∧ W.cell? ⟨g, off + k * 2, none⟩ = some (.float .f64 (f k).1) ∧ W.cell? ⟨g, off + k * 2 + 1, none⟩ = some (.float .f64 (f k).2) ∧ W.cell? ⟨g, off + j * 2, none⟩ = some (.float .f64 (f j).1) ∧ W.cell? ⟨g, off + j * 2 + 1, none⟩ = some (.float .f64 (f j).2) ∧ Below wr.heap.size wr W)) (by kernel_rfl) ⟨b1, b2, b3, b4, b5, b6, (Below.refl _ _).drew⟩ (fun hS => ?_)
               refine takA (i := 0) (d := some 22) (v := .slice (some ⟨g, off, none⟩) n c) hS ?_
               simp only [AP]
               refine takA (i := 1) (d := some 23) (v := .int .i64 (i : Int)) hS ?_
               simp only [AP]
               refine takA (i := 2) (d := some 24) (v := .pointer (some ⟨g, off + i * 2, none⟩)) hS ?_
               simp only [AP]
               refine takA (i := 3) (d := some 25) (v := .agg #[.float .f64 (f i).1, .float .f64 (f i).2]) hS ?_
               simp only [AP]
               refine takA (i := 4) (d := some 26) (v := .slice (some ⟨g, off, none⟩) n c) hS ?_
               simp only [AP]
               refine takA (i := 5) (d := some 27) (v := .int .i64 (k : Int)) hS ?_
               simp only [AP]
               refine takA (i := 6) (d := some 28) (v := .pointer (some ⟨g, off + k * 2, none⟩)) hS ?_
               simp only [AP]
               refine takA (i := 7) (d := some 29) (v := .agg #[.float .f64 (f k).1, .float .f64 (f k).2]) hS ?_
               simp only [AP]
               refine takA (i := 8) (d := some 30) (v := .slice (some ⟨g, off, none⟩) n c) hS ?_
               simp only [AP]
               refine takA (i := 9) (d := some 31) (v := .int .i64 (j : Int)) hS ?_
               simp only [AP]
               refine takA (i := 10) (d := some 32) (v := .pointer (some ⟨g, off + j * 2, none⟩)) hS ?_
               simp only [AP]
               refine takA (i := 11) (d := some 33) (v := .agg #[.float .f64 (f j).1, .float .f64 (f j).2]) hS ?_
               simp only [AP]
               refine calA 12 fun KF hK => ?_
               go_simp
               refine (left5_any (f i).1 (f i).2 (f k).1 (f k).2 (f j).1 (f j).2 _ HIK.out.1).mono ?_
               rintro e wx ⟨rfl, hbx⟩
               rw [HIK.out.2]
               go_wp2_with fail
               refine hK.out _ _ (kp6 hbx hS) ?_
               clear hS hbx
               intro hS
               clear hK KF
               try simp only [AP]
               refine takA (i := 13) (d := some 35) (v := .bool false) hS ?_
               simp only [AP]
               refine wpAnyH_done (by kernel_rfl) ?_ _
               have HB2 : Hid (Below wr.heap.size wr _) := hS.2.2.2.2.2.2
               clear hS b1 b2 b3 b4 b5 b6
               go_wp2
               refine ⟨⟨j + 1, by omega, by go_num, below_step hJ.out.1 HB2.out, fun j' hj' => ?_⟩, by simp [intOf]; omega⟩
               by_cases e : j' = j
               · rw [e]; exact HZ.out
               · exact hJ.out.2 j' (by omega)
             · obtain ⟨cz, hcz⟩ : ∃ cz, sg3 (f i).1 (f i).2 (f k).1 (f k).2 (f j).1 (f j).2 = cz := ⟨_, rfl⟩
               have hcz0 : ¬ cz = 0 := fun h => hz (sgq_zero.1 (by rw [← hS3, hcz, h]))
               have hcz1 : (cz == 0) = false := by simp [hcz0]
               have hcz2 : (cz != 0) = true := by simp [hcz0]
               have HIK : Hid (W6 (f i).1 (f i).2 (f k).1 (f k).2 (f j).1 (f j).2 ∧ sg3 (f i).1 (f i).2 (f k).1 (f k).2 (f j).1 (f j).2 = cz) := ⟨W6.of (HF.out.word i) (HF.out.word k) (HF.out.word j), hcz⟩
               have HZ : Hid (¬ S3p (f i) (f k) (f j) = 0) := hz
               clear hS3 hz hcz
               go_wp2_with fail
               refine wp_region_held_drew (S := (fun W => W.cell? ⟨g, off + i * 2, none⟩ = some (.float .f64 (f i).1) ∧ W.cell? ⟨g, off + i * 2 + 1, none⟩ = some (.float .f64 (f i).2) ∧ W.cell? ⟨g, off + k * 2, none⟩ = some (.float .f64 (f k).1) ∧ W.cell? ⟨g, off + k * 2 + 1, none⟩ = some (.float .f64 (f k).2) ∧ W.cell? ⟨g, off + j * 2, none⟩ = some (.float .f64 (f j).1) ∧ W.cell? ⟨g, off + j * 2 + 1, none⟩ = some (.float .f64 (f j).2) ∧ Below wr.heap.size wr W)) (by kernel_rfl) ⟨b1, b2, b3, b4, b5, b6, (Below.refl _ _).drew⟩ (fun hS => ?_)
               refine takA (i := 0) (d := some 22) (v := .slice (some ⟨g, off, none⟩) n c) hS ?_
               simp only [AP]
               refine takA (i := 1) (d := some 23) (v := .int .i64 (i : Int)) hS ?_
               simp only [AP]
               refine takA (i := 2) (d := some 24) (v := .pointer (some ⟨g, off + i * 2, none⟩)) hS ?_
               simp only [AP]
               refine takA (i := 3) (d := some 25) (v := .agg #[.float .f64 (f i).1, .float .f64 (f i).2]) hS ?_
               simp only [AP]
               refine takA (i := 4) (d := some 26) (v := .slice (some ⟨g, off, none⟩) n c) hS ?_
               simp only [AP]
               refine takA (i := 5) (d := some 27) (v := .int .i64 (k : Int)) hS ?_
               simp only [AP]
               refine takA (i := 6) (d := some 28) (v := .pointer (some ⟨g, off + k * 2, none⟩)) hS ?_
               simp only [AP]
               refine takA (i := 7) (d := some 29) (v := .agg #[.float .f64 (f k).1, .float .f64 (f k).2]) hS ?_
               simp only [AP]
               refine takA (i := 8) (d := some 30) (v := .slice (some ⟨g, off, none⟩) n c) hS ?_
               simp only [AP]
               refine takA (i := 9) (d := some 31) (v := .int .i64 (j : Int)) hS ?_
               simp only [AP]
               refine takA (i := 10) (d := some 32) (v := .pointer (some ⟨g, off + j * 2, none⟩)) hS ?_
               simp only [AP]
               refine takA (i := 11) (d := some 33) (v := .agg #[.float .f64 (f j).1, .float .f64 (f j).2]) hS ?_
               simp only [AP]
               refine calA 12 fun KF hK => ?_
               go_simp
               refine (left5_any (f i).1 (f i).2 (f k).1 (f k).2 (f j).1 (f j).2 _ HIK.out.1).mono ?_
               rintro e wx ⟨rfl, hbx⟩
               rw [HIK.out.2]
               go_wp2_with fail
               refine hK.out _ _ (kp6 hbx hS) ?_
               clear hS hbx
               intro hS
               clear hK KF
               try simp only [AP]
               refine takA (i := 13) (d := some 35) (v := .bool true) hS ?_
               simp only [AP]
               refine wpAnyH_done (by kernel_rfl) ?_ _
               have HB2 : Hid (Below wr.heap.size wr _) := hS.2.2.2.2.2.2
               clear hS b1 b2 b3 b4 b5 b6
               go_wp2
               go_ret
               exact ⟨⟨false, rfl, ⟨fun h => Bool.noConfusion h, fun h => absurd (h i k j hlt (by omega) (by omega)) HZ.out⟩⟩, below_step hJ.out.1 HB2.out⟩
           · obtain rfl : k = j := by omega
             have hltb : decide ((k : Int) < (k : Int)) = false := decide_eq_false (by omega)
             go_wp2
             refine ⟨⟨k + 1, by omega, by go_num, hJ.out.1, fun k' hk' => ?_⟩, by simp [intOf]; omega⟩
             by_cases e : k' = k
             · rw [e]; exact hJ.out.2
             · exact HA2.out k' (by omega)
       · obtain rfl : i = k := by omega
         have hltb : decide ((i : Int) < (i : Int)) = false := decide_eq_false (by omega)
         go_wp2
         refine ⟨⟨i + 1, by omega, by go_num, hK.out.1, fun i' hi' => ?_⟩, by simp [intOf]; omega⟩
         by_cases e : i' = i
         · rw [e]; exact hK.out.2
         · exact HA.out i' (by omega)
   · obtain rfl : n = i := by omega
     have hltb : decide ((n : Int) < (n : Int)) = false := decide_eq_false (by omega)
     go_wp2
     go_ret
     exact ⟨⟨true, rfl, ⟨fun _ => flat_threes hI.out.2, fun _ => rfl⟩⟩, hI.out.1⟩
end Go.Proofs.YtgpbfhennineiaaGreat
