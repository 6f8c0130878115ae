/- Own texts, put together: Pk. -/
import Derived.Test.YtjcdbbdbmcbjpaaQ19
/- works: the walk. -/
namespace Go.Proofs.Ytjcdbbdbmcbjpaa
open Go.RowKit Go.Shelf
attribute [local go_sem] run_store_float
theorem fs1 (w : World) (b : Nat) (hb : b < 18446744073709551616) : Fs (w.alloc (.cells #[.float .f64 b] 24)) (.slice (some ⟨w.heap.size, 0, none⟩) 1 1) [b] := by
 refine ⟨⟨_, 1, rfl, by simp, by omega, Or.inr ⟨w.heap.size, 0, rfl, fun k hk => ?_⟩⟩, by simpa using hb⟩
 obtain rfl : k = 0 := by simpa using hk
 go_simp
theorem fs2 (w : World) (b c : Nat) (hb : b < 18446744073709551616) (hc : c < 18446744073709551616) : Fs (w.alloc (.cells #[.float .f64 b, .float .f64 c] 24)) (.slice (some ⟨w.heap.size, 0, none⟩) 2 2) [b, c] := by
 refine ⟨⟨_, 2, rfl, by simp, by omega, Or.inr ⟨w.heap.size, 0, rfl, fun k hk => ?_⟩⟩, by simp; exact ⟨hb, hc⟩⟩
 have : k = 0 ∨ k = 1 := by simp at hk; omega
 rcases this with rfl | rfl <;> go_simp
theorem new_below (w : World) (o : Obj) : Below w.heap.size w (w.alloc o) := (Below.refl _ w).alloc (Nat.le_refl _) _
theorem sum_mayA {S : Rat} {bs : List Nat} (h : SumS S bs) {N : Nat} (hS : ab S < U N) (hN : N ≤ 1900) : MayA bs := by
 obtain ⟨top, hq⟩ := h.sq
 have hu := hq.up hS
 refine up_may hu.ex h.cnt (fun b hb => ⟨Nat.zero_le _, ?_⟩)
 rcases Nat.lt_or_ge 8660422083433463808 (frung b) with e | e
 · exfalso
   have h1 := fval_lt e (hu.fin b hb)
   rw [top900, ab_fval b (hu.fin b hb)] at h1
   have h2 := hu.lim b hb
   have h3 := U_mono (show N + 1 ≤ 1974 by omega)
   grind
 · exact e
theorem safe_may {bs : List Nat} (h : MayS bs) : MayC bs := ⟨h.1, fun i hi => ⟨Nat.zero_le _, by have := (h.2 i hi).2.1; omega, (h.2 i hi).2.2⟩⟩
theorem add_may {bs : List Nat} (h : MayA bs) : MayC bs := ⟨h.1, fun i hi => ⟨Nat.zero_le _, by have := (h.2 i hi).2.1; omega, (h.2 i hi).2.2⟩⟩
theorem may_small : MayA [12029114604706594816] := by
 have v : fval 12029114604706594816 = -U 674 := by
   have := fval_rung 622 4503599627370496 (by omega) (Or.inr (by omega)) (by omega)
   have h := U_52 622
   rw [show (12029114604706594816 : Nat) = 9223372036854775808 + (622 * 4503599627370496 + 4503599627370496) from rfl, fval_word (by omega), this]
   rw [show ((4503599627370496 : Nat) : Rat) = 4503599627370496 from rfl, ← h]
 have u := U_pos 674
 refine up_may ⟨?_, ?_⟩ (by simp) ?_
 · simp [vals]
 · simp [vals, v]; grind
 · simp [frung]
theorem v_small : fval 12029114604706594816 = -(U 874 * U 874) := by
 have := fval_rung 622 4503599627370496 (by omega) (Or.inr (by omega)) (by omega)
 have h := U_52 622
 rw [show (12029114604706594816 : Nat) = 9223372036854775808 + (622 * 4503599627370496 + 4503599627370496) from rfl, fval_word (by omega), this]
 rw [show ((4503599627370496 : Nat) : Rat) = 4503599627370496 from rfl, ← h, U_mulX' (s := 874) (t := 874) (r := 674) (by omega)]
set_option maxRecDepth 100000 in
set_option maxHeartbeats 8000000 in
theorem worksE_any (w : World) : Calls Try.prog 4 #[] w fun e w' => e = .returned (.bool true) ∧ Below w.heap.size w w' := by
 have rn := run_negF 3706462493325918208 (by omega)
 rw [show fflip 3706462493325918208 = 12929834530180694016 from by decide +kernel] at rn
 have rm : ∀ w, (binOp .mul 24 (.float .f64 12929834530180694016) (.float .f64 3706462493325918208)).run Try.prog w = .ok (.float .f64 12029114604706594816) w := fun w => run_float_arith w .mul _ .f64 _ _ _ (by decide +kernel)
 have u8 := U_pos 874
 obtain ⟨ms1, ms2, mc1, ma1, ma2⟩ := may_tiny_one
 have HMY : Hid (MayS [3706462493325918208, 4607182418800017408] ∧ MayS [3706462493325918208, 13830554455654793216] ∧ MayC [12929834530180694016, 4607182418800017408] ∧ MayA [4607182418800017408] ∧ MayA [3706462493325918208]) := ⟨ms1, ms2, mc1, ma1, ma2⟩
 clear u8 ms1 ms2 mc1 ma1 ma2
 go_enter Try.func4, Try.ntmps4
 go_wp2_with fail
 have hf1 := fs1 w 4607182418800017408 (by omega)
 have hf2 := fs1 (w.alloc (.cells #[.float .f64 4607182418800017408] 24)) 3706462493325918208 (by omega)
 rw [show (w.alloc (.cells #[.float .f64 4607182418800017408] 24)).heap.size = w.heap.size + 1 by simp] at hf2
 refine (addEL_any _ _ [4607182418800017408] [3706462493325918208] _ (hf1.later (new_below _ _)) hf2).mono ?_
 rintro e w1 ⟨⟨v1, b1, t1, rfl, hF1, g1, g2, _⟩, hb1⟩
 obtain rfl := g1.2 ⟨HMY.out.2.2.2.1, HMY.out.2.2.2.2⟩
 have hsum : (vals [4607182418800017408]).sum + (vals [3706462493325918208]).sum = U 1074 + U 874 := by
   simp only [vals, List.map_cons, List.map_nil, List.sum_cons, List.sum_nil, v_one, v_tiny]; grind
 have hS1 := g2 rfl
 rw [hsum] at hS1
 obtain ⟨x, y, rfl, vx, vy⟩ := two_floats hS1.1 hS1.2
 have fx : Fin64 x := hS1.1.up.fin x (by simp)
 have fy : Fin64 y := hS1.1.up.fin y (by simp)
 have qx : FloatKind.f64.format.order x 3706462493325918208 = some .eq := by
   rw [order_val fx (by unfold Fin64 frung; omega), vx, v_tiny, if_neg Rat.lt_irrefl, if_pos rfl]
 have qy : FloatKind.f64.format.order y 4607182418800017408 = some .eq := by
   rw [order_val fy (by unfold Fin64 frung; omega), vy, v_one, U_one, if_neg Rat.lt_irrefl, if_pos rfl]
 have HB1 : Hid (Below w.heap.size w w1) := below_step (below_step (new_below _ _) (new_below _ _)) hb1
 obtain ⟨⟨a1, d1, ev1, _, _, fc⟩, _⟩ := hF1.fs
 have hne : ¬ [x, y] = [] := by simp
 obtain ⟨ga, oa, rfl, fc2⟩ : ∃ g off, a1 = some ⟨g, off, none⟩ ∧ ∀ k, k < 2 → w1.cell? ⟨g, off + k, none⟩ = some (.float .f64 ([x, y].getD k 0)) := by
   rcases fc with h | ⟨g, o, h1, h2⟩
   · exact absurd h hne
   · exact ⟨g, o, h1, h2⟩
 have ev1' : v1 = .slice (some ⟨ga, oa, none⟩) 2 d1 := ev1
 subst ev1'
 have HA : Hid (w1.cell? ⟨ga, oa, none⟩ = some (.float .f64 x) ∧ w1.cell? ⟨ga, oa + 1, none⟩ = some (.float .f64 y)) := ⟨fc2 0 (by omega), fc2 1 (by omega)⟩
 clear hf1 hf2 hF1 g1 g2 hsum hS1 vx vy fx fy ev1 hne fc2 hb1
 go_wp2_with fail
 have hf1 := fs2 w1 3706462493325918208 4607182418800017408 (by omega) (by omega)
 have hf2 := fs2 (w1.alloc (.cells #[.float .f64 3706462493325918208, .float .f64 4607182418800017408] 24)) 3706462493325918208 13830554455654793216 (by omega) (by omega)
 rw [show (w1.alloc (.cells #[.float .f64 3706462493325918208, .float .f64 4607182418800017408] 24)).heap.size = w1.heap.size + 1 by simp] at hf2
 refine (mulE_any _ _ [3706462493325918208, 4607182418800017408] [3706462493325918208, 13830554455654793216] _ (hf1.later (new_below _ _)) hf2).mono ?_
 rintro e w2 ⟨⟨v2, b2, t2, rfl, hF2, g1, g2, _⟩, hb2⟩
 obtain rfl := g1.2 ⟨HMY.out.1, HMY.out.2.1⟩
 have hsum : (vals [3706462493325918208, 4607182418800017408]).sum * (vals [3706462493325918208, 13830554455654793216]).sum = U 874 * U 874 - 1 := by
   simp only [vals, List.map_cons, List.map_nil, List.sum_cons, List.sum_nil, v_one, v_tiny, v_less, U_one]; grind
 have hS2 := g2 rfl
 rw [hsum] at hS2
 have HB2 : Hid (Below w1.heap.size w1 w2 ∧ Below w.heap.size w w2) := ⟨below_step (below_step (new_below _ _) (new_below _ _)) hb2, below_step HB1.out (below_step (below_step (new_below _ _) (new_below _ _)) hb2)⟩
 have hp : U 874 * U 874 < 1 := by
   rw [U_mulX' (s := 874) (t := 874) (r := 674) (by omega), ← U_one]; exact U_lt_iff.2 (by omega)
 have hp0 : 0 < U 874 * U 874 := Rat.mul_pos (U_pos _) (U_pos _)
 have HS2 : Hid (SumS (U 874 * U 874 - 1) b2 ∧ MayA b2 ∧ sgq (U 874 * U 874 - 1) = -1) := by
   refine ⟨hS2, sum_mayA hS2 (N := 1075) (ab_lt.2 ?_) (by omega), ?_⟩
   · have h1 : U 1075 = 2 * U 1074 := U_succ 1074
     rw [U_one] at h1
     rw [h1]
     exact ⟨by grind, by grind⟩
   · unfold sgq; rw [if_pos (by grind)]
 obtain ⟨⟨a2, d2, ev2, _⟩, _⟩ := id hF2.fs
 subst ev2
 have HF2 : Hid (Fs w2 (.slice a2 b2.length d2) b2) := hF2.fs
 clear hf1 hf2 hF2 g1 g2 hsum hS2 hb2 hp hp0
 go_wp2_with fail
 have hf1 := fs1 w2 4607182418800017408 (by omega)
 have hf2 := fs1 (w2.alloc (.cells #[.float .f64 4607182418800017408] 24)) 12029114604706594816 (by omega)
 rw [show (w2.alloc (.cells #[.float .f64 4607182418800017408] 24)).heap.size = w2.heap.size + 1 by simp] at hf2
 have hA1 : Below w2.heap.size w2 (w2.alloc (.cells #[.float .f64 4607182418800017408] 24)) := new_below _ _
 have hA2 : Below (w2.alloc (.cells #[.float .f64 4607182418800017408] 24)).heap.size (w2.alloc (.cells #[.float .f64 4607182418800017408] 24)) ((w2.alloc (.cells #[.float .f64 4607182418800017408] 24)).alloc (.cells #[.float .f64 12029114604706594816] 24)) := new_below _ _
 obtain ⟨W3, hW3⟩ : ∃ W3, W3 = (w2.alloc (.cells #[.float .f64 4607182418800017408] 24)).alloc (.cells #[.float .f64 12029114604706594816] 24) := ⟨_, rfl⟩
 have hsz : W3.heap.size = w2.heap.size + 1 + 1 := by rw [hW3]; simp
 rw [← hW3] at hf2 hA2
 have hA3 : Below W3.heap.size W3 (W3.alloc (.cells #[.slice a2 b2.length d2, .slice (some ⟨w2.heap.size, 0, none⟩) 1 1, .slice (some ⟨w2.heap.size + 1, 0, none⟩) 1 1] 23)) := new_below _ _
 have hS3 := sumE_any 3 W3.heap.size 0 3 (fun i => if i = 0 then .slice a2 b2.length d2 else if i = 1 then .slice (some ⟨w2.heap.size, 0, none⟩) 1 1 else .slice (some ⟨w2.heap.size + 1, 0, none⟩) 1 1) (fun i => if i = 0 then b2 else if i = 1 then [4607182418800017408] else [12029114604706594816]) (W3.alloc (.cells #[.slice a2 b2.length d2, .slice (some ⟨w2.heap.size, 0, none⟩) 1 1, .slice (some ⟨w2.heap.size + 1, 0, none⟩) 1 1] 23)) (by omega) (fun i hi => by
     have : i = 0 ∨ i = 1 ∨ i = 2 := by omega
     rcases this with rfl | rfl | rfl <;> go_simp) (fun i hi => by
     have : i = 0 ∨ i = 1 ∨ i = 2 := by omega
     rcases this with rfl | rfl | rfl
     · exact HF2.out.later (below_step (below_step hA1 hA2) hA3)
     · exact hf1.later (below_step hA2 hA3)
     · exact hf2.later hA3)
 rw [hsz] at hS3
 rw [← hW3]
 refine hS3.mono ?_
 rintro e w3 ⟨⟨v3, b3, t3, rfl, hF3, g1, g2, _⟩, hb3⟩
 obtain rfl := g1.2 (fun j hj => by
   have : j = 0 ∨ j = 1 ∨ j = 2 := by omega
   rcases this with rfl | rfl | rfl
   · exact HS2.out.2.1
   · exact HMY.out.2.2.2.1
   · exact may_small)
 have hz : SumS 0 b3 := by
   have := g2 rfl
   rwa [show sumL (fun i => if i = 0 then b2 else if i = 1 then [4607182418800017408] else [12029114604706594816]) 3 = 0 by
     show 0 + (vals b2).sum + (vals [4607182418800017408]).sum + (vals [12029114604706594816]).sum = 0
     rw [HS2.out.1.sum]
     simp only [vals, List.map_cons, List.map_nil, List.sum_cons, List.sum_nil, v_one, v_small, U_one]; grind] at this
 obtain rfl := none_floats hz
 obtain ⟨a3, d3, rfl⟩ := hF3.fs.none
 have HB3 : Hid (Below w2.heap.size w2 w3 ∧ Below w.heap.size w w3) := ⟨below_step (below_step (below_step hA1 hA2) hA3) hb3, below_step HB2.out.2 (below_step (below_step (below_step hA1 hA2) hA3) hb3)⟩
 have HF3 : Hid (Fs w3 (.slice a2 b2.length d2) b2) := HF2.out.later HB3.out.1
 have k0 := box_cell (below_step HB2.out.1 HB3.out.1) HA.out.1
 have k1 := box_cell (below_step HB2.out.1 HB3.out.1) HA.out.2
 clear hf1 hf2 hA1 hA2 hA3 hW3 hsz hS3 hF3 g1 g2 hz hb3
 go_wp2_with fail
 refine (signE_any _ b2 _ HF3.out).mono ?_
 rintro e w4 ⟨⟨z, rfl, hz1, _⟩, hw4⟩
 obtain rfl := hw4.symm
 obtain rfl : z = -1 := by rw [hz1 HS2.out.1.may, HS2.out.1.sum]; exact HS2.out.2.2
 clear hz1
 go_wp2_with fail
 have hf1 := fs2 w3 12929834530180694016 4607182418800017408 (by omega) (by omega)
 refine (signE_any _ [12929834530180694016, 4607182418800017408] _ hf1).mono ?_
 rintro e w4 ⟨⟨z, rfl, hz1, _⟩, rfl⟩
 have u8 := U_pos 874
 have u9 : U 874 < 1 := by rw [← U_one]; exact U_lt_iff.2 (by omega)
 obtain rfl : z = 1 := by
   rw [hz1 HMY.out.2.2.1]
   simp only [vals, List.map_cons, List.map_nil, List.sum_cons, List.sum_nil, v_one, v_mtiny, U_one]
   unfold sgq
   rw [if_neg (by grind), if_neg (by grind)]
 have HB4 : Hid (Below w.heap.size w (w3.alloc (.cells #[.float .f64 12929834530180694016, .float .f64 4607182418800017408] 24))) := below_step HB3.out.2 (new_below _ _)
 obtain ⟨W4, hW4⟩ : ∃ W4, W4 = w3.alloc (.cells #[.float .f64 12929834530180694016, .float .f64 4607182418800017408] 24) := ⟨_, rfl⟩
 rw [← hW4] at HB4 ⊢
 clear hz1 hf1 hW4 k0 k1
 have HU : Hid (0 < U 874) := u8
 clear u8 u9
 go_wp2_with fail
 have hf1 := fs2 W4 3706462493325918208 4607182418800017408 (by omega) (by omega)
 have hf2 := fs1 (W4.alloc (.cells #[.float .f64 3706462493325918208, .float .f64 4607182418800017408] 24)) 4607182418800017408 (by omega)
 rw [show (W4.alloc (.cells #[.float .f64 3706462493325918208, .float .f64 4607182418800017408] 24)).heap.size = W4.heap.size + 1 by simp] at hf2
 refine (cmpE_any _ _ [3706462493325918208, 4607182418800017408] [4607182418800017408] _ (hf1.later (new_below _ _)) hf2).mono ?_
 rintro e w5 ⟨⟨z, rfl, hz1, _⟩, hb5⟩
 obtain rfl : z = 1 := by
   rw [hz1 (safe_may HMY.out.1) (add_may HMY.out.2.2.2.1)]
   simp only [vals, List.map_cons, List.map_nil, List.sum_cons, List.sum_nil, v_one, v_tiny, U_one]
   have := HU.out
   unfold sgq
   rw [if_neg (by grind), if_neg (by grind)]
 have HB5 : Hid (Below w.heap.size w w5) := below_step HB4.out (below_step (below_step (new_below _ _) (new_below _ _)) hb5)
 clear hf1 hf2 hz1 hb5
 go_wp2
 go_ret
 exact ⟨rfl, HB5.out⟩
end Go.Proofs.Ytjcdbbdbmcbjpaa
