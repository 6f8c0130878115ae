/- Own texts, put together: Of Og Oh Aa Ab Oi Oj Cn Ca Cb Cc Cd Ce Cf. -/
import Derived.Test.YtgpbfhennineiaaGreatQ4
import Derived.Test.YtgpbfhennineiaaGreatQ29
import Derived.Test.YtgpbfhennineiaaGreatQ31
namespace Go.Proofs.YtgpbfhennineiaaGreat
/- Package orient: grown, differences as lists. -/
section
open Go.RowKit Go.Shelf
attribute [local go_sem ↓] Go.wp_at_zero Go.wp_at_succ
attribute [local go_sem] run_store_float
def pl (y x : Nat) (k : Nat) : List Nat := if k = 0 then [] else if k = 1 then gw [] y else gw (gw [] y) x
theorem pl_next (y x k : Nat) (hk : k < 2) : pl y x (k + 1) = gw (pl y x k) (if k = 0 then y else x) := by
 have : k = 0 ∨ k = 1 := by omega
 rcases this with rfl | rfl <;> rfl
theorem pl_len (y x k : Nat) : (pl y x k).length ≤ 2 := by
 unfold pl gw
 split
 · simp
 · split
   · split <;> simp
   · split
     · split <;> simp
     · split <;> simp
set_option maxRecDepth 100000 in
set_option maxHeartbeats 2000000 in
theorem grown2_any (g c y x : Nat) (w : World) (h1 : w.cell? ⟨g, 0, none⟩ = some (.float .f64 y)) (h2 : w.cell? ⟨g, 1, none⟩ = some (.float .f64 x)) (hy : y < 18446744073709551616) (hx : x < 18446744073709551616) :
   Calls Tryz.prog 61 #[.slice (some ⟨g, 0, none⟩) 2 c] w fun e w' => (∃ v, e = .returned v ∧ Fr w' w.heap.size v (gw (gw [] y) x)) ∧ Below w.heap.size w w' := by
 have HC : Hid (∀ k, k < 2 → w.cell? ⟨g, k, none⟩ = some (.float .f64 (if k = 0 then y else x))) := fun k hk => by
   have : k = 0 ∨ k = 1 := by omega
   rcases this with rfl | rfl
   · exact h1
   · exact h2
 have HW : Hid (y < 18446744073709551616 ∧ x < 18446744073709551616) := ⟨hy, hx⟩
 clear h1 h2 hy hx
 obtain ⟨i0, hi0, hz0, hz1, hz2⟩ := info_parts infoF
 go_enter Tryz.func61, Tryz.ntmps61
 go_wp2
 go_loopw [3, 8] (fun l i wr => ∃ (k : Nat) (v : Value), k ≤ 2 ∧ i = .int .i64 (k : Nat) ∧ v = l ∧ Hid (Fr wr w.heap.size v (pl y x k) ∧ Below w.heap.size w wr)) (fun _ i _ => 2 - (intOf i).toNat)
 case atStart => exact ⟨0, _, Nat.zero_le _, rfl, rfl, Fr.nil _ _, Below.refl _ _⟩
 case round =>
   obtain ⟨k, v, hk, rfl, rfl, hB⟩ := hrel
   by_cases hlt : k < 2
   · have hlt' : (k : Int) < 2 := by omega
     have hk0 : (0 : Int) ≤ (k : Int) := by omega
     have c1 := box_cell hB.out.2 (HC.out k hlt)
     obtain ⟨z, hz⟩ : ∃ z : Nat, Hid ((if k = 0 then y else x) = z) := ⟨_, rfl⟩
     rw [hz.out] at c1
     have HZ : Hid (z < 18446744073709551616) := by
       rw [← hz.out]
       show (if k = 0 then y else x) < _
       split
       · exact HW.out.1
       · exact HW.out.2
     have q := eql_zero2 z
     by_cases h0 : frung z = 0
     · rw [decide_eq_true h0] at q
       have q' : FloatKind.f64.format.order z 0 = some .eq := by simpa using q
       have HG : Hid (pl y x (k + 1) = pl y x k) := by
         show pl y x (k + 1) = _
         rw [pl_next y x k hlt, hz.out]; unfold gw; rw [if_pos h0]
       clear h0 q
       go_wp2
       exact ⟨⟨k + 1, v, by omega, by go_num, rfl, by rw [HG.out]; exact hB.out⟩, by simp [intOf]; omega⟩
     · rw [decide_eq_false h0] at q
       have HG : Hid (pl y x (k + 1) = pl y x k ++ [z]) := by
         show pl y x (k + 1) = _
         rw [pl_next y x k hlt, hz.out]; unfold gw; rw [if_neg h0]
       have q2 : (FloatKind.f64.format.order z 0 != some .eq) = true := by rw [bne, q]; rfl
       clear h0 q
       go_wp2_with (at_builtin; refine wpList_append_own _ rfl _ _ _ rfl w.heap.size 30 i0 _ 1 8 undF hi0 hz0 hz1 hz2 rfl (by omega) v (pl y x k).length (f64s (pl y x k)) rfl (hB.out.1.own.alloc _) ⟨wr.heap.size, 0, none⟩ 1 1 [.float .f64 z] rfl rfl (World.news_of_block (cs := #[.float .f64 z]) (t := 30) (fr := (0, 0)) (heap_alloc_new wr _)) (by simp [Value.oneCell']) (by unfold maxLen; have := pl_len y x k; omega) (by have := pl_len y x k; omega) (by have := hB.out.2.size; simp; omega) ?_; intro v' w1 hown hgrow hnil)
       have hsz := hB.out.2.size
       refine ⟨⟨k + 1, v', by omega, by go_num, rfl, ?_, ?_⟩, by simp [intOf]; omega⟩
       · rw [HG.out]
         refine ⟨?_, ?_⟩
         · rw [List.length_append]
           simpa [f64s] using hown
         · intro b hb
           rcases List.mem_append.1 hb with hb | hb
           · exact hB.out.1.word b hb
           · rw [List.mem_singleton.1 hb]; exact HZ.out
       · exact (hB.out.2.alloc hsz _).grown hgrow (by simp; omega) (fun k hk => (hB.out.1.own.lt k hk).1)
   · obtain rfl : k = 2 := by omega
     go_wp2
     go_ret
     exact ⟨⟨v, rfl, hB.out.1⟩, hB.out.2⟩
end

/- Package orient: exactSign, Sign. -/
section
open Go.RowKit Go.Shelf
attribute [local go_sem ↓] Go.wp_at_zero Go.wp_at_succ
attribute [local go_sem] run_store_float
structure DL (q : Rat) (bs : List Nat) : Prop where
 may : MayS bs
 sum : (vals bs).sum = q
theorem safe_word {b : Nat} (hf : Fin64 b) (h1 : U 974 ≤ ab (fval b)) (h2 : ab (fval b) ≤ U 1175) : 2580562586483294208 ≤ frung b ∧ frung b ≤ 6633802251116740608 := by
 rw [← ab_fval b hf] at h1 h2
 have f : frung b < 9218868437227405312 := hf
 constructor
 · rcases Nat.lt_or_ge (frung b) 2580562586483294208 with e | e
   · exfalso
     have h3 := fval_lt e (by omega)
     rw [safe_low] at h3
     have h4 := U_lt_iff.2 (show 624 < 974 by omega)
     grind
   · exact e
 · rcases Nat.lt_or_ge 6633802251116740608 (frung b) with e | e
   · exfalso
     have h3 := fval_lt e f
     rw [safe_top, show p2 450 = U 1524 from rfl] at h3
     have h4 := U_lt_iff.2 (show 1175 < 1524 by omega)
     grind
   · exact e
theorem frung_val {b : Nat} : frung b = 0 ↔ fval b = 0 := by
 rw [← fval_zero_iff]
theorem diff_list {a b x y : Nat} (ha : Crd a) (hb : Crd b) (h : Pair (TameW b a) (fval b - fval a) x y) : DL (fval b - fval a) (gw (gw [] y) x) := by
 have hd : TameW b a := ⟨by have := hb.1; omega, by have := ha.1; omega⟩
 obtain ⟨fx, fy, wx, wy, h⟩ := h
 obtain ⟨hr, he⟩ : RV (fval b - fval a) (fval x) ∧ fval x + fval y = fval b - fval a := by
   rcases h with ⟨_, h1, h2⟩ | ⟨h1, _⟩
   · exact ⟨h1, h2⟩
   · exact absurd hd h1
 have hm : M (U 974) (fval b - fval a) := hb.2.sub ha.2
 have hl : ab (fval b - fval a) ≤ U 1175 := by
   have := ab_sub (fval b) (fval a)
   have h1 := crd_ab ha.1
   have h2 := crd_ab hb.1
   have h3 := U_two' 1174
   grind
 have mx := hr.rn.mm hm
 have my : M (U 974) (fval y) := by
   have := hm.sub mx
   rwa [show fval b - fval a - fval x = fval y by grind] at this
 have lx := hr.rn.le hl
 have rel := hr.rn.rel hm
 rw [show fval b - fval a - fval x = fval y by grind] at rel
 have ly : ab (fval y) ≤ U 1175 := by have := ab_nonneg (fval y); grind
 have lo := hr.rn.lo he
 have u := U_pos 974
 have sx : fval x ≠ 0 → 2580562586483294208 ≤ frung x ∧ frung x ≤ 6633802251116740608 := fun h0 => safe_word fx (mx.ge u h0) lx
 have sy : fval y ≠ 0 → 2580562586483294208 ≤ frung y ∧ frung y ≤ 6633802251116740608 := fun h0 => safe_word fy (my.ge u h0) ly
 by_cases x0 : fval x = 0
 · have y0 : fval y = 0 := by
     rw [x0, show ab 0 = 0 by unfold ab; grind] at rel
     exact ab_zero (by have := ab_nonneg (fval y); grind)
   have e : gw (gw [] y) x = [] := by
     unfold gw
     rw [if_pos (frung_val.2 x0), if_pos (frung_val.2 y0)]
   rw [e]
   exact ⟨⟨by simp, fun i hi => by simp at hi⟩, by rw [← he, x0, y0]; show (0 : Rat) = 0 + 0; grind⟩
 · by_cases y0 : fval y = 0
   · have e : gw (gw [] y) x = [x] := by
       unfold gw
       rw [if_neg (fun h => x0 (frung_val.1 h)), if_pos (frung_val.2 y0)]; rfl
     rw [e]
     refine ⟨up_may ⟨by simp [vals], by simp [vals]; exact x0⟩ (by simp) (by simp; exact sx x0), ?_⟩
     rw [← he, y0]
     show fval x + 0 = _
     grind
   · have e : gw (gw [] y) x = [y, x] := by
       unfold gw
       rw [if_neg (fun h => x0 (frung_val.1 h)), if_neg (fun h => y0 (frung_val.1 h))]; rfl
     rw [e]
     refine ⟨up_may ⟨by simp [vals]; exact lo, by simp [vals]; exact ⟨y0, x0⟩⟩ (by simp) (by simp; exact ⟨sy y0, sx x0⟩), ?_⟩
     rw [← he]
     show fval y + (fval x + 0) = _
     grind
set_option maxRecDepth 100000 in
set_option maxHeartbeats 2000000 in
theorem from_any (ba ax ay px py : Nat) (w : World) (h0 : w.cell? ⟨ba, 0, none⟩ = some (.float .f64 ax)) (h1 : w.cell? ⟨ba, 1, none⟩ = some (.float .f64 ay)) (wa : ax < 18446744073709551616 ∧ ay < 18446744073709551616) (wp : px < 18446744073709551616 ∧ py < 18446744073709551616) (ha : Pt ax ay) (hp : Pt px py) :
   Calls Tryz.prog 59 #[pv px py, .pointer (some ⟨ba, 0, none⟩)] w fun e w' => (∃ v1 v2 l1 l2, e = .returned (.tuple #[v1, v2]) ∧ Fr w' w.heap.size v1 l1 ∧ Fr w' w.heap.size v2 l2 ∧ DL (fval px - fval ax) l1 ∧ DL (fval py - fval ay) l2) ∧ Below w.heap.size w w' := by
 have HA : Hid (w.cell? ⟨ba, 0, none⟩ = some (.float .f64 ax) ∧ w.cell? ⟨ba, 1, none⟩ = some (.float .f64 ay)) := ⟨h0, h1⟩
 have HW : Hid ((ax < 18446744073709551616 ∧ ay < 18446744073709551616) ∧ px < 18446744073709551616 ∧ py < 18446744073709551616) := ⟨wa, wp⟩
 have HP : Hid (Pt ax ay ∧ Pt px py) := ⟨ha, hp⟩
 have hbA : Hid (Below w.heap.size w (w.alloc (.cells #[.float .f64 px, .float .f64 py] 32))) := (Below.refl _ w).alloc (Nat.le_refl _) _
 have c0 := box_cell hbA.out h0
 have c1 := box_cell hbA.out h1
 clear h0 h1 wa wp ha hp
 go_enter Tryz.func59, Tryz.ntmps59
 go_wp2_with fail
 refine (diff_pair px ax _ HW.out.2.1 HW.out.1.1).mono ?_
 rintro e w1 ⟨⟨x1, y1, rfl, hp1⟩, hb1⟩
 have c1' := box_cell hb1 c1
 have d1 : w1.cell? ⟨w.heap.size, 1, none⟩ = some (.float .f64 py) := box_cell hb1 (by go_simp)
 have HB1 : Hid (Below w.heap.size w w1) := below_step hbA.out hb1
 have H1 : Hid (Pair (TameW px ax) (fval px - fval ax) x1 y1) := hp1
 clear hp1 hb1 c0 c1 hbA
 go_wp2_with fail
 refine (diff_pair py ay _ HW.out.2.2 HW.out.1.2).mono ?_
 rintro e w2 ⟨⟨x2, y2, rfl, hp2⟩, hb2⟩
 have HB2 : Hid (Below w.heap.size w w2) := below_step HB1.out hb2
 have H2 : Hid (Pair (TameW py ay) (fval py - fval ay) x2 y2) := hp2
 clear hp2 hb2 c1' d1
 go_wp2_with fail
 refine (grown2_any w2.heap.size 2 y1 x1 _ (by go_simp) (by go_simp) H1.out.2.2.2.1 H1.out.2.2.1).mono ?_
 rintro e w3 ⟨⟨v1, rfl, hF1⟩, hb3⟩
 have HB3 : Hid (Below w.heap.size w w3) := below_step (HB2.out.alloc HB2.out.size _) hb3
 have HF1 : Hid (Fr w3 w.heap.size v1 (gw (gw [] y1) x1)) := hF1.mono (by have := HB2.out.size; simp; omega)
 clear hF1 hb3
 go_wp2_with fail
 refine (grown2_any w3.heap.size 2 y2 x2 _ (by go_simp) (by go_simp) H2.out.2.2.2.1 H2.out.2.2.1).mono ?_
 rintro e w4 ⟨⟨v2, rfl, hF2⟩, hb4⟩
 have HB4 : Hid (Below w.heap.size w w4) := below_step (HB3.out.alloc HB3.out.size _) hb4
 have HF2 : Hid (Fr w4 w.heap.size v2 (gw (gw [] y2) x2)) := hF2.mono (by have := HB3.out.size; simp; omega)
 have HF1' : Hid (Fr w4 w.heap.size v1 (gw (gw [] y1) x1)) := HF1.out.later (below_step ((Below.refl _ w3).alloc (Nat.le_refl _) _) hb4)
 clear hF2 hb4 HF1
 go_wp2
 go_ret2
 exact ⟨⟨v1, v2, _, _, rfl, HF1'.out, HF2.out, diff_list HP.out.1.1 HP.out.2.1 H1.out, diff_list HP.out.1.2 HP.out.2.2 H2.out⟩, HB4.out⟩
set_option maxRecDepth 100000 in
set_option maxHeartbeats 2000000 in
theorem exact_any' (ax ay bx by' cx cy : Nat) (w : World) (hw : W6 ax ay bx by' cx cy) (hp : P3 ax ay bx by' cx cy) :
   Calls Tryz.prog 39 #[pv ax ay, pv bx by', pv cx cy] w fun e w' => e = .returned (.int .i64 (sgq (S3 ax ay bx by' cx cy))) ∧ Below w.heap.size w w' := by
 have HW : Hid (W6 ax ay bx by' cx cy) := hw
 have HP : Hid (P3 ax ay bx by' cx cy) := hp
 clear hw hp
 have hS := B3.start w ax ay bx by' cx cy
 have HS : Hid (B3 w (((w.alloc (.cells #[.float .f64 ax, .float .f64 ay] 32)).alloc (.cells #[.float .f64 bx, .float .f64 by'] 32)).alloc (.cells #[.float .f64 cx, .float .f64 cy] 32)) ax ay bx by' cx cy) := hS
 clear hS
 go_enter Tryz.func39, Tryz.ntmps39
 go_wp2_with fail
 refine (from_any w.heap.size ax ay bx by' _ HS.out.a0 HS.out.a1 HW.out.1 HW.out.2.1 HP.out.1 HP.out.2.1).mono ?_
 rintro e w1 ⟨⟨v1, v2, l1, l2, rfl, hF1, hF2, hd1, hd2⟩, hb1⟩
 have H1 : Hid (B3 w w1 ax ay bx by' cx cy) := HS.out.later hb1
 have HL1 : Hid (Fs w1 v1 l1 ∧ Fs w1 v2 l2 ∧ DL (fval bx - fval ax) l1 ∧ DL (fval by' - fval ay) l2) := ⟨hF1.fs, hF2.fs, hd1, hd2⟩
 have c0 := H1.out.c0
 have c1 := H1.out.c1
 clear hF1 hF2 hd1 hd2 hb1
 go_wp2_with fail
 refine (from_any w.heap.size ax ay cx cy _ H1.out.a0 H1.out.a1 HW.out.1 HW.out.2.2 HP.out.1 HP.out.2.2).mono ?_
 rintro e w2 ⟨⟨v3, v4, l3, l4, rfl, hF3, hF4, hd3, hd4⟩, hb2⟩
 have HL2 : Hid (Fs w2 v3 l3 ∧ Fs w2 v4 l4 ∧ DL (fval cx - fval ax) l3 ∧ DL (fval cy - fval ay) l4 ∧ Fs w2 v1 l1 ∧ Fs w2 v2 l2 ∧ Below w.heap.size w w2) := ⟨hF3.fs, hF4.fs, hd3, hd4, HL1.out.1.later hb2, HL1.out.2.1.later hb2, below_step H1.out.bel hb2⟩
 clear hF3 hF4 hd3 hd4 hb2 c0 c1
 go_wp2_with fail
 refine (mulE_any v1 v4 l1 l4 _ HL2.out.2.2.2.2.1 HL2.out.2.1).mono ?_
 rintro e w3 ⟨⟨v5, b5, t5, rfl, hF5, k1, k2, _⟩, hb3⟩
 obtain rfl := k1.2 ⟨HL1.out.2.2.1.may, HL2.out.2.2.2.1.may⟩
 have HL3 : Hid (Fs w3 v5 b5 ∧ SumS ((vals l1).sum * (vals l4).sum) b5 ∧ Fs w3 v2 l2 ∧ Fs w3 v3 l3 ∧ Below w.heap.size w w3) := ⟨hF5.fs, k2 rfl, HL2.out.2.2.2.2.2.1.later hb3, HL2.out.1.later hb3, below_step HL2.out.2.2.2.2.2.2 hb3⟩
 clear hF5 k1 k2 hb3
 go_wp2_with fail
 refine (mulE_any v2 v3 l2 l3 _ HL3.out.2.2.1 HL3.out.2.2.2.1).mono ?_
 rintro e w4 ⟨⟨v6, b6, t6, rfl, hF6, k1, k2, _⟩, hb4⟩
 obtain rfl := k1.2 ⟨HL1.out.2.2.2.may, HL2.out.2.2.1.may⟩
 have HL4 : Hid (Fs w4 v6 b6 ∧ SumS ((vals l2).sum * (vals l3).sum) b6 ∧ Fs w4 v5 b5 ∧ Below w.heap.size w w4) := ⟨hF6.fs, k2 rfl, HL3.out.1.later hb4, below_step HL3.out.2.2.2.2 hb4⟩
 clear hF6 k1 k2 hb4
 go_wp2_with fail
 refine (cmpE_any v5 v6 b5 b6 _ HL4.out.2.2.1 HL4.out.1).mono ?_
 rintro e w5 ⟨⟨z, rfl, hz, _⟩, hb5⟩
 have HZ : Hid (z = sgq (S3 ax ay bx by' cx cy)) := by
   show z = _
   rw [hz HL3.out.2.1.may HL4.out.2.1.may, HL3.out.2.1.sum, HL4.out.2.1.sum, HL1.out.2.2.1.sum, HL1.out.2.2.2.sum, HL2.out.2.2.1.sum, HL2.out.2.2.2.1.sum]
   rfl
 have HB5 : Hid (Below w.heap.size w w5) := below_step HL4.out.2.2.2 hb5
 clear hz hb5
 go_wp2
 go_ret
 exact ⟨by rw [HZ.out]; rfl, HB5.out⟩
noncomputable def sg3 (ax ay bx by' cx cy : Nat) : Int := @ite _ (P3 ax ay bx by' cx cy) (Classical.propDecidable _) (sgq (S3 ax ay bx by' cx cy)) 0
theorem sg3_yes {ax ay bx by' cx cy : Nat} (h : P3 ax ay bx by' cx cy) : sg3 ax ay bx by' cx cy = sgq (S3 ax ay bx by' cx cy) := by unfold sg3; rw [if_pos h]
theorem sg3_no {ax ay bx by' cx cy : Nat} (h : ¬ P3 ax ay bx by' cx cy) : sg3 ax ay bx by' cx cy = 0 := by unfold sg3; rw [if_neg h]
set_option maxRecDepth 100000 in
set_option maxHeartbeats 2000000 in
theorem sign3_any (ax ay bx by' cx cy : Nat) (w : World) (hw : W6 ax ay bx by' cx cy) :
   Calls Tryz.prog 29 #[pv ax ay, pv bx by', pv cx cy] w fun e w' => e = .returned (.int .i64 (sg3 ax ay bx by' cx cy)) ∧ Below w.heap.size w w' := by
 have HW : Hid (W6 ax ay bx by' cx cy) := hw
 clear hw
 have hS := B3.start w ax ay bx by' cx cy
 have HS : Hid (B3 w (((w.alloc (.cells #[.float .f64 ax, .float .f64 ay] 32)).alloc (.cells #[.float .f64 bx, .float .f64 by'] 32)).alloc (.cells #[.float .f64 cx, .float .f64 cy] 32)) ax ay bx by' cx cy) := hS
 clear hS
 go_enter Tryz.func29, Tryz.ntmps29
 go_wp2_with fail
 refine (fast_any ax ay bx by' cx cy _ HW.out).mono ?_
 rintro e w1 ⟨⟨z, t, rfl, hz⟩, hb1⟩
 have H1 : Hid (B3 w w1 ax ay bx by' cx cy) := HS.out.later hb1
 have HZ : Hid (FastR ax ay bx by' cx cy z t) := hz
 clear hz hb1 HS
 obtain ⟨u0, u1, u2, u3, u4, u5, _⟩ := H1.out
 cases t
 · go_wp2_with fail
   refine (has3 ax ay bx by' cx cy _ HW.out).mono ?_
   rintro e w2 ⟨⟨t, rfl, ht⟩, hb2⟩
   have H2 : Hid (B3 w w2 ax ay bx by' cx cy) := H1.out.later hb2
   have HT : Hid (t = true ↔ P3 ax ay bx by' cx cy) := ht
   clear ht hb2 u0 u1 u2 u3 u4 u5
   cases t
   · go_wp2
     go_ret
     exact ⟨by rw [sg3_no (fun h => Bool.noConfusion (HT.out.2 h))]; rfl, H2.out.bel⟩
   · have HP : Hid (P3 ax ay bx by' cx cy) := HT.out.1 rfl
     obtain ⟨u0, u1, u2, u3, u4, u5, _⟩ := H2.out
     go_wp2_with fail
     refine (exact_any' ax ay bx by' cx cy _ HW.out HP.out).mono ?_
     rintro e w3 ⟨rfl, hb3⟩
     have H3 : Hid (Below w.heap.size w w3) := below_step H2.out.bel hb3
     clear hb3
     go_wp2
     go_ret
     exact ⟨by rw [sg3_yes HP.out]; rfl, H3.out⟩
 · go_wp2
   go_ret
   exact ⟨by rw [sg3_yes (HZ.out.1 rfl).1, (HZ.out.1 rfl).2]; rfl, H1.out.bel⟩
end

/- Package orient: On, Cross. -/
section
open Go.RowKit Go.Shelf
attribute [local go_sem ↓] Go.wp_at_zero Go.wp_at_succ
attribute [local go_sem] run_store_float
def Btw (a b x : Rat) : Prop := (a ≤ x ∧ x ≤ b) ∨ (b ≤ x ∧ x ≤ a)
def OnP (ax ay bx by' px py : Nat) : Prop := P3 ax ay bx by' px py ∧ Btw (fval ax) (fval bx) (fval px) ∧ Btw (fval ay) (fval by') (fval py) ∧ S3 ax ay bx by' px py = 0
theorem sgq_zero {q : Rat} : sgq q = 0 ↔ q = 0 := by
 unfold sgq
 constructor
 · intro h
   split at h
   · omega
   · split at h
     · assumption
     · omega
 · intro h
   rw [h]; rfl
end

/- Points in their order, twins, what is unlike, flat lists: plain facts. -/
section
def hold (p q : Nat × Nat) : Int := if fval p.1 < fval q.1 then -1 else if fval q.1 < fval p.1 then 1 else if fval p.2 < fval q.2 then -1 else if fval q.2 < fval p.2 then 1 else 0
def alike (p q : Nat × Nat) : Prop := fval p.1 = fval q.1 ∧ fval p.2 = fval q.2
instance (p q : Nat × Nat) : Decidable (alike p q) := by unfold alike; exact inferInstance
theorem hold_zero {p q : Nat × Nat} : hold p q = 0 ↔ alike p q := by
 unfold hold alike
 split
 · grind
 split
 · grind
 split
 · grind
 split
 · grind
 · constructor
   · intro _; grind
   · intro _; rfl
theorem hold_neg {p q : Nat × Nat} : hold p q < 0 ↔ (fval p.1 < fval q.1 ∨ (fval p.1 = fval q.1 ∧ fval p.2 < fval q.2)) := by
 unfold hold
 split
 · exact ⟨fun _ => Or.inl (by assumption), fun _ => by decide⟩
 split
 · exact ⟨fun h => absurd h (by decide), fun h => by grind⟩
 split
 · exact ⟨fun _ => Or.inr (by grind), fun _ => by decide⟩
 split
 · exact ⟨fun h => absurd h (by decide), fun h => by grind⟩
 · exact ⟨fun h => absurd h (by decide), fun h => by grind⟩
theorem hold_anti (p q : Nat × Nat) : hold q p = - hold p q := by
 unfold hold
 by_cases h1 : fval p.1 < fval q.1
 · have h2 : ¬ fval q.1 < fval p.1 := by grind
   simp [h1, h2]
 · by_cases h2 : fval q.1 < fval p.1
   · simp [h1, h2]
   · by_cases h3 : fval p.2 < fval q.2
     · have h4 : ¬ fval q.2 < fval p.2 := by grind
       simp [h1, h2, h3, h4]
     · by_cases h4 : fval q.2 < fval p.2 <;> simp [h1, h2, h3, h4]
theorem hold_vals (p q : Nat × Nat) : hold p q = -1 ∨ hold p q = 0 ∨ hold p q = 1 := by
 unfold hold
 split
 · exact Or.inl rfl
 split
 · exact Or.inr (Or.inr rfl)
 split
 · exact Or.inl rfl
 split
 · exact Or.inr (Or.inr rfl)
 · exact Or.inr (Or.inl rfl)
theorem hold_self (p : Nat × Nat) : hold p p = 0 := hold_zero.2 ⟨rfl, rfl⟩
theorem alike_symm' {p q : Nat × Nat} (h : alike p q) : alike q p := ⟨h.1.symm, h.2.symm⟩
theorem alike_trans' {p q r : Nat × Nat} (h : alike p q) (h' : alike q r) : alike p r := ⟨h.1.trans h'.1, h.2.trans h'.2⟩
theorem hold_le_lt {p q r : Nat × Nat} (h : hold p q ≤ 0) (h' : hold q r < 0) : hold p r < 0 := by
 rw [hold_neg] at *
 rcases Int.lt_or_eq_of_le h with h | h
 · rw [hold_neg] at h; grind
 · rw [hold_zero] at h; unfold alike at h; grind
theorem hold_lt_le {p q r : Nat × Nat} (h : hold p q < 0) (h' : hold q r ≤ 0) : hold p r < 0 := by
 rw [hold_neg] at *
 rcases Int.lt_or_eq_of_le h' with h' | h'
 · rw [hold_neg] at h'; grind
 · rw [hold_zero] at h'; unfold alike at h'; grind
variable (f : Nat → Nat × Nat)
def ltO (i j : Nat) : Prop := hold (f i) (f j) < 0 ∨ (hold (f i) (f j) = 0 ∧ i < j)
def cfO (i j : Nat) : Int := if hold (f i) (f j) ≠ 0 then hold (f i) (f j) else if i < j then -1 else if j < i then 1 else 0
variable {f}
theorem cfO_neg {i j : Nat} : cfO f i j < 0 ↔ ltO f i j := by
 unfold cfO ltO
 by_cases h : hold (f i) (f j) = 0
 · rw [if_neg (by simp [h]), h]
   by_cases h1 : i < j
   · simp [h1]
   · by_cases h2 : j < i <;> simp [h1, h2]
 · rw [if_pos h]
   simp [h]
theorem ltO_irrefl (i : Nat) : ¬ ltO f i i := by
 unfold ltO
 rw [hold_self]
 simp
theorem ltO_trans {i j k : Nat} (h : ltO f i j) (h' : ltO f j k) : ltO f i k := by
 unfold ltO at *
 rcases h with h | ⟨h, h1⟩ <;> rcases h' with h' | ⟨h', h2⟩
 · exact Or.inl (hold_le_lt (by omega) h')
 · exact Or.inl (hold_lt_le h (by omega))
 · exact Or.inl (hold_le_lt (by omega) h')
 · exact Or.inr ⟨hold_zero.2 (alike_trans' (hold_zero.1 h) (hold_zero.1 h')), by omega⟩
theorem ltO_total {i j : Nat} (h : i ≠ j) : ltO f i j ∨ ltO f j i := by
 unfold ltO
 have e := hold_anti (f i) (f j)
 have := hold_vals (f i) (f j)
 omega
theorem ltO_asymm {i j : Nat} (h : ltO f i j) : ¬ ltO f j i := fun h' => ltO_irrefl i (ltO_trans h h')
variable (f)
structure Ord (n : Nat) (os : List Nat) : Prop where
 perm : os.Perm (List.range n)
 pw : os.Pairwise (ltO f)
variable {f}
theorem Ord.uniq {n : Nat} {a b : List Nat} (h : Ord f n a) (h' : Ord f n b) : a = b :=
 List.Perm.eq_of_pairwise (le := ltO f) (fun _ _ _ _ h1 h2 => absurd h2 (ltO_asymm h1)) h.pw h'.pw (h.perm.trans h'.perm.symm)
theorem Ord.len {n : Nat} {a : List Nat} (h : Ord f n a) : a.length = n := by rw [h.perm.length_eq, List.length_range]
theorem Ord.mem {n : Nat} {a : List Nat} (h : Ord f n a) {i : Nat} : i ∈ a ↔ i < n := by rw [h.perm.mem_iff, List.mem_range]
theorem Ord.lt {n : Nat} {a : List Nat} (h : Ord f n a) {k : Nat} (hk : k < a.length) : a[k] < n := h.mem.1 (List.getElem_mem hk)
structure IsTw (f : Nat → Nat × Nat) (i k : Nat) : Prop where
 le : k ≤ i
 al : alike (f k) (f i)
 least : ∀ j, j < k → ¬ alike (f j) (f i)
theorem IsTw.uniq {i k k' : Nat} (h : IsTw f i k) (h' : IsTw f i k') : k = k' := by
 rcases Nat.lt_trichotomy k k' with e | e | e
 · exact absurd h.al (h'.least _ e)
 · exact e
 · exact absurd h'.al (h.least _ e)
def tw (f : Nat → Nat × Nat) (i : Nat) : Nat := ((List.range i).find? fun k => decide (alike (f k) (f i))).getD i
theorem range_find {p : Nat → Bool} {n k : Nat} (h : (List.range n).find? p = some k) : k < n ∧ p k = true ∧ ∀ j, j < k → p j = false := by
 rw [List.find?_range_eq_some] at h
 exact ⟨by have := h.2.1; simpa using this, h.1, fun j hj => by have := h.2.2 j hj; simpa using this⟩
theorem tw_is (i : Nat) : IsTw f i (tw f i) := by
 unfold tw
 cases h : (List.range i).find? fun k => decide (alike (f k) (f i)) with
 | none =>
   rw [List.find?_range_eq_none] at h
   exact ⟨Nat.le_refl _, ⟨rfl, rfl⟩, fun j hj => by have := h j hj; simpa using this⟩
 | some k =>
   obtain ⟨h1, h2, h3⟩ := range_find h
   exact ⟨Nat.le_of_lt h1, of_decide_eq_true h2, fun j hj => of_decide_eq_false (h3 j hj)⟩
theorem tw_own {i : Nat} : tw f i = i ↔ ∀ j, j < i → ¬ alike (f j) (f i) := by
 constructor
 · intro h j hj
   exact (tw_is (f := f) i).least j (by rw [h]; exact hj)
 · intro h
   exact (tw_is i).uniq ⟨Nat.le_refl _, ⟨rfl, rfl⟩, h⟩
theorem tw_tw (i : Nat) : tw f (tw f i) = tw f i := by
 rw [tw_own]
 intro j hj h
 exact (tw_is (f := f) i).least j hj (alike_trans' h (tw_is i).al)
def cptA (eq : Nat → Nat → Bool) : Nat → List Nat → List Nat
 | _, [] => []
 | p, x :: r => if eq x p then cptA eq x r else x :: cptA eq x r
def cpt (eq : Nat → Nat → Bool) : List Nat → List Nat
 | [] => []
 | x :: r => x :: cptA eq x r
def akO (f : Nat → Nat × Nat) (i j : Nat) : Bool := decide (alike (f i) (f j))
theorem own_step {n : Nat} {pre r : List Nat} {x y : Nat} (h : Ord f n (pre ++ x :: y :: r)) : (tw f y = y) ↔ akO f y x = false := by
 have hp := h.pw
 rw [List.pairwise_append, List.pairwise_cons, List.pairwise_cons] at hp
 obtain ⟨_, ⟨hx, hy, _⟩, hpre⟩ := hp
 have hxy := hx y (by simp)
 have hyn : y < n := h.mem.1 (by simp)
 unfold akO
 rw [tw_own, decide_eq_false_iff_not]
 constructor
 · intro h1 h2
   rcases hxy with e | ⟨_, e⟩
   · rw [hold_zero.2 (alike_symm' h2)] at e; omega
   · exact h1 x e (alike_symm' h2)
 · intro h1 j hj h2
   have hm : j ∈ pre ++ x :: y :: r := h.mem.2 (by omega)
   have hl : ltO f j y := Or.inr ⟨hold_zero.2 h2, hj⟩
   simp only [List.mem_append, List.mem_cons] at hm
   rcases hm with e | e | e | e
   · have h3 := hpre j e x (by simp)
     have h4 : hold (f j) (f x) ≤ 0 := by rcases h3 with a | ⟨a, _⟩ <;> omega
     rcases hxy with a | ⟨a, _⟩
     · have := hold_le_lt h4 a
       rw [hold_zero.2 h2] at this; omega
     · exact h1 (alike_symm' (hold_zero.1 a))
   · subst e; exact h1 (alike_symm' h2)
   · omega
   · exact ltO_asymm hl (hy j e)
theorem cptA_own {n : Nat} (r : List Nat) : ∀ (pre : List Nat) (x : Nat), Ord f n (pre ++ x :: r) → cptA (akO f) x r = r.filter fun i => decide (tw f i = i) := by
 induction r with
 | nil => intro _ _ _; rfl
 | cons y r ih =>
   intro pre x h
   have h1 := own_step h
   have h2 := ih (pre ++ [x]) y (by simpa using h)
   rw [cptA, List.filter_cons, h2]
   cases e : akO f y x with
   | false => rw [e] at h1; simp [h1]
   | true => rw [e] at h1; simp [h1]
theorem cpt_own {n : Nat} {os : List Nat} (h : Ord f n os) : cpt (akO f) os = os.filter fun i => decide (tw f i = i) := by
 cases os with
 | nil => rfl
 | cons x r =>
   have hx : tw f x = x := by
     rw [tw_own]
     intro j hj h2
     have hxn : x < n := h.mem.1 (by simp)
     have hm : j ∈ x :: r := h.mem.2 (by omega)
     have hl : ltO f j x := Or.inr ⟨hold_zero.2 h2, hj⟩
     rw [List.mem_cons] at hm
     rcases hm with e | e
     · omega
     · exact ltO_asymm hl (List.rel_of_pairwise_cons h.pw e)
   rw [cpt, cptA_own r [] x h, List.filter_cons]
   simp [hx]
def S3p (p q r : Nat × Nat) : Rat := S3 p.1 p.2 q.1 q.2 r.1 r.2
theorem line3 {a b p q r : Nat × Nat} (h : ¬ alike a b) (hp : S3p a b p = 0) (hq : S3p a b q = 0) (hr : S3p a b r = 0) : S3p p q r = 0 := by
 unfold S3p S3 alike at *
 generalize fval a.1 = a1 at *; generalize fval a.2 = a2 at *
 generalize fval b.1 = b1 at *; generalize fval b.2 = b2 at *
 generalize fval p.1 = p1 at *; generalize fval p.2 = p2 at *
 generalize fval q.1 = q1 at *; generalize fval q.2 = q2 at *
 generalize fval r.1 = r1 at *; generalize fval r.2 = r2 at *
 by_cases e : a1 = b1
 · have e2 : b2 - a2 ≠ 0 := by intro h2; exact h ⟨e, by grind⟩
   have k : (b2 - a2) * ((q1 - p1) * (r2 - p2) - (q2 - p2) * (r1 - p1)) = 0 := by grind
   rcases Rat.mul_eq_zero.1 k with k | k
   · exact absurd k e2
   · exact k
 · have e2 : b1 - a1 ≠ 0 := by intro h2; exact e (by grind)
   have k : (b1 - a1) * ((q1 - p1) * (r2 - p2) - (q2 - p2) * (r1 - p1)) = 0 := by grind
   rcases Rat.mul_eq_zero.1 k with k | k
   · exact absurd k e2
   · exact k
theorem line_alike {a b p : Nat × Nat} (h : alike a p) : S3p a b p = 0 := by
 unfold S3p S3
 obtain ⟨h1, h2⟩ := h
 rw [h1, h2]; grind
def FlatP (f : Nat → Nat × Nat) (n : Nat) : Prop := ∀ i j k, i < n → j < n → k < n → S3p (f i) (f j) (f k) = 0
theorem flat_alike {n : Nat} (h : ∀ j, j < n → alike (f 0) (f j)) : FlatP f n := fun i j k hi hj hk => by
 have h1 := h i hi
 have h2 := h j hj
 have h3 := h k hk
 unfold S3p S3
 rw [← h1.1, ← h1.2, ← h2.1, ← h2.2, ← h3.1, ← h3.2]; grind
theorem flat_line {n s t : Nat} (ht : t < n) (hs : s < n) (h : ¬ alike (f t) (f s)) : FlatP f n ↔ ∀ k, k < n → S3p (f t) (f s) (f k) = 0 :=
 ⟨fun H k hk => H t s k ht hs hk, fun H i j k hi hj hk => line3 h (H i hi) (H j hj) (H k hk)⟩
end

/- Package admit: which points and lists may be. -/
section
open Go.RowKit Go.Shelf
attribute [local go_sem ↓] Go.wp_at_zero Go.wp_at_succ
attribute [local go_sem] run_store_float
def WdP (p : Nat × Nat) : Prop := p.1 < 18446744073709551616 ∧ p.2 < 18446744073709551616
abbrev PtP (p : Nat × Nat) : Prop := Pt p.1 p.2
structure Ps (w : World) (s : Value) (n : Nat) (f : Nat → Nat × Nat) : Prop where
 form : ∃ a c, s = .slice a n c ∧ n ≤ c ∧ c ≤ 9223372036854775807 ∧ (n = 0 ∨ ∃ g off, a = some ⟨g, off, none⟩ ∧ g < w.heap.size ∧ ∀ k, k < n → w.cell? ⟨g, off + k * 2, none⟩ = some (.float .f64 (f k).1) ∧ w.cell? ⟨g, off + k * 2 + 1, none⟩ = some (.float .f64 (f k).2))
 word : ∀ k, WdP (f k)
theorem Ps.later {w w' : World} {s : Value} {n : Nat} {f : Nat → Nat × Nat} (h : Ps w s n f) (hb : Below w.heap.size w w') : Ps w' s n f := by
 obtain ⟨⟨a, c, hs, hc, hm, hf⟩, h2⟩ := h
 refine ⟨⟨a, c, hs, hc, hm, ?_⟩, h2⟩
 rcases hf with hf | ⟨g, off, ha, hg, hf⟩
 · exact Or.inl hf
 · exact Or.inr ⟨g, off, ha, Nat.lt_of_lt_of_le hg hb.size, fun k hk => ⟨box_cell hb (hf k hk).1, box_cell hb (hf k hk).2⟩⟩
theorem Ps.shape {w : World} {s : Value} {n : Nat} {f : Nat → Nat × Nat} (h : Ps w s n f) : ∃ a c, s = .slice a n c ∧ n ≤ c ∧ c ≤ 9223372036854775807 := by
 obtain ⟨⟨a, c, h, hc, hm, _⟩, _⟩ := h
 exact ⟨a, c, h, hc, hm⟩
theorem Ps.some {w : World} {n c : Nat} {a : Option Addr} {f : Nat → Nat × Nat} (h : Ps w (.slice a n c) n f) (hn : 0 < n) : ∃ g off, a = some ⟨g, off, none⟩ ∧ g < w.heap.size ∧ ∀ k, k < n → w.cell? ⟨g, off + k * 2, none⟩ = some (.float .f64 (f k).1) ∧ w.cell? ⟨g, off + k * 2 + 1, none⟩ = some (.float .f64 (f k).2) := by
 obtain ⟨⟨a', c', e, hc, hm, hf⟩, _⟩ := h
 cases e
 rcases hf with hf | hf
 · omega
 · exact hf
theorem has1 (ax ay : Nat) (w : World) (hw : WdP (ax, ay)) :
   Calls Tryz.prog 32 #[.slice (some ⟨w.heap.size, 0, none⟩) 1 1] (w.alloc (.cells #[.float .f64 ax, .float .f64 ay] 32)) fun e w' => (∃ t, e = .returned (.bool t) ∧ (t = true ↔ Pt ax ay)) ∧ Below w.heap.size w w' := by
 have hb : Below w.heap.size w (w.alloc (.cells #[.float .f64 ax, .float .f64 ay] 32)) := (Below.refl _ w).alloc (Nat.le_refl _) _
 refine (has_walk w.heap.size 1 1 (fun _ => ax) (fun _ => ay) _ (fun k hk => ?_) (fun k => hw) (by omega)).mono ?_
 · obtain rfl : k = 0 := by omega
   exact ⟨by go_simp, by go_simp⟩
 · rintro e w' ⟨⟨t, rfl, ht⟩, hb'⟩
   refine ⟨⟨t, rfl, ?_⟩, below_step hb hb'⟩
   rw [ht]
   exact ⟨fun h => h 0 (by omega), fun h j hj => h⟩
set_option maxRecDepth 100000 in
theorem may1_any (x y : Nat) (w : World) (hw : WdP (x, y)) : Calls Tryz.prog 15 #[pv x y] w fun e w' => (∃ t, e = .returned (.bool t) ∧ (t = true ↔ Pt x y)) ∧ Below w.heap.size w w' := by
 have HW : Hid (WdP (x, y)) := hw
 clear hw
 go_enter Tryz.func15, Tryz.ntmps15
 go_wp2_with fail
 have hb : Below w.heap.size w (w.alloc (.cells #[.float .f64 x, .float .f64 y] 32)) := (Below.refl _ w).alloc (Nat.le_refl _) _
 have hh := has1 x y (w.alloc (.cells #[.float .f64 x, .float .f64 y] 32)) HW.out
 have e1 : (w.alloc (.cells #[.float .f64 x, .float .f64 y] 32)).heap.size = w.heap.size + 1 := by simp
 rw [e1] at hh
 refine hh.mono ?_
 rintro e w' ⟨⟨t, rfl, ht⟩, hb'⟩
 have HT : Hid (t = true ↔ Pt x y) := ht
 have HB : Hid (Below w.heap.size w w') := hb.trans (hb'.mono (by simp))
 clear ht hb hb' hh e1
 go_wp2
 go_ret
 exact ⟨⟨t, rfl, HT.out⟩, HB.out⟩
def AllR (n : Nat) (f : Nat → Nat × Nat) (z e : Int) : Prop :=
 (1048576 < n ∧ z = 0 ∧ e = 3) ∨ (n ≤ 1048576 ∧ (∀ k, k < n → PtP (f k)) ∧ z = 0 ∧ e = 0) ∨ (n ≤ 1048576 ∧ ∃ k : Nat, k < n ∧ ¬ PtP (f k) ∧ (∀ j, j < k → PtP (f j)) ∧ z = (k : Nat) ∧ e = 10)
def MayL (n : Nat) (f : Nat → Nat × Nat) : Prop := n ≤ 1048576 ∧ ∀ k, k < n → PtP (f k)
theorem AllR.ok {n : Nat} {f : Nat → Nat × Nat} {z e : Int} (h : AllR n f z e) : e = 0 ↔ MayL n f := by
 rcases h with ⟨h1, rfl, rfl⟩ | ⟨h1, h2, rfl, rfl⟩ | ⟨h1, k, hk, h2, _, rfl, rfl⟩
 · exact ⟨fun h => by omega, fun h => by have := h.1; omega⟩
 · exact ⟨fun _ => ⟨h1, h2⟩, fun _ => rfl⟩
 · exact ⟨fun h => by omega, fun h => absurd (h.2 k hk) h2⟩
theorem AllR.fun' {n : Nat} {f : Nat → Nat × Nat} {z e z' e' : Int} (h : AllR n f z e) (h' : AllR n f z' e') : z = z' ∧ e = e' := by
 rcases h with ⟨h1, rfl, rfl⟩ | ⟨h1, h2, rfl, rfl⟩ | ⟨h1, k, hk, h2, h3, rfl, rfl⟩ <;> rcases h' with ⟨g1, rfl, rfl⟩ | ⟨g1, g2, rfl, rfl⟩ | ⟨g1, j, hj, g2, g3, rfl, rfl⟩
 · exact ⟨rfl, rfl⟩
 · omega
 · omega
 · omega
 · exact ⟨rfl, rfl⟩
 · exact absurd (h2 j hj) g2
 · omega
 · exact absurd (g2 k hk) h2
 · refine ⟨?_, rfl⟩
   rcases Nat.lt_trichotomy k j with e | e | e
   · exact absurd (g3 k e) h2
   · rw [e]
   · exact absurd (h3 j e) g2
set_option maxRecDepth 100000 in
set_option maxHeartbeats 2000000 in
theorem all_any (s : Value) (n : Nat) (f : Nat → Nat × Nat) (w : World) (h : Ps w s n f) : Calls Tryz.prog 4 #[s] w fun e w' => (∃ z r, e = .returned (.tuple #[.int .i64 z, .int .i64 r]) ∧ AllR n f z r) ∧ Below w.heap.size w w' := by
 obtain ⟨a, c, rfl, hc, hm⟩ := h.shape
 have HF : Hid (Ps w (.slice a n c) n f) := h
 clear h
 by_cases hbig : 1048576 < n
 · have hbig' : (1048576 : Int) < (n : Int) := by omega
   have HB : Hid (1048576 < n) := hbig
   clear hbig
   go_enter Tryz.func4, Tryz.ntmps4
   go_wp2
   go_ret2
   exact ⟨⟨0, 3, rfl, Or.inl ⟨HB.out, rfl, rfl⟩⟩, Below.refl _ _⟩
 · have hbig' : ¬ (1048576 : Int) < (n : Int) := by omega
   have hle : n ≤ 1048576 := by omega
   clear hbig
   go_enter Tryz.func4, Tryz.ntmps4
   go_wp2
   go_loopw [11] (fun i wr => ∃ k : Nat, k ≤ n ∧ i = .int .i64 (k : Nat) ∧ Hid (Below w.heap.size w wr ∧ ∀ j, j < k → PtP (f j))) (fun i _ => n - (intOf i).toNat)
   case atStart => exact ⟨0, Nat.zero_le _, rfl, Below.refl _ _, fun j hj => by omega⟩
   case round =>
     obtain ⟨k, hk, rfl, hB⟩ := hrel
     by_cases hlt : k < n
     · have hlt' : (k : Int) < (n : Int) := by omega
       have hk0 : (0 : Int) ≤ (k : Int) := by omega
       obtain ⟨g, off, rfl, hg, hcell⟩ := HF.out.some (by omega)
       have c1 := box_cell hB.out.1 (hcell k hlt).1
       have c2 := box_cell hB.out.1 (hcell k hlt).2
       obtain ⟨x, hx⟩ : ∃ x : Nat, Hid ((f k).1 = x) := ⟨_, rfl⟩
       obtain ⟨y, hy⟩ : ∃ y : Nat, Hid ((f k).2 = y) := ⟨_, rfl⟩
       rw [hx.out] at c1
       rw [hy.out] at c2
       have HX : Hid (WdP (x, y)) := by rw [← hx.out, ← hy.out]; exact HF.out.word k
       have HP : Hid (PtP (f k) ↔ Pt x y) := by rw [← hx.out, ← hy.out]; exact Iff.rfl
       have HS : Hid (g < wr.heap.size) := Nat.lt_of_lt_of_le hg hB.out.1.size
       clear hcell hx hy
       go_wp2_with fail
       refine (may1_any x y _ HX.out).mono ?_
       rintro e w1 ⟨⟨t, rfl, ht⟩, hb1⟩
       have HB1 : Hid (Below w.heap.size w w1) := below_step (hB.out.1.alloc hB.out.1.size _) hb1
       have HT : Hid (t = true ↔ Pt x y) := ht
       clear ht hb1 c1 c2
       cases t
       · go_wp2
         go_ret2
         exact ⟨⟨k, 10, rfl, Or.inr (Or.inr ⟨hle, k, hlt, fun h => Bool.noConfusion (HT.out.2 (HP.out.1 h)), hB.out.2, rfl, rfl⟩)⟩, HB1.out⟩
       · have HQ : Hid (Pt x y) := HT.out.1 rfl
         go_wp2
         refine ⟨⟨k + 1, by omega, by go_num, HB1.out, fun j hj => ?_⟩, by simp [intOf]; omega⟩
         by_cases e : j = k
         · rw [e]; exact HP.out.2 HQ.out
         · exact hB.out.2 j (by omega)
     · obtain rfl : k = n := by omega
       have hltb : decide ((k : Int) < (k : Int)) = false := decide_eq_false (by omega)
       go_wp2
       go_ret2
       exact ⟨⟨0, 0, rfl, Or.inr (Or.inl ⟨hle, hB.out.2, rfl, rfl⟩)⟩, hB.out.1⟩
set_option maxRecDepth 100000 in
theorem allMay_any (s : Value) (n : Nat) (f : Nat → Nat × Nat) (w : World) (h : Ps w s n f) : Calls Tryz.prog 17 #[s] w fun e w' => (∃ t, e = .returned (.bool t) ∧ (t = true ↔ MayL n f)) ∧ Below w.heap.size w w' := by
 have HF : Hid (Ps w s n f) := h
 obtain ⟨a, c, rfl, hc, hm⟩ := h.shape
 clear h
 go_enter Tryz.func17, Tryz.ntmps17
 go_wp2_with fail
 refine (all_any _ n f w HF.out).mono ?_
 rintro e w1 ⟨⟨z, r, rfl, hr⟩, hb⟩
 have HR : Hid (r = 0 ↔ MayL n f) := hr.ok
 have HB : Hid (Below w.heap.size w w1) := hb
 clear hr hb
 by_cases hz : r = 0
 · have HM : Hid (MayL n f) := HR.out.1 hz
   subst hz
   go_wp2
   go_ret
   exact ⟨⟨true, rfl, fun _ => HM.out, fun _ => rfl⟩, HB.out⟩
 · have HM : Hid (¬ MayL n f) := fun h => hz (HR.out.2 h)
   have hz' : (r == 0) = false := by simp [hz]
   go_wp2
   go_ret
   exact ⟨⟨false, rfl, fun h => Bool.noConfusion h, fun h => absurd h HM.out⟩, HB.out⟩
end

/- Package orient: Cross. -/
section
open Go.RowKit Go.Shelf
end

/- Which points may be, by reckoning. -/
section
theorem den_one {q : Rat} : q.den = 1 ↔ ∃ k : Int, q = (k : Rat) := by
 constructor
 · intro h
   refine ⟨q.num, ?_⟩
   apply Rat.ext
   · simp
   · simp [h]
 · rintro ⟨k, rfl⟩
   simp
theorem crd_iff (x : Nat) : Crd x ↔ frung x ≤ 5057542381537067008 ∧ (fval x * U 1174).den = 1 := by
 unfold Crd
 rw [den_one, ← M_one, steps_one]
instance (x : Nat) : Decidable (Crd x) := decidable_of_iff _ (crd_iff x).symm
instance (x y : Nat) : Decidable (Pt x y) := by unfold Pt; exact inferInstance
instance (ax ay bx by' cx cy : Nat) : Decidable (P3 ax ay bx by' cx cy) := by unfold P3; exact inferInstance
instance (a b x : Rat) : Decidable (Btw a b x) := by unfold Btw; exact inferInstance
instance (ax ay bx by' cx cy : Nat) : Decidable (OnP ax ay bx by' cx cy) := by unfold OnP; exact inferInstance
end

/- The document's side of layer 5: which points may be. -/
section
open Go.RowKit Go.Shelf
attribute [local go_sem] run_store_float
theorem odd_unit {q : Rat} {l m : Int} (h : q = (m : Rat) * p2 l) (hm : m % 2 = 1) : -100 ≤ l ↔ M (U 974) q := by
 have e974 : U 974 = p2 (-100) := rfl
 rw [e974]
 constructor
 · intro hl
   refine ⟨m * ((2 ^ (l + 100).toNat : Nat) : Int), ?_⟩
   rw [h, Rat.intCast_mul, show (((2 ^ (l + 100).toNat : Nat) : Int) : Rat) = ((2 ^ (l + 100).toNat : Nat) : Rat) from rfl, ← p2_nat, Rat.mul_assoc, ← p2_add, show (((l + 100).toNat : Nat) : Int) + -100 = l by omega]
 · rintro ⟨k, hk⟩
   apply Classical.byContradiction
   intro hn
   obtain ⟨j, hj⟩ : ∃ j : Nat, -100 = l + 1 + (j : Int) := ⟨(-101 - l).toNat, by omega⟩
   have e : p2 (-100) = 2 * ((2 ^ j : Nat) : Rat) * p2 l := by
     rw [hj, p2_add, p2_add, p2_nat, p2_one]; grind
   rw [e] at hk
   have h2 : (m : Rat) * p2 l = ((k * (2 * ((2 ^ j : Nat) : Int)) : Int) : Rat) * p2 l := by
     rw [← h, hk, Rat.intCast_mul, Rat.intCast_mul, show (((2 ^ j : Nat) : Int) : Rat) = ((2 ^ j : Nat) : Rat) from rfl, show ((2 : Int) : Rat) = 2 from rfl]
     grind
   have h3 := int_eq (p2_pos l) h2
   have h4 : k * (2 * ((2 ^ j : Nat) : Int)) = 2 * (k * ((2 ^ j : Nat) : Int)) := by
     rw [← Int.mul_assoc, Int.mul_comm k 2, Int.mul_assoc]
   rw [h4] at h3
   omega
theorem crd_top {x : Nat} (hf : Fin64 x) : frung x ≤ 5057542381537067008 ↔ ab (fval x) ≤ U 1174 := by
 constructor
 · exact crd_ab
 · intro h
   rcases Nat.lt_or_ge 5057542381537067008 (frung x) with h1 | h1
   · exfalso
     have f : frung x < 9218868437227405312 := hf
     have := fval_lt h1 f
     rw [top100, ab_fval x hf] at this
     grind
   · exact h1
theorem sgq_nonpos {q : Rat} : sgq q ≤ 0 ↔ q ≤ 0 := by
 unfold sgq
 constructor
 · intro h
   split at h
   · grind
   · split at h
     · grind
     · omega
 · intro h
   split
   · omega
   · split
     · omega
     · grind
set_option maxRecDepth 100000 in
set_option maxHeartbeats 2000000 in
theorem coord_any (x : Nat) (w : World) (hx : x < 18446744073709551616) : Calls Tryz.prog 33 #[.float .f64 x] w fun e w' => (∃ t, e = .returned (.bool t) ∧ (t = true ↔ Crd x)) ∧ Below w.heap.size w w' := by
 rcases Nat.lt_trichotomy (frung x) 9218868437227405312 with hf | hf | hf
 · have fx : Fin64 x := hf
   obtain ⟨z, hz1, hz2⟩ := self_sub fx
   have rs : ∀ w, (binOp .sub 30 (.float .f64 x) (.float .f64 x)).run Tryz.prog w = .ok (.float .f64 z) w := fun w => run_float_arith w .sub _ .f64 _ _ _ hz1
   have q0 := order_nan_self fx
   have q1 := eql_zero2 x
   have HX : Hid (x < 18446744073709551616 ∧ Fin64 x) := ⟨hx, fx⟩
   clear hz1 hx hf fx
   by_cases h0 : frung x = 0
   · rw [decide_eq_true h0] at q1
     have HC : Hid (Crd x) := ⟨by omega, by rw [fval_zero_iff.2 h0]; exact M_zero _⟩
     clear h0
     go_enter Tryz.func33, Tryz.ntmps33
     go_wp2
     go_ret
     exact ⟨⟨true, rfl, fun _ => HC.out, fun _ => rfl⟩, Below.refl _ _⟩
   · rw [decide_eq_false h0] at q1
     have HN0 : Hid (fval x ≠ 0) := fun h => h0 (fval_zero_iff.1 h)
     clear h0
     go_enter Tryz.func33, Tryz.ntmps33
     go_wp2_with fail
     refine (refOf_any x _ HX.out.1).mono ?_
     rintro e w1 ⟨v1, rfl, hr1, hb1⟩
     obtain ⟨S1, a1, n1, c1, E1, rfl⟩ := hr1.agg
     rw [den_fin HX.out.2] at hr1
     have HB1 : Hid (Below w.heap.size w w1) := hb1
     have R1 : Hid (Rf w1 (.agg #[.int .i64 S1, .slice a1 n1 c1, .int .i64 E1]) (fval x)) := hr1
     have HFT : Hid (Fit (fval x)) := by have := den_Fit x; rwa [den_fin HX.out.2] at this
     clear hr1 hb1 rs q0 hz2
     have HAL : Hid (Below w1.heap.size w1 (w1.alloc (.cells #[.int .i64 S1, .slice a1 n1 c1, .int .i64 E1] 55))) := (Below.refl _ w1).alloc (Nat.le_refl _) _
     go_wp2_with fail
     refine (abs_rf _ (fval x) _ (R1.out.later HAL.out)).mono ?_
     rintro e w2 ⟨v2, rfl, hr2, hb2⟩
     have HB2 : Hid (Below w1.heap.size w1 w2) := below_step HAL.out hb2
     have R2 : Hid (Rf w2 v2 (if fval x < 0 then -fval x else fval x)) := hr2
     have X2 : Hid (BoxN w2 w1.heap.size S1 (.slice a1 n1 c1) E1) := (BoxN.new w1 S1 E1 (.slice a1 n1 c1)).later hb2
     clear hr2 hb2
     go_wp2_with fail
     refine (power_walk 1 100 _ (by omega) (by omega) (by omega)).mono ?_
     rintro e w3 ⟨v3, rfl, hr3, hb3⟩
     have R3 : Hid (Rf w3 v3 (((1 : Nat) : Rat) * p2 100) ∧ Rf w3 v2 (if fval x < 0 then -fval x else fval x)) := ⟨hr3, R2.out.later hb3⟩
     have HB3 : Hid (Below w1.heap.size w1 w3) := below_step HB2.out hb3
     have X3 : Hid (BoxN w3 w1.heap.size S1 (.slice a1 n1 c1) E1) := X2.out.later hb3
     clear hr3 hb3 R2 X2
     obtain ⟨A, hA⟩ : ∃ A, Hid (sgq ((if fval x < 0 then -fval x else fval x) - ((1 : Nat) : Rat) * p2 100) = A) := ⟨_, rfl⟩
     have HA : Hid (A ≤ 0 ↔ frung x ≤ 5057542381537067008) := by
       show A ≤ 0 ↔ _
       rw [← hA.out, sgq_nonpos, crd_top HX.out.2, show U 1174 = p2 100 from rfl, show ((1 : Nat) : Rat) = 1 from rfl]
       show ab (fval x) - 1 * p2 100 ≤ 0 ↔ ab (fval x) ≤ p2 100
       constructor <;> intro h <;> grind
     have HF1 : Hid (Fit (if fval x < 0 then -fval x else fval x)) := by
       show Fit _
       split
       · exact HFT.out.neg
       · exact HFT.out
     go_wp2_with fail
     refine (cmp_is _ _ (if fval x < 0 then -fval x else fval x) (((1 : Nat) : Rat) * p2 100) A _ R3.out.2 R3.out.1 HF1.out (pow_fit 1 100 (by omega) (by omega) (by omega)) hA.out).mono ?_
     rintro e w4 ⟨rfl, hb4⟩
     have HB4 : Hid (Below w1.heap.size w1 w4) := below_step HB3.out hb4
     obtain ⟨x0, x1, x2, _, _⟩ := (X3.out.later hb4).cells
     clear hb4 R3 X3
     by_cases hA0 : A ≤ 0
     · go_wp2_with fail
       refine (low_rf _ (fval x) _ (R1.out.later HB4.out) HN0.out HFT.out).mono ?_
       rintro e w5 ⟨⟨l, m, rfl, hl, hm⟩, hb5⟩
       have HB5 : Hid (Below w.heap.size w w5) := below_step (below_step HB1.out HB4.out) hb5
       have HR : Hid (-100 ≤ l ↔ Crd x) := by
         show -100 ≤ l ↔ Crd x
         rw [odd_unit hl hm]
         exact ⟨fun h => ⟨HA.out.1 hA0, h⟩, fun h => h.2⟩
       clear hl hm hb5 x0 x1 x2
       go_wp2
       go_ret
       exact ⟨⟨decide (-100 ≤ l), rfl, by rw [decide_eq_true_iff]; exact HR.out⟩, HB5.out⟩
     · have dA : decide (A ≤ 0) = false := decide_eq_false hA0
       have HR : Hid (¬ Crd x) := fun h => hA0 (HA.out.2 h.1)
       have HB5 : Hid (Below w.heap.size w w4) := below_step HB1.out HB4.out
       clear hA0 x0 x1 x2
       go_wp2
       go_ret
       exact ⟨⟨false, rfl, fun h => Bool.noConfusion h, fun h => absurd h HR.out⟩, HB5.out⟩
 · have HN : Hid (¬ Crd x) := fun h => by have := h.1; omega
   have hx2 : x = 9218868437227405312 ∨ x = 18442240474082181120 := by unfold frung at hf; omega
   have q0 : FloatKind.f64.format.order x x = some .eq := by rcases hx2 with rfl | rfl <;> decide +kernel
   have h2 : floatBits .sub .f64 x x = none := by rcases hx2 with rfl | rfl <;> decide +kernel
   clear hx2
   have rs := run_sub_nan x x h2
   have h3 : ∀ w, FloatKind.f64.format.order (nanW x x w) 0 = none := fun w => nan_order (nanW_nan x x w).1 0
   clear h2 hf hx
   go_enter Tryz.func33, Tryz.ntmps33
   go_wp2
   go_ret
   exact ⟨⟨false, rfl, fun h => Bool.noConfusion h, fun h => absurd h HN.out⟩, (Below.refl _ _).drew⟩
 · have HN : Hid (¬ Crd x) := fun h => by have := h.1; omega
   have q0 : FloatKind.f64.format.order x x = none := order_nan_left hf
   clear hf hx
   go_enter Tryz.func33, Tryz.ntmps33
   go_wp2
   go_ret
   exact ⟨⟨false, rfl, fun h => Bool.noConfusion h, fun h => absurd h HN.out⟩, Below.refl _ _⟩
set_option maxRecDepth 100000 in
set_option maxHeartbeats 1000000 in
theorem may_any (x y : Nat) (w : World) (hw : x < 18446744073709551616 ∧ y < 18446744073709551616) : Calls Tryz.prog 16 #[pv x y] w fun e w' => (∃ t, e = .returned (.bool t) ∧ (t = true ↔ Pt x y)) ∧ Below w.heap.size w w' := by
 have HW : Hid (x < 18446744073709551616 ∧ y < 18446744073709551616) := hw
 have HAL : Hid (Below w.heap.size w (w.alloc (.cells #[.float .f64 x, .float .f64 y] 32))) := (Below.refl _ w).alloc (Nat.le_refl _) _
 clear hw
 go_enter Tryz.func16, Tryz.ntmps16
 go_wp2_with fail
 refine (coord_any x _ HW.out.1).mono ?_
 rintro e w1 ⟨⟨t, rfl, ht⟩, hb1⟩
 have d1 : w1.cell? ⟨w.heap.size, 1, none⟩ = some (.float .f64 y) := box_cell hb1 (by go_simp)
 have HB1 : Hid (Below w.heap.size w w1) := below_step HAL.out hb1
 have HT : Hid (t = true ↔ Crd x) := ht
 clear ht hb1
 cases t
 · go_wp2
   go_ret
   exact ⟨⟨false, rfl, fun h => Bool.noConfusion h, fun h => Bool.noConfusion (HT.out.2 h.1)⟩, HB1.out⟩
 · have HX : Hid (Crd x) := HT.out.1 rfl
   go_wp2_with fail
   refine (coord_any y _ HW.out.2).mono ?_
   rintro e w2 ⟨⟨t, rfl, ht⟩, hb2⟩
   have HB2 : Hid (Below w.heap.size w w2) := below_step HB1.out hb2
   have HR : Hid (t = true ↔ Pt x y) := by
     show t = true ↔ _
     rw [ht]
     exact ⟨fun h => ⟨HX.out, h⟩, fun h => h.2⟩
   clear ht hb2 d1
   go_wp2
   go_ret
   exact ⟨⟨t, rfl, HR.out⟩, HB2.out⟩
end

/- Circles: what floats tell of a sum of four points: plain facts. -/
section
theorem U1074 : U 1074 = 1 := by unfold U; exact p2_zero
theorem RN.m1 {q x : Rat} (h : RN q x) (hm : M 1 q) : M 1 x := by
 have := h.mm (t := 1074) (by rw [U1074]; exact hm)
 rwa [U1074] at this
theorem M1.mul {x y : Rat} (h1 : M 1 x) (h2 : M 1 y) : M 1 (x * y) := by
 have := M.mul h1 h2
 rwa [Rat.mul_one] at this
def det3 (x0 y0 x1 y1 x2 y2 : Rat) : Rat := (x0 * x0 + y0 * y0) * (x1 * y2 - y1 * x2) + (x1 * x1 + y1 * y1) * (x2 * y0 - y2 * x0) + (x2 * x2 + y2 * y2) * (x0 * y1 - y0 * x1)
def S4 (ax ay bx by' cx cy dx dy : Nat) : Rat := det3 (fval ax - fval dx) (fval ay - fval dy) (fval bx - fval dx) (fval by' - fval dy) (fval cx - fval dx) (fval cy - fval dy)
theorem Ex.mult {l : List Rat} {t : Nat} (h : Ex l) (hm : M (U t) l.sum) : ∀ x ∈ l, M (U t) x := by
 induction l with
 | nil => intro x hx; cases hx
 | cons x r ih =>
   obtain ⟨hp, h0⟩ := h
   rw [List.pairwise_cons] at hp
   rw [List.sum_cons] at hm
   have er : Ex r := ⟨hp.2, fun y hy => h0 y (by simp [hy])⟩
   have mx : M (U t) x := by
     by_cases hne : r = []
     · subst hne
       rw [List.sum_nil] at hm
       rwa [show x + 0 = x by grind] at hm
     · obtain ⟨s, h1, h2⟩ := lo_list hp.1 hne
       have mr := M.sum h2
       rcases Nat.le_total t s with e | e
       · have := hm.sub (mr.down e)
         rwa [show x + r.sum - r.sum = x by grind] at this
       · have := (hm.down e).sub mr
         rw [show x + r.sum - r.sum = x by grind] at this
         have := this.ge (U_pos s) (h0 x (by simp))
         grind
   intro y hy
   rcases List.mem_cons.1 hy with rfl | hy
   · exact mx
   · have := hm.sub mx
     rw [show x + r.sum - x = r.sum by grind] at this
     exact ih er this y hy
end

/- Circles: the floats that Fast reckons. -/
section
open Go.RowKit
structure TermW (T : Rat) (W S : Prop) (t p : Nat) : Prop where
 ft : Fin64 t
 fp : Fin64 p
 et : 9223372036854775808 * ab (T - fval t) ≤ 9224 * fval p
 at' : 1125899906842624 * ab (fval t) ≤ 1125899906842625 * fval p
 p0 : 0 ≤ fval p
 mt : M (U 674) (fval t)
 mp : M (U 674) (fval p)
 lt : ab (fval t) ≤ U 1481
 lp : ab (fval p) ≤ U 1481
 wh : W → (fval p < 9007199254740992 → fval t = T ∧ ab (fval t) ≤ fval p) ∧ M 1 (fval t) ∧ M 1 (fval p)
 sm : S → ab (fval p) ≤ U 1120
end

/- Circles: nearRow, whole, and which four points may be. -/
section
open Go.RowKit Go.Shelf
attribute [local go_sem ↓] Go.wp_at_zero Go.wp_at_succ
attribute [local go_sem] run_store_float
end

/- Circles: Fast. -/
section
open Go.RowKit Go.Shelf
attribute [local go_sem ↓] Go.wp_at_zero Go.wp_at_succ
attribute [local go_sem] run_store_float
structure B4 (w W : World) (ax ay bx by' cx cy dx dy : Nat) : Prop where
 a0 : W.cell? ⟨w.heap.size, 0, none⟩ = some (.float .f64 ax)
 a1 : W.cell? ⟨w.heap.size, 1, none⟩ = some (.float .f64 ay)
 b0 : W.cell? ⟨w.heap.size + 1, 0, none⟩ = some (.float .f64 bx)
 b1 : W.cell? ⟨w.heap.size + 1, 1, none⟩ = some (.float .f64 by')
 c0 : W.cell? ⟨w.heap.size + 1 + 1, 0, none⟩ = some (.float .f64 cx)
 c1 : W.cell? ⟨w.heap.size + 1 + 1, 1, none⟩ = some (.float .f64 cy)
 d0 : W.cell? ⟨w.heap.size + 1 + 1 + 1, 0, none⟩ = some (.float .f64 dx)
 d1 : W.cell? ⟨w.heap.size + 1 + 1 + 1, 1, none⟩ = some (.float .f64 dy)
 bel : Below w.heap.size w W
theorem B4.later {w W W' : World} {ax ay bx by' cx cy dx dy : Nat} (h : B4 w W ax ay bx by' cx cy dx dy) (hb : Below W.heap.size W W') : B4 w W' ax ay bx by' cx cy dx dy :=
 ⟨box_cell hb h.a0, box_cell hb h.a1, box_cell hb h.b0, box_cell hb h.b1, box_cell hb h.c0, box_cell hb h.c1, box_cell hb h.d0, box_cell hb h.d1, below_step h.bel hb⟩
theorem B4.start (w : World) (ax ay bx by' cx cy dx dy : Nat) : B4 w ((((w.alloc (.cells #[.float .f64 ax, .float .f64 ay] 32)).alloc (.cells #[.float .f64 bx, .float .f64 by'] 32)).alloc (.cells #[.float .f64 cx, .float .f64 cy] 32)).alloc (.cells #[.float .f64 dx, .float .f64 dy] 32)) ax ay bx by' cx cy dx dy :=
 ⟨by go_simp, by go_simp, by go_simp, by go_simp, by go_simp, by go_simp, by go_simp, by go_simp, ((((Below.refl _ w).alloc (Nat.le_refl _) _).alloc (by simp) _).alloc (by simp; omega) _).alloc (by simp; omega) _⟩
theorem B4.drew {w W : World} {ax ay bx by' cx cy dx dy : Nat} (h : B4 w W ax ay bx by' cx cy dx dy) : B4 w W.drew ax ay bx by' cx cy dx dy := ⟨h.a0, h.a1, h.b0, h.b1, h.c0, h.c1, h.d0, h.d1, h.bel.drew⟩
theorem TermW.imp {T : Rat} {W W' S S' : Prop} {t p : Nat} (h : TermW T W S t p) (h1 : W' → W) (h2 : S' → S) : TermW T W' S' t p :=
 ⟨h.ft, h.fp, h.et, h.at', h.p0, h.mt, h.mp, h.lt, h.lp, fun k => h.wh (h1 k), fun k => h.sm (h2 k)⟩
def Wh (ax ay bx by' cx cy dx dy : Nat) : Prop := (M 1 (fval ax) ∧ M 1 (fval ay)) ∧ (M 1 (fval bx) ∧ M 1 (fval by')) ∧ (M 1 (fval cx) ∧ M 1 (fval cy)) ∧ M 1 (fval dx) ∧ M 1 (fval dy)
def Sm8 (ax ay bx by' cx cy dx dy : Nat) : Prop := (Sm ax ∧ Sm ay) ∧ (Sm bx ∧ Sm by') ∧ (Sm cx ∧ Sm cy) ∧ Sm dx ∧ Sm dy
theorem Sm.m1 {x : Nat} (h : Sm x) : M 1 (fval x) := by
 obtain ⟨n, e, _⟩ := h
 exact M_one.2 ⟨n, e⟩
theorem Sm8.wh {ax ay bx by' cx cy dx dy : Nat} (h : Sm8 ax ay bx by' cx cy dx dy) : Wh ax ay bx by' cx cy dx dy := ⟨⟨h.1.1.m1, h.1.2.m1⟩, ⟨h.2.1.1.m1, h.2.1.2.m1⟩, ⟨h.2.2.1.1.m1, h.2.2.1.2.m1⟩, h.2.2.2.1.m1, h.2.2.2.2.m1⟩
end

/- Circles: numbers as lists of floats; apart; the closures of exactSign. -/
section
open Go.RowKit Go.Shelf
attribute [local go_sem ↓] Go.wp_at_zero Go.wp_at_succ
attribute [local go_sem] run_store_float
theorem safe_word' {b : Nat} (hf : Fin64 b) (h1 : U 624 ≤ ab (fval b)) (h2 : ab (fval b) ≤ U 1524) : 2580562586483294208 ≤ frung b ∧ frung b ≤ 6633802251116740608 := by
 rw [← ab_fval b hf] at h1 h2
 have f : frung b < 9218868437227405312 := hf
 constructor
 · rcases Nat.lt_or_ge (frung b) 2580562586483294208 with e | e
   · exfalso
     have h3 := fval_lt e (by omega)
     rw [safe_low] at h3
     grind
   · exact e
 · rcases Nat.lt_or_ge 6633802251116740608 (frung b) with e | e
   · exfalso
     have h3 := fval_lt e f
     rw [safe_top, show p2 450 = U 1524 from rfl] at h3
     grind
   · exact e
theorem MayP.wide {lo hi lo' hi' : Nat} {bs : List Nat} (h : MayP lo hi bs) (h1 : lo' ≤ lo) (h2 : hi ≤ hi') : MayP lo' hi' bs :=
 ⟨h.1, fun i hi => ⟨Nat.le_trans h1 (h.2 i hi).1, Nat.le_trans (h.2 i hi).2.1 h2, (h.2 i hi).2.2⟩⟩
structure NL (t N : Nat) (q : Rat) (bs : List Nat) : Prop where
 may : MayS bs
 sum : (vals bs).sum = q
 m : M (U t) q
 l : ab q ≤ U N
theorem NL.a {t N : Nat} {q : Rat} {bs : List Nat} (h : NL t N q bs) : MayA bs := h.may.wide (by omega) (by omega)
theorem NL.c {t N : Nat} {q : Rat} {bs : List Nat} (h : NL t N q bs) : MayC bs := h.may.wide (by omega) (by omega)
theorem NL.nil (t N : Nat) : NL t N 0 [] := ⟨⟨by simp, fun i hi => by simp at hi⟩, rfl, M_zero _, by rw [show ab 0 = 0 by unfold ab; grind]; exact Rat.le_of_lt (U_pos N)⟩
theorem NL.of {t N : Nat} {q : Rat} {bs : List Nat} (h : SumS q bs) (hm : M (U t) q) (hl : ab q ≤ U N) (ht : 624 ≤ t) (hN : N ≤ 1520) : NL t N q bs := by
 refine ⟨?_, h.sum, hm, hl⟩
 obtain ⟨top, hs⟩ := h.sq
 have hu := hs.up (N := N + 1) (by have : U N < U (N + 1) := U_lt_iff.2 (by omega); grind)
 have hx := hs.ex.mult (t := t) (by rw [hs.sum]; exact hm)
 refine up_may hs.ex h.cnt (fun b hb => ?_)
 have hv : fval b ∈ vals bs := List.mem_map.2 ⟨b, hb, rfl⟩
 refine safe_word' (hs.fin b hb) ?_ ?_
 · have := (hx _ hv).ge (U_pos t) (hs.ex.2 _ hv)
   exact Rat.le_trans (U_mono ht) this
 · have := hu.lim b hb
   have := U_mono (show N + 1 + 1 ≤ 1524 by omega)
   grind
theorem NL.neg {t N : Nat} {q : Rat} {bs : List Nat} (h : NL t N q bs) (hw : ∀ b ∈ bs, b < 18446744073709551616) : NL t N (-q) (bs.map fflip) := by
 have hu : Up 1975 bs := add_up h.a
 obtain ⟨h1, h2, h3⟩ := up_neg hu hw
 refine ⟨up_may h1.ex (by rw [List.length_map]; exact h.may.1) (fun b hb => ?_), by rw [h2, h.sum], h.m.neg, by rw [ab_neg]; exact h.l⟩
 obtain ⟨c, hc, rfl⟩ := List.mem_map.1 hb
 rw [frung_flip (hw c hc)]
 exact safe_safe h.may c hc
theorem DL.nl {a b : Nat} {l : List Nat} (ha : Crd a) (hb : Crd b) (h : DL (fval b - fval a) l) : NL 974 1175 (fval b - fval a) l := by
 refine ⟨h.may, h.sum, hb.2.sub ha.2, ?_⟩
 have := ab_sub (fval b) (fval a)
 have h1 := crd_ab ha.1
 have h2 := crd_ab hb.1
 have h3 := U_two' 1174
 grind
end

/- Circles: exactSign's rows. -/
section
open Go.RowKit Go.Shelf
attribute [local go_sem ↓] Go.wp_at_zero Go.wp_at_succ
attribute [local go_sem] run_store_float
theorem Fs.drew {w : World} {s : Value} {bs : List Nat} (h : Fs w s bs) : Fs w.drew s bs := ⟨h.form, h.word⟩
theorem Fs.shape {w : World} {s : Value} {bs : List Nat} (h : Fs w s bs) : ∃ a n c, s = .slice a n c := by
 obtain ⟨⟨a, c, h, _⟩, _⟩ := h
 exact ⟨a, _, c, h⟩
structure Moved (W W' : World) (g : Nat) : Prop where
 cell : ∀ b i x, b ≠ g → W.cell? ⟨b, i, none⟩ = some x → W'.cell? ⟨b, i, none⟩ = some x
 box : ∀ b cs t, b ≠ g → CB W b cs t → CB W' b cs t
 bel : ∀ N w, N ≤ g → Below N w W → Below N w W'
theorem moved3 (W : World) (b : Nat) (v0 v1 v2 : Value) : Moved W (((W.setCell ⟨b, 0, none⟩ v0).setCell ⟨b, 1, none⟩ v1).setCell ⟨b, 2, none⟩ v2) b := ⟨fun _ _ _ hn h => cell_set3 h hn v0 v1 v2, fun _ _ _ hn h => h.other3 hn v0 v1 v2, fun _ _ hN h => below_set3 h hN v0 v1 v2⟩
theorem fs_moved {W W' : World} {g : Nat} {s : Value} {bs : List Nat} (h : Fs W s bs) (hm : Moved W W' g) (hn : ∀ i x, W.cell? ⟨g, i, none⟩ ≠ some (.float .f64 x)) : Fs W' s bs := by
 obtain ⟨⟨a, c, h1, h2, h3, h4⟩, hw⟩ := h
 refine ⟨⟨a, c, h1, h2, h3, ?_⟩, hw⟩
 rcases h4 with h4 | ⟨b, off, e, h4⟩
 · exact Or.inl h4
 · refine Or.inr ⟨b, off, e, fun k hk => ?_⟩
   have := h4 k hk
   exact hm.cell b _ _ (fun e => hn (off + k) _ (by rw [← e]; exact this)) this
def RowL (W : World) (X Y : Rat) (s1 s2 s3 : Value) : Prop := ∃ l1 l2 l3, (Fs W s1 l1 ∧ Fs W s2 l2 ∧ Fs W s3 l3) ∧ NL 974 1175 X l1 ∧ NL 974 1175 Y l2 ∧ NL 874 1277 (X * X + Y * Y) l3
theorem RowL.later {W W' : World} {X Y : Rat} {s1 s2 s3 : Value} (h : RowL W X Y s1 s2 s3) (hb : Below W.heap.size W W') : RowL W' X Y s1 s2 s3 := by
 obtain ⟨l1, l2, l3, h1, h2⟩ := h
 exact ⟨l1, l2, l3, ⟨h1.1.later hb, h1.2.1.later hb, h1.2.2.later hb⟩, h2⟩
theorem RowL.moved {W W' : World} {X Y : Rat} {s1 s2 s3 : Value} {g : Nat} (h : RowL W X Y s1 s2 s3) (hm : Moved W W' g) (hn : ∀ i x, W.cell? ⟨g, i, none⟩ ≠ some (.float .f64 x)) : RowL W' X Y s1 s2 s3 := by
 obtain ⟨l1, l2, l3, h1, h2⟩ := h
 exact ⟨l1, l2, l3, ⟨fs_moved h1.1 hm hn, fs_moved h1.2.1 hm hn, fs_moved h1.2.2 hm hn⟩, h2⟩
theorem RowL.drew {W : World} {X Y : Rat} {s1 s2 s3 : Value} (h : RowL W X Y s1 s2 s3) : RowL W.drew X Y s1 s2 s3 := by
 obtain ⟨l1, l2, l3, h1, h2⟩ := h
 exact ⟨l1, l2, l3, ⟨h1.1.drew, h1.2.1.drew, h1.2.2.drew⟩, h2⟩
end
end Go.Proofs.YtgpbfhennineiaaGreat
