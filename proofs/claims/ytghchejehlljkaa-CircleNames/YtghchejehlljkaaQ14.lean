/- Own texts, put together: Of Og Ce Cf. -/
import Derived.Test.YtghchejehlljkaaQ11
import Derived.Test.YtghchejehlljkaaQ13
/- Package orient: grown, differences as lists. -/
namespace Go.Proofs.Ytghchejehlljkaa
open Go.RowKit Go.Shelf
attribute [local go_sem ↓] Go.wp_at_zero Go.wp_at_succ
attribute [local go_sem] run_store_float

/-- Those of two floats that are not 0, as far as one has come. -/
def pl (y x : Nat) (k : Nat) : List Nat := if k = 0 then [] else if k = 1 then gw [] y else gw (gw [] y) x
theorem pl_next (y x k : Nat) (hk : k < 2) : pl y x (k + 1) = gw (pl y x k) (if k = 0 then y else x) := by
  have : k = 0 ∨ k = 1 := by omega
  rcases this with rfl | rfl <;> rfl
theorem pl_len (y x k : Nat) : (pl y x k).length ≤ 2 := by
  unfold pl gw
  split
  · simp
  · split
    · split <;> simp
    · split
      · split <;> simp
      · split <;> simp

set_option maxRecDepth 100000 in
set_option maxHeartbeats 2000000 in
theorem grown2_any (g c y x : Nat) (w : World) (h1 : w.cell? ⟨g, 0, none⟩ = some (.float .f64 y)) (h2 : w.cell? ⟨g, 1, none⟩ = some (.float .f64 x)) (hy : y < 18446744073709551616) (hx : x < 18446744073709551616) :
    Calls Try.prog 59 #[.slice (some ⟨g, 0, none⟩) 2 c] w fun e w' => (∃ v, e = .returned v ∧ Fr w' w.heap.size v (gw (gw [] y) x)) ∧ Below w.heap.size w w' := by
  have HC : Hid (∀ k, k < 2 → w.cell? ⟨g, k, none⟩ = some (.float .f64 (if k = 0 then y else x))) := fun k hk => by
    have : k = 0 ∨ k = 1 := by omega
    rcases this with rfl | rfl
    · exact h1
    · exact h2
  have HW : Hid (y < 18446744073709551616 ∧ x < 18446744073709551616) := ⟨hy, hx⟩
  clear h1 h2 hy hx
  obtain ⟨i0, hi0, hz0, hz1, hz2⟩ := info_parts infoF
  go_enter Try.func59, Try.ntmps59
  go_wp2
  go_loopw [3, 8] (fun l i wr => ∃ (k : Nat) (v : Value), k ≤ 2 ∧ i = .int .i64 (k : Nat) ∧ v = l ∧ Hid (Fr wr w.heap.size v (pl y x k) ∧ Below w.heap.size w wr)) (fun _ i _ => 2 - (intOf i).toNat)
  case atStart => exact ⟨0, _, Nat.zero_le _, rfl, rfl, Fr.nil _ _, Below.refl _ _⟩
  case round =>
    obtain ⟨k, v, hk, rfl, rfl, hB⟩ := hrel
    by_cases hlt : k < 2
    · have hlt' : (k : Int) < 2 := by omega
      have hk0 : (0 : Int) ≤ (k : Int) := by omega
      have c1 := box_cell hB.out.2 (HC.out k hlt)
      obtain ⟨z, hz⟩ : ∃ z : Nat, Hid ((if k = 0 then y else x) = z) := ⟨_, rfl⟩
      rw [hz.out] at c1
      have HZ : Hid (z < 18446744073709551616) := by
        rw [← hz.out]
        show (if k = 0 then y else x) < _
        split
        · exact HW.out.1
        · exact HW.out.2
      have q := eql_zero2 z
      by_cases h0 : frung z = 0
      · rw [decide_eq_true h0] at q
        have q' : FloatKind.f64.format.order z 0 = some .eq := by simpa using q
        have HG : Hid (pl y x (k + 1) = pl y x k) := by
          show pl y x (k + 1) = _
          rw [pl_next y x k hlt, hz.out]; unfold gw; rw [if_pos h0]
        clear h0 q
        go_wp2
        exact ⟨⟨k + 1, v, by omega, by go_num, rfl, by rw [HG.out]; exact hB.out⟩, by simp [intOf]; omega⟩
      · rw [decide_eq_false h0] at q
        have HG : Hid (pl y x (k + 1) = pl y x k ++ [z]) := by
          show pl y x (k + 1) = _
          rw [pl_next y x k hlt, hz.out]; unfold gw; rw [if_neg h0]
        have q2 : (FloatKind.f64.format.order z 0 != some .eq) = true := by rw [bne, q]; rfl
        clear h0 q
        go_wp2_with (at_builtin; refine wpList_append_own _ rfl _ _ _ rfl w.heap.size 22 i0 _ 1 8 undF hi0 hz0 hz1 hz2 rfl (by omega) v (pl y x k).length (f64s (pl y x k)) rfl (hB.out.1.own.alloc _) ⟨wr.heap.size, 0, none⟩ 1 1 [.float .f64 z] rfl rfl (World.news_of_block (cs := #[.float .f64 z]) (t := 22) (fr := (0, 0)) (heap_alloc_new wr _)) (by simp [Value.oneCell']) (by unfold maxLen; have := pl_len y x k; omega) (by have := pl_len y x k; omega) (by have := hB.out.2.size; simp; omega) ?_; intro v' w1 hown hgrow hnil)
        have hsz := hB.out.2.size
        refine ⟨⟨k + 1, v', by omega, by go_num, rfl, ?_, ?_⟩, by simp [intOf]; omega⟩
        · rw [HG.out]
          refine ⟨?_, ?_⟩
          · rw [List.length_append]
            simpa [f64s] using hown
          · intro b hb
            rcases List.mem_append.1 hb with hb | hb
            · exact hB.out.1.word b hb
            · rw [List.mem_singleton.1 hb]; exact HZ.out
        · exact (hB.out.2.alloc hsz _).grown hgrow (by simp; omega) (fun k hk => (hB.out.1.own.lt k hk).1)
    · obtain rfl : k = 2 := by omega
      go_wp2
      go_ret
      exact ⟨⟨v, rfl, hB.out.1⟩, hB.out.2⟩

end Go.Proofs.Ytghchejehlljkaa

/- Package orient: exactSign, Sign. -/
namespace Go.Proofs.Ytghchejehlljkaa
open Go.RowKit Go.Shelf
attribute [local go_sem ↓] Go.wp_at_zero Go.wp_at_succ
attribute [local go_sem] run_store_float

/-- A number as a list that may be multiplied. -/
structure DL (q : Rat) (bs : List Nat) : Prop where
  may : MayS bs
  sum : (vals bs).sum = q

theorem safe_word {b : Nat} (hf : Fin64 b) (h1 : U 974 ≤ ab (fval b)) (h2 : ab (fval b) ≤ U 1175) : 2580562586483294208 ≤ frung b ∧ frung b ≤ 6633802251116740608 := by
  rw [← ab_fval b hf] at h1 h2
  have f : frung b < 9218868437227405312 := hf
  constructor
  · rcases Nat.lt_or_ge (frung b) 2580562586483294208 with e | e
    · exfalso
      have h3 := fval_lt e (by omega)
      rw [safe_low] at h3
      have h4 := U_lt_iff.2 (show 624 < 974 by omega)
      grind
    · exact e
  · rcases Nat.lt_or_ge 6633802251116740608 (frung b) with e | e
    · exfalso
      have h3 := fval_lt e f
      rw [safe_top, show p2 450 = U 1524 from rfl] at h3
      have h4 := U_lt_iff.2 (show 1175 < 1524 by omega)
      grind
    · exact e

theorem frung_val {b : Nat} : frung b = 0 ↔ fval b = 0 := by
  rw [← fval_zero_iff]

theorem diff_list {a b x y : Nat} (ha : Crd a) (hb : Crd b) (h : Pair (TameW b a) (fval b - fval a) x y) : DL (fval b - fval a) (gw (gw [] y) x) := by
  have hd : TameW b a := ⟨by have := hb.1; omega, by have := ha.1; omega⟩
  obtain ⟨fx, fy, wx, wy, h⟩ := h
  obtain ⟨hr, he⟩ : RV (fval b - fval a) (fval x) ∧ fval x + fval y = fval b - fval a := by
    rcases h with ⟨_, h1, h2⟩ | ⟨h1, _⟩
    · exact ⟨h1, h2⟩
    · exact absurd hd h1
  have hm : M (U 974) (fval b - fval a) := hb.2.sub ha.2
  have hl : ab (fval b - fval a) ≤ U 1175 := by
    have := ab_sub (fval b) (fval a)
    have h1 := crd_ab ha.1
    have h2 := crd_ab hb.1
    have h3 := U_two' 1174
    grind
  have mx := hr.rn.mm hm
  have my : M (U 974) (fval y) := by
    have := hm.sub mx
    rwa [show fval b - fval a - fval x = fval y by grind] at this
  have lx := hr.rn.le hl
  have rel := hr.rn.rel hm
  rw [show fval b - fval a - fval x = fval y by grind] at rel
  have ly : ab (fval y) ≤ U 1175 := by have := ab_nonneg (fval y); grind
  have lo := hr.rn.lo he
  have u := U_pos 974
  have sx : fval x ≠ 0 → 2580562586483294208 ≤ frung x ∧ frung x ≤ 6633802251116740608 := fun h0 => safe_word fx (mx.ge u h0) lx
  have sy : fval y ≠ 0 → 2580562586483294208 ≤ frung y ∧ frung y ≤ 6633802251116740608 := fun h0 => safe_word fy (my.ge u h0) ly
  by_cases x0 : fval x = 0
  · have y0 : fval y = 0 := by
      rw [x0, show ab 0 = 0 by unfold ab; grind] at rel
      exact ab_zero (by have := ab_nonneg (fval y); grind)
    have e : gw (gw [] y) x = [] := by
      unfold gw
      rw [if_pos (frung_val.2 x0), if_pos (frung_val.2 y0)]
    rw [e]
    exact ⟨⟨by simp, fun i hi => by simp at hi⟩, by rw [← he, x0, y0]; show (0 : Rat) = 0 + 0; grind⟩
  · by_cases y0 : fval y = 0
    · have e : gw (gw [] y) x = [x] := by
        unfold gw
        rw [if_neg (fun h => x0 (frung_val.1 h)), if_pos (frung_val.2 y0)]; rfl
      rw [e]
      refine ⟨up_may ⟨by simp [vals], by simp [vals]; exact x0⟩ (by simp) (by simp; exact sx x0), ?_⟩
      rw [← he, y0]
      show fval x + 0 = _
      grind
    · have e : gw (gw [] y) x = [y, x] := by
        unfold gw
        rw [if_neg (fun h => x0 (frung_val.1 h)), if_neg (fun h => y0 (frung_val.1 h))]; rfl
      rw [e]
      refine ⟨up_may ⟨by simp [vals]; exact lo, by simp [vals]; exact ⟨y0, x0⟩⟩ (by simp) (by simp; exact ⟨sy y0, sx x0⟩), ?_⟩
      rw [← he]
      show fval y + (fval x + 0) = _
      grind

set_option maxRecDepth 100000 in
set_option maxHeartbeats 2000000 in
/-- What the closure answers of a point. -/
theorem from_any (ba ax ay px py : Nat) (w : World) (h0 : w.cell? ⟨ba, 0, none⟩ = some (.float .f64 ax)) (h1 : w.cell? ⟨ba, 1, none⟩ = some (.float .f64 ay)) (wa : ax < 18446744073709551616 ∧ ay < 18446744073709551616) (wp : px < 18446744073709551616 ∧ py < 18446744073709551616) (ha : Pt ax ay) (hp : Pt px py) :
    Calls Try.prog 57 #[pv px py, .pointer (some ⟨ba, 0, none⟩)] w fun e w' => (∃ v1 v2 l1 l2, e = .returned (.tuple #[v1, v2]) ∧ Fr w' w.heap.size v1 l1 ∧ Fr w' w.heap.size v2 l2 ∧ DL (fval px - fval ax) l1 ∧ DL (fval py - fval ay) l2) ∧ Below w.heap.size w w' := by
  have HA : Hid (w.cell? ⟨ba, 0, none⟩ = some (.float .f64 ax) ∧ w.cell? ⟨ba, 1, none⟩ = some (.float .f64 ay)) := ⟨h0, h1⟩
  have HW : Hid ((ax < 18446744073709551616 ∧ ay < 18446744073709551616) ∧ px < 18446744073709551616 ∧ py < 18446744073709551616) := ⟨wa, wp⟩
  have HP : Hid (Pt ax ay ∧ Pt px py) := ⟨ha, hp⟩
  have hbA : Hid (Below w.heap.size w (w.alloc (.cells #[.float .f64 px, .float .f64 py] 24))) := (Below.refl _ w).alloc (Nat.le_refl _) _
  have c0 := box_cell hbA.out h0
  have c1 := box_cell hbA.out h1
  clear h0 h1 wa wp ha hp
  go_enter Try.func57, Try.ntmps57
  go_wp2_with fail
  refine (diff_pair px ax _ HW.out.2.1 HW.out.1.1).mono ?_
  rintro e w1 ⟨⟨x1, y1, rfl, hp1⟩, hb1⟩
  have c1' := box_cell hb1 c1
  have d1 : w1.cell? ⟨w.heap.size, 1, none⟩ = some (.float .f64 py) := box_cell hb1 (by go_simp)
  have HB1 : Hid (Below w.heap.size w w1) := below_step hbA.out hb1
  have H1 : Hid (Pair (TameW px ax) (fval px - fval ax) x1 y1) := hp1
  clear hp1 hb1 c0 c1 hbA
  go_wp2_with fail
  refine (diff_pair py ay _ HW.out.2.2 HW.out.1.2).mono ?_
  rintro e w2 ⟨⟨x2, y2, rfl, hp2⟩, hb2⟩
  have HB2 : Hid (Below w.heap.size w w2) := below_step HB1.out hb2
  have H2 : Hid (Pair (TameW py ay) (fval py - fval ay) x2 y2) := hp2
  clear hp2 hb2 c1' d1
  go_wp2_with fail
  refine (grown2_any w2.heap.size 2 y1 x1 _ (by go_simp) (by go_simp) H1.out.2.2.2.1 H1.out.2.2.1).mono ?_
  rintro e w3 ⟨⟨v1, rfl, hF1⟩, hb3⟩
  have HB3 : Hid (Below w.heap.size w w3) := below_step (HB2.out.alloc HB2.out.size _) hb3
  have HF1 : Hid (Fr w3 w.heap.size v1 (gw (gw [] y1) x1)) := hF1.mono (by have := HB2.out.size; simp; omega)
  clear hF1 hb3
  go_wp2_with fail
  refine (grown2_any w3.heap.size 2 y2 x2 _ (by go_simp) (by go_simp) H2.out.2.2.2.1 H2.out.2.2.1).mono ?_
  rintro e w4 ⟨⟨v2, rfl, hF2⟩, hb4⟩
  have HB4 : Hid (Below w.heap.size w w4) := below_step (HB3.out.alloc HB3.out.size _) hb4
  have HF2 : Hid (Fr w4 w.heap.size v2 (gw (gw [] y2) x2)) := hF2.mono (by have := HB3.out.size; simp; omega)
  have HF1' : Hid (Fr w4 w.heap.size v1 (gw (gw [] y1) x1)) := HF1.out.later (below_step ((Below.refl _ w3).alloc (Nat.le_refl _) _) hb4)
  clear hF2 hb4 HF1
  go_wp2
  go_ret2
  exact ⟨⟨v1, v2, _, _, rfl, HF1'.out, HF2.out, diff_list HP.out.1.1 HP.out.2.1 H1.out, diff_list HP.out.1.2 HP.out.2.2 H2.out⟩, HB4.out⟩

set_option maxRecDepth 100000 in
set_option maxHeartbeats 2000000 in
theorem exact_any' (ax ay bx by' cx cy : Nat) (w : World) (hw : W6 ax ay bx by' cx cy) (hp : P3 ax ay bx by' cx cy) :
    Calls Try.prog 36 #[pv ax ay, pv bx by', pv cx cy] w fun e w' => e = .returned (.int .i64 (sgq (S3 ax ay bx by' cx cy))) ∧ Below w.heap.size w w' := by
  have HW : Hid (W6 ax ay bx by' cx cy) := hw
  have HP : Hid (P3 ax ay bx by' cx cy) := hp
  clear hw hp
  have hS := B3.start w ax ay bx by' cx cy
  have HS : Hid (B3 w (((w.alloc (.cells #[.float .f64 ax, .float .f64 ay] 24)).alloc (.cells #[.float .f64 bx, .float .f64 by'] 24)).alloc (.cells #[.float .f64 cx, .float .f64 cy] 24)) ax ay bx by' cx cy) := hS
  clear hS
  go_enter Try.func36, Try.ntmps36
  go_wp2_with fail
  refine (from_any w.heap.size ax ay bx by' _ HS.out.a0 HS.out.a1 HW.out.1 HW.out.2.1 HP.out.1 HP.out.2.1).mono ?_
  rintro e w1 ⟨⟨v1, v2, l1, l2, rfl, hF1, hF2, hd1, hd2⟩, hb1⟩
  have H1 : Hid (B3 w w1 ax ay bx by' cx cy) := HS.out.later hb1
  have HL1 : Hid (Fs w1 v1 l1 ∧ Fs w1 v2 l2 ∧ DL (fval bx - fval ax) l1 ∧ DL (fval by' - fval ay) l2) := ⟨hF1.fs, hF2.fs, hd1, hd2⟩
  have c0 := H1.out.c0
  have c1 := H1.out.c1
  clear hF1 hF2 hd1 hd2 hb1
  go_wp2_with fail
  refine (from_any w.heap.size ax ay cx cy _ H1.out.a0 H1.out.a1 HW.out.1 HW.out.2.2 HP.out.1 HP.out.2.2).mono ?_
  rintro e w2 ⟨⟨v3, v4, l3, l4, rfl, hF3, hF4, hd3, hd4⟩, hb2⟩
  have HL2 : Hid (Fs w2 v3 l3 ∧ Fs w2 v4 l4 ∧ DL (fval cx - fval ax) l3 ∧ DL (fval cy - fval ay) l4 ∧ Fs w2 v1 l1 ∧ Fs w2 v2 l2 ∧ Below w.heap.size w w2) := ⟨hF3.fs, hF4.fs, hd3, hd4, HL1.out.1.later hb2, HL1.out.2.1.later hb2, below_step H1.out.bel hb2⟩
  clear hF3 hF4 hd3 hd4 hb2 c0 c1
  go_wp2_with fail
  refine (mulE_any v1 v4 l1 l4 _ HL2.out.2.2.2.2.1 HL2.out.2.1).mono ?_
  rintro e w3 ⟨⟨v5, b5, t5, rfl, hF5, k1, k2, _⟩, hb3⟩
  obtain rfl := k1.2 ⟨HL1.out.2.2.1.may, HL2.out.2.2.2.1.may⟩
  have HL3 : Hid (Fs w3 v5 b5 ∧ SumS ((vals l1).sum * (vals l4).sum) b5 ∧ Fs w3 v2 l2 ∧ Fs w3 v3 l3 ∧ Below w.heap.size w w3) := ⟨hF5.fs, k2 rfl, HL2.out.2.2.2.2.2.1.later hb3, HL2.out.1.later hb3, below_step HL2.out.2.2.2.2.2.2 hb3⟩
  clear hF5 k1 k2 hb3
  go_wp2_with fail
  refine (mulE_any v2 v3 l2 l3 _ HL3.out.2.2.1 HL3.out.2.2.2.1).mono ?_
  rintro e w4 ⟨⟨v6, b6, t6, rfl, hF6, k1, k2, _⟩, hb4⟩
  obtain rfl := k1.2 ⟨HL1.out.2.2.2.may, HL2.out.2.2.1.may⟩
  have HL4 : Hid (Fs w4 v6 b6 ∧ SumS ((vals l2).sum * (vals l3).sum) b6 ∧ Fs w4 v5 b5 ∧ Below w.heap.size w w4) := ⟨hF6.fs, k2 rfl, HL3.out.1.later hb4, below_step HL3.out.2.2.2.2 hb4⟩
  clear hF6 k1 k2 hb4
  go_wp2_with fail
  refine (cmpE_any v5 v6 b5 b6 _ HL4.out.2.2.1 HL4.out.1).mono ?_
  rintro e w5 ⟨⟨z, rfl, hz, _⟩, hb5⟩
  have HZ : Hid (z = sgq (S3 ax ay bx by' cx cy)) := by
    show z = _
    rw [hz HL3.out.2.1.may HL4.out.2.1.may, HL3.out.2.1.sum, HL4.out.2.1.sum, HL1.out.2.2.1.sum, HL1.out.2.2.2.sum, HL2.out.2.2.1.sum, HL2.out.2.2.2.1.sum]
    rfl
  have HB5 : Hid (Below w.heap.size w w5) := below_step HL4.out.2.2.2 hb5
  clear hz hb5
  go_wp2
  go_ret
  exact ⟨by rw [HZ.out]; rfl, HB5.out⟩

/-- The sign of three points, 0 if one may not be. -/
noncomputable def sg3 (ax ay bx by' cx cy : Nat) : Int := @ite _ (P3 ax ay bx by' cx cy) (Classical.propDecidable _) (sgq (S3 ax ay bx by' cx cy)) 0
theorem sg3_yes {ax ay bx by' cx cy : Nat} (h : P3 ax ay bx by' cx cy) : sg3 ax ay bx by' cx cy = sgq (S3 ax ay bx by' cx cy) := by unfold sg3; rw [if_pos h]
theorem sg3_no {ax ay bx by' cx cy : Nat} (h : ¬ P3 ax ay bx by' cx cy) : sg3 ax ay bx by' cx cy = 0 := by unfold sg3; rw [if_neg h]

set_option maxRecDepth 100000 in
set_option maxHeartbeats 2000000 in
theorem sign3_any (ax ay bx by' cx cy : Nat) (w : World) (hw : W6 ax ay bx by' cx cy) :
    Calls Try.prog 19 #[pv ax ay, pv bx by', pv cx cy] w fun e w' => e = .returned (.int .i64 (sg3 ax ay bx by' cx cy)) ∧ Below w.heap.size w w' := by
  have HW : Hid (W6 ax ay bx by' cx cy) := hw
  clear hw
  have hS := B3.start w ax ay bx by' cx cy
  have HS : Hid (B3 w (((w.alloc (.cells #[.float .f64 ax, .float .f64 ay] 24)).alloc (.cells #[.float .f64 bx, .float .f64 by'] 24)).alloc (.cells #[.float .f64 cx, .float .f64 cy] 24)) ax ay bx by' cx cy) := hS
  clear hS
  go_enter Try.func19, Try.ntmps19
  go_wp2_with fail
  refine (fast_any ax ay bx by' cx cy _ HW.out).mono ?_
  rintro e w1 ⟨⟨z, t, rfl, hz⟩, hb1⟩
  have H1 : Hid (B3 w w1 ax ay bx by' cx cy) := HS.out.later hb1
  have HZ : Hid (FastR ax ay bx by' cx cy z t) := hz
  clear hz hb1 HS
  obtain ⟨u0, u1, u2, u3, u4, u5, _⟩ := H1.out
  cases t
  · go_wp2_with fail
    refine (has3 ax ay bx by' cx cy _ HW.out).mono ?_
    rintro e w2 ⟨⟨t, rfl, ht⟩, hb2⟩
    have H2 : Hid (B3 w w2 ax ay bx by' cx cy) := H1.out.later hb2
    have HT : Hid (t = true ↔ P3 ax ay bx by' cx cy) := ht
    clear ht hb2 u0 u1 u2 u3 u4 u5
    cases t
    · go_wp2
      go_ret
      exact ⟨by rw [sg3_no (fun h => Bool.noConfusion (HT.out.2 h))]; rfl, H2.out.bel⟩
    · have HP : Hid (P3 ax ay bx by' cx cy) := HT.out.1 rfl
      obtain ⟨u0, u1, u2, u3, u4, u5, _⟩ := H2.out
      go_wp2_with fail
      refine (exact_any' ax ay bx by' cx cy _ HW.out HP.out).mono ?_
      rintro e w3 ⟨rfl, hb3⟩
      have H3 : Hid (Below w.heap.size w w3) := below_step H2.out.bel hb3
      clear hb3
      go_wp2
      go_ret
      exact ⟨by rw [sg3_yes HP.out]; rfl, H3.out⟩
  · go_wp2
    go_ret
    exact ⟨by rw [sg3_yes (HZ.out.1 rfl).1, (HZ.out.1 rfl).2]; rfl, H1.out.bel⟩

end Go.Proofs.Ytghchejehlljkaa

/- Circles: numbers as lists of floats; apart; the closures of exactSign. -/
namespace Go.Proofs.Ytghchejehlljkaa
open Go.RowKit Go.Shelf
attribute [local go_sem ↓] Go.wp_at_zero Go.wp_at_succ
attribute [local go_sem] run_store_float

theorem setCell_same {w : World} {b i t : Nat} {cs : Array Value} (h : CB w b cs t) (hi : i < cs.size) : w.setCell ⟨b, i, none⟩ cs[i] = w := by
  have hc : cs.setIfInBounds i cs[i] = cs := by
    apply Array.ext_getElem?
    intro k
    rw [Array.getElem?_setIfInBounds]
    split
    · rename_i e
      subst e
      simp [hi]
    · rfl
  have hh : (w.setCell ⟨b, i, none⟩ cs[i]).heap = w.heap := by
    apply Array.ext_getElem?
    intro j
    unfold CB at h
    simp only [World.setCell, Array.getElem?_modify]
    split
    · rename_i e
      subst e
      rw [h]
      simp [hc]
    · rfl
  have e : w.setCell ⟨b, i, none⟩ cs[i] = { w with heap := (w.setCell ⟨b, i, none⟩ cs[i]).heap } := rfl
  rw [e, hh]

theorem safe_word' {b : Nat} (hf : Fin64 b) (h1 : U 624 ≤ ab (fval b)) (h2 : ab (fval b) ≤ U 1524) : 2580562586483294208 ≤ frung b ∧ frung b ≤ 6633802251116740608 := by
  rw [← ab_fval b hf] at h1 h2
  have f : frung b < 9218868437227405312 := hf
  constructor
  · rcases Nat.lt_or_ge (frung b) 2580562586483294208 with e | e
    · exfalso
      have h3 := fval_lt e (by omega)
      rw [safe_low] at h3
      grind
    · exact e
  · rcases Nat.lt_or_ge 6633802251116740608 (frung b) with e | e
    · exfalso
      have h3 := fval_lt e f
      rw [safe_top, show p2 450 = U 1524 from rfl] at h3
      grind
    · exact e
theorem MayP.wide {lo hi lo' hi' : Nat} {bs : List Nat} (h : MayP lo hi bs) (h1 : lo' ≤ lo) (h2 : hi ≤ hi') : MayP lo' hi' bs :=
  ⟨h.1, fun i hi => ⟨Nat.le_trans h1 (h.2 i hi).1, Nat.le_trans (h.2 i hi).2.1 h2, (h.2 i hi).2.2⟩⟩

/-- A number as a list of floats that may be multiplied: a multiple of U t, at most U N. -/
structure NL (t N : Nat) (q : Rat) (bs : List Nat) : Prop where
  may : MayS bs
  sum : (vals bs).sum = q
  m : M (U t) q
  l : ab q ≤ U N
theorem NL.a {t N : Nat} {q : Rat} {bs : List Nat} (h : NL t N q bs) : MayA bs := h.may.wide (by omega) (by omega)
theorem NL.c {t N : Nat} {q : Rat} {bs : List Nat} (h : NL t N q bs) : MayC bs := h.may.wide (by omega) (by omega)
theorem NL.nil (t N : Nat) : NL t N 0 [] := ⟨⟨by simp, fun i hi => by simp at hi⟩, rfl, M_zero _, by rw [show ab 0 = 0 by unfold ab; grind]; exact Rat.le_of_lt (U_pos N)⟩
theorem NL.of {t N : Nat} {q : Rat} {bs : List Nat} (h : SumS q bs) (hm : M (U t) q) (hl : ab q ≤ U N) (ht : 624 ≤ t) (hN : N ≤ 1520) : NL t N q bs := by
  refine ⟨?_, h.sum, hm, hl⟩
  obtain ⟨top, hs⟩ := h.sq
  have hu := hs.up (N := N + 1) (by have : U N < U (N + 1) := U_lt_iff.2 (by omega); grind)
  have hx := hs.ex.mult (t := t) (by rw [hs.sum]; exact hm)
  refine up_may hs.ex h.cnt (fun b hb => ?_)
  have hv : fval b ∈ vals bs := List.mem_map.2 ⟨b, hb, rfl⟩
  refine safe_word' (hs.fin b hb) ?_ ?_
  · have := (hx _ hv).ge (U_pos t) (hs.ex.2 _ hv)
    exact Rat.le_trans (U_mono ht) this
  · have := hu.lim b hb
    have := U_mono (show N + 1 + 1 ≤ 1524 by omega)
    grind
theorem NL.neg {t N : Nat} {q : Rat} {bs : List Nat} (h : NL t N q bs) (hw : ∀ b ∈ bs, b < 18446744073709551616) : NL t N (-q) (bs.map fflip) := by
  have hu : Up 1975 bs := add_up h.a
  obtain ⟨h1, h2, h3⟩ := up_neg hu hw
  refine ⟨up_may h1.ex (by rw [List.length_map]; exact h.may.1) (fun b hb => ?_), by rw [h2, h.sum], h.m.neg, by rw [ab_neg]; exact h.l⟩
  obtain ⟨c, hc, rfl⟩ := List.mem_map.1 hb
  rw [frung_flip (hw c hc)]
  exact safe_safe h.may c hc

theorem pair_low {a b x y : Nat} (ha : Crd a) (hb : Crd b) (h : Pair (TameW b a) (fval b - fval a) x y) : frung x = 0 → frung y = 0 := by
  have hd : TameW b a := ⟨by have := hb.1; omega, by have := ha.1; omega⟩
  obtain ⟨fx, fy, wx, wy, h⟩ := h
  obtain ⟨hr, he⟩ : RV (fval b - fval a) (fval x) ∧ fval x + fval y = fval b - fval a := by
    rcases h with ⟨_, h1, h2⟩ | ⟨h1, _⟩
    · exact ⟨h1, h2⟩
    · exact absurd hd h1
  have hm : M (U 974) (fval b - fval a) := hb.2.sub ha.2
  have rel := hr.rn.rel hm
  rw [show fval b - fval a - fval x = fval y by grind] at rel
  intro hx
  have x0 := frung_val.1 hx
  rw [x0, show ab 0 = 0 by unfold ab; grind] at rel
  exact frung_val.2 (ab_zero (by have := ab_nonneg (fval y); grind))
theorem DL.nl {a b : Nat} {l : List Nat} (ha : Crd a) (hb : Crd b) (h : DL (fval b - fval a) l) : NL 974 1175 (fval b - fval a) l := by
  refine ⟨h.may, h.sum, hb.2.sub ha.2, ?_⟩
  have := ab_sub (fval b) (fval a)
  have h1 := crd_ab ha.1
  have h2 := crd_ab hb.1
  have h3 := U_two' 1174
  grind

theorem slice1 (w : World) (x : Nat) (hx : x < 18446744073709551616) : Fs (w.alloc (.cells #[.float .f64 x] 22)) (.slice (some ⟨w.heap.size, 0, none⟩) 1 1) [x] := by
  refine ⟨⟨_, 1, rfl, by simp, by omega, Or.inr ⟨w.heap.size, 0, rfl, fun k hk => ?_⟩⟩, fun b hb => by rw [List.mem_singleton.1 hb]; exact hx⟩
  obtain rfl : k = 0 := by simpa using hk
  go_simp
theorem slice2 (w : World) (y x : Nat) (hy : y < 18446744073709551616) (hx : x < 18446744073709551616) : Fs (w.alloc (.cells #[.float .f64 y, .float .f64 x] 22)) (.slice (some ⟨w.heap.size, 0, none⟩) 2 2) [y, x] := by
  refine ⟨⟨_, 2, rfl, by simp, by omega, Or.inr ⟨w.heap.size, 0, rfl, fun k hk => ?_⟩⟩, fun b hb => ?_⟩
  · have : k = 0 ∨ k = 1 := by simp at hk; omega
    rcases this with rfl | rfl <;> go_simp
  · simp at hb
    rcases hb with rfl | rfl
    · exact hy
    · exact hx

set_option maxRecDepth 100000 in
set_option maxHeartbeats 2000000 in
theorem apart_any (x y : Nat) (w : World) (hx : x < 18446744073709551616) (hy : y < 18446744073709551616) (cx : Crd x) (cy : Crd y) :
    Calls Try.prog 45 #[.float .f64 x, .float .f64 y] w fun e w' => (∃ v l, e = .returned v ∧ Fs w' v l ∧ NL 974 1175 (fval x - fval y) l) ∧ Below w.heap.size w w' := by
  have HX : Hid ((x < 18446744073709551616 ∧ y < 18446744073709551616) ∧ Crd x ∧ Crd y) := ⟨⟨hx, hy⟩, cx, cy⟩
  clear hx hy cx cy
  go_enter Try.func45, Try.ntmps45
  go_wp2_with fail
  refine (diff_pair x y _ HX.out.1.1 HX.out.1.2).mono ?_
  rintro e w1 ⟨⟨hi, lo, rfl, hp⟩, hb1⟩
  have HB1 : Hid (Below w.heap.size w w1) := hb1
  have HP : Hid (Pair (TameW x y) (fval x - fval y) hi lo) := hp
  have HN : Hid (NL 974 1175 (fval x - fval y) (gw (gw [] lo) hi)) := (diff_list HX.out.2.2 HX.out.2.1 hp).nl HX.out.2.2 HX.out.2.1
  clear hb1 hp
  have q1 := eql_zero2 lo
  have q2 := eql_zero2 hi
  by_cases h0 : frung lo = 0
  · rw [decide_eq_true h0] at q1
    have q1' : FloatKind.f64.format.order lo 0 = some .eq := by simpa using q1
    by_cases h1 : frung hi = 0
    · rw [decide_eq_true h1] at q2
      have q2' : FloatKind.f64.format.order hi 0 = some .eq := by simpa using q2
      have e : gw (gw [] lo) hi = [] := by unfold gw; rw [if_pos h1, if_pos h0]
      rw [e] at HN
      clear e h0 h1 q1 q2
      go_wp2
      go_ret
      exact ⟨⟨_, [], rfl, (Fr.nil _ 0).fs, HN.out⟩, HB1.out⟩
    · rw [decide_eq_false h1] at q2
      have q2' : (FloatKind.f64.format.order hi 0 != some .eq) = true := by rw [bne, q2]; rfl
      have e : gw (gw [] lo) hi = [hi] := by unfold gw; rw [if_neg h1, if_pos h0]; rfl
      rw [e] at HN
      clear e h0 h1 q1 q2
      go_wp2
      go_ret
      exact ⟨⟨_, [hi], rfl, slice1 w1 hi HP.out.2.2.1, HN.out⟩, HB1.out.alloc HB1.out.size _⟩
  · rw [decide_eq_false h0] at q1
    have q1' : (FloatKind.f64.format.order lo 0 != some .eq) = true := by rw [bne, q1]; rfl
    have h1 : ¬ frung hi = 0 := fun h => h0 (pair_low HX.out.2.2 HX.out.2.1 HP.out h)
    have e : gw (gw [] lo) hi = [lo, hi] := by unfold gw; rw [if_neg h1, if_neg h0]; rfl
    rw [e] at HN
    clear e h0 h1 q1 q2
    go_wp2
    go_ret
    exact ⟨⟨_, [lo, hi], rfl, slice2 w1 lo hi HP.out.2.2.2.1 HP.out.2.2.1, HN.out⟩, HB1.out.alloc HB1.out.size _⟩

set_option maxRecDepth 100000 in
set_option maxHeartbeats 2000000 in
theorem addC_any (bo : Nat) (s s2 : Value) (es fs : List Nat) (w : World) (ho : CB w bo #[.bool true] 4) (hs : Fs w s es) (hs2 : Fs w s2 fs) (h1 : MayA es) (h2 : MayA fs) :
    Calls Try.prog 40 #[s, s2, .pointer (some ⟨bo, 0, none⟩)] w fun e w' => (∃ v bs, e = .returned v ∧ Fs w' v bs ∧ SumS ((vals es).sum + (vals fs).sum) bs) ∧ Below w.heap.size w w' := by
  have H : Hid ((Fs w s es ∧ Fs w s2 fs) ∧ MayA es ∧ MayA fs) := ⟨⟨hs, hs2⟩, h1, h2⟩
  have HO : Hid (CB w bo #[.bool true] 4) := ho
  have c0 : w.cell? ⟨bo, 0, none⟩ = some (.bool true) := ho.cell 0 (by simp)
  clear hs hs2 h1 h2 ho
  go_enter Try.func40, Try.ntmps40
  go_wp2_with fail
  refine (addE_any s s2 es fs _ H.out.1.1 H.out.1.2).mono ?_
  rintro e w1 ⟨⟨v, bs, t, rfl, hF, k1, k2, _⟩, hb1⟩
  obtain rfl := k1.2 H.out.2
  have HF : Hid (Fs w1 v bs ∧ SumS ((vals es).sum + (vals fs).sum) bs ∧ Below w.heap.size w w1) := ⟨hF.fs, k2 rfl, hb1⟩
  have HO1 : Hid (CB w1 bo #[.bool true] 4) := HO.out.later hb1
  have f0 := HO1.out.frozen 0
  have g0 : w1.cell? ⟨bo, 0, none⟩ = some (.bool true) := HO1.out.cell 0 (by simp)
  have HE : Hid (w1.setCell ⟨bo, 0, none⟩ (.bool true) = w1) := setCell_same HO1.out (i := 0) (by simp)
  clear hF k1 k2 hb1 c0
  go_wp2
  go_ret
  rw [HE.out]
  exact ⟨⟨v, bs, rfl, HF.out.1, HF.out.2.1⟩, HF.out.2.2⟩

set_option maxRecDepth 100000 in
set_option maxHeartbeats 2000000 in
theorem mulC_any (bo : Nat) (s s2 : Value) (es fs : List Nat) (w : World) (ho : CB w bo #[.bool true] 4) (hs : Fs w s es) (hs2 : Fs w s2 fs) (h1 : MayS es) (h2 : MayS fs) :
    Calls Try.prog 42 #[s, s2, .pointer (some ⟨bo, 0, none⟩)] w fun e w' => (∃ v bs, e = .returned v ∧ Fs w' v bs ∧ SumS ((vals es).sum * (vals fs).sum) bs) ∧ Below w.heap.size w w' := by
  have H : Hid ((Fs w s es ∧ Fs w s2 fs) ∧ MayS es ∧ MayS fs) := ⟨⟨hs, hs2⟩, h1, h2⟩
  have HO : Hid (CB w bo #[.bool true] 4) := ho
  have c0 : w.cell? ⟨bo, 0, none⟩ = some (.bool true) := ho.cell 0 (by simp)
  clear hs hs2 h1 h2 ho
  go_enter Try.func42, Try.ntmps42
  go_wp2_with fail
  refine (mulE_any s s2 es fs _ H.out.1.1 H.out.1.2).mono ?_
  rintro e w1 ⟨⟨v, bs, t, rfl, hF, k1, k2, _⟩, hb1⟩
  obtain rfl := k1.2 H.out.2
  have HF : Hid (Fs w1 v bs ∧ SumS ((vals es).sum * (vals fs).sum) bs ∧ Below w.heap.size w w1) := ⟨hF.fs, k2 rfl, hb1⟩
  have HO1 : Hid (CB w1 bo #[.bool true] 4) := HO.out.later hb1
  have f0 := HO1.out.frozen 0
  have g0 : w1.cell? ⟨bo, 0, none⟩ = some (.bool true) := HO1.out.cell 0 (by simp)
  have HE : Hid (w1.setCell ⟨bo, 0, none⟩ (.bool true) = w1) := setCell_same HO1.out (i := 0) (by simp)
  clear hF k1 k2 hb1 c0
  go_wp2
  go_ret
  rw [HE.out]
  exact ⟨⟨v, bs, rfl, HF.out.1, HF.out.2.1⟩, HF.out.2.2⟩

/-- Sums and products that go on. -/
theorem addN_any (t N bo : Nat) (s s2 : Value) (p q : Rat) (es fs : List Nat) (w : World) (ho : CB w bo #[.bool true] 4) (hs : Fs w s es) (hs2 : Fs w s2 fs) (h1 : NL t N p es) (h2 : NL t N q fs) (ht : 624 ≤ t) (hN : N ≤ 1519) :
    Calls Try.prog 40 #[s, s2, .pointer (some ⟨bo, 0, none⟩)] w fun e w' => (∃ v bs, e = .returned v ∧ Fs w' v bs ∧ NL t (N + 1) (p + q) bs) ∧ Below w.heap.size w w' := by
  refine (addC_any bo s s2 es fs w ho hs hs2 h1.a h2.a).mono ?_
  rintro e w' ⟨⟨v, bs, rfl, hF, hS⟩, hb⟩
  rw [h1.sum, h2.sum] at hS
  refine ⟨⟨v, bs, rfl, hF, NL.of hS (h1.m.add h2.m) ?_ ht (by omega)⟩, hb⟩
  have a := ab_add p q
  have b := U_two' N
  have c := h1.l
  have d := h2.l
  grind
theorem mulN_any (t N t2 N2 T K bo : Nat) (s s2 : Value) (p q : Rat) (es fs : List Nat) (w : World) (ho : CB w bo #[.bool true] 4) (hs : Fs w s es) (hs2 : Fs w s2 fs) (h1 : NL t N p es) (h2 : NL t2 N2 q fs) (hT : T + 1074 = t + t2) (hK : K + 1074 = N + N2) (ht : 624 ≤ T) (hN : K ≤ 1520) :
    Calls Try.prog 42 #[s, s2, .pointer (some ⟨bo, 0, none⟩)] w fun e w' => (∃ v bs, e = .returned v ∧ Fs w' v bs ∧ NL T K (p * q) bs) ∧ Below w.heap.size w w' := by
  refine (mulC_any bo s s2 es fs w ho hs hs2 h1.may h2.may).mono ?_
  rintro e w' ⟨⟨v, bs, rfl, hF, hS⟩, hb⟩
  rw [h1.sum, h2.sum] at hS
  refine ⟨⟨v, bs, rfl, hF, NL.of hS ?_ (mul_le_U h1.l h2.l hK) ht hN⟩, hb⟩
  have := h1.m.mul h2.m
  rwa [U_mulX' (s := t) (t := t2) (r := T) hT] at this
theorem negN_any (t N : Nat) (s : Value) (q : Rat) (es : List Nat) (w : World) (hs : Fs w s es) (h : NL t N q es) :
    Calls Try.prog 46 #[s] w fun e w' => (∃ v bs, e = .returned v ∧ Fs w' v bs ∧ NL t N (-q) bs) ∧ Below w.heap.size w w' := by
  refine (negE_any s es w hs (by have := h.may.1; omega)).mono ?_
  rintro e w' ⟨⟨v, rfl, hF⟩, hb⟩
  exact ⟨⟨v, _, rfl, hF.fs, h.neg hs.word⟩, hb⟩

end Go.Proofs.Ytghchejehlljkaa

/- Circles: exactSign's rows. -/
namespace Go.Proofs.Ytghchejehlljkaa
open Go.RowKit Go.Shelf
attribute [local go_sem ↓] Go.wp_at_zero Go.wp_at_succ
attribute [local go_sem] run_store_float

theorem Fs.drew {w : World} {s : Value} {bs : List Nat} (h : Fs w s bs) : Fs w.drew s bs := ⟨h.form, h.word⟩
theorem Fs.shape {w : World} {s : Value} {bs : List Nat} (h : Fs w s bs) : ∃ a n c, s = .slice a n c := by
  obtain ⟨⟨a, c, h, _⟩, _⟩ := h
  exact ⟨a, _, c, h⟩
/-- A world in which one box alone has changed. -/
structure Moved (W W' : World) (g : Nat) : Prop where
  cell : ∀ b i x, b ≠ g → W.cell? ⟨b, i, none⟩ = some x → W'.cell? ⟨b, i, none⟩ = some x
  box : ∀ b cs t, b ≠ g → CB W b cs t → CB W' b cs t
  bel : ∀ N w, N ≤ g → Below N w W → Below N w W'
theorem moved3 (W : World) (b : Nat) (v0 v1 v2 : Value) : Moved W (((W.setCell ⟨b, 0, none⟩ v0).setCell ⟨b, 1, none⟩ v1).setCell ⟨b, 2, none⟩ v2) b := ⟨fun _ _ _ hn h => cell_set3 h hn v0 v1 v2, fun _ _ _ hn h => h.other3 hn v0 v1 v2, fun _ _ hN h => below_set3 h hN v0 v1 v2⟩
theorem moved9 (W : World) (b : Nat) (v0 v1 v2 v3 v4 v5 v6 v7 v8 : Value) : Moved W (((((((((W.setCell ⟨b, 0, none⟩ v0).setCell ⟨b, 1, none⟩ v1).setCell ⟨b, 2, none⟩ v2).setCell ⟨b, 3, none⟩ v3).setCell ⟨b, 4, none⟩ v4).setCell ⟨b, 5, none⟩ v5).setCell ⟨b, 6, none⟩ v6).setCell ⟨b, 7, none⟩ v7).setCell ⟨b, 8, none⟩ v8) b := ⟨fun _ _ _ hn h => cell_set9 h hn v0 v1 v2 v3 v4 v5 v6 v7 v8, fun _ _ _ hn h => h.other9 hn v0 v1 v2 v3 v4 v5 v6 v7 v8, fun _ _ hN h => below_set9 h hN v0 v1 v2 v3 v4 v5 v6 v7 v8⟩
theorem fs_moved {W W' : World} {g : Nat} {s : Value} {bs : List Nat} (h : Fs W s bs) (hm : Moved W W' g) (hn : ∀ i x, W.cell? ⟨g, i, none⟩ ≠ some (.float .f64 x)) : Fs W' s bs := by
  obtain ⟨⟨a, c, h1, h2, h3, h4⟩, hw⟩ := h
  refine ⟨⟨a, c, h1, h2, h3, ?_⟩, hw⟩
  rcases h4 with h4 | ⟨b, off, e, h4⟩
  · exact Or.inl h4
  · refine Or.inr ⟨b, off, e, fun k hk => ?_⟩
    have := h4 k hk
    exact hm.cell b _ _ (fun e => hn (off + k) _ (by rw [← e]; exact this)) this
theorem CB.nofloat {W : World} {b t : Nat} {cs : Array Value} (h : CB W b cs t) (hc : ∀ v ∈ cs, ∀ x, v ≠ .float .f64 x) : ∀ i x, W.cell? ⟨b, i, none⟩ ≠ some (.float .f64 x) := by
  intro i x e
  by_cases hi : i < cs.size
  · rw [h.cell i hi] at e
    exact hc _ (Array.getElem_mem hi) x (Option.some.inj e)
  · unfold CB at h
    have : W.cell? ⟨b, i, none⟩ = none := by simp [World.cell?, h, hi]
    rw [this] at e
    cases e

/-- What the closures need: the last point, the two functions, and that nothing failed. -/
structure CW (bd ba bm bo dx dy : Nat) (W : World) : Prop where
  d0 : W.cell? ⟨bd, 0, none⟩ = some (.float .f64 dx)
  d1 : W.cell? ⟨bd, 1, none⟩ = some (.float .f64 dy)
  fa : W.cell? ⟨ba, 0, none⟩ = some (.func (Fn.func 40) #[] #[.pointer (some ⟨bo, 0, none⟩)])
  fm : W.cell? ⟨bm, 0, none⟩ = some (.func (Fn.func 42) #[] #[.pointer (some ⟨bo, 0, none⟩)])
  ok : CB W bo #[.bool true] 4
theorem CW.later {bd ba bm bo dx dy : Nat} {W W' : World} (h : CW bd ba bm bo dx dy W) (hb : Below W.heap.size W W') : CW bd ba bm bo dx dy W' :=
  ⟨box_cell hb h.d0, box_cell hb h.d1, box_cell hb h.fa, box_cell hb h.fm, h.ok.later hb⟩
theorem CW.drew {bd ba bm bo dx dy : Nat} {W : World} (h : CW bd ba bm bo dx dy W) : CW bd ba bm bo dx dy W.drew := ⟨h.d0, h.d1, h.fa, h.fm, h.ok.drew⟩
theorem CW.moved {bd ba bm bo dx dy g : Nat} {W W' : World} (h : CW bd ba bm bo dx dy W) (hm : Moved W W' g) (h1 : bd ≠ g) (h2 : ba ≠ g) (h3 : bm ≠ g) (h4 : bo ≠ g) : CW bd ba bm bo dx dy W' :=
  ⟨hm.cell _ _ _ h1 h.d0, hm.cell _ _ _ h1 h.d1, hm.cell _ _ _ h2 h.fa, hm.cell _ _ _ h3 h.fm, hm.box _ _ _ h4 h.ok⟩

/-- A row of lists. -/
def RowL (W : World) (X Y : Rat) (s1 s2 s3 : Value) : Prop := ∃ l1 l2 l3, (Fs W s1 l1 ∧ Fs W s2 l2 ∧ Fs W s3 l3) ∧ NL 974 1175 X l1 ∧ NL 974 1175 Y l2 ∧ NL 874 1277 (X * X + Y * Y) l3
theorem RowL.later {W W' : World} {X Y : Rat} {s1 s2 s3 : Value} (h : RowL W X Y s1 s2 s3) (hb : Below W.heap.size W W') : RowL W' X Y s1 s2 s3 := by
  obtain ⟨l1, l2, l3, h1, h2⟩ := h
  exact ⟨l1, l2, l3, ⟨h1.1.later hb, h1.2.1.later hb, h1.2.2.later hb⟩, h2⟩
theorem RowL.moved {W W' : World} {X Y : Rat} {s1 s2 s3 : Value} {g : Nat} (h : RowL W X Y s1 s2 s3) (hm : Moved W W' g) (hn : ∀ i x, W.cell? ⟨g, i, none⟩ ≠ some (.float .f64 x)) : RowL W' X Y s1 s2 s3 := by
  obtain ⟨l1, l2, l3, h1, h2⟩ := h
  exact ⟨l1, l2, l3, ⟨fs_moved h1.1 hm hn, fs_moved h1.2.1 hm hn, fs_moved h1.2.2 hm hn⟩, h2⟩
theorem RowL.drew {W : World} {X Y : Rat} {s1 s2 s3 : Value} (h : RowL W X Y s1 s2 s3) : RowL W.drew X Y s1 s2 s3 := by
  obtain ⟨l1, l2, l3, h1, h2⟩ := h
  exact ⟨l1, l2, l3, ⟨h1.1.drew, h1.2.1.drew, h1.2.2.drew⟩, h2⟩

/-- What lies in memory while a row is made. -/
def RR (w W : World) (bd ba bm bo dx dy : Nat) : Prop := CW bd ba bm bo dx dy W ∧ Below w.heap.size w W
theorem RR.later {w W W' : World} {bd ba bm bo dx dy : Nat} (h : RR w W bd ba bm bo dx dy) (hb : Below W.heap.size W W') : RR w W' bd ba bm bo dx dy := ⟨h.1.later hb, below_step h.2 hb⟩
theorem RR.drew {w W : World} {bd ba bm bo dx dy : Nat} (h : RR w W bd ba bm bo dx dy) : RR w W.drew bd ba bm bo dx dy := ⟨h.1.drew, h.2.drew⟩

set_option maxRecDepth 100000 in
set_option maxHeartbeats 4000000 in
theorem rowOf_any (bd ba bm bo px py dx dy : Nat) (w : World) (hc : CW bd ba bm bo dx dy w) (wp : px < 18446744073709551616 ∧ py < 18446744073709551616) (wd : dx < 18446744073709551616 ∧ dy < 18446744073709551616) (hp : Pt px py) (hd : Pt dx dy) :
    Calls Try.prog 44 #[pv px py, .pointer (some ⟨bd, 0, none⟩), .pointer (some ⟨ba, 0, none⟩), .pointer (some ⟨bm, 0, none⟩)] w fun e w' => (∃ s1 s2 s3, e = .returned (.agg #[s1, s2, s3]) ∧ RowL w' (fval px - fval dx) (fval py - fval dy) s1 s2 s3) ∧ Below w.heap.size w w' := by
  have HW : Hid ((px < 18446744073709551616 ∧ py < 18446744073709551616) ∧ dx < 18446744073709551616 ∧ dy < 18446744073709551616) := ⟨wp, wd⟩
  have HP : Hid (Pt px py ∧ Pt dx dy) := ⟨hp, hd⟩
  have HC : Hid (CW bd ba bm bo dx dy w) := hc
  clear hc wp wd hp hd
  have hlt := HC.out
  have l1 : bd < w.heap.size := World.block_lt_of_cell? _ _ hlt.d0
  have l2 : ba < w.heap.size := World.block_lt_of_cell? _ _ hlt.fa
  have l3 : bm < w.heap.size := World.block_lt_of_cell? _ _ hlt.fm
  have l4 : bo < w.heap.size := hlt.ok.lt
  have HL : Hid (bd < w.heap.size ∧ ba < w.heap.size ∧ bm < w.heap.size ∧ bo < w.heap.size) := ⟨l1, l2, l3, l4⟩
  clear hlt l1 l2 l3 l4
  go_enter Try.func44, Try.ntmps44
  go_wp2_with fail
  obtain ⟨W0, hW0⟩ : ∃ W0, W0 = (w.alloc (.cells #[.float .f64 px, .float .f64 py] 24)).alloc (.cells #[.slice none 0 0, .slice none 0 0, .slice none 0 0] 63) := ⟨_, rfl⟩
  have hb0 : Below w.heap.size w W0 := by
    rw [hW0]
    exact ((Below.refl _ w).alloc (Nat.le_refl _) _).alloc (by simp) _
  have z0 : W0.cell? ⟨w.heap.size, 0, none⟩ = some (.float .f64 px) := by rw [hW0]; go_simp
  have z1 : W0.cell? ⟨w.heap.size, 1, none⟩ = some (.float .f64 py) := by rw [hW0]; go_simp
  have z6 : CB W0 (w.heap.size + 1) #[.slice none 0 0, .slice none 0 0, .slice none 0 0] 63 := by
    have := CB.new (w.alloc (.cells #[.float .f64 px, .float .f64 py] 24)) #[.slice none 0 0, .slice none 0 0, .slice none 0 0] 63
    rw [hW0]
    simpa using this
  have HR0 : Hid (RR w W0 bd ba bm bo dx dy) := ⟨HC.out.later hb0, hb0⟩
  have z2 := HR0.out.1.d0
  have z3 := HR0.out.1.d1
  have z4 := HR0.out.1.fa
  have z5 := HR0.out.1.fm
  rw [← hW0]
  clear hW0 hb0
  have hZ := z6.drew
  clear z6
  refine wp_region_held_drew (S := (fun W => W.cell? ⟨w.heap.size, 0, none⟩ = some (.float .f64 px) ∧ W.cell? ⟨w.heap.size, 1, none⟩ = some (.float .f64 py) ∧ W.cell? ⟨bd, 0, none⟩ = some (.float .f64 dx) ∧ W.cell? ⟨bd, 1, none⟩ = some (.float .f64 dy) ∧ W.cell? ⟨ba, 0, none⟩ = some (.func (Fn.func 40) #[] #[.pointer (some ⟨bo, 0, none⟩)]) ∧ W.cell? ⟨bm, 0, none⟩ = some (.func (Fn.func 42) #[] #[.pointer (some ⟨bo, 0, none⟩)]) ∧ RR w W bd ba bm bo dx dy)) (by kernel_rfl) ⟨z0, z1, z2, z3, z4, z5, HR0.out.drew⟩ (fun hS => ?_)
  refine take_at (i := 0) (d := some 8) (v := .pointer (some ⟨w.heap.size, 0, none⟩)) (by kernel_rfl) (by kernel_rfl) (by kernel_rfl) (by kernel_rfl) (fun _ _ _ h => h) ?_ hS ?_
  · intro o ho
    simp only [List.getElem?_toArray, List.getElem?_cons_zero, Option.some.injEq] at ho
    subst ho
    refine Or.inl ⟨by rfl, ?_⟩
    intro w hSw
    (try dsimp only at hSw)
    go_simp
  simp only [Act.put, List.setIfInBounds_toArray, List.set_cons_zero, List.set_cons_succ]
  refine take_at (i := 1) (d := some 9) (v := .float .f64 px) (by kernel_rfl) (by kernel_rfl) (by kernel_rfl) (by kernel_rfl) (fun _ _ _ h => h) ?_ hS ?_
  · intro o ho
    simp only [List.getElem?_toArray, List.getElem?_cons_succ, List.getElem?_cons_zero, Option.some.injEq] at ho
    subst ho
    refine Or.inl ⟨by rfl, ?_⟩
    intro w hSw
    (try dsimp only at hSw)
    go_simp
  simp only [Act.put, List.setIfInBounds_toArray, List.set_cons_zero, List.set_cons_succ]
  refine take_at (i := 2) (d := some 10) (v := .pointer (some ⟨bd, 0, none⟩)) (by kernel_rfl) (by kernel_rfl) (by kernel_rfl) (by kernel_rfl) (fun _ _ _ h => h) ?_ hS ?_
  · intro o ho
    simp only [List.getElem?_toArray, List.getElem?_cons_succ, List.getElem?_cons_zero, Option.some.injEq] at ho
    subst ho
    refine Or.inl ⟨by rfl, ?_⟩
    intro w hSw
    (try dsimp only at hSw)
    go_simp
  simp only [Act.put, List.setIfInBounds_toArray, List.set_cons_zero, List.set_cons_succ]
  refine take_at (i := 3) (d := some 11) (v := .float .f64 dx) (by kernel_rfl) (by kernel_rfl) (by kernel_rfl) (by kernel_rfl) (fun _ _ _ h => h) ?_ hS ?_
  · intro o ho
    simp only [List.getElem?_toArray, List.getElem?_cons_succ, List.getElem?_cons_zero, Option.some.injEq] at ho
    subst ho
    refine Or.inl ⟨by rfl, ?_⟩
    intro w hSw
    (try dsimp only at hSw)
    go_simp
  simp only [Act.put, List.setIfInBounds_toArray, List.set_cons_zero, List.set_cons_succ]
  refine take_at (i := 5) (d := some 13) (v := .pointer (some ⟨w.heap.size, 1, none⟩)) (by kernel_rfl) (by kernel_rfl) (by kernel_rfl) (by kernel_rfl) (fun _ _ _ h => h) ?_ hS ?_
  · intro o ho
    simp only [List.getElem?_toArray, List.getElem?_cons_succ, List.getElem?_cons_zero, Option.some.injEq] at ho
    subst ho
    refine Or.inl ⟨by rfl, ?_⟩
    intro w hSw
    (try dsimp only at hSw)
    go_simp
  simp only [Act.put, List.setIfInBounds_toArray, List.set_cons_zero, List.set_cons_succ]
  refine take_at (i := 6) (d := some 14) (v := .float .f64 py) (by kernel_rfl) (by kernel_rfl) (by kernel_rfl) (by kernel_rfl) (fun _ _ _ h => h) ?_ hS ?_
  · intro o ho
    simp only [List.getElem?_toArray, List.getElem?_cons_succ, List.getElem?_cons_zero, Option.some.injEq] at ho
    subst ho
    refine Or.inl ⟨by rfl, ?_⟩
    intro w hSw
    (try dsimp only at hSw)
    go_simp
  simp only [Act.put, List.setIfInBounds_toArray, List.set_cons_zero, List.set_cons_succ]
  refine take_at (i := 7) (d := some 15) (v := .pointer (some ⟨bd, 1, none⟩)) (by kernel_rfl) (by kernel_rfl) (by kernel_rfl) (by kernel_rfl) (fun _ _ _ h => h) ?_ hS ?_
  · intro o ho
    simp only [List.getElem?_toArray, List.getElem?_cons_succ, List.getElem?_cons_zero, Option.some.injEq] at ho
    subst ho
    refine Or.inl ⟨by rfl, ?_⟩
    intro w hSw
    (try dsimp only at hSw)
    go_simp
  simp only [Act.put, List.setIfInBounds_toArray, List.set_cons_zero, List.set_cons_succ]
  refine take_at (i := 8) (d := some 16) (v := .float .f64 dy) (by kernel_rfl) (by kernel_rfl) (by kernel_rfl) (by kernel_rfl) (fun _ _ _ h => h) ?_ hS ?_
  · intro o ho
    simp only [List.getElem?_toArray, List.getElem?_cons_succ, List.getElem?_cons_zero, Option.some.injEq] at ho
    subst ho
    refine Or.inl ⟨by rfl, ?_⟩
    intro w hSw
    (try dsimp only at hSw)
    go_simp
  simp only [Act.put, List.setIfInBounds_toArray, List.set_cons_zero, List.set_cons_succ]
  refine call_at 4 (by kernel_rfl) (by kernel_rfl) ?_
  intro o ho
  simp only [List.getElem?_toArray, List.getElem?_cons_succ, List.getElem?_cons_zero, Option.some.injEq] at ho
  subst ho
  intro KF hK
  go_simp
  refine (apart_any px dx _ HW.out.1.1 HW.out.2.1 HP.out.1.1 HP.out.2.1).mono ?_
  rintro e wx ⟨⟨v1, l1, rfl, hF1, hN1⟩, hbx⟩
  obtain ⟨a1, n1, c1, rfl⟩ := hF1.shape
  have hZ := hZ.later hbx
  go_wp2_with fail
  refine hK.out _ _ ⟨box_cell hbx hS.1, box_cell hbx hS.2.1, box_cell hbx hS.2.2.1, box_cell hbx hS.2.2.2.1, box_cell hbx hS.2.2.2.2.1, box_cell hbx hS.2.2.2.2.2.1, hS.2.2.2.2.2.2.later hbx⟩ ?_
  clear hS hbx
  intro hS
  clear hK KF
  try simp only [Act.put, List.setIfInBounds_toArray, List.set_cons_zero, List.set_cons_succ]
  refine call_at 9 (by kernel_rfl) (by kernel_rfl) ?_
  intro o ho
  simp only [List.getElem?_toArray, List.getElem?_cons_succ, List.getElem?_cons_zero, Option.some.injEq] at ho
  subst ho
  intro KF hK
  go_simp
  refine (apart_any py dy _ HW.out.1.2 HW.out.2.2 HP.out.1.2 HP.out.2.2).mono ?_
  rintro e wx ⟨⟨v2, l2, rfl, hF2, hN2⟩, hbx⟩
  obtain ⟨a2, n2, c2, rfl⟩ := hF2.shape
  have hF1 := hF1.later hbx
  have hZ := hZ.later hbx
  go_wp2_with fail
  refine hK.out _ _ ⟨box_cell hbx hS.1, box_cell hbx hS.2.1, box_cell hbx hS.2.2.1, box_cell hbx hS.2.2.2.1, box_cell hbx hS.2.2.2.2.1, box_cell hbx hS.2.2.2.2.2.1, hS.2.2.2.2.2.2.later hbx⟩ ?_
  clear hS hbx
  intro hS
  clear hK KF
  try simp only [Act.put, List.setIfInBounds_toArray, List.set_cons_zero, List.set_cons_succ]
  refine take_at (i := 10) (d := some 6) (v := .slice a1 n1 c1) (by kernel_rfl) (by kernel_rfl) (by kernel_rfl) (by kernel_rfl) (fun _ _ _ h => h) ?_ hS ?_
  · intro o ho
    simp only [List.getElem?_toArray, List.getElem?_cons_succ, List.getElem?_cons_zero, Option.some.injEq] at ho
    subst ho
    refine Or.inl ⟨by rfl, ?_⟩
    intro w hSw
    (try dsimp only at hSw)
    go_simp
  simp only [Act.put, List.setIfInBounds_toArray, List.set_cons_zero, List.set_cons_succ]
  refine take_at (i := 11) (d := some 7) (v := .slice a2 n2 c2) (by kernel_rfl) (by kernel_rfl) (by kernel_rfl) (by kernel_rfl) (fun _ _ _ h => h) ?_ hS ?_
  · intro o ho
    simp only [List.getElem?_toArray, List.getElem?_cons_succ, List.getElem?_cons_zero, Option.some.injEq] at ho
    subst ho
    refine Or.inl ⟨by rfl, ?_⟩
    intro w hSw
    (try dsimp only at hSw)
    go_simp
  simp only [Act.put, List.setIfInBounds_toArray, List.set_cons_zero, List.set_cons_succ]
  refine wpAnyH_done (by kernel_rfl) ?_ _
  clear z0 z1 z2 z3 z4 z5
  have hF1 := hF1.drew
  have hF2 := hF2.drew
  have hZ := hZ.drew
  go_wp2_with fail
  refine wp_region_held_drew (S := (fun W => W.cell? ⟨w.heap.size, 0, none⟩ = some (.float .f64 px) ∧ W.cell? ⟨w.heap.size, 1, none⟩ = some (.float .f64 py) ∧ W.cell? ⟨bd, 0, none⟩ = some (.float .f64 dx) ∧ W.cell? ⟨bd, 1, none⟩ = some (.float .f64 dy) ∧ W.cell? ⟨ba, 0, none⟩ = some (.func (Fn.func 40) #[] #[.pointer (some ⟨bo, 0, none⟩)]) ∧ W.cell? ⟨bm, 0, none⟩ = some (.func (Fn.func 42) #[] #[.pointer (some ⟨bo, 0, none⟩)]) ∧ RR w W bd ba bm bo dx dy)) (by kernel_rfl) ⟨hS.1, hS.2.1, hS.2.2.1, hS.2.2.2.1, hS.2.2.2.2.1, hS.2.2.2.2.2.1, hS.2.2.2.2.2.2.drew⟩ (fun hS => ?_)
  refine take_at (i := 0) (d := some 18) (v := .slice a1 n1 c1) (by kernel_rfl) (by kernel_rfl) (by kernel_rfl) (by kernel_rfl) (fun _ _ _ h => h) ?_ hS ?_
  · intro o ho
    simp only [List.getElem?_toArray, List.getElem?_cons_zero, Option.some.injEq] at ho
    subst ho
    refine Or.inl ⟨by rfl, ?_⟩
    intro w hSw
    (try dsimp only at hSw)
    go_simp
  simp only [Act.put, List.setIfInBounds_toArray, List.set_cons_zero, List.set_cons_succ]
  refine take_at (i := 1) (d := some 19) (v := .slice a2 n2 c2) (by kernel_rfl) (by kernel_rfl) (by kernel_rfl) (by kernel_rfl) (fun _ _ _ h => h) ?_ hS ?_
  · intro o ho
    simp only [List.getElem?_toArray, List.getElem?_cons_succ, List.getElem?_cons_zero, Option.some.injEq] at ho
    subst ho
    refine Or.inl ⟨by rfl, ?_⟩
    intro w hSw
    (try dsimp only at hSw)
    go_simp
  simp only [Act.put, List.setIfInBounds_toArray, List.set_cons_zero, List.set_cons_succ]
  refine take_at (i := 2) (d := some 20) (v := .func (Fn.func 40) #[] #[.pointer (some ⟨bo, 0, none⟩)]) (by kernel_rfl) (by kernel_rfl) (by kernel_rfl) (by kernel_rfl) (fun _ _ _ h => h) ?_ hS ?_
  · intro o ho
    simp only [List.getElem?_toArray, List.getElem?_cons_succ, List.getElem?_cons_zero, Option.some.injEq] at ho
    subst ho
    refine Or.inl ⟨by rfl, ?_⟩
    intro w hSw
    (try dsimp only at hSw)
    go_simp
  simp only [Act.put, List.setIfInBounds_toArray, List.set_cons_zero, List.set_cons_succ]
  refine take_at (i := 3) (d := some 21) (v := .func (Fn.func 42) #[] #[.pointer (some ⟨bo, 0, none⟩)]) (by kernel_rfl) (by kernel_rfl) (by kernel_rfl) (by kernel_rfl) (fun _ _ _ h => h) ?_ hS ?_
  · intro o ho
    simp only [List.getElem?_toArray, List.getElem?_cons_succ, List.getElem?_cons_zero, Option.some.injEq] at ho
    subst ho
    refine Or.inl ⟨by rfl, ?_⟩
    intro w hSw
    (try dsimp only at hSw)
    go_simp
  simp only [Act.put, List.setIfInBounds_toArray, List.set_cons_zero, List.set_cons_succ]
  refine take_at (i := 4) (d := some 22) (v := .slice a1 n1 c1) (by kernel_rfl) (by kernel_rfl) (by kernel_rfl) (by kernel_rfl) (fun _ _ _ h => h) ?_ hS ?_
  · intro o ho
    simp only [List.getElem?_toArray, List.getElem?_cons_succ, List.getElem?_cons_zero, Option.some.injEq] at ho
    subst ho
    refine Or.inl ⟨by rfl, ?_⟩
    intro w hSw
    (try dsimp only at hSw)
    go_simp
  simp only [Act.put, List.setIfInBounds_toArray, List.set_cons_zero, List.set_cons_succ]
  refine take_at (i := 5) (d := some 23) (v := .slice a1 n1 c1) (by kernel_rfl) (by kernel_rfl) (by kernel_rfl) (by kernel_rfl) (fun _ _ _ h => h) ?_ hS ?_
  · intro o ho
    simp only [List.getElem?_toArray, List.getElem?_cons_succ, List.getElem?_cons_zero, Option.some.injEq] at ho
    subst ho
    refine Or.inl ⟨by rfl, ?_⟩
    intro w hSw
    (try dsimp only at hSw)
    go_simp
  simp only [Act.put, List.setIfInBounds_toArray, List.set_cons_zero, List.set_cons_succ]
  refine take_at (i := 7) (d := some 25) (v := .func (Fn.func 42) #[] #[.pointer (some ⟨bo, 0, none⟩)]) (by kernel_rfl) (by kernel_rfl) (by kernel_rfl) (by kernel_rfl) (fun _ _ _ h => h) ?_ hS ?_
  · intro o ho
    simp only [List.getElem?_toArray, List.getElem?_cons_succ, List.getElem?_cons_zero, Option.some.injEq] at ho
    subst ho
    refine Or.inl ⟨by rfl, ?_⟩
    intro w hSw
    (try dsimp only at hSw)
    go_simp
  simp only [Act.put, List.setIfInBounds_toArray, List.set_cons_zero, List.set_cons_succ]
  refine take_at (i := 8) (d := some 26) (v := .slice a2 n2 c2) (by kernel_rfl) (by kernel_rfl) (by kernel_rfl) (by kernel_rfl) (fun _ _ _ h => h) ?_ hS ?_
  · intro o ho
    simp only [List.getElem?_toArray, List.getElem?_cons_succ, List.getElem?_cons_zero, Option.some.injEq] at ho
    subst ho
    refine Or.inl ⟨by rfl, ?_⟩
    intro w hSw
    (try dsimp only at hSw)
    go_simp
  simp only [Act.put, List.setIfInBounds_toArray, List.set_cons_zero, List.set_cons_succ]
  refine take_at (i := 9) (d := some 27) (v := .slice a2 n2 c2) (by kernel_rfl) (by kernel_rfl) (by kernel_rfl) (by kernel_rfl) (fun _ _ _ h => h) ?_ hS ?_
  · intro o ho
    simp only [List.getElem?_toArray, List.getElem?_cons_succ, List.getElem?_cons_zero, Option.some.injEq] at ho
    subst ho
    refine Or.inl ⟨by rfl, ?_⟩
    intro w hSw
    (try dsimp only at hSw)
    go_simp
  simp only [Act.put, List.setIfInBounds_toArray, List.set_cons_zero, List.set_cons_succ]
  refine call_at 6 (by kernel_rfl) (by kernel_rfl) ?_
  intro o ho
  simp only [List.getElem?_toArray, List.getElem?_cons_succ, List.getElem?_cons_zero, Option.some.injEq] at ho
  subst ho
  intro KF hK
  go_simp
  refine (mulN_any 974 1175 974 1175 874 1276 bo (.slice a1 n1 c1) (.slice a1 n1 c1) (fval px - fval dx) (fval px - fval dx) l1 l1 _ hS.2.2.2.2.2.2.1.ok hF1 hF1 hN1 hN1 (by omega) (by omega) (by omega) (by omega)).mono ?_
  rintro e wx ⟨⟨v3, l3, rfl, hF3, hN3⟩, hbx⟩
  have hZ := hZ.later hbx
  have hF1 := hF1.later hbx
  have hF2 := hF2.later hbx
  go_wp2_with fail
  refine hK.out _ _ ⟨box_cell hbx hS.1, box_cell hbx hS.2.1, box_cell hbx hS.2.2.1, box_cell hbx hS.2.2.2.1, box_cell hbx hS.2.2.2.2.1, box_cell hbx hS.2.2.2.2.2.1, hS.2.2.2.2.2.2.later hbx⟩ ?_
  clear hS hbx
  intro hS
  clear hK KF
  try simp only [Act.put, List.setIfInBounds_toArray, List.set_cons_zero, List.set_cons_succ]
  refine call_at 10 (by kernel_rfl) (by kernel_rfl) ?_
  intro o ho
  simp only [List.getElem?_toArray, List.getElem?_cons_succ, List.getElem?_cons_zero, Option.some.injEq] at ho
  subst ho
  intro KF hK
  go_simp
  refine (mulN_any 974 1175 974 1175 874 1276 bo (.slice a2 n2 c2) (.slice a2 n2 c2) (fval py - fval dy) (fval py - fval dy) l2 l2 _ hS.2.2.2.2.2.2.1.ok hF2 hF2 hN2 hN2 (by omega) (by omega) (by omega) (by omega)).mono ?_
  rintro e wx ⟨⟨v4, l4, rfl, hF4, hN4⟩, hbx⟩
  have hZ := hZ.later hbx
  have hF1 := hF1.later hbx
  have hF2 := hF2.later hbx
  have hF3 := hF3.later hbx
  go_wp2_with fail
  refine hK.out _ _ ⟨box_cell hbx hS.1, box_cell hbx hS.2.1, box_cell hbx hS.2.2.1, box_cell hbx hS.2.2.2.1, box_cell hbx hS.2.2.2.2.1, box_cell hbx hS.2.2.2.2.2.1, hS.2.2.2.2.2.2.later hbx⟩ ?_
  clear hS hbx
  intro hS
  clear hK KF
  try simp only [Act.put, List.setIfInBounds_toArray, List.set_cons_zero, List.set_cons_succ]
  refine call_at 11 (by kernel_rfl) (by kernel_rfl) ?_
  intro o ho
  simp only [List.getElem?_toArray, List.getElem?_cons_succ, List.getElem?_cons_zero, Option.some.injEq] at ho
  subst ho
  intro KF hK
  go_simp
  refine (addN_any 874 1276 bo v3 v4 ((fval px - fval dx) * (fval px - fval dx)) ((fval py - fval dy) * (fval py - fval dy)) l3 l4 _ hS.2.2.2.2.2.2.1.ok hF3 hF4 hN3 hN4 (by omega) (by omega)).mono ?_
  rintro e wx ⟨⟨v5, l5, rfl, hF5, hN5⟩, hbx⟩
  obtain ⟨a5, n5, c5, rfl⟩ := hF5.shape
  have hZ := hZ.later hbx
  have hF1 := hF1.later hbx
  have hF2 := hF2.later hbx
  go_wp2_with fail
  refine hK.out _ _ ⟨box_cell hbx hS.1, box_cell hbx hS.2.1, box_cell hbx hS.2.2.1, box_cell hbx hS.2.2.2.1, box_cell hbx hS.2.2.2.2.1, box_cell hbx hS.2.2.2.2.2.1, hS.2.2.2.2.2.2.later hbx⟩ ?_
  clear hS hbx
  intro hS
  clear hK KF
  try simp only [Act.put, List.setIfInBounds_toArray, List.set_cons_zero, List.set_cons_succ]
  refine take_at (i := 12) (d := some 30) (v := .agg #[.slice a1 n1 c1, .slice a2 n2 c2, .slice a5 n5 c5]) (by kernel_rfl) (by kernel_rfl) (by kernel_rfl) (by kernel_rfl) (fun _ _ _ h => h) ?_ hS ?_
  · intro o ho
    simp only [List.getElem?_toArray, List.getElem?_cons_succ, List.getElem?_cons_zero, Option.some.injEq] at ho
    subst ho
    refine Or.inl ⟨by rfl, ?_⟩
    intro w hSw
    (try dsimp only at hSw)
    go_simp
  simp only [Act.put, List.setIfInBounds_toArray, List.set_cons_zero, List.set_cons_succ]
  have HSX := hS.2.2.2.2.2.2
  have HSC := hS
  clear hS
  have hc := hZ
  have hm := moved3 wx (w.heap.size + 1) (.slice a1 n1 c1) (.slice a2 n2 c2) (.slice a5 n5 c5)
  have hn := hc.nofloat (by simp)
  have hF1 := fs_moved hF1 hm hn
  have hF2 := fs_moved hF2 hm hn
  have hF5 := fs_moved hF5 hm hn
  have hlt := HL.out
  have hR2 : CW bd ba bm bo dx dy (((wx.setCell ⟨w.heap.size + 1, 0, none⟩ (.slice a1 n1 c1)).setCell ⟨w.heap.size + 1, 1, none⟩ (.slice a2 n2 c2)).setCell ⟨w.heap.size + 1, 2, none⟩ (.slice a5 n5 c5)) := HSX.1.moved hm (by omega) (by omega) (by omega) (by omega)
  have hc2 := hc.set3 (.slice a1 n1 c1) (.slice a2 n2 c2) (.slice a5 n5 c5)
  have f0 := hc.frozen 0
  have f1 := hc.frozen 1
  have f2 := hc.frozen 2
  obtain ⟨g0, g1, g2⟩ := hc.cells3
  have hbel : Below w.heap.size w (((wx.setCell ⟨w.heap.size + 1, 0, none⟩ (.slice a1 n1 c1)).setCell ⟨w.heap.size + 1, 1, none⟩ (.slice a2 n2 c2)).setCell ⟨w.heap.size + 1, 2, none⟩ (.slice a5 n5 c5)) := hm.bel _ _ (by omega) HSX.2
  have HE : Hid (CB (((wx.setCell ⟨w.heap.size + 1, 0, none⟩ (.slice a1 n1 c1)).setCell ⟨w.heap.size + 1, 1, none⟩ (.slice a2 n2 c2)).setCell ⟨w.heap.size + 1, 2, none⟩ (.slice a5 n5 c5)) (w.heap.size + 1) #[.slice a1 n1 c1, .slice a2 n2 c2, .slice a5 n5 c5] 63 ∧ Below w.heap.size w (((wx.setCell ⟨w.heap.size + 1, 0, none⟩ (.slice a1 n1 c1)).setCell ⟨w.heap.size + 1, 1, none⟩ (.slice a2 n2 c2)).setCell ⟨w.heap.size + 1, 2, none⟩ (.slice a5 n5 c5)) ∧ RowL (((wx.setCell ⟨w.heap.size + 1, 0, none⟩ (.slice a1 n1 c1)).setCell ⟨w.heap.size + 1, 1, none⟩ (.slice a2 n2 c2)).setCell ⟨w.heap.size + 1, 2, none⟩ (.slice a5 n5 c5)) (fval px - fval dx) (fval py - fval dy) (.slice a1 n1 c1) (.slice a2 n2 c2) (.slice a5 n5 c5)) := ⟨hc2, hbel, l1, l2, l5, ⟨hF1, hF2, hF5⟩, hN1, hN2, hN5⟩
  have hS2 : (World.cell? (((wx.setCell ⟨w.heap.size + 1, 0, none⟩ (.slice a1 n1 c1)).setCell ⟨w.heap.size + 1, 1, none⟩ (.slice a2 n2 c2)).setCell ⟨w.heap.size + 1, 2, none⟩ (.slice a5 n5 c5)) ⟨w.heap.size, 0, none⟩ = some (.float .f64 px)) ∧ (World.cell? (((wx.setCell ⟨w.heap.size + 1, 0, none⟩ (.slice a1 n1 c1)).setCell ⟨w.heap.size + 1, 1, none⟩ (.slice a2 n2 c2)).setCell ⟨w.heap.size + 1, 2, none⟩ (.slice a5 n5 c5)) ⟨w.heap.size, 1, none⟩ = some (.float .f64 py)) ∧ (World.cell? (((wx.setCell ⟨w.heap.size + 1, 0, none⟩ (.slice a1 n1 c1)).setCell ⟨w.heap.size + 1, 1, none⟩ (.slice a2 n2 c2)).setCell ⟨w.heap.size + 1, 2, none⟩ (.slice a5 n5 c5)) ⟨bd, 0, none⟩ = some (.float .f64 dx)) ∧ (World.cell? (((wx.setCell ⟨w.heap.size + 1, 0, none⟩ (.slice a1 n1 c1)).setCell ⟨w.heap.size + 1, 1, none⟩ (.slice a2 n2 c2)).setCell ⟨w.heap.size + 1, 2, none⟩ (.slice a5 n5 c5)) ⟨bd, 1, none⟩ = some (.float .f64 dy)) ∧ (World.cell? (((wx.setCell ⟨w.heap.size + 1, 0, none⟩ (.slice a1 n1 c1)).setCell ⟨w.heap.size + 1, 1, none⟩ (.slice a2 n2 c2)).setCell ⟨w.heap.size + 1, 2, none⟩ (.slice a5 n5 c5)) ⟨ba, 0, none⟩ = some (.func (Fn.func 40) #[] #[.pointer (some ⟨bo, 0, none⟩)])) ∧ (World.cell? (((wx.setCell ⟨w.heap.size + 1, 0, none⟩ (.slice a1 n1 c1)).setCell ⟨w.heap.size + 1, 1, none⟩ (.slice a2 n2 c2)).setCell ⟨w.heap.size + 1, 2, none⟩ (.slice a5 n5 c5)) ⟨bm, 0, none⟩ = some (.func (Fn.func 42) #[] #[.pointer (some ⟨bo, 0, none⟩)])) ∧ RR w (((wx.setCell ⟨w.heap.size + 1, 0, none⟩ (.slice a1 n1 c1)).setCell ⟨w.heap.size + 1, 1, none⟩ (.slice a2 n2 c2)).setCell ⟨w.heap.size + 1, 2, none⟩ (.slice a5 n5 c5)) bd ba bm bo dx dy := ⟨hm.cell _ _ _ (by omega) HSC.1, hm.cell _ _ _ (by omega) HSC.2.1, hR2.d0, hR2.d1, hR2.fa, hR2.fm, hR2, hbel⟩
  clear hF1 hF2 hF5 hN1 hN2 hN3 hN4 hN5 hF3 hF4 hlt hn hm hc2 HSX hc hbel HSC hZ hR2
  refine call_at 13 (by kernel_rfl) (by kernel_rfl) ?_
  intro o ho
  simp only [List.getElem?_toArray, List.getElem?_cons_succ, List.getElem?_cons_zero, Option.some.injEq] at ho
  subst ho
  intro KF hK
  go_simp
  go_wp2_with fail
  refine hK.out _ _ hS2 ?_
  intro _
  clear hK KF f0 f1 f2 g0 g1 g2 hS2
  try simp only [List.setIfInBounds_toArray, List.set_cons_zero, List.set_cons_succ]
  refine wpAnyH_done (by kernel_rfl) ?_ _
  go_wp2
  obtain ⟨y0, y1, y2⟩ := HE.out.1.cells3
  refine bodyPost_ret (v := .agg #[.slice a1 n1 c1, .slice a2 n2 c2, .slice a5 n5 c5]) (by simp [results, Try.results44, go_sem, y0, y1, y2]) rfl ?_
  exact ⟨⟨_, _, _, rfl, HE.out.2.2⟩, HE.out.2.1⟩

end Go.Proofs.Ytghchejehlljkaa
