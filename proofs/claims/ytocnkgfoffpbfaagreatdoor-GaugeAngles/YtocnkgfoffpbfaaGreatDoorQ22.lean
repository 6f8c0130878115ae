/- Own texts, put together: Ng Nh Fa Fe Ff Fg Fh Fi. -/
import Derived.Test.YtocnkgfoffpbfaaGreatDoorQ1
import Derived.Test.YtocnkgfoffpbfaaGreatDoorQ6
import Derived.Test.YtocnkgfoffpbfaaGreatDoorQ13
import Derived.Test.YtocnkgfoffpbfaaGreatDoorQ20
/- Shift: a number times a power of two. -/
namespace Go.Proofs.YtocnkgfoffpbfaaGreatDoor
open Go.RowKit
attribute [local go_sem ↓] Go.wp_at_zero Go.wp_at_succ
set_option maxHeartbeats 1000000 in
theorem shift_none (a1 : Option Addr) (n1 c1 : Nat) (low1 k : Int) (neg1 : Bool) (w : World) :
   Calls Tryz.prog 46 #[.agg #[.slice a1 n1 c1, .int .i64 low1, .bool neg1, .bool true], .int .i64 k] w fun e w' => e = .returned (.agg #[.slice none 0 0, .int .i64 0, .bool false, .bool true]) ∧ Below w.heap.size w w' := by
 go_enter Tryz.func46, Tryz.ntmps46
 go_wp2
 refine bodyPost_ret (v := .agg #[.slice none 0 0, .int .i64 0, .bool false, .bool true]) (by simp [results, Tryz.results46, go_sem]) rfl ⟨rfl, ?_⟩
 exact ((Below.refl _ _).alloc (Nat.le_refl _) _).alloc (by simp) _
set_option maxHeartbeats 1000000 in
theorem shift_zero (a1 : Option Addr) (c1 : Nat) (low1 k : Int) (neg1 : Bool) (w : World) :
   Calls Tryz.prog 46 #[.agg #[.slice a1 0 c1, .int .i64 low1, .bool neg1, .bool false], .int .i64 k] w fun e w' => e = .returned (.agg #[.slice none 0 0, .int .i64 0, .bool false, .bool false]) ∧ Below w.heap.size w w' := by
 have HB0 : Hid (Below w.heap.size w ((w.alloc (.cells #[.slice a1 0 c1, .int .i64 low1, .bool neg1, .bool false] 49)).alloc (.cells #[.slice none 0 0, .int .i64 0, .bool false, .bool false] 49))) := ((Below.refl _ _).alloc (Nat.le_refl _) _).alloc (by simp) _
 go_enter Tryz.func46, Tryz.ntmps46
 go_wp2_with fail
 refine (isZero_any _ _ _ _ _).mono ?_
 rintro e w6 ⟨rfl, hB6⟩
 have x3 : w6.cell? ⟨w.heap.size, 3, none⟩ = some (.bool false) := cell_later hB6 (by go_simp)
 have t0 : w6.cell? ⟨w.heap.size + 1, 0, none⟩ = some (.slice none 0 0) := cell_later hB6 (by go_simp)
 have t1 : w6.cell? ⟨w.heap.size + 1, 1, none⟩ = some (.int .i64 0) := cell_later hB6 (by go_simp)
 have t2 : w6.cell? ⟨w.heap.size + 1, 2, none⟩ = some (.bool false) := cell_later hB6 (by go_simp)
 have t3 : w6.cell? ⟨w.heap.size + 1, 3, none⟩ = some (.bool false) := cell_later hB6 (by go_simp)
 have u0 : ∀ i, w6.frozen? ⟨w.heap.size + 1, i, none⟩ = false := fun i => frozen_later hB6 (by go_simp) (by simp)
 have HB6 : Hid (Below w.heap.size w w6) := thru HB0.out hB6
 clear hB6 HB0
 go_wp2
 refine bodyPost_ret (v := .agg #[.slice none 0 0, .int .i64 0, .bool false, .bool false]) (by simp [results, Tryz.results46, go_sem, t0, t1, t2, t3]) rfl ⟨rfl, ?_⟩
 repeat (first | exact HB6.out | refine Below.drew ?_ | refine Below.setCell ?_ (by simp; done) _)
set_option maxHeartbeats 1000000 in
theorem shift_far (a1 : Option Addr) (n1 c1 : Nat) (low1 k : Int) (neg1 : Bool) (w : World) (hn : ((n1 : Int) == 0) = false) (hk : k < -131072 ∨ 131072 < k) :
   Calls Tryz.prog 46 #[.agg #[.slice a1 n1 c1, .int .i64 low1, .bool neg1, .bool false], .int .i64 k] w fun e w' => e = .returned (.agg #[.slice none 0 0, .int .i64 0, .bool false, .bool true]) ∧ Below w.heap.size w w' := by
 have HB0 : Hid (Below w.heap.size w ((w.alloc (.cells #[.slice a1 n1 c1, .int .i64 low1, .bool neg1, .bool false] 49)).alloc (.cells #[.slice none 0 0, .int .i64 0, .bool false, .bool false] 49))) := ((Below.refl _ _).alloc (Nat.le_refl _) _).alloc (by simp) _
 have HK : Hid (k < -131072 ∨ 131072 < k) := hk
 clear hk
 go_enter Tryz.func46, Tryz.ntmps46
 go_wp2_with fail
 refine (isZero_any _ _ _ _ _).mono ?_
 rintro e w6 ⟨rfl, hB6⟩
 have t0 : w6.cell? ⟨w.heap.size + 1, 0, none⟩ = some (.slice none 0 0) := cell_later hB6 (by go_simp)
 have t1 : w6.cell? ⟨w.heap.size + 1, 1, none⟩ = some (.int .i64 0) := cell_later hB6 (by go_simp)
 have t2 : w6.cell? ⟨w.heap.size + 1, 2, none⟩ = some (.bool false) := cell_later hB6 (by go_simp)
 have t3 : w6.cell? ⟨w.heap.size + 1, 3, none⟩ = some (.bool false) := cell_later hB6 (by go_simp)
 have u0 : ∀ i, w6.frozen? ⟨w.heap.size + 1, i, none⟩ = false := fun i => frozen_later hB6 (by go_simp) (by simp)
 have HB6 : Hid (Below w.heap.size w w6) := thru HB0.out hB6
 clear hB6 HB0
 have hk := HK.out
 by_cases h1 : k < -131072
 · clear hk
   go_wp2
   refine bodyPost_ret (v := .agg #[.slice none 0 0, .int .i64 0, .bool false, .bool true]) (by simp [results, Tryz.results46, go_sem, t0, t1, t2, t3]) rfl ⟨rfl, ?_⟩
   repeat (first | exact HB6.out | refine Below.drew ?_ | refine Below.setCell ?_ (by simp; done) _)
 · have h2 : 131072 < k := by omega
   clear hk
   go_wp2
   refine bodyPost_ret (v := .agg #[.slice none 0 0, .int .i64 0, .bool false, .bool true]) (by simp [results, Tryz.results46, go_sem, t0, t1, t2, t3]) rfl ⟨rfl, ?_⟩
   repeat (first | exact HB6.out | refine Below.drew ?_ | refine Below.setCell ?_ (by simp; done) _)
set_option maxHeartbeats 2000000 in
theorem shift_walk (a1 : Option Addr) (c1 : Nat) (ns1 : List Nat) (low1 k : Int) (neg1 : Bool) (w : World) (m1 : IsMag w (.slice a1 ns1.length c1) ns1 low1) (hne : ns1 ≠ []) (k1 : -131072 ≤ k) (k2 : k ≤ 131072) :
   Calls Tryz.prog 46 #[.agg #[.slice a1 ns1.length c1, .int .i64 low1, .bool neg1, .bool false], .int .i64 k] w fun e w' => NumR w w' (sg neg1 * magR ns1 low1 * p2 k) e := by
 have HB0 : Hid (Below w.heap.size w ((w.alloc (.cells #[.slice a1 ns1.length c1, .int .i64 low1, .bool neg1, .bool false] 49)).alloc (.cells #[.slice none 0 0, .int .i64 0, .bool false, .bool false] 49))) := ((Below.refl _ _).alloc (Nat.le_refl _) _).alloc (by simp) _
 have M1 : Hid (IsMag w (.slice a1 ns1.length c1) ns1 low1) := m1
 have g1 := m1.lo
 have g2 := m1.low_le
 have HO : Hid (OwnF ns1 (low1 + k)) := by
   rcases m1.own with ⟨h, _⟩ | ⟨h, h'⟩
   · exact absurd h hne
   · exact Or.inr ⟨h, h'⟩
 have HQ : Hid (sg neg1 * magR ns1 low1 * p2 k = sg neg1 * magR ns1 (low1 + k)) := by
   show _ = _
   unfold magR; rw [p2_add]; grind
 have hn : ((ns1.length : Int) == 0) = false := by rw [beq_eq_false_iff_ne]; have := List.length_pos_iff.2 hne; omega
 have hk1 : ¬ k < -131072 := by omega
 have hk2 : ¬ 131072 < k := by omega
 clear m1
 go_enter Tryz.func46, Tryz.ntmps46
 go_wp2_with fail
 refine (isZero_any _ _ _ _ _).mono ?_
 rintro e w4 ⟨rfl, hb4⟩
 have x0 : w4.cell? ⟨w.heap.size, 0, none⟩ = some (.slice a1 ns1.length c1) := cell_later hb4 (by go_simp)
 have x1 : w4.cell? ⟨w.heap.size, 1, none⟩ = some (.int .i64 low1) := cell_later hb4 (by go_simp)
 have x2 : w4.cell? ⟨w.heap.size, 2, none⟩ = some (.bool neg1) := cell_later hb4 (by go_simp)
 have k'0 : w4.cell? ⟨w.heap.size + 1, 0, none⟩ = some (.slice none 0 0) := cell_later hb4 (by go_simp)
 have k'1 : w4.cell? ⟨w.heap.size + 1, 1, none⟩ = some (.int .i64 0) := cell_later hb4 (by go_simp)
 have k'2 : w4.cell? ⟨w.heap.size + 1, 2, none⟩ = some (.bool false) := cell_later hb4 (by go_simp)
 have k'3 : w4.cell? ⟨w.heap.size + 1, 3, none⟩ = some (.bool false) := cell_later hb4 (by go_simp)
 have u4 : ∀ i, w4.frozen? ⟨w.heap.size + 1, i, none⟩ = false := fun i => frozen_later hb4 (by go_simp) (by simp)
 have hsz4 : w.heap.size + 1 < w4.heap.size := by have := hb4.size; simp at this; omega
 have HB4 : Hid (Below w.heap.size w w4) := thru HB0.out hb4
 clear hb4 HB0
 go_wp2
 go_region_held3 (fun W => W.cell? ⟨w.heap.size, 0, none⟩ = some (.slice a1 ns1.length c1) ∧ W.cell? ⟨w.heap.size, 1, none⟩ = some (.int .i64 low1) ∧ W.cell? ⟨w.heap.size, 2, none⟩ = some (.bool neg1) ∧ Below w.heap.size w W)
   (first
     | assumption
     | exact ⟨x0, x1, x2, HB4.out.drew⟩
     | exact keep3 (by assumption) (by assumption)
     | exact keep3_set (keep3_set (keep3_set (keep3_set (by assumption) _ _ (by show w.heap.size ≠ w.heap.size + 1; omega) (by show w.heap.size ≤ w.heap.size + 1; omega)) _ _ (by show w.heap.size ≠ w.heap.size + 1; omega) (by show w.heap.size ≤ w.heap.size + 1; omega)) _ _ (by show w.heap.size ≠ w.heap.size + 1; omega) (by show w.heap.size ≤ w.heap.size + 1; omega)) _ _ (by show w.heap.size ≠ w.heap.size + 1; omega) (by show w.heap.size ≤ w.heap.size + 1; omega))
   (first
     | (go_at_call 77; refine (moved_any _ ns1 _ _ _ (M1.out.later HB4.out.drew).ws (by omega) (by omega) (by omega) (by omega)).mono ?_; rintro e w5 ⟨s5, rfl, hws5, hb5⟩)
     | (go_at_call 76; refine (number_any _ ns1 _ _ _ hws5 HO.out (by omega) (by omega)).mono ?_; rintro e w6 ⟨v9, x9, rfl, ⟨a9, ns9, c9, low9, neg9, nn9, rfl, hws9, hrest⟩, hN9, hb6⟩; have hB6 := thru hb5 hb6; have t0 : w6.cell? ⟨w.heap.size + 1, 0, none⟩ = some (.slice none 0 0) := cell_later hB6 k'0; have t1 : w6.cell? ⟨w.heap.size + 1, 1, none⟩ = some (.int .i64 0) := cell_later hB6 k'1; have t2 : w6.cell? ⟨w.heap.size + 1, 2, none⟩ = some (.bool false) := cell_later hB6 k'2; have t3 : w6.cell? ⟨w.heap.size + 1, 3, none⟩ = some (.bool false) := cell_later hB6 k'3; have u0 : ∀ i, w6.frozen? ⟨w.heap.size + 1, i, none⟩ = false := fun i => frozen_later hB6 (u4 i) hsz4))
 have hBf := (by assumption : _ ∧ _ ∧ _ ∧ Below w.heap.size w _).2.2.2
 have HBF : Hid _ := hBf
 rw [← HQ.out] at hN9
 have HN9 : Hid _ := hN9
 clear hb5 hb6 hB6 hws5 hN9 hBf
 have HRST : Hid _ := hrest
 clear hrest
 go_wp2
 refine bodyPost_ret (v := .agg #[.slice a9 ns9.length c9, .int .i64 low9, .bool neg9, .bool nn9]) (by simp [results, Tryz.results46, go_sem, t0, t1, t2, t3]) rfl ?_
 have hw9 := ws4 hws9 t0 t1 t2 t3 (.slice a9 ns9.length c9) (.int .i64 low9) (.bool neg9) (.bool nn9)
 refine ⟨_, x9, rfl, ⟨a9, ns9, c9, low9, neg9, nn9, rfl, hw9, HRST.out⟩, HN9.out, HBF.out⟩
theorem may_zero : May 0 := by
 have := p2_pos 65537
 exact ⟨this, by grind, 0, by simp⟩
theorem isNum_zero (w : World) : IsNum w (.agg #[.slice none 0 0, .int .i64 0, .bool false, .bool false]) (some 0) :=
 ⟨none, [], 0, 0, false, false, rfl, ⟨⟨_, _, rfl, Nat.le_refl _, Or.inl rfl⟩, fun n hn => by simp at hn, by simp⟩, Or.inl ⟨rfl, rfl⟩, by omega, by simp [hiB], fun _ => rfl, fun h => (by cases h), fun _ => by simp [magR_nil]⟩
theorem far_not {ns : List Nat} {low k : Int} {neg : Bool} (h : OwnF ns low) (hne : ns ≠ []) (lo : -65536 ≤ low) (hi : hiB ns low ≤ 65536) (hk : k < -131072 ∨ 131072 < k) : ¬ May (sg neg * magR ns low * p2 k) := by
 have e : sg neg * magR ns low * p2 k = sg neg * magR ns (low + k) := by unfold magR; rw [p2_add]; grind
 rw [e]
 intro hm
 have ho : OwnF ns (low + k) := by
   rcases h with ⟨h, _⟩ | ⟨h, h'⟩
   · exact absurd h hne
   · exact Or.inr ⟨h, h'⟩
 have := (may_iff ho).2 (may_sg.1 hm)
 have hlh := own_low_hi h
 have e2 : hiB ns (low + k) = hiB ns low + k := by unfold hiB; rw [if_neg hne, if_neg hne]; omega
 omega
def ShiftX (k : Int) (a x : Option Rat) : Prop := (∃ p, a = some p ∧ Norm (p * p2 k) x) ∨ (a = none ∧ x = none)
theorem shift_any (va : Value) (a : Option Rat) (k : Int) (w : World) (ha : IsNum w va a) :
   Calls Tryz.prog 46 #[va, .int .i64 k] w fun e w' => OpR w w' (ShiftX k a) e := by
 obtain ⟨a1, ns1, c1, low1, neg1, nn1, rfl, p2, p3, p4, p5, p6, p7, p8⟩ := ha
 cases nn1 with
 | true =>
   refine (shift_none a1 _ c1 low1 k neg1 w).mono ?_
   rintro e w' ⟨rfl, hb⟩
   exact ⟨_, none, rfl, isNum_none w', Or.inr ⟨(p7 rfl).2, rfl⟩, hb⟩
 | false =>
   by_cases hne : ns1 = []
   · subst hne
     refine (shift_zero a1 c1 low1 k neg1 w).mono ?_
     rintro e w' ⟨rfl, hb⟩
     refine ⟨_, some 0, rfl, isNum_zero w', Or.inl ⟨_, p8 rfl, ?_⟩, hb⟩
     rw [magR_nil]
     refine Or.inl ⟨?_, ?_⟩
     · rw [Rat.mul_zero, Rat.zero_mul]; exact may_zero
     · rw [Rat.mul_zero, Rat.zero_mul]
   · by_cases hk : k < -131072 ∨ 131072 < k
     · refine (shift_far a1 _ c1 low1 k neg1 w (by rw [beq_eq_false_iff_ne]; have := List.length_pos_iff.2 hne; omega) hk).mono ?_
       rintro e w' ⟨rfl, hb⟩
       exact ⟨_, none, rfl, isNum_none w', Or.inl ⟨_, p8 rfl, Or.inr ⟨far_not p3 hne p4 p5 hk, rfl⟩⟩, hb⟩
     · refine (shift_walk a1 c1 ns1 low1 k neg1 w ⟨p2, p3, p4, p5⟩ hne (by omega) (by omega)).mono ?_
       rintro e w' ⟨v, x, he, hn, hN, hb⟩
       exact ⟨v, x, he, hn, Or.inl ⟨_, p8 rfl, hN⟩, hb⟩
end Go.Proofs.YtocnkgfoffpbfaaGreatDoor

/- Cmp, High and Low. -/
namespace Go.Proofs.YtocnkgfoffpbfaaGreatDoor
open Go.RowKit
attribute [local go_sem ↓] Go.wp_at_zero Go.wp_at_succ
theorem keep8 {w W W' : World} {p0 p1 p2 p3 p4 p5 p6 p7 : Addr} {x0 x1 x2 x3 x4 x5 x6 x7 : Value} (h : W.cell? p0 = some x0 ∧ W.cell? p1 = some x1 ∧ W.cell? p2 = some x2 ∧ W.cell? p3 = some x3 ∧ W.cell? p4 = some x4 ∧ W.cell? p5 = some x5 ∧ W.cell? p6 = some x6 ∧ W.cell? p7 = some x7 ∧ Below w.heap.size w W) (hb : Below W.heap.size W W') :
   W'.cell? p0 = some x0 ∧ W'.cell? p1 = some x1 ∧ W'.cell? p2 = some x2 ∧ W'.cell? p3 = some x3 ∧ W'.cell? p4 = some x4 ∧ W'.cell? p5 = some x5 ∧ W'.cell? p6 = some x6 ∧ W'.cell? p7 = some x7 ∧ Below w.heap.size w W' :=
 ⟨cell_later hb h.1, cell_later hb h.2.1, cell_later hb h.2.2.1, cell_later hb h.2.2.2.1, cell_later hb h.2.2.2.2.1, cell_later hb h.2.2.2.2.2.1, cell_later hb h.2.2.2.2.2.2.1, cell_later hb h.2.2.2.2.2.2.2.1, h.2.2.2.2.2.2.2.2.trans (hb.mono h.2.2.2.2.2.2.2.2.size)⟩
theorem bel8 {w W : World} {p0 p1 p2 p3 p4 p5 p6 p7 : Addr} {x0 x1 x2 x3 x4 x5 x6 x7 : Value} (h : W.cell? p0 = some x0 ∧ W.cell? p1 = some x1 ∧ W.cell? p2 = some x2 ∧ W.cell? p3 = some x3 ∧ W.cell? p4 = some x4 ∧ W.cell? p5 = some x5 ∧ W.cell? p6 = some x6 ∧ W.cell? p7 = some x7 ∧ Below w.heap.size w W) : Below w.heap.size w W := h.2.2.2.2.2.2.2.2
theorem sg_range (q : Rat) : -1 ≤ sgnR q ∧ sgnR q ≤ 1 := by unfold sgnR cmpR; split <;> (try split) <;> omega
theorem cmpR_range (p q : Rat) : -1 ≤ cmpR p q ∧ cmpR p q ≤ 1 := by unfold cmpR; split <;> (try split) <;> omega
theorem cmp_signs {p q : Rat} (h : sgnR p ≠ sgnR q) : cmpI (sgnR p) (sgnR q) = cmpR p q := by
 unfold sgnR cmpR at *
 unfold cmpI
 rcases Rat.le_total (a := p) (b := 0) with h1 | h1 <;> rcases Rat.le_total (a := q) (b := 0) with h2 | h2
 all_goals grind
theorem cmp_mags {p q : Rat} {neg1 neg2 : Bool} (hp : 0 ≤ p) (hq : 0 ≤ q) (h : sgnR (sg neg1 * p) = sgnR (sg neg2 * q)) : sgnR (sg neg1 * p) * cmpR p q = cmpR (sg neg1 * p) (sg neg2 * q) := by
 unfold sgnR cmpR sg at *
 cases neg1 <;> cases neg2 <;> simp only [Bool.false_eq_true, if_false, if_true] at h ⊢
 all_goals grind
set_option maxHeartbeats 1000000 in
theorem cmp_none1 (a1 a2 : Option Addr) (n1 n2 c1 c2 : Nat) (low1 low2 : Int) (neg1 neg2 nn2 : Bool) (w : World) :
   Calls Tryz.prog 30 #[.agg #[.slice a1 n1 c1, .int .i64 low1, .bool neg1, .bool true], .agg #[.slice a2 n2 c2, .int .i64 low2, .bool neg2, .bool nn2]] w fun e w' => e = .returned (.int .i64 0) ∧ Below w.heap.size w w' := by
 go_enter Tryz.func30, Tryz.ntmps30
 go_wp2
 go_ret
 exact ⟨rfl, ((Below.refl _ _).alloc (Nat.le_refl _) _).alloc (by simp) _⟩
set_option maxHeartbeats 1000000 in
theorem cmp_none2 (a1 a2 : Option Addr) (n1 n2 c1 c2 : Nat) (low1 low2 : Int) (neg1 neg2 : Bool) (w : World) :
   Calls Tryz.prog 30 #[.agg #[.slice a1 n1 c1, .int .i64 low1, .bool neg1, .bool false], .agg #[.slice a2 n2 c2, .int .i64 low2, .bool neg2, .bool true]] w fun e w' => e = .returned (.int .i64 0) ∧ Below w.heap.size w w' := by
 go_enter Tryz.func30, Tryz.ntmps30
 go_wp2
 go_ret
 exact ⟨rfl, ((Below.refl _ _).alloc (Nat.le_refl _) _).alloc (by simp) _⟩
set_option maxHeartbeats 2000000 in
theorem cmp_walk (a1 a2 : Option Addr) (c1 c2 : Nat) (ns1 ns2 : List Nat) (low1 low2 : Int) (neg1 neg2 : Bool) (w : World) (m1 : IsMag w (.slice a1 ns1.length c1) ns1 low1) (m2 : IsMag w (.slice a2 ns2.length c2) ns2 low2) :
   Calls Tryz.prog 30 #[.agg #[.slice a1 ns1.length c1, .int .i64 low1, .bool neg1, .bool false], .agg #[.slice a2 ns2.length c2, .int .i64 low2, .bool neg2, .bool false]] w fun e w' => e = .returned (.int .i64 (cmpR (sg neg1 * magR ns1 low1) (sg neg2 * magR ns2 low2))) ∧ Below w.heap.size w w' := by
 have HB0 : Hid (Below w.heap.size w ((w.alloc (.cells #[.slice a1 ns1.length c1, .int .i64 low1, .bool neg1, .bool false] 49)).alloc (.cells #[.slice a2 ns2.length c2, .int .i64 low2, .bool neg2, .bool false] 49))) := ((Below.refl _ _).alloc (Nat.le_refl _) _).alloc (by simp) _
 have M1 : Hid (IsMag w (.slice a1 ns1.length c1) ns1 low1) := m1
 have M2 : Hid (IsMag w (.slice a2 ns2.length c2) ns2 low2) := m2
 have hs1 := sgn_num (neg := neg1) m1.own
 have hs2 := sgn_num (neg := neg2) m2.own
 have r1 := sg_range (sg neg1 * magR ns1 low1)
 have r2 := cmpR_range (magR ns1 low1) (magR ns2 low2)
 have HF1 : Hid (sgnR (sg neg1 * magR ns1 low1) ≠ sgnR (sg neg2 * magR ns2 low2) → cmpI (sgnR (sg neg1 * magR ns1 low1)) (sgnR (sg neg2 * magR ns2 low2)) = cmpR (sg neg1 * magR ns1 low1) (sg neg2 * magR ns2 low2)) := cmp_signs
 have HF2 : Hid (sgnR (sg neg1 * magR ns1 low1) = sgnR (sg neg2 * magR ns2 low2) → sgnR (sg neg1 * magR ns1 low1) * cmpR (magR ns1 low1) (magR ns2 low2) = cmpR (sg neg1 * magR ns1 low1) (sg neg2 * magR ns2 low2)) := cmp_mags (magR_nonneg _ _) (magR_nonneg _ _)
 have HS1 : Hid _ := hs1
 have HS2 : Hid _ := hs2
 clear hs1 hs2 m1 m2
 generalize hg1 : sgnR (sg neg1 * magR ns1 low1) = g1 at *
 generalize hg2 : sgnR (sg neg2 * magR ns2 low2) = g2 at *
 generalize hg3 : cmpR (sg neg1 * magR ns1 low1) (sg neg2 * magR ns2 low2) = g3 at *
 clear hg1 hg2 hg3
 go_enter Tryz.func30, Tryz.ntmps30
 go_wp2
 go_region_held3 (fun W => W.cell? ⟨w.heap.size, 0, none⟩ = some (.slice a1 ns1.length c1) ∧ W.cell? ⟨w.heap.size, 1, none⟩ = some (.int .i64 low1) ∧ W.cell? ⟨w.heap.size, 2, none⟩ = some (.bool neg1) ∧ W.cell? ⟨w.heap.size, 3, none⟩ = some (.bool false) ∧ W.cell? ⟨w.heap.size + 1, 0, none⟩ = some (.slice a2 ns2.length c2) ∧ W.cell? ⟨w.heap.size + 1, 1, none⟩ = some (.int .i64 low2) ∧ W.cell? ⟨w.heap.size + 1, 2, none⟩ = some (.bool neg2) ∧ W.cell? ⟨w.heap.size + 1, 3, none⟩ = some (.bool false) ∧ Below w.heap.size w W)
   (first
     | assumption
     | exact ⟨by go_simp, by go_simp, by go_simp, by go_simp, by go_simp, by go_simp, by go_simp, by go_simp, HB0.out.drew⟩
     | exact keep8 (by assumption) (by assumption))
   (first
     | (go_at_call_of 37 low1; refine (sign_walk _ _ _ _ _ _ _).mono ?_; rw [HS1.out]; rintro e wx ⟨rfl, hbx⟩)
     | (go_at_call_of 37 low2; refine (sign_walk _ _ _ _ _ _ _).mono ?_; rw [HS2.out]; rintro e wx ⟨rfl, hbx⟩)
     | (go_at_call 70; refine (cmpInt_any _ _ _).mono ?_; rintro e wz ⟨rfl, rfl⟩))
 have hh := (by assumption : wz.cell? ⟨w.heap.size, 0, none⟩ = _ ∧ wz.cell? ⟨w.heap.size, 1, none⟩ = _ ∧ wz.cell? ⟨w.heap.size, 2, none⟩ = _ ∧ wz.cell? ⟨w.heap.size, 3, none⟩ = _ ∧ wz.cell? _ = _ ∧ wz.cell? _ = _ ∧ wz.cell? _ = _ ∧ wz.cell? _ = _ ∧ Below w.heap.size w wz)
 obtain ⟨q0, q1, q2, q3, q4, q5, q6, q7, q8⟩ := hh
 have Q8 : Hid (Below w.heap.size w wz) := q8
 clear q8
 by_cases hg : g1 = g2
 · have hz : (cmpI g1 g2 != 0) = false := by rw [hg]; simp [cmpI]
   have hf := HF2.out hg
   have hw : IntKind.i64.wrap (g1 * cmpR (magR ns1 low1) (magR ns2 low2)) = g3 := by
     rw [hf]
     refine wrapI _ ?_ ?_
     · rw [← hf]
       have : g1 = -1 ∨ g1 = 0 ∨ g1 = 1 := by omega
       rcases this with h | h | h <;> rw [h] <;> omega
     · rw [← hf]
       have : g1 = -1 ∨ g1 = 0 ∨ g1 = 1 := by omega
       rcases this with h | h | h <;> rw [h] <;> omega
   have HG : Hid (g1 = g2) := hg
   clear hf hg
   generalize cmpI g1 g2 = cc at *
   generalize h4 : cmpR (magR ns1 low1) (magR ns2 low2) = c4 at *
   have H4 : Hid (cmpR (magR ns1 low1) (magR ns2 low2) = c4) := h4
   clear h4
   go_wp2
   go_region_held3 (fun W => W.cell? ⟨w.heap.size, 0, none⟩ = some (.slice a1 ns1.length c1) ∧ W.cell? ⟨w.heap.size, 1, none⟩ = some (.int .i64 low1) ∧ W.cell? ⟨w.heap.size, 2, none⟩ = some (.bool neg1) ∧ W.cell? ⟨w.heap.size, 3, none⟩ = some (.bool false) ∧ W.cell? ⟨w.heap.size + 1, 0, none⟩ = some (.slice a2 ns2.length c2) ∧ W.cell? ⟨w.heap.size + 1, 1, none⟩ = some (.int .i64 low2) ∧ W.cell? ⟨w.heap.size + 1, 2, none⟩ = some (.bool neg2) ∧ W.cell? ⟨w.heap.size + 1, 3, none⟩ = some (.bool false) ∧ Below w.heap.size w W)
     (first
       | assumption
       | exact ⟨q0, q1, q2, q3, q4, q5, q6, q7, Q8.out.drew⟩
       | exact keep8 (by assumption) (by assumption))
     (first
       | (go_at_call 37; refine (sign_walk _ _ _ _ _ _ _).mono ?_; rw [HS1.out]; rintro e wx ⟨rfl, hbx⟩)
       | (go_at_call 71; refine (against_any _ _ ns1 ns2 _ _ _ (M1.out.later (bel8 (by assumption))) (M2.out.later (bel8 (by assumption)))).mono ?_; rw [H4.out]; rintro e wy ⟨rfl, hby⟩))
   have hBf := (by assumption : wy.cell? ⟨w.heap.size, 0, none⟩ = _ ∧ wy.cell? ⟨w.heap.size, 1, none⟩ = _ ∧ wy.cell? ⟨w.heap.size, 2, none⟩ = _ ∧ wy.cell? ⟨w.heap.size, 3, none⟩ = _ ∧ wy.cell? _ = _ ∧ wy.cell? _ = _ ∧ wy.cell? _ = _ ∧ wy.cell? _ = _ ∧ Below w.heap.size w wy).2.2.2.2.2.2.2.2
   have HBF : Hid _ := hBf
   clear hBf
   go_wp2
   go_ret
   exact ⟨rfl, HBF.out⟩
 · have hz : (cmpI g1 g2 != 0) = true := by
     rw [bne_iff_ne]; unfold cmpI; split
     · omega
     · split <;> omega
   have hf := HF1.out hg
   clear hg
   generalize cmpI g1 g2 = cc at *
   subst hf
   go_wp2
   go_ret
   exact ⟨rfl, Q8.out⟩
def CmpX (a b : Option Rat) : Int := match a, b with
 | some p, some q => cmpR p q
 | _, _ => 0
theorem cmp_any (va vb : Value) (a b : Option Rat) (w : World) (ha : IsNum w va a) (hb : IsNum w vb b) :
   Calls Tryz.prog 30 #[va, vb] w fun e w' => e = .returned (.int .i64 (CmpX a b)) ∧ Below w.heap.size w w' := by
 obtain ⟨a1, ns1, c1, low1, neg1, nn1, rfl, p2, p3, p4, p5, p6, p7, p8⟩ := ha
 obtain ⟨a2, ns2, c2, low2, neg2, nn2, rfl, r2, r3, r4, r5, r6, r7, r8⟩ := hb
 cases nn1 with
 | true =>
   rw [(p7 rfl).2]
   exact cmp_none1 a1 a2 _ _ c1 c2 low1 low2 neg1 neg2 nn2 w
 | false =>
   cases nn2 with
   | true =>
     rw [p8 rfl, (r7 rfl).2]
     exact cmp_none2 a1 a2 _ _ c1 c2 low1 low2 neg1 neg2 w
   | false =>
     rw [p8 rfl, r8 rfl]
     exact cmp_walk a1 a2 c1 c2 ns1 ns2 low1 low2 neg1 neg2 w ⟨p2, p3, p4, p5⟩ ⟨r2, r3, r4, r5⟩
end Go.Proofs.YtocnkgfoffpbfaaGreatDoor

/- Floats: the small functions of package math, on words, lie in B0. -/

/- Of and Int: the numbers that a float and a whole number are. -/
namespace Go.Proofs.YtocnkgfoffpbfaaGreatDoor
open Go.RowKit
theorem row_one {w : World} {g x : Nat} (hc : w.cell? ⟨g, 0, none⟩ = some (.int .u64 (x : Nat))) (hg : g < w.heap.size) (hx : x < 18446744073709551616) : Ws w (.slice (some ⟨g, 0, none⟩) 1 1) [x] :=
 ⟨⟨_, _, rfl, Nat.le_refl _, Or.inr ⟨g, 0, rfl, hg, fun j hj => by
   have : j = 0 := by simpa using hj
   subst this
   simpa using hc⟩⟩, fun n hn => by simp at hn; omega, by simp⟩
theorem val_one (x : Nat) : val [x] = x := by simp [val]
end Go.Proofs.YtocnkgfoffpbfaaGreatDoor

/- Of: the number that a float denotes. -/
namespace Go.Proofs.YtocnkgfoffpbfaaGreatDoor
open Go.RowKit
set_option maxHeartbeats 2000000 in
theorem of_core (b r part fl M : Nat) (ex low : Int) (ng : Bool) (w : World) (hT : Tab w)
   (hnan : ∀ w, Calls Tryz.prog 78 #[.float .f64 b] w fun e w' => e = .returned (.bool false) ∧ w' = w)
   (hinf : ∀ w, Calls Tryz.prog 79 #[.float .f64 b, .int .i64 0] w fun e w' => e = .returned (.bool false) ∧ w' = w)
   (habs : ∀ w, Calls Tryz.prog 42 #[.float .f64 b] w fun e w' => e = .returned (.float .f64 r) ∧ w' = w)
   (hfr : ∀ w, Calls Tryz.prog 80 #[.float .f64 r] w fun e w' => e = .returned (.tuple #[.float .f64 part, .int .i64 ex]) ∧ w' = w)
   (hld : ∀ w, Calls Tryz.prog 81 #[.float .f64 part, .int .i64 53] w fun e w' => e = .returned (.float .f64 fl) ∧ w' = w)
   (hcv : floatToIntVal .f64 fl .u64 = some (M : Int)) (hM : M < 18446744073709551616) (hlow : ex - 52 - 1 = low) (he1 : -2000 ≤ ex) (he2 : ex ≤ 2000) (hng : (FloatKind.f64.format.order b 0 == some .lt) = ng) :
   Calls Tryz.prog 45 #[.float .f64 b] w fun e w' => NumR w w' (sg ng * ((M : Nat) * p2 low)) e := by
 have HT : Hid (Tab w) := hT
 have HM : Hid (M < 18446744073709551616) := hM
 have H1 : Hid _ := hnan
 have H2 : Hid _ := hinf
 have H3 : Hid _ := habs
 have H4 : Hid _ := hfr
 have H5 : Hid _ := hld
 have hconv : ∀ w, (convert 22 86 (.float .f64 fl)).run Tryz.prog w = .ok (.int .u64 (M : Nat)) w := fun w => run_convert_float_int w _ _ _ _ _ _ (by rw [Tryz.underlying22]; rfl) Tryz.underlying86 hcv
 have HB0 : Hid (Below w.heap.size w (((w.alloc (.cells #[.slice none 0 0, .int .i64 0, .bool false, .bool false] 49)).alloc (.cells #[.int .u64 (M : Nat)] 86)).alloc (.cells #[.slice (some ⟨w.heap.size + 1, 0, none⟩) 1 1, .int .i64 low] 47))) := (((Below.refl _ _).alloc (Nat.le_refl _) _).alloc (by simp) _).alloc (by simp; omega) _
 have HW : Hid (Ws (((w.alloc (.cells #[.slice none 0 0, .int .i64 0, .bool false, .bool false] 49)).alloc (.cells #[.int .u64 (M : Nat)] 86)).alloc (.cells #[.slice (some ⟨w.heap.size + 1, 0, none⟩) 1 1, .int .i64 low] 47)) (.slice (some ⟨w.heap.size + 1, 0, none⟩) 1 1) [M]) := row_one (by go_simp) (by simp) HM.out
 have hl1 : -3000 ≤ low := by omega
 have hl2 : low ≤ 3000 := by omega
 clear hT hM hnan hinf habs hfr hld hcv
 go_enter Tryz.func45, Tryz.ntmps45
 go_wp2_with (first
   | (go_at_call 78; refine (H1.out _).mono ?_; rintro e w' ⟨rfl, rfl⟩)
   | (go_at_call 79; refine (H2.out _).mono ?_; rintro e w' ⟨rfl, rfl⟩)
   | (go_at_call 42; refine (H3.out _).mono ?_; rintro e w' ⟨rfl, rfl⟩)
   | (go_at_call 80; refine (H4.out _).mono ?_; rintro e w' ⟨rfl, rfl⟩)
   | (go_at_call 81; refine (H5.out _).mono ?_; rintro e w' ⟨rfl, rfl⟩))
 refine (own_any _ [M] _ _ HW.out (HT.out.later HB0.out) (by omega) (by omega)).mono ?_
 rintro e w5 ⟨s5, ns5, low5, rfl, hws5, ho5, ht5, hlo5, hb5⟩
 have hq5 := tells_magR ht5
 rw [val_one] at hq5
 go_wp2_with fail
 refine (number_any _ ns5 _ _ _ hws5 ho5 hlo5.1 hlo5.2).mono ?_
 rintro e w6 ⟨v9, x9, rfl, ⟨a9, ns9, c9, low9, neg9, nn9, rfl, hws9, hrest⟩, hN9, hb6⟩
 have hB6 := thru hb5 hb6
 have t0 : w6.cell? ⟨w.heap.size, 0, none⟩ = some (.slice none 0 0) := cell_later hB6 (by go_simp)
 have t1 : w6.cell? ⟨w.heap.size, 1, none⟩ = some (.int .i64 0) := cell_later hB6 (by go_simp)
 have t2 : w6.cell? ⟨w.heap.size, 2, none⟩ = some (.bool false) := cell_later hB6 (by go_simp)
 have t3 : w6.cell? ⟨w.heap.size, 3, none⟩ = some (.bool false) := cell_later hB6 (by go_simp)
 have u0 : ∀ i, w6.frozen? ⟨w.heap.size, i, none⟩ = false := fun i => frozen_later hB6 (by go_simp) (by simp; omega)
 have HB6 : Hid (Below w.heap.size w w6) := thru HB0.out hB6
 rw [hq5] at hN9
 have HN9 : Hid _ := hN9
 clear hb5 hb6 hB6 hq5 hlo5 hws5 ho5 hN9 HB0 ht5
 have HRST : Hid _ := hrest
 clear hrest
 go_wp2
 refine bodyPost_ret (v := .agg #[.slice a9 ns9.length c9, .int .i64 low9, .bool neg9, .bool nn9]) (by simp [results, Tryz.results45, go_sem, t0, t1, t2, t3]) rfl ?_
 have hw9 := ws4 hws9 t0 t1 t2 t3 (.slice a9 ns9.length c9) (.int .i64 low9) (.bool neg9) (.bool nn9)
 refine ⟨_, x9, rfl, ⟨a9, ns9, c9, low9, neg9, nn9, rfl, hw9, HRST.out⟩, HN9.out, ?_⟩
 repeat (first | exact HB6.out | refine Below.drew ?_ | refine Below.setCell ?_ (by simp) _)
set_option maxHeartbeats 1000000 in
theorem of_nan (b : Nat) (w : World) (h : isnan b = true) :
   Calls Tryz.prog 45 #[.float .f64 b] w fun e w' => e = .returned (.agg #[.slice none 0 0, .int .i64 0, .bool false, .bool true]) ∧ Below w.heap.size w w' := by
 have H1 : Hid (∀ w, Calls Tryz.prog 78 #[.float .f64 b] w fun e w' => e = .returned (.bool true) ∧ w' = w) := fun w => by have := isNaN_any b w; rwa [h] at this
 clear h
 go_enter Tryz.func45, Tryz.ntmps45
 go_wp2_with (first
   | (go_at_call 78; refine (H1.out _).mono ?_; rintro e w' ⟨rfl, rfl⟩))
 refine bodyPost_ret (v := .agg #[.slice none 0 0, .int .i64 0, .bool false, .bool true]) (by simp [results, Tryz.results45, go_sem]) rfl ⟨rfl, ?_⟩
 exact (Below.refl _ _).alloc (Nat.le_refl _) _
set_option maxHeartbeats 1000000 in
theorem of_inf (b : Nat) (w : World) (hb : b < 18446744073709551616) (h0 : isnan b = false) (h : isinf b = true) :
   Calls Tryz.prog 45 #[.float .f64 b] w fun e w' => e = .returned (.agg #[.slice none 0 0, .int .i64 0, .bool false, .bool true]) ∧ Below w.heap.size w w' := by
 have H1 : Hid (∀ w, Calls Tryz.prog 78 #[.float .f64 b] w fun e w' => e = .returned (.bool false) ∧ w' = w) := fun w => by have := isNaN_any b w; rwa [h0] at this
 have H2 : Hid (∀ w, Calls Tryz.prog 79 #[.float .f64 b, .int .i64 0] w fun e w' => e = .returned (.bool true) ∧ w' = w) := fun w => by have := isInf0_any b w hb; rwa [h] at this
 clear h h0 hb
 go_enter Tryz.func45, Tryz.ntmps45
 go_wp2_with (first
   | (go_at_call 78; refine (H1.out _).mono ?_; rintro e w' ⟨rfl, rfl⟩)
   | (go_at_call 79; refine (H2.out _).mono ?_; rintro e w' ⟨rfl, rfl⟩))
 refine bodyPost_ret (v := .agg #[.slice none 0 0, .int .i64 0, .bool false, .bool true]) (by simp [results, Tryz.results45, go_sem]) rfl ⟨rfl, ?_⟩
 exact (Below.refl _ _).alloc (Nat.le_refl _) _
theorem neg_flag {b : Nat} (h : Fin64 b) : (FloatKind.f64.format.order b 0 == some .lt) = (fneg b && !(frung b == 0)) := by
 show (Ieee.double.order b 0 == some .lt) = _
 rw [order_fin h (by unfold Fin64 frung; decide), fval_zero_iff.2 (by rfl : frung 0 = 0)]
 by_cases hr : frung b = 0
 · have := fval_zero_iff.2 hr
   rw [this, if_neg (by exact Rat.lt_irrefl), if_pos rfl]; simp [hr]
 · have h2 : fval b ≠ 0 := fun h => hr (fval_zero_iff.1 h)
   have h3 : (0 : Rat) ≤ (fmag (frung b) : Nat) * p2 (fpl (frung b)) := Rat.mul_nonneg Rat.natCast_nonneg (Rat.le_of_lt (p2_pos _))
   have h4 : (frung b == 0) = false := by rw [beq_eq_false_iff_ne]; exact hr
   rw [h4]
   cases hn : fneg b
   · have : ¬ fval b < 0 := by unfold fval sgn1; rw [hn]; simp only [Bool.false_eq_true, if_false]; grind
     rw [if_neg this]; simp only [Bool.false_and]; split <;> rfl
   · have : fval b < 0 := by
       have hm0 : ((fmag (frung b) : Nat) : Rat) * p2 (fpl (frung b)) ≠ 0 := fun h => h2 (by unfold fval; rw [h, Rat.mul_zero])
       unfold fval sgn1
       rw [hn]
       simp only [if_true]
       generalize ((fmag (frung b) : Nat) : Rat) * p2 (fpl (frung b)) = m at *
       clear h2
       grind
     rw [if_pos this]; rfl
theorem of_fin (b : Nat) (w : World) (hT : Tab w) (hb : b < 18446744073709551616) (h : Fin64 b) :
   Calls Tryz.prog 45 #[.float .f64 b] w fun e w' => OpR w w' (fun x => x = some (fval b)) e := by
 have hr : frung b < 9218868437227405312 := h
 have hnan : ∀ w, Calls Tryz.prog 78 #[.float .f64 b] w fun e w' => e = .returned (.bool false) ∧ w' = w := fun w => by
   have := isNaN_any b w
   rwa [show isnan b = false by unfold isnan; simp; omega] at this
 have hinf : ∀ w, Calls Tryz.prog 79 #[.float .f64 b, .int .i64 0] w fun e w' => e = .returned (.bool false) ∧ w' = w := fun w => by
   have := isInf0_any b w hb
   rwa [show isinf b = false by unfold isinf; rw [beq_eq_false_iff_ne]; omega] at this
 have habs : ∀ w, Calls Tryz.prog 42 #[.float .f64 b] w fun e w' => e = .returned (.float .f64 (frung b)) ∧ w' = w := fun w => abs_any b w hb
 have hm : May (fval b) := (fval_bd h).may (by omega) (by omega)
 have fin : ∀ e w', NumR w w' (fval b) e → OpR w w' (fun x => x = some (fval b)) e := by
   rintro e w' ⟨v, x, he, hn, hN, hb⟩
   refine ⟨v, x, he, hn, ?_, hb⟩
   rcases hN with ⟨_, h⟩ | ⟨h, _⟩
   · exact h
   · exact absurd hm h
 by_cases h0 : frung b = 0
 · rw [h0] at habs
   have hc := of_core b 0 0 0 0 0 (-53) _ w hT hnan hinf habs (fun w => Frexp_of 0 0 0 w (fun w => frexp_zero w)) (fun w => Ldexp_of 0 0 53 w (fun w => ldexp_zero 53 w)) (by decide) (by omega) (by omega) (by omega) (by omega) rfl
   have e : ∀ g : Bool, sg g * (((0 : Nat) : Rat) * p2 (-53)) = fval b := by intro g; rw [fval_zero_iff.2 h0]; simp
   rw [e] at hc
   exact hc.mono fin
 · have hbd := bits53_bounds (frung b) h0
   have hpl : -1200 ≤ place53 (frung b) ∧ place53 (frung b) ≤ 1000 := by
     unfold place53; split
     · rename_i hs; have : Nat.log2 (frung b) < 52 := (Nat.log2_lt h0).2 hs; omega
     · omega
   have hld : ∀ w, Calls Tryz.prog 81 #[.float .f64 (1022 * 4503599627370496 + (bits53 (frung b) - 4503599627370496)), .int .i64 53] w fun e w' => e = .returned (.float .f64 (1075 * 4503599627370496 + (bits53 (frung b) - 4503599627370496))) ∧ w' = w := fun w =>
     Ldexp_of _ _ 53 w (fun w => ldexp_norm 1022 _ 1075 _ _ _ 53 w rfl rfl rfl (by omega) (by omega) (by omega) (by omega) (by omega) (by omega))
   have hcv := conv_norm (bits53 (frung b) - 4503599627370496) (by omega)
   rw [show 4503599627370496 + (bits53 (frung b) - 4503599627370496) = bits53 (frung b) by omega] at hcv
   have hc := of_core b (frung b) _ _ (bits53 (frung b)) (place53 (frung b) + 53) (place53 (frung b)) _ w hT hnan hinf habs (fun w => Frexp_of _ _ _ w (fun w => frexp_any (frung b) w h0 hr)) hld hcv (by omega) (by omega) (by omega) (by omega) (neg_flag h)
   have e : sg (fneg b && !(frung b == 0)) * ((bits53 (frung b) : Nat) * p2 (place53 (frung b)) : Rat) = fval b := by
     have h4 : (frung b == 0) = false := by rw [beq_eq_false_iff_ne]; exact h0
     rw [bits53_val _ h0, h4]
     unfold fval sgn1 sg
     simp
   rw [e] at hc
   exact hc.mono fin
theorem of_not (b : Nat) (w : World) (hb : b < 18446744073709551616) (h : ¬ Fin64 b) :
   Calls Tryz.prog 45 #[.float .f64 b] w fun e w' => OpR w w' (fun x => x = none) e := by
 have fin : ∀ e w', e = .returned (.agg #[.slice none 0 0, .int .i64 0, .bool false, .bool true]) ∧ Below w.heap.size w w' → OpR w w' (fun x => x = none) e := by
   rintro e w' ⟨rfl, hb⟩
   exact ⟨_, none, rfl, isNum_none w', rfl, hb⟩
 by_cases h1 : 9218868437227405312 < frung b
 · exact (of_nan b w (by unfold isnan; simp [h1])).mono fin
 · have h2 : frung b = 9218868437227405312 := by unfold Fin64 at h; omega
   exact (of_inf b w hb (by unfold isnan; simp [h2]) (by unfold isinf; simp [h2])).mono fin
end Go.Proofs.YtocnkgfoffpbfaaGreatDoor

/- The float nearest to a number: plain facts. -/
namespace Go.Proofs.YtocnkgfoffpbfaaGreatDoor
theorem win_near (ns : List Nat) (low at' : Int) (ho : val ns % 2 = 1) (hlog : low + (Nat.log2 (val ns) : Nat) - at' ≤ 53) :
   win ns low at' < 18014398509481984 ∧ ((win ns low at' : Int) : Rat) * p2 at' ≤ magR ns low ∧ magR ns low < (((win ns low at' : Int) + 1 : Int) : Rat) * p2 at' ∧ (at' ≤ low → magR ns low = ((win ns low at' : Int) : Rat) * p2 at') ∧ (low < at' → magR ns low ≠ ((win ns low at' : Int) : Rat) * p2 at') := by
 have hV0 : val ns ≠ 0 := by omega
 have hl1 : val ns < 2 ^ (Nat.log2 (val ns) + 1) := Nat.lt_log2_self
 have hu := p2_pos at'
 by_cases hc : at' ≤ low
 · have hw : win ns low at' = val ns * 2 ^ (low - at').toNat ∧ val ns * 2 ^ (low - at').toNat < 18014398509481984 := by
     have hb : val ns * 2 ^ (low - at').toNat < 18014398509481984 := by
       have h1 : val ns * 2 ^ (low - at').toNat < 2 ^ (Nat.log2 (val ns) + 1) * 2 ^ (low - at').toNat := Nat.mul_lt_mul_of_pos_right hl1 (Nat.two_pow_pos _)
       rw [← Nat.pow_add] at h1
       exact Nat.lt_of_lt_of_le h1 (Nat.pow_le_pow_right (by omega) (by omega : Nat.log2 (val ns) + 1 + (low - at').toNat ≤ 54))
     refine ⟨?_, hb⟩
     unfold win
     by_cases h : at' < low
     · rw [if_pos h, Nat.mod_eq_of_lt (by omega)]
     · rw [if_neg h]
       have : at' = low := by omega
       subst this
       simp only [Int.sub_self, Int.toNat_zero, Nat.pow_zero, Nat.mul_one, Nat.div_one] at hb ⊢
       exact Nat.mod_eq_of_lt (by omega)
   have hm : magR ns low = ((win ns low at' : Int) : Rat) * p2 at' := by
     rw [hw.1]; exact magR_at ns low at' _ (by omega)
   refine ⟨by rw [hw.1]; exact hw.2, by rw [hm]; exact Rat.le_refl, by rw [hm]; exact lt_int hu (by omega), fun _ => hm, fun h => by omega⟩
 · have hj : 1 ≤ (at' - low).toNat := by omega
   have hpow : 0 < 2 ^ (at' - low).toNat := Nat.two_pow_pos _
   have hb : val ns / 2 ^ (at' - low).toNat < 18014398509481984 := by
     rw [Nat.div_lt_iff_lt_mul hpow]
     refine Nat.lt_of_lt_of_le hl1 ?_
     rw [show (18014398509481984 : Nat) = 2 ^ 54 from rfl, ← Nat.pow_add]
     exact Nat.pow_le_pow_right (by omega) (by omega)
   have hw : win ns low at' = val ns / 2 ^ (at' - low).toNat := by
     unfold win
     rw [if_neg (by omega), Nat.mod_eq_of_lt (by omega)]
   have e : p2 at' = ((2 ^ (at' - low).toNat : Nat) : Int) * p2 low := by
     have := p2_nat (at' - low).toNat
     rw [show (((2 ^ (at' - low).toNat : Nat) : Int) : Rat) = ((2 ^ (at' - low).toNat : Nat) : Rat) from rfl, ← this, ← p2_add]
     congr 1; omega
   have hm : magR ns low = ((val ns : Int) : Rat) * p2 low := rfl
   have hodd : 2 ^ (at' - low).toNat % 2 = 0 := by
     obtain ⟨j, hj2⟩ : ∃ j, (at' - low).toNat = j + 1 := ⟨(at' - low).toNat - 1, by omega⟩
     rw [hj2, Nat.pow_succ]; omega
   have hd := Nat.div_add_mod (val ns) (2 ^ (at' - low).toNat)
   have hml := Nat.mod_lt (val ns) hpow
   have hu0 := p2_pos low
   rw [hw, hm, e]
   generalize 2 ^ (at' - low).toNat = P at *
   generalize val ns / P = W at *
   generalize val ns % P = R at *
   generalize val ns = V at *
   have t1 : ∀ x : Int, ((x : Int) : Rat) * (((P : Nat) : Int) * p2 low) = ((x * (P : Int) : Int) : Rat) * p2 low := fun x => by rw [Rat.intCast_mul, Rat.mul_assoc]
   rw [t1, t1]
   have z : (W : Int) * (P : Int) + (R : Int) = (V : Int) := by rw [← hd, Int.natCast_add, Int.natCast_mul, Int.mul_comm]
   have z2 : ((W : Int) + 1) * (P : Int) = (W : Int) * (P : Int) + (P : Int) := by rw [Int.add_mul, Int.one_mul]
   refine ⟨hb, le_int hu0 (by omega), lt_int hu0 (by omega), fun h => by omega, fun _ h => ?_⟩
   have h1 := int_le hu0 (le_of_same h)
   have h2 := int_le hu0 (le_of_same h.symm)
   have h3 : V = P * W := by
     have : (V : Int) = (W : Int) * (P : Int) := by omega
     rw [Int.mul_comm] at this
     exact_mod_cast this
   have : V % 2 = 0 := by rw [h3, Nat.mul_mod, hodd]; simp
   omega
theorem half_of {q u : Rat} {W : Nat} {exact : Prop} (hu : 0 < u) (h1 : ((W : Int) : Rat) * u ≤ q) (h2 : q < (((W : Int) + 1 : Int) : Rat) * u) (h3 : exact → q = ((W : Int) : Rat) * u) (h4 : ¬ exact → q ≠ ((W : Int) : Rat) * u) :
   (W % 2 = 0 → Half q u (W / 2)) ∧ (W % 2 = 1 → ¬ exact → Half q u (W / 2 + 1)) ∧ (W % 2 = 1 → exact → W / 2 % 2 = 1 → Half q u (W / 2 + 1)) ∧ (W % 2 = 1 → exact → W / 2 % 2 = 0 → Half q u (W / 2)) := by
 have ne1 : ∀ {x : Int}, (W : Int) < x → q = (x : Rat) * u → x = (W : Int) + 1 → False := fun {x} _ e hx => by
   rw [e, hx] at h2; exact Rat.lt_irrefl h2
 refine ⟨fun h => ?_, fun h hn => ?_, fun h he hk => ?_, fun h he hk => ?_⟩
 · refine ⟨Rat.le_trans (le_int hu (by omega)) h1, Rat.le_trans (Rat.le_of_lt h2) (le_int hu (by omega)), fun e => ?_, fun e => ?_⟩
   · have := int_le hu (e ▸ h1); omega
   · exact (ne1 (by omega) e (by omega)).elim
 · refine ⟨Rat.le_trans (le_int hu (by omega)) h1, Rat.le_trans (Rat.le_of_lt h2) (le_int hu (by omega)), fun e => ?_, fun e => ?_⟩
   · refine absurd ?_ (h4 hn); rw [e]; congr 2; omega
   · have := int_lt hu (e ▸ h2); omega
 · refine ⟨Rat.le_trans (le_int hu (by omega)) h1, Rat.le_trans (Rat.le_of_lt h2) (le_int hu (by omega)), fun e => ?_, fun e => ?_⟩
   · omega
   · have := int_lt hu (e ▸ h2); omega
 · refine ⟨Rat.le_trans (le_int hu (by omega)) h1, ?_, fun e => ?_, fun e => ?_⟩
   · rw [h3 he]; exact le_int hu (by omega)
   · exact hk
   · exact hk
end Go.Proofs.YtocnkgfoffpbfaaGreatDoor

/- The float nearest to a magnitude: what the code makes of the unit that it keeps. -/
namespace Go.Proofs.YtocnkgfoffpbfaaGreatDoor
open Go.RowKit
attribute [local go_sem ↓] Go.wp_at_zero Go.wp_at_succ
theorem float_of_nat (k : Nat) : floatOfInt .f64 (k : Int) = Ieee.double.nearest false k 0 := by
 unfold floatOfInt FloatKind.nearest
 have e : decide ((k : Int) < 0) = false := decide_eq_false (by omega)
 rw [e, Int.natAbs_natCast]
 rfl
theorem nearest_small (k L : Nat) (h0 : k ≠ 0) (h : k < 4503599627370496) (hL : Nat.log2 k = L) : Ieee.double.nearest false k 0 = (L + 1022) * 4503599627370496 + k * 2 ^ (52 - L) := by
 have h1 : L < 52 := by rw [← hL]; exact (Nat.log2_lt h0).2 h
 have h2 : k * 2 ^ (52 - L) < 9007199254740992 := by
   have a : k < 2 ^ (L + 1) := by rw [← hL]; exact Nat.lt_log2_self
   have b := Nat.mul_lt_mul_of_pos_right a (Nat.two_pow_pos (52 - L))
   rw [← Nat.pow_add, show L + 1 + (52 - L) = 53 by omega] at b
   exact b
 unfold Ieee.Format.nearest
 rw [if_neg h0]
 simp only [d_lp, d_bin, d_inf, hL]
 have e0 : (Ieee.double.fractionBits : Int) = 52 := rfl
 rw [e0, show max (0 + (L : Int) - 52) (-1074) = (L : Int) - 52 by omega, show (0 - ((L : Int) - 52)).toNat = 52 - L by omega, show ((L : Int) - 52 - 0).toNat = 0 by omega, show ((L : Int) - 52 - -1074).toNat = L + 1022 by omega, Nat.shiftLeft_eq]
 have e1 := cut_exact false (k * 2 ^ (52 - L)) 0
 rw [Nat.pow_zero, Nat.mul_one] at e1
 rw [e1, Nat.min_eq_left (by omega)]
 rfl
theorem shift_sum (L u z : Nat) (h : 4503599627370496 + u = z) : (L + 1023) * 4503599627370496 + u = (L + 1022) * 4503599627370496 + z := by
 rw [← h, show L + 1023 = (L + 1022) + 1 from rfl, Nat.add_mul (L + 1022), Nat.one_mul, Nat.add_assoc]
theorem ldexp_kept (T k : Nat) (w : World) (hk : k ≤ 9007199254740992) (hT : T = 0 ∨ 4503599627370496 ≤ k) (hT2 : T ≤ 100000) :
   Calls Tryz.prog 81 #[.float .f64 (floatOfInt .f64 (k : Int)), .int .i64 ((T : Int) - 1074)] w fun e w' => e = .returned (.float .f64 (min (T * 4503599627370496 + k) 9218868437227405312)) ∧ w' = w := by
 rw [float_of_nat]
 refine Ldexp_of _ _ _ w fun w => ?_
 by_cases h0 : k = 0
 · subst h0
   have : T = 0 := by omega
   subst this
   have e : Ieee.double.nearest false 0 0 = 0 := rfl
   rw [e]
   exact ldexp_zero _ w
 by_cases h1 : k < 4503599627370496
 · have : T = 0 := by omega
   subst this
   have hL := (Nat.log2_lt h0 (k := 52)).2 h1
   have a1 := Nat.log2_self_le h0
   have a2 : k < 2 ^ (Nat.log2 k + 1) := Nat.lt_log2_self
   rw [nearest_small k _ h0 h1 rfl, Nat.zero_mul, Nat.zero_add, Nat.min_eq_left (by omega)]
   generalize hLe : Nat.log2 k = L at *
   have b1 : 4503599627370496 ≤ k * 2 ^ (52 - L) := by
     have := Nat.mul_le_mul_right (2 ^ (52 - L)) a1
     rwa [← Nat.pow_add, show L + (52 - L) = 52 by omega] at this
   have b2 : k * 2 ^ (52 - L) < 9007199254740992 := by
     have := Nat.mul_lt_mul_of_pos_right a2 (Nat.two_pow_pos (52 - L))
     rwa [← Nat.pow_add, show L + 1 + (52 - L) = 53 by omega] at this
   obtain ⟨u, hu⟩ : ∃ u, 4503599627370496 + u = k * 2 ^ (52 - L) := ⟨k * 2 ^ (52 - L) - 4503599627370496, by omega⟩
   have hm := mul_norm (L + 2) u k L hL rfl hu h1 (by omega)
   have hx : (L + 1023) * 4503599627370496 + u = (L + 1022) * 4503599627370496 + k * 2 ^ (52 - L) := shift_sum L u _ hu
   exact ldexp_den (L + 1023) u (L + 2) _ _ _ k _ w hx rfl rfl (by omega) (by omega) (by omega) (by omega) (by omega) (by omega) hm
 by_cases h2 : k = 9007199254740992
 · subst h2
   have e : Ieee.double.nearest false 9007199254740992 0 = 1076 * 4503599627370496 + 0 := by
     have := nearest_norm 4503599627370496 1 0 (by omega) (by omega) (by omega) (by decide)
     exact this
   rw [e]
   by_cases h3 : T + 2 ≤ 2046
   · rw [Nat.min_eq_left (by omega)]
     exact ldexp_norm 1076 0 (T + 2) _ _ _ _ w rfl (by omega) rfl (by omega) (by omega) (by omega) (by omega) (by omega) h3
   · rw [Nat.min_eq_right (by omega)]
     exact ldexp_inf 1076 0 _ _ w rfl (by omega) (by omega) (by omega) (by omega) (by omega)
 · obtain ⟨u, rfl⟩ : ∃ u, k = 4503599627370496 + u := ⟨k - 4503599627370496, by omega⟩
   have e : Ieee.double.nearest false (4503599627370496 + u) 0 = 1075 * 4503599627370496 + u := by
     have := nearest_norm (4503599627370496 + u) 0 0 (by omega) (by omega) (by omega) (by omega)
     rw [Nat.pow_zero, Nat.mul_one] at this
     rw [this]; omega
   rw [e]
   by_cases h3 : T + 1 ≤ 2046
   · rw [Nat.min_eq_left (by omega)]
     exact ldexp_norm 1075 u (T + 1) _ _ _ _ w rfl (by omega) rfl (by omega) (by omega) (by omega) (by omega) (by omega) h3
   · rw [Nat.min_eq_right (by omega)]
     exact ldexp_inf 1075 u _ _ w rfl (by omega) (by omega) (by omega) (by omega) (by omega)
end Go.Proofs.YtocnkgfoffpbfaaGreatDoor

/- The float nearest to a magnitude. -/
namespace Go.Proofs.YtocnkgfoffpbfaaGreatDoor
open Go.RowKit
attribute [local go_sem ↓] Go.wp_at_zero Go.wp_at_succ
set_option maxHeartbeats 2000000 in
theorem nearest_walk (s : Value) (ns : List Nat) (low hi last : Int) (W kept : Nat) (A B : Int) (half lt odd : Bool) (r : Nat) (w : World) (hws : Ws w s ns) (ht : Topped ns) (l1 : -65536 ≤ low) (l2 : low ≤ 65536) (hhi : hiB ns low = hi) (h1 : -65536 ≤ hi) (h2 : hi ≤ 65536)
   (hlast : max (hi - 52) (-1074) = last) (hW : win ns low (last - 1) = W) (hWb : W < 18014398509481984) (hA : bits .and .u64 (W : Int) 1 = A) (hA2 : (A == 1) = half) (hB : bits .and .u64 ((W : Int) / 2) 1 = B) (hB2 : (B == 1) = odd) (hlt : decide (low < last - 1) = lt) (hk : (W : Int) / 2 + (if half && (lt || odd) then 1 else 0) = (kept : Int))
   (hl : ∀ w, Calls Tryz.prog 81 #[.float .f64 (floatOfInt .f64 (kept : Int)), .int .i64 last] w fun e w' => e = .returned (.float .f64 r) ∧ w' = w) :
   Calls Tryz.prog 118 #[.agg #[s, .int .i64 low]] w fun e w' => e = .returned (.float .f64 r) ∧ Below w.heap.size w w' := by
 have HL : Hid _ := hl
 have HW0 : Hid (Ws w s ns) := hws
 have HB0 : Hid (Below w.heap.size w (w.alloc (.cells #[s, .int .i64 low] 47))) := (Below.refl _ _).alloc (Nat.le_refl _) _
 clear hl hws
 go_enter Tryz.func118, Tryz.ntmps118
 go_wp2_with fail
 refine (highest_any _ ns _ _ (HW0.out.later HB0.out (Nat.le_refl _)) ht (by omega) (by omega)).mono ?_
 rintro e w1 ⟨rfl, hb1⟩
 rw [hhi]
 have c0 : w1.cell? ⟨w.heap.size, 0, none⟩ = some s := cell_later hb1 (by go_simp)
 have c1 : w1.cell? ⟨w.heap.size, 1, none⟩ = some (.int .i64 low) := cell_later hb1 (by go_simp)
 have HB1 : Hid (Below w.heap.size w w1) := thru HB0.out hb1
 clear hb1
 go_wp2_with fail
 refine (window_any _ ns _ _ _ (HW0.out.later HB1.out (Nat.le_refl _)) (by omega) (by omega) (by omega) (by omega)).mono ?_
 rintro e w2 ⟨rfl, hb2⟩
 rw [hW]
 have d0 : w2.cell? ⟨w.heap.size, 0, none⟩ = some s := cell_later hb2 c0
 have d1 : w2.cell? ⟨w.heap.size, 1, none⟩ = some (.int .i64 low) := cell_later hb2 c1
 have HB2 : Hid (Below w.heap.size w w2) := thru HB1.out hb2
 clear hb2 c0 c1
 go_wp2_with fail
 refine (window_any _ ns _ _ _ (HW0.out.later HB2.out (Nat.le_refl _)) (by omega) (by omega) (by omega) (by omega)).mono ?_
 rintro e w3 ⟨rfl, hb3⟩
 rw [hW]
 have f0 : w3.cell? ⟨w.heap.size, 0, none⟩ = some s := cell_later hb3 d0
 have f1 : w3.cell? ⟨w.heap.size, 1, none⟩ = some (.int .i64 low) := cell_later hb3 d1
 have HB3 : Hid (Below w.heap.size w w3) := thru HB2.out hb3
 clear hb3 d0 d1
 have hdiv : (0 : Int) ≤ (W : Int) / 2 ∧ (W : Int) / 2 < 9007199254740992 := by omega
 have hwr : IntKind.u64.wrap ((W : Int) / 2 + 1) = (W : Int) / 2 + 1 := by rw [IntKind.wrap_u64]; omega
 cases half
 · rw [Bool.false_and, if_neg (by decide), Int.add_zero] at hk
   have HK : Hid _ := hk
   clear hk
   go_wp2_with (first
     | (go_at_call 81; rw [HK.out]; refine (HL.out _).mono ?_; rintro e w' ⟨rfl, rfl⟩))
   go_ret
   exact ⟨rfl, HB3.out⟩
 · cases lt
   · cases odd
     · rw [Bool.true_and, Bool.or_self, if_neg (by decide), Int.add_zero] at hk
       have HK : Hid _ := hk
       clear hk
       go_wp2_with (first
         | (go_at_call 81; rw [HK.out]; refine (HL.out _).mono ?_; rintro e w' ⟨rfl, rfl⟩))
       go_ret
       exact ⟨rfl, HB3.out⟩
     · rw [Bool.true_and, Bool.or_true, if_pos rfl] at hk
       have HK : Hid _ := hk
       clear hk
       go_wp2_with (first
         | (go_at_call 81; rw [HK.out]; refine (HL.out _).mono ?_; rintro e w' ⟨rfl, rfl⟩))
       go_ret
       exact ⟨rfl, HB3.out⟩
   · rw [Bool.true_and, Bool.true_or, if_pos rfl] at hk
     have HK : Hid _ := hk
     clear hk
     go_wp2_with (first
       | (go_at_call 81; rw [HK.out]; refine (HL.out _).mono ?_; rintro e w' ⟨rfl, rfl⟩))
     go_ret
     exact ⟨rfl, HB3.out⟩
end Go.Proofs.YtocnkgfoffpbfaaGreatDoor
