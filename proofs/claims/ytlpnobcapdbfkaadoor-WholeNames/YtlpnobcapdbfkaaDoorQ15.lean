/- Own texts, put together: Ng. -/
import Derived.Test.YtlpnobcapdbfkaaDoorQ14
/- Shift: a number times a power of two. -/
namespace Go.Proofs.YtlpnobcapdbfkaaDoor
open Go.RowKit
attribute [local go_sem ↓] Go.wp_at_zero Go.wp_at_succ
set_option maxHeartbeats 1000000 in
theorem shift_none (a1 : Option Addr) (n1 c1 : Nat) (low1 k : Int) (neg1 : Bool) (w : World) :
   Calls Tryd.prog 6 #[.agg #[.slice a1 n1 c1, .int .i64 low1, .bool neg1, .bool true], .int .i64 k] w fun e w' => e = .returned (.agg #[.slice none 0 0, .int .i64 0, .bool false, .bool true]) ∧ Below w.heap.size w w' := by
 go_enter Tryd.func6, Tryd.ntmps6
 go_wp2
 refine bodyPost_ret (v := .agg #[.slice none 0 0, .int .i64 0, .bool false, .bool true]) (by simp [results, Tryd.results6, go_sem]) rfl ⟨rfl, ?_⟩
 exact ((Below.refl _ _).alloc (Nat.le_refl _) _).alloc (by simp) _
set_option maxHeartbeats 1000000 in
theorem shift_zero (a1 : Option Addr) (c1 : Nat) (low1 k : Int) (neg1 : Bool) (w : World) :
   Calls Tryd.prog 6 #[.agg #[.slice a1 0 c1, .int .i64 low1, .bool neg1, .bool false], .int .i64 k] w fun e w' => e = .returned (.agg #[.slice none 0 0, .int .i64 0, .bool false, .bool false]) ∧ Below w.heap.size w w' := by
 have HB0 : Hid (Below w.heap.size w ((w.alloc (.cells #[.slice a1 0 c1, .int .i64 low1, .bool neg1, .bool false] 27)).alloc (.cells #[.slice none 0 0, .int .i64 0, .bool false, .bool false] 27))) := ((Below.refl _ _).alloc (Nat.le_refl _) _).alloc (by simp) _
 go_enter Tryd.func6, Tryd.ntmps6
 go_wp2_with fail
 refine (isZero_any _ _ _ _ _).mono ?_
 rintro e w6 ⟨rfl, hB6⟩
 have x3 : w6.cell? ⟨w.heap.size, 3, none⟩ = some (.bool false) := cell_later hB6 (by go_simp)
 have t0 : w6.cell? ⟨w.heap.size + 1, 0, none⟩ = some (.slice none 0 0) := cell_later hB6 (by go_simp)
 have t1 : w6.cell? ⟨w.heap.size + 1, 1, none⟩ = some (.int .i64 0) := cell_later hB6 (by go_simp)
 have t2 : w6.cell? ⟨w.heap.size + 1, 2, none⟩ = some (.bool false) := cell_later hB6 (by go_simp)
 have t3 : w6.cell? ⟨w.heap.size + 1, 3, none⟩ = some (.bool false) := cell_later hB6 (by go_simp)
 have u0 : ∀ i, w6.frozen? ⟨w.heap.size + 1, i, none⟩ = false := fun i => frozen_later hB6 (by go_simp) (by simp)
 have HB6 : Hid (Below w.heap.size w w6) := thru HB0.out hB6
 clear hB6 HB0
 go_wp2
 refine bodyPost_ret (v := .agg #[.slice none 0 0, .int .i64 0, .bool false, .bool false]) (by simp [results, Tryd.results6, go_sem, t0, t1, t2, t3]) rfl ⟨rfl, ?_⟩
 repeat (first | exact HB6.out | refine Below.drew ?_ | refine Below.setCell ?_ (by simp; done) _)
set_option maxHeartbeats 1000000 in
theorem shift_far (a1 : Option Addr) (n1 c1 : Nat) (low1 k : Int) (neg1 : Bool) (w : World) (hn : ((n1 : Int) == 0) = false) (hk : k < -131072 ∨ 131072 < k) :
   Calls Tryd.prog 6 #[.agg #[.slice a1 n1 c1, .int .i64 low1, .bool neg1, .bool false], .int .i64 k] w fun e w' => e = .returned (.agg #[.slice none 0 0, .int .i64 0, .bool false, .bool true]) ∧ Below w.heap.size w w' := by
 have HB0 : Hid (Below w.heap.size w ((w.alloc (.cells #[.slice a1 n1 c1, .int .i64 low1, .bool neg1, .bool false] 27)).alloc (.cells #[.slice none 0 0, .int .i64 0, .bool false, .bool false] 27))) := ((Below.refl _ _).alloc (Nat.le_refl _) _).alloc (by simp) _
 have HK : Hid (k < -131072 ∨ 131072 < k) := hk
 clear hk
 go_enter Tryd.func6, Tryd.ntmps6
 go_wp2_with fail
 refine (isZero_any _ _ _ _ _).mono ?_
 rintro e w6 ⟨rfl, hB6⟩
 have t0 : w6.cell? ⟨w.heap.size + 1, 0, none⟩ = some (.slice none 0 0) := cell_later hB6 (by go_simp)
 have t1 : w6.cell? ⟨w.heap.size + 1, 1, none⟩ = some (.int .i64 0) := cell_later hB6 (by go_simp)
 have t2 : w6.cell? ⟨w.heap.size + 1, 2, none⟩ = some (.bool false) := cell_later hB6 (by go_simp)
 have t3 : w6.cell? ⟨w.heap.size + 1, 3, none⟩ = some (.bool false) := cell_later hB6 (by go_simp)
 have u0 : ∀ i, w6.frozen? ⟨w.heap.size + 1, i, none⟩ = false := fun i => frozen_later hB6 (by go_simp) (by simp)
 have HB6 : Hid (Below w.heap.size w w6) := thru HB0.out hB6
 clear hB6 HB0
 have hk := HK.out
 by_cases h1 : k < -131072
 · clear hk
   go_wp2
   refine bodyPost_ret (v := .agg #[.slice none 0 0, .int .i64 0, .bool false, .bool true]) (by simp [results, Tryd.results6, go_sem, t0, t1, t2, t3]) rfl ⟨rfl, ?_⟩
   repeat (first | exact HB6.out | refine Below.drew ?_ | refine Below.setCell ?_ (by simp; done) _)
 · have h2 : 131072 < k := by omega
   clear hk
   go_wp2
   refine bodyPost_ret (v := .agg #[.slice none 0 0, .int .i64 0, .bool false, .bool true]) (by simp [results, Tryd.results6, go_sem, t0, t1, t2, t3]) rfl ⟨rfl, ?_⟩
   repeat (first | exact HB6.out | refine Below.drew ?_ | refine Below.setCell ?_ (by simp; done) _)
set_option maxHeartbeats 2000000 in
theorem shift_walk (a1 : Option Addr) (c1 : Nat) (ns1 : List Nat) (low1 k : Int) (neg1 : Bool) (w : World) (m1 : IsMag w (.slice a1 ns1.length c1) ns1 low1) (hne : ns1 ≠ []) (k1 : -131072 ≤ k) (k2 : k ≤ 131072) :
   Calls Tryd.prog 6 #[.agg #[.slice a1 ns1.length c1, .int .i64 low1, .bool neg1, .bool false], .int .i64 k] w fun e w' => NumR w w' (sg neg1 * magR ns1 low1 * p2 k) e := by
 have HB0 : Hid (Below w.heap.size w ((w.alloc (.cells #[.slice a1 ns1.length c1, .int .i64 low1, .bool neg1, .bool false] 27)).alloc (.cells #[.slice none 0 0, .int .i64 0, .bool false, .bool false] 27))) := ((Below.refl _ _).alloc (Nat.le_refl _) _).alloc (by simp) _
 have M1 : Hid (IsMag w (.slice a1 ns1.length c1) ns1 low1) := m1
 have g1 := m1.lo
 have g2 := m1.low_le
 have HO : Hid (OwnF ns1 (low1 + k)) := by
   rcases m1.own with ⟨h, _⟩ | ⟨h, h'⟩
   · exact absurd h hne
   · exact Or.inr ⟨h, h'⟩
 have HQ : Hid (sg neg1 * magR ns1 low1 * p2 k = sg neg1 * magR ns1 (low1 + k)) := by
   show _ = _
   unfold magR; rw [p2_add]; grind
 have hn : ((ns1.length : Int) == 0) = false := by rw [beq_eq_false_iff_ne]; have := List.length_pos_iff.2 hne; omega
 have hk1 : ¬ k < -131072 := by omega
 have hk2 : ¬ 131072 < k := by omega
 clear m1
 go_enter Tryd.func6, Tryd.ntmps6
 go_wp2_with fail
 refine (isZero_any _ _ _ _ _).mono ?_
 rintro e w4 ⟨rfl, hb4⟩
 have x0 : w4.cell? ⟨w.heap.size, 0, none⟩ = some (.slice a1 ns1.length c1) := cell_later hb4 (by go_simp)
 have x1 : w4.cell? ⟨w.heap.size, 1, none⟩ = some (.int .i64 low1) := cell_later hb4 (by go_simp)
 have x2 : w4.cell? ⟨w.heap.size, 2, none⟩ = some (.bool neg1) := cell_later hb4 (by go_simp)
 have k'0 : w4.cell? ⟨w.heap.size + 1, 0, none⟩ = some (.slice none 0 0) := cell_later hb4 (by go_simp)
 have k'1 : w4.cell? ⟨w.heap.size + 1, 1, none⟩ = some (.int .i64 0) := cell_later hb4 (by go_simp)
 have k'2 : w4.cell? ⟨w.heap.size + 1, 2, none⟩ = some (.bool false) := cell_later hb4 (by go_simp)
 have k'3 : w4.cell? ⟨w.heap.size + 1, 3, none⟩ = some (.bool false) := cell_later hb4 (by go_simp)
 have u4 : ∀ i, w4.frozen? ⟨w.heap.size + 1, i, none⟩ = false := fun i => frozen_later hb4 (by go_simp) (by simp)
 have hsz4 : w.heap.size + 1 < w4.heap.size := by have := hb4.size; simp at this; omega
 have HB4 : Hid (Below w.heap.size w w4) := thru HB0.out hb4
 clear hb4 HB0
 go_wp2
 go_region_held3 (fun W => W.cell? ⟨w.heap.size, 0, none⟩ = some (.slice a1 ns1.length c1) ∧ W.cell? ⟨w.heap.size, 1, none⟩ = some (.int .i64 low1) ∧ W.cell? ⟨w.heap.size, 2, none⟩ = some (.bool neg1) ∧ Below w.heap.size w W)
   (first
     | assumption
     | exact ⟨x0, x1, x2, HB4.out.drew⟩
     | exact keep3 (by assumption) (by assumption)
     | exact keep3_set (keep3_set (keep3_set (keep3_set (by assumption) _ _ (by show w.heap.size ≠ w.heap.size + 1; omega) (by show w.heap.size ≤ w.heap.size + 1; omega)) _ _ (by show w.heap.size ≠ w.heap.size + 1; omega) (by show w.heap.size ≤ w.heap.size + 1; omega)) _ _ (by show w.heap.size ≠ w.heap.size + 1; omega) (by show w.heap.size ≤ w.heap.size + 1; omega)) _ _ (by show w.heap.size ≠ w.heap.size + 1; omega) (by show w.heap.size ≤ w.heap.size + 1; omega))
   (first
     | (go_at_call 24; refine (moved_any _ ns1 _ _ _ (M1.out.later HB4.out.drew).ws (by omega) (by omega) (by omega) (by omega)).mono ?_; rintro e w5 ⟨s5, rfl, hws5, hb5⟩)
     | (go_at_call 21; refine (number_any _ ns1 _ _ _ hws5 HO.out (by omega) (by omega)).mono ?_; rintro e w6 ⟨v9, x9, rfl, ⟨a9, ns9, c9, low9, neg9, nn9, rfl, hws9, hrest⟩, hN9, hb6⟩; have hB6 := thru hb5 hb6; have t0 : w6.cell? ⟨w.heap.size + 1, 0, none⟩ = some (.slice none 0 0) := cell_later hB6 k'0; have t1 : w6.cell? ⟨w.heap.size + 1, 1, none⟩ = some (.int .i64 0) := cell_later hB6 k'1; have t2 : w6.cell? ⟨w.heap.size + 1, 2, none⟩ = some (.bool false) := cell_later hB6 k'2; have t3 : w6.cell? ⟨w.heap.size + 1, 3, none⟩ = some (.bool false) := cell_later hB6 k'3; have u0 : ∀ i, w6.frozen? ⟨w.heap.size + 1, i, none⟩ = false := fun i => frozen_later hB6 (u4 i) hsz4))
 have hBf := (by assumption : _ ∧ _ ∧ _ ∧ Below w.heap.size w _).2.2.2
 have HBF : Hid _ := hBf
 rw [← HQ.out] at hN9
 have HN9 : Hid _ := hN9
 clear hb5 hb6 hB6 hws5 hN9 hBf
 have HRST : Hid _ := hrest
 clear hrest
 go_wp2
 refine bodyPost_ret (v := .agg #[.slice a9 ns9.length c9, .int .i64 low9, .bool neg9, .bool nn9]) (by simp [results, Tryd.results6, go_sem, t0, t1, t2, t3]) rfl ?_
 have hw9 := ws4 hws9 t0 t1 t2 t3 (.slice a9 ns9.length c9) (.int .i64 low9) (.bool neg9) (.bool nn9)
 refine ⟨_, x9, rfl, ⟨a9, ns9, c9, low9, neg9, nn9, rfl, hw9, HRST.out⟩, HN9.out, HBF.out⟩
theorem may_zero : May 0 := by
 have := p2_pos 65537
 exact ⟨this, by grind, 0, by simp⟩
theorem isNum_zero (w : World) : IsNum w (.agg #[.slice none 0 0, .int .i64 0, .bool false, .bool false]) (some 0) :=
 ⟨none, [], 0, 0, false, false, rfl, ⟨⟨_, _, rfl, Nat.le_refl _, Or.inl rfl⟩, fun n hn => by simp at hn, by simp⟩, Or.inl ⟨rfl, rfl⟩, by omega, by simp [hiB], fun _ => rfl, fun h => (by cases h), fun _ => by simp [magR_nil]⟩
theorem far_not {ns : List Nat} {low k : Int} {neg : Bool} (h : OwnF ns low) (hne : ns ≠ []) (lo : -65536 ≤ low) (hi : hiB ns low ≤ 65536) (hk : k < -131072 ∨ 131072 < k) : ¬ May (sg neg * magR ns low * p2 k) := by
 have e : sg neg * magR ns low * p2 k = sg neg * magR ns (low + k) := by unfold magR; rw [p2_add]; grind
 rw [e]
 intro hm
 have ho : OwnF ns (low + k) := by
   rcases h with ⟨h, _⟩ | ⟨h, h'⟩
   · exact absurd h hne
   · exact Or.inr ⟨h, h'⟩
 have := (may_iff ho).2 (may_sg.1 hm)
 have hlh := own_low_hi h
 have e2 : hiB ns (low + k) = hiB ns low + k := by unfold hiB; rw [if_neg hne, if_neg hne]; omega
 omega
def ShiftX (k : Int) (a x : Option Rat) : Prop := (∃ p, a = some p ∧ Norm (p * p2 k) x) ∨ (a = none ∧ x = none)
theorem shift_any (va : Value) (a : Option Rat) (k : Int) (w : World) (ha : IsNum w va a) :
   Calls Tryd.prog 6 #[va, .int .i64 k] w fun e w' => OpR w w' (ShiftX k a) e := by
 obtain ⟨a1, ns1, c1, low1, neg1, nn1, rfl, p2, p3, p4, p5, p6, p7, p8⟩ := ha
 cases nn1 with
 | true =>
   refine (shift_none a1 _ c1 low1 k neg1 w).mono ?_
   rintro e w' ⟨rfl, hb⟩
   exact ⟨_, none, rfl, isNum_none w', Or.inr ⟨(p7 rfl).2, rfl⟩, hb⟩
 | false =>
   by_cases hne : ns1 = []
   · subst hne
     refine (shift_zero a1 c1 low1 k neg1 w).mono ?_
     rintro e w' ⟨rfl, hb⟩
     refine ⟨_, some 0, rfl, isNum_zero w', Or.inl ⟨_, p8 rfl, ?_⟩, hb⟩
     rw [magR_nil]
     refine Or.inl ⟨?_, ?_⟩
     · rw [Rat.mul_zero, Rat.zero_mul]; exact may_zero
     · rw [Rat.mul_zero, Rat.zero_mul]
   · by_cases hk : k < -131072 ∨ 131072 < k
     · refine (shift_far a1 _ c1 low1 k neg1 w (by rw [beq_eq_false_iff_ne]; have := List.length_pos_iff.2 hne; omega) hk).mono ?_
       rintro e w' ⟨rfl, hb⟩
       exact ⟨_, none, rfl, isNum_none w', Or.inl ⟨_, p8 rfl, Or.inr ⟨far_not p3 hne p4 p5 hk, rfl⟩⟩, hb⟩
     · refine (shift_walk a1 c1 ns1 low1 k neg1 w ⟨p2, p3, p4, p5⟩ hne (by omega) (by omega)).mono ?_
       rintro e w' ⟨v, x, he, hn, hN, hb⟩
       exact ⟨v, x, he, hn, Or.inl ⟨_, p8 rfl, hN⟩, hb⟩
end Go.Proofs.YtlpnobcapdbfkaaDoor
