/- Own texts, put together: Zp. -/
import Derived.Test.YtgpbfhennineiaaQ19
import Derived.Deep.DrawnRows
/- The reference's Neg, Sub, Cmp, Abs of whatever numbers. -/
namespace Go.Proofs.Ytgpbfhennineiaa
open Go.RowKit
attribute [local go_sem ↓] Go.wp_at_zero Go.wp_at_succ
theorem keepN6_set {w W : World} {o1 o2 o3 o4 o5 o6 : Nat} {x1 x2 x3 x4 x5 x6 : Value} (h : W.cell? ⟨w.heap.size, o1, none⟩ = some x1 ∧ W.cell? ⟨w.heap.size, o2, none⟩ = some x2 ∧ W.cell? ⟨w.heap.size, o3, none⟩ = some x3 ∧ W.cell? ⟨w.heap.size + 1, o4, none⟩ = some x4 ∧ W.cell? ⟨w.heap.size + 1, o5, none⟩ = some x5 ∧ W.cell? ⟨w.heap.size + 1, o6, none⟩ = some x6 ∧ Below w.heap.size w W) (u0 u1 u2 : Value) :
   (fun W' : World => W'.cell? ⟨w.heap.size, o1, none⟩ = some x1 ∧ W'.cell? ⟨w.heap.size, o2, none⟩ = some x2 ∧ W'.cell? ⟨w.heap.size, o3, none⟩ = some x3 ∧ W'.cell? ⟨w.heap.size + 1, o4, none⟩ = some x4 ∧ W'.cell? ⟨w.heap.size + 1, o5, none⟩ = some x5 ∧ W'.cell? ⟨w.heap.size + 1, o6, none⟩ = some x6 ∧ Below w.heap.size w W') (((W.setCell ⟨w.heap.size + 1 + 1, 0, none⟩ u0).setCell ⟨w.heap.size + 1 + 1, 1, none⟩ u1).setCell ⟨w.heap.size + 1 + 1, 2, none⟩ u2) := by
 have o : ∀ (W : World) (b i j : Nat) (x v : Value), b ≠ w.heap.size + 1 + 1 → W.cell? ⟨b, i, none⟩ = some x → (W.setCell ⟨w.heap.size + 1 + 1, j, none⟩ v).cell? ⟨b, i, none⟩ = some x := fun W b i j x v hb hx => by
   rw [World.cell?_setCell_other W _ _ v (by intro e; cases e; exact hb rfl)]; exact hx
 have o3 : ∀ (b i : Nat) (x : Value), b ≠ w.heap.size + 1 + 1 → W.cell? ⟨b, i, none⟩ = some x → (((W.setCell ⟨w.heap.size + 1 + 1, 0, none⟩ u0).setCell ⟨w.heap.size + 1 + 1, 1, none⟩ u1).setCell ⟨w.heap.size + 1 + 1, 2, none⟩ u2).cell? ⟨b, i, none⟩ = some x := fun b i x hb hx => o _ b i 2 x u2 hb (o _ b i 1 x u1 hb (o _ b i 0 x u0 hb hx))
 refine ⟨o3 _ _ _ (by omega) h.1, o3 _ _ _ (by omega) h.2.1, o3 _ _ _ (by omega) h.2.2.1, o3 _ _ _ (by omega) h.2.2.2.1, o3 _ _ _ (by omega) h.2.2.2.2.1, o3 _ _ _ (by omega) h.2.2.2.2.2.1, ?_⟩
 exact ((h.2.2.2.2.2.2.setCell (by show w.heap.size ≤ w.heap.size + 1 + 1; omega) _).setCell (by show w.heap.size ≤ w.heap.size + 1 + 1; omega) _).setCell (by show w.heap.size ≤ w.heap.size + 1 + 1; omega) _
set_option maxRecDepth 100000 in
theorem run_fieldS (s E : Int) (a : Option Addr) (n c : Nat) (W : World) : (Instr.field 60 (.agg #[.int .i64 s, .slice a n c, .int .i64 E]) 0).run Try.prog W = .ok (.int .i64 s) W := by
 rfl
theorem Canon.neg {S E : Int} {ds : List Nat} (h : Canon S ds E) : Canon (-S) ds E := by
 rcases h with ⟨a, b, c⟩ | ⟨a, b, c, d⟩
 · exact Or.inl ⟨a, by omega, c⟩
 · exact Or.inr ⟨a, by omega, c, d⟩
theorem Rf.sgn {w : World} {v : Value} {q : Rat} (h : Rf w v q) : ∃ S a n c E, v = .agg #[.int .i64 S, .slice a n c, .int .i64 E] ∧ ((S = 0 ∧ q = 0) ∨ (S = 1 ∧ 0 < q) ∨ (S = -1 ∧ q < 0)) := by
 obtain ⟨S, ds, E, h1, h2, rfl⟩ := h
 obtain ⟨a, c, rfl, _⟩ := h1.form
 exact ⟨S, a, _, c, E, rfl, canon_sgn h2⟩
theorem neg_rf (v : Value) (q : Rat) (w : World) (h : Rf w v q) : Calls Try.prog 62 #[v] w fun e w' => RfR w w' (-q) e := by
 obtain ⟨S, ds, E, h1, h2, rfl⟩ := h
 refine (refNeg_any v S E ds w h1 (by have := canon_sign h2; omega)).mono ?_
 rintro e w' ⟨⟨v', rfl, hd⟩, hb⟩
 refine ⟨v', rfl, ⟨-S, ds, E, hd, h2.neg, ?_⟩, hb⟩
 rw [Rat.intCast_neg]; grind
set_option maxHeartbeats 2000000 in
theorem sub_rf (v1 v2 : Value) (q1 q2 : Rat) (w : World) (h1 : Rf w v1 q1) (h2 : Rf w v2 q2) (b1 : Fit q1) (b2 : Fit q2) : Calls Try.prog 61 #[v1, v2] w fun e w' => RfR w w' (q1 - q2) e := by
 have R1 : Hid (Rf w v1 q1) := h1
 have R2 : Hid (Rf w v2 q2) := h2
 have F1 : Hid (Fit q1) := b1
 have F2 : Hid (Fit (-q2)) := Bd.neg b2
 obtain ⟨S1, ds1, E1, d1, _⟩ := h1
 obtain ⟨S2, ds2, E2, d2, _⟩ := h2
 obtain ⟨a1, c1, rfl, _⟩ := d1.form
 obtain ⟨a2, c2, rfl, _⟩ := d2.form
 have HB0 : Hid (Below w.heap.size w (((w.alloc (.cells #[.int .i64 S1, .slice a1 ds1.length c1, .int .i64 E1] 60)).alloc (.cells #[.int .i64 S2, .slice a2 ds2.length c2, .int .i64 E2] 60)).alloc (.cells #[.int .i64 0, .slice none 0 0, .int .i64 0] 60))) := below3 _ _ _ _
 have HR0 : Hid (BoxN (((w.alloc (.cells #[.int .i64 S1, .slice a1 ds1.length c1, .int .i64 E1] 60)).alloc (.cells #[.int .i64 S2, .slice a2 ds2.length c2, .int .i64 E2] 60)).alloc (.cells #[.int .i64 0, .slice none 0 0, .int .i64 0] 60)) (w.heap.size + 2) 0 (.slice none 0 0) 0) := (boxes3 w _ _ _).2.2
 clear d1 d2 b1 b2
 go_enter Try.func61, Try.ntmps61
 go_wp2
 go_region_held3 (fun W => W.cell? ⟨w.heap.size, 0, none⟩ = some (.int .i64 S1) ∧ W.cell? ⟨w.heap.size, 1, none⟩ = some (.slice a1 ds1.length c1) ∧ W.cell? ⟨w.heap.size, 2, none⟩ = some (.int .i64 E1) ∧ W.cell? ⟨w.heap.size + 1, 0, none⟩ = some (.int .i64 S2) ∧ W.cell? ⟨w.heap.size + 1, 1, none⟩ = some (.slice a2 ds2.length c2) ∧ W.cell? ⟨w.heap.size + 1, 2, none⟩ = some (.int .i64 E2) ∧ Below w.heap.size w W)
   (first
     | assumption
     | exact ⟨by go_simp, by go_simp, by go_simp, by go_simp, by go_simp, by go_simp, HB0.out.drew⟩
     | exact keepN6 (by assumption) (by assumption)
     | exact keepN6_set (by assumption) _ _ _)
   (first
     | (go_at_call 62; refine (neg_rf _ q2 _ (R2.out.later HB0.out.drew)).mono ?_; rintro e w5 ⟨v5, rfl, hr5, hb5⟩; obtain ⟨S5, ds5, E5, d5, x5⟩ := id hr5; obtain ⟨a5, c5, rfl, _⟩ := d5.form)
     | (go_at_call 88; refine (refAdd_any _ _ q1 (-q2) _ (R1.out.later (by exact (by assumption : _ ∧ _ ∧ _ ∧ _ ∧ _ ∧ _ ∧ Below w.heap.size w _).2.2.2.2.2.2)) hr5 F1.out F2.out).mono ?_; rintro e w6 ⟨v6, rfl, hr6, hb6⟩; obtain ⟨S6, ds6, E6, d6, x6⟩ := id hr6; obtain ⟨a6, c6, rfl, _⟩ := d6.form; have hB6 : BoxN w6 (w.heap.size + 2) 0 (.slice none 0 0) 0 := ((BoxN.block HR0.out rfl : BoxN (World.drew _) _ _ _ _).block (hb5.block _ (by simp))).block (hb6.block _ (by have := hb5.size; simp at this; omega)); obtain ⟨t0, t1, t2, tf, tl⟩ := hB6.cells))
 have hBf := (by assumption : _ ∧ _ ∧ _ ∧ _ ∧ _ ∧ _ ∧ Below w.heap.size w _).2.2.2.2.2.2
 have HBf : Hid _ := hBf
 have HV : Hid (Rf w6 (.agg #[.int .i64 S6, .slice a6 ds6.length c6, .int .i64 E6]) (q1 - q2)) := by rw [show q1 + -q2 = q1 - q2 by grind] at hr6; exact hr6
 have hO : Hid (OtherRow w6 (w.heap.size + 2)) := other_box hB6
 clear hr6 hr5 d5 x5 d6 x6 hb5 hb6 hB6 hBf
 go_wp2
 refine bodyPost_ret (v := .agg #[.int .i64 S6, .slice a6 ds6.length c6, .int .i64 E6]) (by simp [results, Try.results61, go_sem, t0, t1, t2]) rfl ?_
 exact ⟨_, rfl, HV.out.boxed hO.out _ _ _, HBf.out⟩
def sgq (q : Rat) : Int := if q < 0 then -1 else if q = 0 then 0 else 1
theorem sgq_of {S : Int} {q : Rat} (h : (S = 0 ∧ q = 0) ∨ (S = 1 ∧ 0 < q) ∨ (S = -1 ∧ q < 0)) : S = sgq q := by
 unfold sgq
 rcases h with ⟨rfl, rfl⟩ | ⟨rfl, h⟩ | ⟨rfl, h⟩
 · rw [if_neg (by grind), if_pos rfl]
 · rw [if_neg (by grind), if_neg (by grind)]
 · rw [if_pos h]
set_option maxHeartbeats 1000000 in
theorem cmp_rf (v1 v2 : Value) (q1 q2 : Rat) (w : World) (h1 : Rf w v1 q1) (h2 : Rf w v2 q2) (b1 : Fit q1) (b2 : Fit q2) : Calls Try.prog 45 #[v1, v2] w fun e w' => e = .returned (.int .i64 (sgq (q1 - q2))) ∧ Below w.heap.size w w' := by
 have R1 : Hid (Rf w v1 q1) := h1
 have R2 : Hid (Rf w v2 q2) := h2
 have F1 : Hid (Fit q1) := b1
 have F2 : Hid (Fit q2) := b2
 obtain ⟨S1, ds1, E1, d1, _⟩ := h1
 obtain ⟨S2, ds2, E2, d2, _⟩ := h2
 obtain ⟨a1, c1, rfl, _⟩ := d1.form
 obtain ⟨a2, c2, rfl, _⟩ := d2.form
 have HB0 : Hid (Below w.heap.size w ((w.alloc (.cells #[.int .i64 S1, .slice a1 ds1.length c1, .int .i64 E1] 60)).alloc (.cells #[.int .i64 S2, .slice a2 ds2.length c2, .int .i64 E2] 60))) := ((Below.refl _ _).alloc (Nat.le_refl _) _).alloc (by simp) _
 clear d1 d2 b1 b2
 go_enter Try.func45, Try.ntmps45
 go_wp2_with fail
 refine (sub_rf _ _ q1 q2 _ (R1.out.later HB0.out) (R2.out.later HB0.out) F1.out F2.out).mono ?_
 rintro e w5 ⟨v5, rfl, hr5, hb5⟩
 obtain ⟨S5, a5, n5, c5, E5, rfl, hs5⟩ := hr5.sgn
 have hS := sgq_of hs5
 have HB : Hid (Below w.heap.size w w5) := HB0.out.trans (hb5.mono HB0.out.size)
 clear hr5 hb5 hs5
 subst hS
 obtain ⟨s, hs⟩ : ∃ s, Hid (sgq (q1 - q2) = s) := ⟨_, rfl⟩
 rw [hs.out]
 have hfield := run_fieldS s E5 a5 n5 c5
 go_wp2
 go_ret
 exact ⟨by rw [hs.out]; rfl, HB.out⟩
set_option maxHeartbeats 1000000 in
theorem abs_rf (v : Value) (q : Rat) (w : World) (h : Rf w v q) : Calls Try.prog 46 #[v] w fun e w' => RfR w w' (if q < 0 then -q else q) e := by
 have R1 : Hid (Rf w v q) := h
 obtain ⟨S, a, n, c, E, rfl, hs⟩ := h.sgn
 have HB0 : Hid (Below w.heap.size w ((w.alloc (.cells #[.int .i64 S, .slice a n c, .int .i64 E] 60)).alloc (.cells #[.int .i64 0, .slice none 0 0, .int .i64 0] 60))) := ((Below.refl _ _).alloc (Nat.le_refl _) _).alloc (by simp) _
 have HX0 : Hid (BoxN ((w.alloc (.cells #[.int .i64 S, .slice a n c, .int .i64 E] 60)).alloc (.cells #[.int .i64 0, .slice none 0 0, .int .i64 0] 60)) (w.heap.size + 1) 0 (.slice none 0 0) 0) := new_box _ _ _
 by_cases hn : q < 0
 · obtain rfl : S = -1 := by rcases hs with ⟨_, h⟩ | ⟨_, h⟩ | ⟨h, _⟩ <;> first | exact h | (exfalso; grind)
   rw [if_pos hn]
   clear hs hn h
   go_enter Try.func46, Try.ntmps46
   go_wp2_with fail
   refine (neg_rf _ q _ (R1.out.later HB0.out)).mono ?_
   rintro e w5 ⟨v5, rfl, hr5, hb5⟩
   have hB : BoxN w5 (w.heap.size + 1) 0 (.slice none 0 0) 0 := HX0.out.block (hb5.block _ (by simp))
   have hO : Hid (OtherRow w5 (w.heap.size + 1)) := other_box hB
   obtain ⟨t0, t1, t2, tf, tl⟩ := hB.cells
   have HB : Hid (Below w.heap.size w w5) := HB0.out.trans (hb5.mono HB0.out.size)
   have HV : Hid (Rf w5 v5 (-q)) := hr5
   obtain ⟨S5, ds5, E5, d5, _⟩ := HV.out
   obtain ⟨a5, c5, rfl, _⟩ := d5.form
   clear hr5 hb5 hB d5
   go_wp2
   refine bodyPost_ret (v := .agg #[.int .i64 S5, .slice a5 ds5.length c5, .int .i64 E5]) (by simp [results, Try.results46, go_sem, t0, t1, t2]) rfl ?_
   refine ⟨_, rfl, HV.out.boxed hO.out _ _ _, ?_⟩
   repeat (first | exact HB.out | refine Below.drew ?_ | refine Below.setCell ?_ (by show w.heap.size ≤ w.heap.size + 1; omega) _)
 · have hS : decide (S < 0) = false := decide_eq_false (by rcases hs with ⟨h, _⟩ | ⟨h, _⟩ | ⟨_, h⟩ <;> first | omega | (exfalso; grind))
   rw [if_neg hn]
   clear hs hn h
   go_enter Try.func46, Try.ntmps46
   go_wp2
   refine bodyPost_ret (v := .agg #[.int .i64 S, .slice a n c, .int .i64 E]) (by simp [results, Try.results46, go_sem]) rfl ?_
   have hb : Below w.heap.size w ((w.alloc (.cells #[.int .i64 S, .slice a n c, .int .i64 E] 60)).alloc (.cells #[.int .i64 S, .slice a n c, .int .i64 E] 60)) := ((Below.refl _ _).alloc (Nat.le_refl _) _).alloc (by simp) _
   exact ⟨_, rfl, R1.out.later hb, hb⟩
end Go.Proofs.Ytgpbfhennineiaa
