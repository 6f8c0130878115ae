/- Own texts, put together: Nd Ne. -/
import Derived.Test.YtejhinjanjlplaaDoorQ26
namespace Go.Proofs.YtejhinjanjlplaaDoor
/- The walk of sum: two numbers added, the second one with the sign that is handed. -/
section
open Go.RowKit
attribute [local go_sem ↓] Go.wp_at_zero Go.wp_at_succ
theorem ws4 {W : World} {s : Value} {ns : List Nat} {r : Nat} (h : Ws W s ns) (t0 : W.cell? ⟨r, 0, none⟩ = some (.slice none 0 0)) (t1 : W.cell? ⟨r, 1, none⟩ = some (.int .i64 0)) (t2 : W.cell? ⟨r, 2, none⟩ = some (.bool false)) (t3 : W.cell? ⟨r, 3, none⟩ = some (.bool false)) (v0 v1 v2 v3 : Value) :
   Ws ((((W.setCell ⟨r, 0, none⟩ v0).setCell ⟨r, 1, none⟩ v1).setCell ⟨r, 2, none⟩ v2).setCell ⟨r, 3, none⟩ v3) s ns := by
 have o : ∀ (W : World) (i j : Nat) (x : Value) (v : Value), i ≠ j → W.cell? ⟨r, i, none⟩ = some x → (W.setCell ⟨r, j, none⟩ v).cell? ⟨r, i, none⟩ = some x := fun W i j x v hij hx => by
   rw [World.cell?_setCell_other W _ _ v (by intro e; cases e; exact hij rfl)]; exact hx
 have a1 := h.set t0 (by intro n; simp) v0
 have a2 := a1.set (o _ 1 0 _ v0 (by omega) t1) (by intro n; simp) v1
 have a3 := a2.set (o _ 2 1 _ v1 (by omega) (o _ 2 0 _ v0 (by omega) t2)) (by intro n; simp) v2
 exact a3.set (o _ 3 2 _ v2 (by omega) (o _ 3 1 _ v1 (by omega) (o _ 3 0 _ v0 (by omega) t3))) (by intro n; simp) v3
theorem keep5 {w W W' : World} {p1 p2 p3 p4 p5 : Addr} {x1 x2 x3 x4 x5 : Value} (h : W.cell? p1 = some x1 ∧ W.cell? p2 = some x2 ∧ W.cell? p3 = some x3 ∧ W.cell? p4 = some x4 ∧ W.cell? p5 = some x5 ∧ Below w.heap.size w W) (hb : Below W.heap.size W W') :
   W'.cell? p1 = some x1 ∧ W'.cell? p2 = some x2 ∧ W'.cell? p3 = some x3 ∧ W'.cell? p4 = some x4 ∧ W'.cell? p5 = some x5 ∧ Below w.heap.size w W' :=
 ⟨cell_later hb h.1, cell_later hb h.2.1, cell_later hb h.2.2.1, cell_later hb h.2.2.2.1, cell_later hb h.2.2.2.2.1, h.2.2.2.2.2.trans (hb.mono h.2.2.2.2.2.size)⟩
theorem keep5_set {w W : World} {b1 b2 : Nat} {o1 o2 o3 o4 o5 : Nat} {x1 x2 x3 x4 x5 : Value} (h : W.cell? ⟨b1, o1, none⟩ = some x1 ∧ W.cell? ⟨b1, o2, none⟩ = some x2 ∧ W.cell? ⟨b1, o3, none⟩ = some x3 ∧ W.cell? ⟨b2, o4, none⟩ = some x4 ∧ W.cell? ⟨b2, o5, none⟩ = some x5 ∧ Below w.heap.size w W) (a : Addr) (v : Value) (h1 : b1 ≠ a.block) (h2 : b2 ≠ a.block) (h3 : w.heap.size ≤ a.block) :
   (W.setCell a v).cell? ⟨b1, o1, none⟩ = some x1 ∧ (W.setCell a v).cell? ⟨b1, o2, none⟩ = some x2 ∧ (W.setCell a v).cell? ⟨b1, o3, none⟩ = some x3 ∧ (W.setCell a v).cell? ⟨b2, o4, none⟩ = some x4 ∧ (W.setCell a v).cell? ⟨b2, o5, none⟩ = some x5 ∧ Below w.heap.size w (W.setCell a v) :=
 ⟨cell_other h.1 h1 v, cell_other h.2.1 h1 v, cell_other h.2.2.1 h1 v, cell_other h.2.2.2.1 h2 v, cell_other h.2.2.2.2.1 h2 v, h.2.2.2.2.2.setCell h3 v⟩
set_option maxHeartbeats 1000000 in
theorem sum_none1 (a1 a2 : Option Addr) (n1 n2 c1 c2 : Nat) (low1 low2 : Int) (neg1 neg2 nn2 neg : Bool) (w : World) :
   Calls Tryd.prog 22 #[.agg #[.slice a1 n1 c1, .int .i64 low1, .bool neg1, .bool true], .agg #[.slice a2 n2 c2, .int .i64 low2, .bool neg2, .bool nn2], .bool neg] w fun e w' => e = .returned (.agg #[.slice none 0 0, .int .i64 0, .bool false, .bool true]) ∧ Below w.heap.size w w' := by
 have HB0 : Hid (Below w.heap.size w (((w.alloc (.cells #[.slice a1 n1 c1, .int .i64 low1, .bool neg1, .bool true] 27)).alloc (.cells #[.slice a2 n2 c2, .int .i64 low2, .bool neg2, .bool nn2] 27)).alloc (.cells #[.slice none 0 0, .int .i64 0, .bool false, .bool false] 27))) := (((Below.refl _ _).alloc (Nat.le_refl _) _).alloc (by simp) _).alloc (by simp; omega) _
 go_enter Tryd.func22, Tryd.ntmps22
 go_wp2
 refine bodyPost_ret (v := .agg #[.slice none 0 0, .int .i64 0, .bool false, .bool true]) (by simp [results, Tryd.results22, go_sem]) rfl ⟨rfl, ?_⟩
 exact (((Below.refl _ _).alloc (Nat.le_refl _) _).alloc (by simp) _).alloc (by simp; omega) _
set_option maxHeartbeats 1000000 in
theorem sum_none2 (a1 a2 : Option Addr) (n1 n2 c1 c2 : Nat) (low1 low2 : Int) (neg1 neg2 neg : Bool) (w : World) :
   Calls Tryd.prog 22 #[.agg #[.slice a1 n1 c1, .int .i64 low1, .bool neg1, .bool false], .agg #[.slice a2 n2 c2, .int .i64 low2, .bool neg2, .bool true], .bool neg] w fun e w' => e = .returned (.agg #[.slice none 0 0, .int .i64 0, .bool false, .bool true]) ∧ Below w.heap.size w w' := by
 have HB0 : Hid (Below w.heap.size w (((w.alloc (.cells #[.slice a1 n1 c1, .int .i64 low1, .bool neg1, .bool false] 27)).alloc (.cells #[.slice a2 n2 c2, .int .i64 low2, .bool neg2, .bool true] 27)).alloc (.cells #[.slice none 0 0, .int .i64 0, .bool false, .bool false] 27))) := (((Below.refl _ _).alloc (Nat.le_refl _) _).alloc (by simp) _).alloc (by simp; omega) _
 go_enter Tryd.func22, Tryd.ntmps22
 go_wp2
 refine bodyPost_ret (v := .agg #[.slice none 0 0, .int .i64 0, .bool false, .bool true]) (by simp [results, Tryd.results22, go_sem]) rfl ⟨rfl, ?_⟩
 exact (((Below.refl _ _).alloc (Nat.le_refl _) _).alloc (by simp) _).alloc (by simp; omega) _
set_option maxHeartbeats 2000000 in
theorem sum_walk (a1 a2 : Option Addr) (c1 c2 : Nat) (ns1 ns2 : List Nat) (low1 low2 : Int) (neg1 neg2 neg : Bool) (w : World) (m1 : IsMag w (.slice a1 ns1.length c1) ns1 low1) (m2 : IsMag w (.slice a2 ns2.length c2) ns2 low2) (hT : Tab w) :
   Calls Tryd.prog 22 #[.agg #[.slice a1 ns1.length c1, .int .i64 low1, .bool neg1, .bool false], .agg #[.slice a2 ns2.length c2, .int .i64 low2, .bool neg2, .bool false], .bool neg] w fun e w' => NumR w w' (sg neg1 * magR ns1 low1 + sg neg * magR ns2 low2) e := by
 have HB0 : Hid (Below w.heap.size w (((w.alloc (.cells #[.slice a1 ns1.length c1, .int .i64 low1, .bool neg1, .bool false] 27)).alloc (.cells #[.slice a2 ns2.length c2, .int .i64 low2, .bool neg2, .bool false] 27)).alloc (.cells #[.slice none 0 0, .int .i64 0, .bool false, .bool false] 27))) := (((Below.refl _ _).alloc (Nat.le_refl _) _).alloc (by simp) _).alloc (by simp; omega) _
 have M1 : Hid (IsMag w (.slice a1 ns1.length c1) ns1 low1) := m1
 have M2 : Hid (IsMag w (.slice a2 ns2.length c2) ns2 low2) := m2
 have HT : Hid (Tab w) := hT
 clear m1 m2 hT
 by_cases hs : neg1 = neg
 · subst hs
   have hsb : (neg1 == neg1) = true := by simp
   have HQ : Hid (sg neg1 * magR ns1 low1 + sg neg1 * magR ns2 low2 = sg neg1 * (magR ns1 low1 + magR ns2 low2)) := by rw [Rat.mul_add]; exact rfl
   go_enter Tryd.func22, Tryd.ntmps22
   go_wp2_with fail
   refine (plus_any _ _ ns1 ns2 _ _ _ (M1.out.later HB0.out) (M2.out.later HB0.out) (HT.out.later HB0.out)).mono ?_
   rintro e w5 ⟨s5, ns5, low5, rfl, hws5, ho5, hq5, hlo5, hb5⟩
   go_wp2_with fail
   refine (number_any _ ns5 _ _ _ hws5 ho5 hlo5.1 hlo5.2).mono ?_
   rintro e w6 ⟨v9, x9, rfl, ⟨a9, ns9, c9, low9, neg9, nn9, rfl, hws9, hrest⟩, hN9, hb6⟩
   have hB6 := thru hb5 hb6
   have t0 : w6.cell? ⟨w.heap.size + 1 + 1, 0, none⟩ = some (.slice none 0 0) := cell_later hB6 (by go_simp)
   have t1 : w6.cell? ⟨w.heap.size + 1 + 1, 1, none⟩ = some (.int .i64 0) := cell_later hB6 (by go_simp)
   have t2 : w6.cell? ⟨w.heap.size + 1 + 1, 2, none⟩ = some (.bool false) := cell_later hB6 (by go_simp)
   have t3 : w6.cell? ⟨w.heap.size + 1 + 1, 3, none⟩ = some (.bool false) := cell_later hB6 (by go_simp)
   have u0 : ∀ i, w6.frozen? ⟨w.heap.size + 1 + 1, i, none⟩ = false := fun i => frozen_later hB6 (by go_simp) (by simp)
   have HB6 : Hid (Below w.heap.size w w6) := thru HB0.out hB6
   rw [hq5, ← HQ.out] at hN9
   have HN9 : Hid _ := hN9
   clear hb5 hb6 hB6 hq5 hlo5 hws5 ho5 hN9 HB0
   have HRST : Hid _ := hrest
   clear hrest
   go_wp2
   refine bodyPost_ret (v := .agg #[.slice a9 ns9.length c9, .int .i64 low9, .bool neg9, .bool nn9]) (by simp [results, Tryd.results22, go_sem, t0, t1, t2, t3]) rfl ?_
   have hw9 := ws4 hws9 t0 t1 t2 t3 (.slice a9 ns9.length c9) (.int .i64 low9) (.bool neg9) (.bool nn9)
   refine ⟨_, x9, rfl, ⟨a9, ns9, c9, low9, neg9, nn9, rfl, hw9, HRST.out⟩, HN9.out, ?_⟩
   repeat (first | exact HB6.out | refine Below.drew ?_ | refine Below.setCell ?_ (by simp; omega) _)
 · have hsb : (neg1 == neg) = false := by simpa using hs
   have hsg : sg neg1 = -sg neg := by
     revert hs; cases neg1 <;> cases neg <;> simp [sg]
   go_enter Tryd.func22, Tryd.ntmps22
   go_wp2_with fail
   refine (against_any _ _ ns1 ns2 _ _ _ (M1.out.later HB0.out) (M2.out.later HB0.out)).mono ?_
   rintro e w4 ⟨rfl, hb4⟩
   have x0 : w4.cell? ⟨w.heap.size, 0, none⟩ = some (.slice a1 ns1.length c1) := cell_later hb4 (by go_simp)
   have x1 : w4.cell? ⟨w.heap.size, 1, none⟩ = some (.int .i64 low1) := cell_later hb4 (by go_simp)
   have x2 : w4.cell? ⟨w.heap.size, 2, none⟩ = some (.bool neg1) := cell_later hb4 (by go_simp)
   have y0 : w4.cell? ⟨w.heap.size + 1, 0, none⟩ = some (.slice a2 ns2.length c2) := cell_later hb4 (by go_simp)
   have y1 : w4.cell? ⟨w.heap.size + 1, 1, none⟩ = some (.int .i64 low2) := cell_later hb4 (by go_simp)
   have k0 : w4.cell? ⟨w.heap.size + 1 + 1, 0, none⟩ = some (.slice none 0 0) := cell_later hb4 (by go_simp)
   have k1 : w4.cell? ⟨w.heap.size + 1 + 1, 1, none⟩ = some (.int .i64 0) := cell_later hb4 (by go_simp)
   have k2 : w4.cell? ⟨w.heap.size + 1 + 1, 2, none⟩ = some (.bool false) := cell_later hb4 (by go_simp)
   have k3 : w4.cell? ⟨w.heap.size + 1 + 1, 3, none⟩ = some (.bool false) := cell_later hb4 (by go_simp)
   have u4 : ∀ i, w4.frozen? ⟨w.heap.size + 1 + 1, i, none⟩ = false := fun i => frozen_later hb4 (by go_simp) (by simp)
   have hsz4 : w.heap.size + 1 + 1 < w4.heap.size := by have := hb4.size; simp at this; omega
   have HB4 : Hid (Below w.heap.size w w4) := thru HB0.out hb4
   clear hb4 HB0
   by_cases hlt : magR ns1 low1 < magR ns2 low2
   · have hc : decide (cmpR (magR ns1 low1) (magR ns2 low2) < 0) = true := by unfold cmpR; rw [if_pos hlt]; decide
     have hc' : cmpR (magR ns1 low1) (magR ns2 low2) < 0 := by unfold cmpR; rw [if_pos hlt]; decide
     have HQ : Hid (sg neg1 * magR ns1 low1 + sg neg * magR ns2 low2 = sg neg * (magR ns2 low2 - magR ns1 low1)) := by rw [hsg]; show _ = _; grind
     have HLE : Hid (magR ns1 low1 ≤ magR ns2 low2) := Rat.le_of_lt hlt
     clear hsg hlt
     generalize cmpR (magR ns1 low1) (magR ns2 low2) = cc at *
     go_wp2_with fail
     refine (minus_any _ _ ns2 ns1 _ _ _ (M2.out.later HB4.out) (M1.out.later HB4.out) (HT.out.later HB4.out) HLE.out).mono ?_
     rintro e w5 ⟨s5, ns5, low5, rfl, hws5, ho5, hq5, hlo5, hb5⟩
     go_wp2_with fail
     refine (number_any _ ns5 _ _ _ hws5 ho5 hlo5.1 hlo5.2).mono ?_
     rintro e w6 ⟨v9, x9, rfl, ⟨a9, ns9, c9, low9, neg9, nn9, rfl, hws9, hrest⟩, hN9, hb6⟩
     have hB6 := thru hb5 hb6
     have t0 := cell_later hB6 k0
     have t1 := cell_later hB6 k1
     have t2 := cell_later hB6 k2
     have t3 := cell_later hB6 k3
     have u0 : ∀ i, w6.frozen? ⟨w.heap.size + 1 + 1, i, none⟩ = false := fun i => frozen_later hB6 (u4 i) hsz4
     have HB6 : Hid (Below w.heap.size w w6) := thru HB4.out hB6
     rw [hq5, ← HQ.out] at hN9
     have HN9 : Hid _ := hN9
     clear hb5 hb6 hB6 hq5 hlo5 hws5 ho5 hN9
     have HRST : Hid _ := hrest
     clear hrest
     go_wp2
     refine bodyPost_ret (v := .agg #[.slice a9 ns9.length c9, .int .i64 low9, .bool neg9, .bool nn9]) (by simp [results, Tryd.results22, go_sem, t0, t1, t2, t3]) rfl ?_
     have hw9 := ws4 hws9 t0 t1 t2 t3 (.slice a9 ns9.length c9) (.int .i64 low9) (.bool neg9) (.bool nn9)
     refine ⟨_, x9, rfl, ⟨a9, ns9, c9, low9, neg9, nn9, rfl, hw9, HRST.out⟩, HN9.out, ?_⟩
     repeat (first | exact HB6.out | refine Below.drew ?_ | refine Below.setCell ?_ (by simp; omega) _)
   · have hc' : ¬ cmpR (magR ns1 low1) (magR ns2 low2) < 0 := by unfold cmpR; rw [if_neg hlt]; split <;> decide
     have HQ : Hid (sg neg1 * magR ns1 low1 + sg neg * magR ns2 low2 = sg neg1 * (magR ns1 low1 - magR ns2 low2)) := by rw [show sg neg = -sg neg1 by rw [hsg]; grind]; show _ = _; grind
     have HLE : Hid (magR ns2 low2 ≤ magR ns1 low1) := Rat.not_lt.1 hlt
     clear hsg hlt
     generalize cmpR (magR ns1 low1) (magR ns2 low2) = cc at *
     go_wp2
     go_region_held3 (fun W => W.cell? ⟨w.heap.size, 0, none⟩ = some (.slice a1 ns1.length c1) ∧ W.cell? ⟨w.heap.size, 1, none⟩ = some (.int .i64 low1) ∧ W.cell? ⟨w.heap.size, 2, none⟩ = some (.bool neg1) ∧ W.cell? ⟨w.heap.size + 1, 0, none⟩ = some (.slice a2 ns2.length c2) ∧ W.cell? ⟨w.heap.size + 1, 1, none⟩ = some (.int .i64 low2) ∧ Below w.heap.size w W)
       (first
         | assumption
         | exact ⟨x0, x1, x2, y0, y1, HB4.out.drew⟩
         | exact keep5 (by assumption) (by assumption)
         | exact keep5_set (keep5_set (keep5_set (keep5_set (by assumption) _ _ (by show w.heap.size ≠ w.heap.size + 1 + 1; omega) (by show w.heap.size + 1 ≠ w.heap.size + 1 + 1; omega) (by show w.heap.size ≤ w.heap.size + 1 + 1; omega)) _ _ (by show w.heap.size ≠ w.heap.size + 1 + 1; omega) (by show w.heap.size + 1 ≠ w.heap.size + 1 + 1; omega) (by show w.heap.size ≤ w.heap.size + 1 + 1; omega)) _ _ (by show w.heap.size ≠ w.heap.size + 1 + 1; omega) (by show w.heap.size + 1 ≠ w.heap.size + 1 + 1; omega) (by show w.heap.size ≤ w.heap.size + 1 + 1; omega)) _ _ (by show w.heap.size ≠ w.heap.size + 1 + 1; omega) (by show w.heap.size + 1 ≠ w.heap.size + 1 + 1; omega) (by show w.heap.size ≤ w.heap.size + 1 + 1; omega))
       (first
         | (go_at_call 47; refine (minus_any _ _ ns1 ns2 _ _ _ (M1.out.later HB4.out.drew) (M2.out.later HB4.out.drew) (HT.out.later HB4.out.drew) HLE.out).mono ?_; rintro e w5 ⟨s5, ns5, low5, rfl, hws5, ho5, hq5, hlo5, hb5⟩)
         | (go_at_call 20; refine (number_any _ ns5 _ _ _ hws5 ho5 hlo5.1 hlo5.2).mono ?_; rintro e w6 ⟨v9, x9, rfl, ⟨a9, ns9, c9, low9, neg9, nn9, rfl, hws9, hrest⟩, hN9, hb6⟩; have hB6 := thru hb5 hb6; have t0 : w6.cell? ⟨w.heap.size + 1 + 1, 0, none⟩ = some (.slice none 0 0) := cell_later hB6 k0; have t1 : w6.cell? ⟨w.heap.size + 1 + 1, 1, none⟩ = some (.int .i64 0) := cell_later hB6 k1; have t2 : w6.cell? ⟨w.heap.size + 1 + 1, 2, none⟩ = some (.bool false) := cell_later hB6 k2; have t3 : w6.cell? ⟨w.heap.size + 1 + 1, 3, none⟩ = some (.bool false) := cell_later hB6 k3; have u0 : ∀ i, w6.frozen? ⟨w.heap.size + 1 + 1, i, none⟩ = false := fun i => frozen_later hB6 (u4 i) hsz4))
     have hBf := (by assumption : _ ∧ _ ∧ _ ∧ _ ∧ _ ∧ Below w.heap.size w _).2.2.2.2.2
     have HBF : Hid _ := hBf
     rw [hq5, ← HQ.out] at hN9
     have HN9 : Hid _ := hN9
     clear hb5 hb6 hB6 hq5 hlo5 hws5 ho5 hN9 hBf
     have HRST : Hid _ := hrest
     clear hrest
     go_wp2
     refine bodyPost_ret (v := .agg #[.slice a9 ns9.length c9, .int .i64 low9, .bool neg9, .bool nn9]) (by simp [results, Tryd.results22, go_sem, t0, t1, t2, t3]) rfl ?_
     have hw9 := ws4 hws9 t0 t1 t2 t3 (.slice a9 ns9.length c9) (.int .i64 low9) (.bool neg9) (.bool nn9)
     refine ⟨_, x9, rfl, ⟨a9, ns9, c9, low9, neg9, nn9, rfl, hw9, HRST.out⟩, HN9.out, HBF.out⟩
end

/- Add and Sub: the sum and the difference of two numbers. -/
section
open Go.RowKit
attribute [local go_sem ↓] Go.wp_at_zero Go.wp_at_succ
def OpR (w w' : World) (R : Option Rat → Prop) (e : Ending) : Prop := ∃ v x, e = .returned v ∧ IsNum w' v x ∧ R x ∧ Below w.heap.size w w'
def Op2 (f : Rat → Rat → Rat) (a b x : Option Rat) : Prop := (∃ p q, a = some p ∧ b = some q ∧ Norm (f p q) x) ∨ ((a = none ∨ b = none) ∧ x = none)
theorem sum_num (a1 a2 : Option Addr) (c1 c2 : Nat) (ns1 ns2 : List Nat) (low1 low2 : Int) (neg1 nn1 neg2 nn2 neg : Bool) (w : World) (m1 : IsMag w (.slice a1 ns1.length c1) ns1 low1) (m2 : IsMag w (.slice a2 ns2.length c2) ns2 low2) (hT : Tab w) (R : Option Rat → Prop)
   (h1 : nn1 = true ∨ nn2 = true → R none) (h2 : nn1 = false → nn2 = false → ∀ x, Norm (sg neg1 * magR ns1 low1 + sg neg * magR ns2 low2) x → R x) :
   Calls Tryd.prog 22 #[.agg #[.slice a1 ns1.length c1, .int .i64 low1, .bool neg1, .bool nn1], .agg #[.slice a2 ns2.length c2, .int .i64 low2, .bool neg2, .bool nn2], .bool neg] w fun e w' => OpR w w' R e := by
 cases nn1 with
 | true =>
   refine (sum_none1 a1 a2 _ _ c1 c2 low1 low2 neg1 neg2 nn2 neg w).mono ?_
   rintro e w' ⟨rfl, hb⟩
   exact ⟨_, none, rfl, isNum_none w', h1 (Or.inl rfl), hb⟩
 | false =>
   cases nn2 with
   | true =>
     refine (sum_none2 a1 a2 _ _ c1 c2 low1 low2 neg1 neg2 neg w).mono ?_
     rintro e w' ⟨rfl, hb⟩
     exact ⟨_, none, rfl, isNum_none w', h1 (Or.inr rfl), hb⟩
   | false =>
     refine (sum_walk a1 a2 c1 c2 ns1 ns2 low1 low2 neg1 neg2 neg w m1 m2 hT).mono ?_
     rintro e w' ⟨v, x, he, hn, hN, hb⟩
     exact ⟨v, x, he, hn, h2 rfl rfl x hN, hb⟩
set_option maxHeartbeats 1000000 in
theorem add_walk (a1 a2 : Option Addr) (c1 c2 : Nat) (ns1 ns2 : List Nat) (low1 low2 : Int) (neg1 nn1 neg2 nn2 : Bool) (w : World) (m1 : IsMag w (.slice a1 ns1.length c1) ns1 low1) (m2 : IsMag w (.slice a2 ns2.length c2) ns2 low2) (hT : Tab w) (R : Option Rat → Prop)
   (h1 : nn1 = true ∨ nn2 = true → R none) (h2 : nn1 = false → nn2 = false → ∀ x, Norm (sg neg1 * magR ns1 low1 + sg (neg2) * magR ns2 low2) x → R x) :
   Calls Tryd.prog 6 #[.agg #[.slice a1 ns1.length c1, .int .i64 low1, .bool neg1, .bool nn1], .agg #[.slice a2 ns2.length c2, .int .i64 low2, .bool neg2, .bool nn2]] w fun e w' => OpR w w' R e := by
 have HB0 : Hid (Below w.heap.size w (((w.alloc (.cells #[.slice a1 ns1.length c1, .int .i64 low1, .bool neg1, .bool nn1] 27)).alloc (.cells #[.slice a2 ns2.length c2, .int .i64 low2, .bool neg2, .bool nn2] 27)).alloc (.cells #[.slice none 0 0, .int .i64 0, .bool false, .bool false] 27))) := (((Below.refl _ _).alloc (Nat.le_refl _) _).alloc (by simp) _).alloc (by simp; omega) _
 have M1 : Hid (IsMag w (.slice a1 ns1.length c1) ns1 low1) := m1
 have M2 : Hid (IsMag w (.slice a2 ns2.length c2) ns2 low2) := m2
 have HT : Hid (Tab w) := hT
 have H1 : Hid (nn1 = true ∨ nn2 = true → R none) := h1
 have H2 : Hid (nn1 = false → nn2 = false → ∀ x, Norm (sg neg1 * magR ns1 low1 + sg (neg2) * magR ns2 low2) x → R x) := h2
 clear m1 m2 hT h1 h2
 go_enter Tryd.func6, Tryd.ntmps6
 go_wp2_with fail
 refine (sum_num _ _ _ _ ns1 ns2 _ _ _ _ _ _ _ _ (M1.out.later HB0.out) (M2.out.later HB0.out) (HT.out.later HB0.out) R H1.out H2.out).mono ?_
 rintro e w6 ⟨v9, x9, rfl, ⟨a9, ns9, c9, low9, neg9, nn9, rfl, hws9, hrest⟩, hN9, hB6⟩
 have t0 : w6.cell? ⟨w.heap.size + 1 + 1, 0, none⟩ = some (.slice none 0 0) := cell_later hB6 (by go_simp)
 have t1 : w6.cell? ⟨w.heap.size + 1 + 1, 1, none⟩ = some (.int .i64 0) := cell_later hB6 (by go_simp)
 have t2 : w6.cell? ⟨w.heap.size + 1 + 1, 2, none⟩ = some (.bool false) := cell_later hB6 (by go_simp)
 have t3 : w6.cell? ⟨w.heap.size + 1 + 1, 3, none⟩ = some (.bool false) := cell_later hB6 (by go_simp)
 have u0 : ∀ i, w6.frozen? ⟨w.heap.size + 1 + 1, i, none⟩ = false := fun i => frozen_later hB6 (by go_simp) (by simp)
 have HB6 : Hid (Below w.heap.size w w6) := thru HB0.out hB6
 have HN9 : Hid (R x9) := hN9
 clear hB6 hN9 HB0
 have HRST : Hid _ := hrest
 clear hrest
 go_wp2
 refine bodyPost_ret (v := .agg #[.slice a9 ns9.length c9, .int .i64 low9, .bool neg9, .bool nn9]) (by simp [results, Tryd.results6, go_sem, t0, t1, t2, t3]) rfl ?_
 have hw9 := ws4 hws9 t0 t1 t2 t3 (.slice a9 ns9.length c9) (.int .i64 low9) (.bool neg9) (.bool nn9)
 refine ⟨_, x9, rfl, ⟨a9, ns9, c9, low9, neg9, nn9, rfl, hw9, HRST.out⟩, HN9.out, ?_⟩
 repeat (first | exact HB6.out | refine Below.drew ?_ | refine Below.setCell ?_ (by simp; omega) _)
theorem add_any (va vb : Value) (a b : Option Rat) (w : World) (ha : IsNum w va a) (hb : IsNum w vb b) (hT : Tab w) :
   Calls Tryd.prog 6 #[va, vb] w fun e w' => OpR w w' (Op2 (fun p q => p + q) a b) e := by
 obtain ⟨a1, ns1, c1, low1, neg1, nn1, rfl, p2, p3, p4, p5, p6, p7, p8⟩ := ha
 obtain ⟨a2, ns2, c2, low2, neg2, nn2, rfl, r2, r3, r4, r5, r6, r7, r8⟩ := hb
 refine add_walk a1 a2 c1 c2 ns1 ns2 low1 low2 neg1 nn1 neg2 nn2 w ⟨p2, p3, p4, p5⟩ ⟨r2, r3, r4, r5⟩ hT _ ?_ ?_
 · intro h
   refine Or.inr ⟨?_, rfl⟩
   rcases h with h | h
   · exact Or.inl (p7 h).2
   · exact Or.inr (r7 h).2
 · intro h1 h2 x hx
   refine Or.inl ⟨_, _, p8 h1, r8 h2, ?_⟩
   have e : sg neg1 * magR ns1 low1 + sg neg2 * magR ns2 low2 = sg neg1 * magR ns1 low1 + sg neg2 * magR ns2 low2 := by rfl
   rw [← e] at hx; exact hx
set_option maxHeartbeats 1000000 in
theorem sub_walk (a1 a2 : Option Addr) (c1 c2 : Nat) (ns1 ns2 : List Nat) (low1 low2 : Int) (neg1 nn1 neg2 nn2 : Bool) (w : World) (m1 : IsMag w (.slice a1 ns1.length c1) ns1 low1) (m2 : IsMag w (.slice a2 ns2.length c2) ns2 low2) (hT : Tab w) (R : Option Rat → Prop)
   (h1 : nn1 = true ∨ nn2 = true → R none) (h2 : nn1 = false → nn2 = false → ∀ x, Norm (sg neg1 * magR ns1 low1 + sg (!neg2) * magR ns2 low2) x → R x) :
   Calls Tryd.prog 10 #[.agg #[.slice a1 ns1.length c1, .int .i64 low1, .bool neg1, .bool nn1], .agg #[.slice a2 ns2.length c2, .int .i64 low2, .bool neg2, .bool nn2]] w fun e w' => OpR w w' R e := by
 have HB0 : Hid (Below w.heap.size w (((w.alloc (.cells #[.slice a1 ns1.length c1, .int .i64 low1, .bool neg1, .bool nn1] 27)).alloc (.cells #[.slice a2 ns2.length c2, .int .i64 low2, .bool neg2, .bool nn2] 27)).alloc (.cells #[.slice none 0 0, .int .i64 0, .bool false, .bool false] 27))) := (((Below.refl _ _).alloc (Nat.le_refl _) _).alloc (by simp) _).alloc (by simp; omega) _
 have M1 : Hid (IsMag w (.slice a1 ns1.length c1) ns1 low1) := m1
 have M2 : Hid (IsMag w (.slice a2 ns2.length c2) ns2 low2) := m2
 have HT : Hid (Tab w) := hT
 have H1 : Hid (nn1 = true ∨ nn2 = true → R none) := h1
 have H2 : Hid (nn1 = false → nn2 = false → ∀ x, Norm (sg neg1 * magR ns1 low1 + sg (!neg2) * magR ns2 low2) x → R x) := h2
 clear m1 m2 hT h1 h2
 go_enter Tryd.func10, Tryd.ntmps10
 go_wp2_with fail
 refine (sum_num _ _ _ _ ns1 ns2 _ _ _ _ _ _ _ _ (M1.out.later HB0.out) (M2.out.later HB0.out) (HT.out.later HB0.out) R H1.out H2.out).mono ?_
 rintro e w6 ⟨v9, x9, rfl, ⟨a9, ns9, c9, low9, neg9, nn9, rfl, hws9, hrest⟩, hN9, hB6⟩
 have t0 : w6.cell? ⟨w.heap.size + 1 + 1, 0, none⟩ = some (.slice none 0 0) := cell_later hB6 (by go_simp)
 have t1 : w6.cell? ⟨w.heap.size + 1 + 1, 1, none⟩ = some (.int .i64 0) := cell_later hB6 (by go_simp)
 have t2 : w6.cell? ⟨w.heap.size + 1 + 1, 2, none⟩ = some (.bool false) := cell_later hB6 (by go_simp)
 have t3 : w6.cell? ⟨w.heap.size + 1 + 1, 3, none⟩ = some (.bool false) := cell_later hB6 (by go_simp)
 have u0 : ∀ i, w6.frozen? ⟨w.heap.size + 1 + 1, i, none⟩ = false := fun i => frozen_later hB6 (by go_simp) (by simp)
 have HB6 : Hid (Below w.heap.size w w6) := thru HB0.out hB6
 have HN9 : Hid (R x9) := hN9
 clear hB6 hN9 HB0
 have HRST : Hid _ := hrest
 clear hrest
 go_wp2
 refine bodyPost_ret (v := .agg #[.slice a9 ns9.length c9, .int .i64 low9, .bool neg9, .bool nn9]) (by simp [results, Tryd.results10, go_sem, t0, t1, t2, t3]) rfl ?_
 have hw9 := ws4 hws9 t0 t1 t2 t3 (.slice a9 ns9.length c9) (.int .i64 low9) (.bool neg9) (.bool nn9)
 refine ⟨_, x9, rfl, ⟨a9, ns9, c9, low9, neg9, nn9, rfl, hw9, HRST.out⟩, HN9.out, ?_⟩
 repeat (first | exact HB6.out | refine Below.drew ?_ | refine Below.setCell ?_ (by simp; omega) _)
theorem sub_any (va vb : Value) (a b : Option Rat) (w : World) (ha : IsNum w va a) (hb : IsNum w vb b) (hT : Tab w) :
   Calls Tryd.prog 10 #[va, vb] w fun e w' => OpR w w' (Op2 (fun p q => p - q) a b) e := by
 obtain ⟨a1, ns1, c1, low1, neg1, nn1, rfl, p2, p3, p4, p5, p6, p7, p8⟩ := ha
 obtain ⟨a2, ns2, c2, low2, neg2, nn2, rfl, r2, r3, r4, r5, r6, r7, r8⟩ := hb
 refine sub_walk a1 a2 c1 c2 ns1 ns2 low1 low2 neg1 nn1 neg2 nn2 w ⟨p2, p3, p4, p5⟩ ⟨r2, r3, r4, r5⟩ hT _ ?_ ?_
 · intro h
   refine Or.inr ⟨?_, rfl⟩
   rcases h with h | h
   · exact Or.inl (p7 h).2
   · exact Or.inr (r7 h).2
 · intro h1 h2 x hx
   refine Or.inl ⟨_, _, p8 h1, r8 h2, ?_⟩
   have e : sg neg1 * magR ns1 low1 - sg neg2 * magR ns2 low2 = sg neg1 * magR ns1 low1 + sg (!neg2) * magR ns2 low2 := by cases neg2 <;> simp [sg] <;> grind
   rw [← e] at hx; exact hx
end
end Go.Proofs.YtejhinjanjlplaaDoor
