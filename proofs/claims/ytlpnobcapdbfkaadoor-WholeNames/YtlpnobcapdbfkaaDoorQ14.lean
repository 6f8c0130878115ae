/- Own texts, put together: Ne Nf. -/
import Derived.Test.YtlpnobcapdbfkaaDoorQ13
namespace Go.Proofs.YtlpnobcapdbfkaaDoor
/- Add and Sub: the sum and the difference of two numbers. -/
section
open Go.RowKit
attribute [local go_sem ↓] Go.wp_at_zero Go.wp_at_succ
def OpR (w w' : World) (R : Option Rat → Prop) (e : Ending) : Prop := ∃ v x, e = .returned v ∧ IsNum w' v x ∧ R x ∧ Below w.heap.size w w'
def Op2 (f : Rat → Rat → Rat) (a b x : Option Rat) : Prop := (∃ p q, a = some p ∧ b = some q ∧ Norm (f p q) x) ∨ ((a = none ∨ b = none) ∧ x = none)
theorem sum_num (a1 a2 : Option Addr) (c1 c2 : Nat) (ns1 ns2 : List Nat) (low1 low2 : Int) (neg1 nn1 neg2 nn2 neg : Bool) (w : World) (m1 : IsMag w (.slice a1 ns1.length c1) ns1 low1) (m2 : IsMag w (.slice a2 ns2.length c2) ns2 low2) (hT : Tab w) (R : Option Rat → Prop)
   (h1 : nn1 = true ∨ nn2 = true → R none) (h2 : nn1 = false → nn2 = false → ∀ x, Norm (sg neg1 * magR ns1 low1 + sg neg * magR ns2 low2) x → R x) :
   Calls Tryd.prog 26 #[.agg #[.slice a1 ns1.length c1, .int .i64 low1, .bool neg1, .bool nn1], .agg #[.slice a2 ns2.length c2, .int .i64 low2, .bool neg2, .bool nn2], .bool neg] w fun e w' => OpR w w' R e := by
 cases nn1 with
 | true =>
   refine (sum_none1 a1 a2 _ _ c1 c2 low1 low2 neg1 neg2 nn2 neg w).mono ?_
   rintro e w' ⟨rfl, hb⟩
   exact ⟨_, none, rfl, isNum_none w', h1 (Or.inl rfl), hb⟩
 | false =>
   cases nn2 with
   | true =>
     refine (sum_none2 a1 a2 _ _ c1 c2 low1 low2 neg1 neg2 neg w).mono ?_
     rintro e w' ⟨rfl, hb⟩
     exact ⟨_, none, rfl, isNum_none w', h1 (Or.inr rfl), hb⟩
   | false =>
     refine (sum_walk a1 a2 c1 c2 ns1 ns2 low1 low2 neg1 neg2 neg w m1 m2 hT).mono ?_
     rintro e w' ⟨v, x, he, hn, hN, hb⟩
     exact ⟨v, x, he, hn, h2 rfl rfl x hN, hb⟩
set_option maxHeartbeats 1000000 in
theorem add_walk (a1 a2 : Option Addr) (c1 c2 : Nat) (ns1 ns2 : List Nat) (low1 low2 : Int) (neg1 nn1 neg2 nn2 : Bool) (w : World) (m1 : IsMag w (.slice a1 ns1.length c1) ns1 low1) (m2 : IsMag w (.slice a2 ns2.length c2) ns2 low2) (hT : Tab w) (R : Option Rat → Prop)
   (h1 : nn1 = true ∨ nn2 = true → R none) (h2 : nn1 = false → nn2 = false → ∀ x, Norm (sg neg1 * magR ns1 low1 + sg (neg2) * magR ns2 low2) x → R x) :
   Calls Tryd.prog 10 #[.agg #[.slice a1 ns1.length c1, .int .i64 low1, .bool neg1, .bool nn1], .agg #[.slice a2 ns2.length c2, .int .i64 low2, .bool neg2, .bool nn2]] w fun e w' => OpR w w' R e := by
 have HB0 : Hid (Below w.heap.size w (((w.alloc (.cells #[.slice a1 ns1.length c1, .int .i64 low1, .bool neg1, .bool nn1] 27)).alloc (.cells #[.slice a2 ns2.length c2, .int .i64 low2, .bool neg2, .bool nn2] 27)).alloc (.cells #[.slice none 0 0, .int .i64 0, .bool false, .bool false] 27))) := (((Below.refl _ _).alloc (Nat.le_refl _) _).alloc (by simp) _).alloc (by simp; omega) _
 have M1 : Hid (IsMag w (.slice a1 ns1.length c1) ns1 low1) := m1
 have M2 : Hid (IsMag w (.slice a2 ns2.length c2) ns2 low2) := m2
 have HT : Hid (Tab w) := hT
 have H1 : Hid (nn1 = true ∨ nn2 = true → R none) := h1
 have H2 : Hid (nn1 = false → nn2 = false → ∀ x, Norm (sg neg1 * magR ns1 low1 + sg (neg2) * magR ns2 low2) x → R x) := h2
 clear m1 m2 hT h1 h2
 go_enter Tryd.func10, Tryd.ntmps10
 go_wp2_with fail
 refine (sum_num _ _ _ _ ns1 ns2 _ _ _ _ _ _ _ _ (M1.out.later HB0.out) (M2.out.later HB0.out) (HT.out.later HB0.out) R H1.out H2.out).mono ?_
 rintro e w6 ⟨v9, x9, rfl, ⟨a9, ns9, c9, low9, neg9, nn9, rfl, hws9, hrest⟩, hN9, hB6⟩
 have t0 : w6.cell? ⟨w.heap.size + 1 + 1, 0, none⟩ = some (.slice none 0 0) := cell_later hB6 (by go_simp)
 have t1 : w6.cell? ⟨w.heap.size + 1 + 1, 1, none⟩ = some (.int .i64 0) := cell_later hB6 (by go_simp)
 have t2 : w6.cell? ⟨w.heap.size + 1 + 1, 2, none⟩ = some (.bool false) := cell_later hB6 (by go_simp)
 have t3 : w6.cell? ⟨w.heap.size + 1 + 1, 3, none⟩ = some (.bool false) := cell_later hB6 (by go_simp)
 have u0 : ∀ i, w6.frozen? ⟨w.heap.size + 1 + 1, i, none⟩ = false := fun i => frozen_later hB6 (by go_simp) (by simp)
 have HB6 : Hid (Below w.heap.size w w6) := thru HB0.out hB6
 have HN9 : Hid (R x9) := hN9
 clear hB6 hN9 HB0
 have HRST : Hid _ := hrest
 clear hrest
 go_wp2
 refine bodyPost_ret (v := .agg #[.slice a9 ns9.length c9, .int .i64 low9, .bool neg9, .bool nn9]) (by simp [results, Tryd.results10, go_sem, t0, t1, t2, t3]) rfl ?_
 have hw9 := ws4 hws9 t0 t1 t2 t3 (.slice a9 ns9.length c9) (.int .i64 low9) (.bool neg9) (.bool nn9)
 refine ⟨_, x9, rfl, ⟨a9, ns9, c9, low9, neg9, nn9, rfl, hw9, HRST.out⟩, HN9.out, ?_⟩
 repeat (first | exact HB6.out | refine Below.drew ?_ | refine Below.setCell ?_ (by simp; omega) _)
theorem add_any (va vb : Value) (a b : Option Rat) (w : World) (ha : IsNum w va a) (hb : IsNum w vb b) (hT : Tab w) :
   Calls Tryd.prog 10 #[va, vb] w fun e w' => OpR w w' (Op2 (fun p q => p + q) a b) e := by
 obtain ⟨a1, ns1, c1, low1, neg1, nn1, rfl, p2, p3, p4, p5, p6, p7, p8⟩ := ha
 obtain ⟨a2, ns2, c2, low2, neg2, nn2, rfl, r2, r3, r4, r5, r6, r7, r8⟩ := hb
 refine add_walk a1 a2 c1 c2 ns1 ns2 low1 low2 neg1 nn1 neg2 nn2 w ⟨p2, p3, p4, p5⟩ ⟨r2, r3, r4, r5⟩ hT _ ?_ ?_
 · intro h
   refine Or.inr ⟨?_, rfl⟩
   rcases h with h | h
   · exact Or.inl (p7 h).2
   · exact Or.inr (r7 h).2
 · intro h1 h2 x hx
   refine Or.inl ⟨_, _, p8 h1, r8 h2, ?_⟩
   have e : sg neg1 * magR ns1 low1 + sg neg2 * magR ns2 low2 = sg neg1 * magR ns1 low1 + sg neg2 * magR ns2 low2 := by rfl
   rw [← e] at hx; exact hx
set_option maxHeartbeats 1000000 in
theorem sub_walk (a1 a2 : Option Addr) (c1 c2 : Nat) (ns1 ns2 : List Nat) (low1 low2 : Int) (neg1 nn1 neg2 nn2 : Bool) (w : World) (m1 : IsMag w (.slice a1 ns1.length c1) ns1 low1) (m2 : IsMag w (.slice a2 ns2.length c2) ns2 low2) (hT : Tab w) (R : Option Rat → Prop)
   (h1 : nn1 = true ∨ nn2 = true → R none) (h2 : nn1 = false → nn2 = false → ∀ x, Norm (sg neg1 * magR ns1 low1 + sg (!neg2) * magR ns2 low2) x → R x) :
   Calls Tryd.prog 11 #[.agg #[.slice a1 ns1.length c1, .int .i64 low1, .bool neg1, .bool nn1], .agg #[.slice a2 ns2.length c2, .int .i64 low2, .bool neg2, .bool nn2]] w fun e w' => OpR w w' R e := by
 have HB0 : Hid (Below w.heap.size w (((w.alloc (.cells #[.slice a1 ns1.length c1, .int .i64 low1, .bool neg1, .bool nn1] 27)).alloc (.cells #[.slice a2 ns2.length c2, .int .i64 low2, .bool neg2, .bool nn2] 27)).alloc (.cells #[.slice none 0 0, .int .i64 0, .bool false, .bool false] 27))) := (((Below.refl _ _).alloc (Nat.le_refl _) _).alloc (by simp) _).alloc (by simp; omega) _
 have M1 : Hid (IsMag w (.slice a1 ns1.length c1) ns1 low1) := m1
 have M2 : Hid (IsMag w (.slice a2 ns2.length c2) ns2 low2) := m2
 have HT : Hid (Tab w) := hT
 have H1 : Hid (nn1 = true ∨ nn2 = true → R none) := h1
 have H2 : Hid (nn1 = false → nn2 = false → ∀ x, Norm (sg neg1 * magR ns1 low1 + sg (!neg2) * magR ns2 low2) x → R x) := h2
 clear m1 m2 hT h1 h2
 go_enter Tryd.func11, Tryd.ntmps11
 go_wp2_with fail
 refine (sum_num _ _ _ _ ns1 ns2 _ _ _ _ _ _ _ _ (M1.out.later HB0.out) (M2.out.later HB0.out) (HT.out.later HB0.out) R H1.out H2.out).mono ?_
 rintro e w6 ⟨v9, x9, rfl, ⟨a9, ns9, c9, low9, neg9, nn9, rfl, hws9, hrest⟩, hN9, hB6⟩
 have t0 : w6.cell? ⟨w.heap.size + 1 + 1, 0, none⟩ = some (.slice none 0 0) := cell_later hB6 (by go_simp)
 have t1 : w6.cell? ⟨w.heap.size + 1 + 1, 1, none⟩ = some (.int .i64 0) := cell_later hB6 (by go_simp)
 have t2 : w6.cell? ⟨w.heap.size + 1 + 1, 2, none⟩ = some (.bool false) := cell_later hB6 (by go_simp)
 have t3 : w6.cell? ⟨w.heap.size + 1 + 1, 3, none⟩ = some (.bool false) := cell_later hB6 (by go_simp)
 have u0 : ∀ i, w6.frozen? ⟨w.heap.size + 1 + 1, i, none⟩ = false := fun i => frozen_later hB6 (by go_simp) (by simp)
 have HB6 : Hid (Below w.heap.size w w6) := thru HB0.out hB6
 have HN9 : Hid (R x9) := hN9
 clear hB6 hN9 HB0
 have HRST : Hid _ := hrest
 clear hrest
 go_wp2
 refine bodyPost_ret (v := .agg #[.slice a9 ns9.length c9, .int .i64 low9, .bool neg9, .bool nn9]) (by simp [results, Tryd.results11, go_sem, t0, t1, t2, t3]) rfl ?_
 have hw9 := ws4 hws9 t0 t1 t2 t3 (.slice a9 ns9.length c9) (.int .i64 low9) (.bool neg9) (.bool nn9)
 refine ⟨_, x9, rfl, ⟨a9, ns9, c9, low9, neg9, nn9, rfl, hw9, HRST.out⟩, HN9.out, ?_⟩
 repeat (first | exact HB6.out | refine Below.drew ?_ | refine Below.setCell ?_ (by simp; omega) _)
theorem sub_any (va vb : Value) (a b : Option Rat) (w : World) (ha : IsNum w va a) (hb : IsNum w vb b) (hT : Tab w) :
   Calls Tryd.prog 11 #[va, vb] w fun e w' => OpR w w' (Op2 (fun p q => p - q) a b) e := by
 obtain ⟨a1, ns1, c1, low1, neg1, nn1, rfl, p2, p3, p4, p5, p6, p7, p8⟩ := ha
 obtain ⟨a2, ns2, c2, low2, neg2, nn2, rfl, r2, r3, r4, r5, r6, r7, r8⟩ := hb
 refine sub_walk a1 a2 c1 c2 ns1 ns2 low1 low2 neg1 nn1 neg2 nn2 w ⟨p2, p3, p4, p5⟩ ⟨r2, r3, r4, r5⟩ hT _ ?_ ?_
 · intro h
   refine Or.inr ⟨?_, rfl⟩
   rcases h with h | h
   · exact Or.inl (p7 h).2
   · exact Or.inr (r7 h).2
 · intro h1 h2 x hx
   refine Or.inl ⟨_, _, p8 h1, r8 h2, ?_⟩
   have e : sg neg1 * magR ns1 low1 - sg neg2 * magR ns2 low2 = sg neg1 * magR ns1 low1 + sg (!neg2) * magR ns2 low2 := by cases neg2 <;> simp [sg] <;> grind
   rw [← e] at hx; exact hx
end

/- Mul, Shift and Neg. -/
section
open Go.RowKit
attribute [local go_sem ↓] Go.wp_at_zero Go.wp_at_succ
theorem keep6 {w W W' : World} {p1 p2 p3 p4 p5 p6 : Addr} {x1 x2 x3 x4 x5 x6 : Value} (h : W.cell? p1 = some x1 ∧ W.cell? p2 = some x2 ∧ W.cell? p3 = some x3 ∧ W.cell? p4 = some x4 ∧ W.cell? p5 = some x5 ∧ W.cell? p6 = some x6 ∧ Below w.heap.size w W) (hb : Below W.heap.size W W') :
   W'.cell? p1 = some x1 ∧ W'.cell? p2 = some x2 ∧ W'.cell? p3 = some x3 ∧ W'.cell? p4 = some x4 ∧ W'.cell? p5 = some x5 ∧ W'.cell? p6 = some x6 ∧ Below w.heap.size w W' :=
 ⟨cell_later hb h.1, cell_later hb h.2.1, cell_later hb h.2.2.1, cell_later hb h.2.2.2.1, cell_later hb h.2.2.2.2.1, cell_later hb h.2.2.2.2.2.1, h.2.2.2.2.2.2.trans (hb.mono h.2.2.2.2.2.2.size)⟩
theorem keep6_set {w W : World} {b1 b2 : Nat} {o1 o2 o3 o4 o5 o6 : Nat} {x1 x2 x3 x4 x5 x6 : Value} (h : W.cell? ⟨b1, o1, none⟩ = some x1 ∧ W.cell? ⟨b1, o2, none⟩ = some x2 ∧ W.cell? ⟨b1, o3, none⟩ = some x3 ∧ W.cell? ⟨b2, o4, none⟩ = some x4 ∧ W.cell? ⟨b2, o5, none⟩ = some x5 ∧ W.cell? ⟨b2, o6, none⟩ = some x6 ∧ Below w.heap.size w W) (a : Addr) (v : Value) (h1 : b1 ≠ a.block) (h2 : b2 ≠ a.block) (h3 : w.heap.size ≤ a.block) :
   (W.setCell a v).cell? ⟨b1, o1, none⟩ = some x1 ∧ (W.setCell a v).cell? ⟨b1, o2, none⟩ = some x2 ∧ (W.setCell a v).cell? ⟨b1, o3, none⟩ = some x3 ∧ (W.setCell a v).cell? ⟨b2, o4, none⟩ = some x4 ∧ (W.setCell a v).cell? ⟨b2, o5, none⟩ = some x5 ∧ (W.setCell a v).cell? ⟨b2, o6, none⟩ = some x6 ∧ Below w.heap.size w (W.setCell a v) :=
 ⟨cell_other h.1 h1 v, cell_other h.2.1 h1 v, cell_other h.2.2.1 h1 v, cell_other h.2.2.2.1 h2 v, cell_other h.2.2.2.2.1 h2 v, cell_other h.2.2.2.2.2.1 h2 v, h.2.2.2.2.2.2.setCell h3 v⟩
theorem keep3_set {w W : World} {b1 : Nat} {o1 o2 o3 : Nat} {x1 x2 x3 : Value} (h : W.cell? ⟨b1, o1, none⟩ = some x1 ∧ W.cell? ⟨b1, o2, none⟩ = some x2 ∧ W.cell? ⟨b1, o3, none⟩ = some x3 ∧ Below w.heap.size w W) (a : Addr) (v : Value) (h1 : b1 ≠ a.block) (h3 : w.heap.size ≤ a.block) :
   (W.setCell a v).cell? ⟨b1, o1, none⟩ = some x1 ∧ (W.setCell a v).cell? ⟨b1, o2, none⟩ = some x2 ∧ (W.setCell a v).cell? ⟨b1, o3, none⟩ = some x3 ∧ Below w.heap.size w (W.setCell a v) :=
 ⟨cell_other h.1 h1 v, cell_other h.2.1 h1 v, cell_other h.2.2.1 h1 v, h.2.2.2.setCell h3 v⟩
set_option maxHeartbeats 1000000 in
theorem mul_none1 (a1 a2 : Option Addr) (n1 n2 c1 c2 : Nat) (low1 low2 : Int) (neg1 neg2 nn2 : Bool) (w : World) :
   Calls Tryd.prog 13 #[.agg #[.slice a1 n1 c1, .int .i64 low1, .bool neg1, .bool true], .agg #[.slice a2 n2 c2, .int .i64 low2, .bool neg2, .bool nn2]] w fun e w' => e = .returned (.agg #[.slice none 0 0, .int .i64 0, .bool false, .bool true]) ∧ Below w.heap.size w w' := by
 go_enter Tryd.func13, Tryd.ntmps13
 go_wp2
 refine bodyPost_ret (v := .agg #[.slice none 0 0, .int .i64 0, .bool false, .bool true]) (by simp [results, Tryd.results13, go_sem]) rfl ⟨rfl, ?_⟩
 exact (((Below.refl _ _).alloc (Nat.le_refl _) _).alloc (by simp) _).alloc (by simp; omega) _
set_option maxHeartbeats 1000000 in
theorem mul_none2 (a1 a2 : Option Addr) (n1 n2 c1 c2 : Nat) (low1 low2 : Int) (neg1 neg2 : Bool) (w : World) :
   Calls Tryd.prog 13 #[.agg #[.slice a1 n1 c1, .int .i64 low1, .bool neg1, .bool false], .agg #[.slice a2 n2 c2, .int .i64 low2, .bool neg2, .bool true]] w fun e w' => e = .returned (.agg #[.slice none 0 0, .int .i64 0, .bool false, .bool true]) ∧ Below w.heap.size w w' := by
 go_enter Tryd.func13, Tryd.ntmps13
 go_wp2
 refine bodyPost_ret (v := .agg #[.slice none 0 0, .int .i64 0, .bool false, .bool true]) (by simp [results, Tryd.results13, go_sem]) rfl ⟨rfl, ?_⟩
 exact (((Below.refl _ _).alloc (Nat.le_refl _) _).alloc (by simp) _).alloc (by simp; omega) _
set_option maxHeartbeats 2000000 in
theorem mul_walk (a1 a2 : Option Addr) (c1 c2 : Nat) (ns1 ns2 : List Nat) (low1 low2 : Int) (neg1 neg2 : Bool) (w : World) (m1 : IsMag w (.slice a1 ns1.length c1) ns1 low1) (m2 : IsMag w (.slice a2 ns2.length c2) ns2 low2) (hT : Tab w) :
   Calls Tryd.prog 13 #[.agg #[.slice a1 ns1.length c1, .int .i64 low1, .bool neg1, .bool false], .agg #[.slice a2 ns2.length c2, .int .i64 low2, .bool neg2, .bool false]] w fun e w' => NumR w w' (sg neg1 * magR ns1 low1 * (sg neg2 * magR ns2 low2)) e := by
 have HB0 : Hid (Below w.heap.size w (((w.alloc (.cells #[.slice a1 ns1.length c1, .int .i64 low1, .bool neg1, .bool false] 27)).alloc (.cells #[.slice a2 ns2.length c2, .int .i64 low2, .bool neg2, .bool false] 27)).alloc (.cells #[.slice none 0 0, .int .i64 0, .bool false, .bool false] 27))) := (((Below.refl _ _).alloc (Nat.le_refl _) _).alloc (by simp) _).alloc (by simp; omega) _
 have M1 : Hid (IsMag w (.slice a1 ns1.length c1) ns1 low1) := m1
 have M2 : Hid (IsMag w (.slice a2 ns2.length c2) ns2 low2) := m2
 have HT : Hid (Tab w) := hT
 have HQ : Hid (sg neg1 * magR ns1 low1 * (sg neg2 * magR ns2 low2) = sg (!(neg1 == neg2)) * (magR ns1 low1 * magR ns2 low2)) := by
   show _ = _
   cases neg1 <;> cases neg2 <;> simp [sg] <;> grind
 clear m1 m2 hT
 go_enter Tryd.func13, Tryd.ntmps13
 go_wp2
 go_region_held3 (fun W => W.cell? ⟨w.heap.size, 0, none⟩ = some (.slice a1 ns1.length c1) ∧ W.cell? ⟨w.heap.size, 1, none⟩ = some (.int .i64 low1) ∧ W.cell? ⟨w.heap.size, 2, none⟩ = some (.bool neg1) ∧ W.cell? ⟨w.heap.size + 1, 0, none⟩ = some (.slice a2 ns2.length c2) ∧ W.cell? ⟨w.heap.size + 1, 1, none⟩ = some (.int .i64 low2) ∧ W.cell? ⟨w.heap.size + 1, 2, none⟩ = some (.bool neg2) ∧ Below w.heap.size w W)
   (first
     | assumption
     | exact ⟨by go_simp, by go_simp, by go_simp, by go_simp, by go_simp, by go_simp, HB0.out.drew⟩
     | exact keep6 (by assumption) (by assumption)
     | exact keep6_set (keep6_set (keep6_set (keep6_set (by assumption) _ _ (by show w.heap.size ≠ w.heap.size + 1 + 1; omega) (by show w.heap.size + 1 ≠ w.heap.size + 1 + 1; omega) (by show w.heap.size ≤ w.heap.size + 1 + 1; omega)) _ _ (by show w.heap.size ≠ w.heap.size + 1 + 1; omega) (by show w.heap.size + 1 ≠ w.heap.size + 1 + 1; omega) (by show w.heap.size ≤ w.heap.size + 1 + 1; omega)) _ _ (by show w.heap.size ≠ w.heap.size + 1 + 1; omega) (by show w.heap.size + 1 ≠ w.heap.size + 1 + 1; omega) (by show w.heap.size ≤ w.heap.size + 1 + 1; omega)) _ _ (by show w.heap.size ≠ w.heap.size + 1 + 1; omega) (by show w.heap.size + 1 ≠ w.heap.size + 1 + 1; omega) (by show w.heap.size ≤ w.heap.size + 1 + 1; omega))
   (first
     | (go_at_call 29; refine (times_any _ _ ns1 ns2 _ _ _ (M1.out.later HB0.out.drew) (M2.out.later HB0.out.drew) (HT.out.later HB0.out.drew)).mono ?_; rintro e w5 ⟨s5, ns5, low5, rfl, hws5, ho5, hq5, hlo5, hb5⟩)
     | (go_at_call 21; refine (number_any _ ns5 _ _ _ hws5 ho5 hlo5.1 hlo5.2).mono ?_; rintro e w6 ⟨v9, x9, rfl, ⟨a9, ns9, c9, low9, neg9, nn9, rfl, hws9, hrest⟩, hN9, hb6⟩; have hB6 := thru hb5 hb6; have t0 : w6.cell? ⟨w.heap.size + 1 + 1, 0, none⟩ = some (.slice none 0 0) := cell_later hB6 (by go_simp); have t1 : w6.cell? ⟨w.heap.size + 1 + 1, 1, none⟩ = some (.int .i64 0) := cell_later hB6 (by go_simp); have t2 : w6.cell? ⟨w.heap.size + 1 + 1, 2, none⟩ = some (.bool false) := cell_later hB6 (by go_simp); have t3 : w6.cell? ⟨w.heap.size + 1 + 1, 3, none⟩ = some (.bool false) := cell_later hB6 (by go_simp); have u0 : ∀ i, w6.frozen? ⟨w.heap.size + 1 + 1, i, none⟩ = false := fun i => frozen_later hB6 (by go_simp) (by simp)))
 have hBf := (by assumption : _ ∧ _ ∧ _ ∧ _ ∧ _ ∧ _ ∧ Below w.heap.size w _).2.2.2.2.2.2
 have HBF : Hid _ := hBf
 rw [hq5, ← HQ.out] at hN9
 have HN9 : Hid _ := hN9
 clear hb5 hb6 hB6 hq5 hlo5 hws5 ho5 hN9 hBf
 have HRST : Hid _ := hrest
 clear hrest
 go_wp2
 refine bodyPost_ret (v := .agg #[.slice a9 ns9.length c9, .int .i64 low9, .bool neg9, .bool nn9]) (by simp [results, Tryd.results13, go_sem, t0, t1, t2, t3]) rfl ?_
 have hw9 := ws4 hws9 t0 t1 t2 t3 (.slice a9 ns9.length c9) (.int .i64 low9) (.bool neg9) (.bool nn9)
 refine ⟨_, x9, rfl, ⟨a9, ns9, c9, low9, neg9, nn9, rfl, hw9, HRST.out⟩, HN9.out, HBF.out⟩
theorem mul_any (va vb : Value) (a b : Option Rat) (w : World) (ha : IsNum w va a) (hb : IsNum w vb b) (hT : Tab w) :
   Calls Tryd.prog 13 #[va, vb] w fun e w' => OpR w w' (Op2 (fun p q => p * q) a b) e := by
 obtain ⟨a1, ns1, c1, low1, neg1, nn1, rfl, p2, p3, p4, p5, p6, p7, p8⟩ := ha
 obtain ⟨a2, ns2, c2, low2, neg2, nn2, rfl, r2, r3, r4, r5, r6, r7, r8⟩ := hb
 cases nn1 with
 | true =>
   refine (mul_none1 a1 a2 _ _ c1 c2 low1 low2 neg1 neg2 nn2 w).mono ?_
   rintro e w' ⟨rfl, hb⟩
   exact ⟨_, none, rfl, isNum_none w', Or.inr ⟨Or.inl (p7 rfl).2, rfl⟩, hb⟩
 | false =>
   cases nn2 with
   | true =>
     refine (mul_none2 a1 a2 _ _ c1 c2 low1 low2 neg1 neg2 w).mono ?_
     rintro e w' ⟨rfl, hb⟩
     exact ⟨_, none, rfl, isNum_none w', Or.inr ⟨Or.inr (r7 rfl).2, rfl⟩, hb⟩
   | false =>
     refine (mul_walk a1 a2 c1 c2 ns1 ns2 low1 low2 neg1 neg2 w ⟨p2, p3, p4, p5⟩ ⟨r2, r3, r4, r5⟩ hT).mono ?_
     rintro e w' ⟨v, x, he, hn, hN, hb⟩
     exact ⟨v, x, he, hn, Or.inl ⟨_, _, p8 rfl, r8 rfl, hN⟩, hb⟩
set_option maxHeartbeats 1000000 in
theorem neg_none (a1 : Option Addr) (n1 c1 : Nat) (low1 : Int) (neg1 : Bool) (w : World) :
   Calls Tryd.prog 18 #[.agg #[.slice a1 n1 c1, .int .i64 low1, .bool neg1, .bool true]] w fun e w' => e = .returned (.agg #[.slice none 0 0, .int .i64 0, .bool false, .bool true]) ∧ Below w.heap.size w w' := by
 go_enter Tryd.func18, Tryd.ntmps18
 go_wp2
 refine bodyPost_ret (v := .agg #[.slice none 0 0, .int .i64 0, .bool false, .bool true]) (by simp [results, Tryd.results18, go_sem]) rfl ⟨rfl, ?_⟩
 exact ((Below.refl _ _).alloc (Nat.le_refl _) _).alloc (by simp) _
set_option maxHeartbeats 2000000 in
theorem neg_walk (a1 : Option Addr) (c1 : Nat) (ns1 : List Nat) (low1 : Int) (neg1 : Bool) (w : World) (m1 : IsMag w (.slice a1 ns1.length c1) ns1 low1) :
   Calls Tryd.prog 18 #[.agg #[.slice a1 ns1.length c1, .int .i64 low1, .bool neg1, .bool false]] w fun e w' => NumR w w' (-(sg neg1 * magR ns1 low1)) e := by
 have HB0 : Hid (Below w.heap.size w ((w.alloc (.cells #[.slice a1 ns1.length c1, .int .i64 low1, .bool neg1, .bool false] 27)).alloc (.cells #[.slice none 0 0, .int .i64 0, .bool false, .bool false] 27))) := ((Below.refl _ _).alloc (Nat.le_refl _) _).alloc (by simp) _
 have M1 : Hid (IsMag w (.slice a1 ns1.length c1) ns1 low1) := m1
 have g1 := m1.lo
 have g2 := m1.low_le
 have HO : Hid (OwnF ns1 low1) := m1.own
 have HQ : Hid (-(sg neg1 * magR ns1 low1) = sg (!neg1) * magR ns1 low1) := by
   show _ = _
   cases neg1 <;> simp [sg] <;> grind
 clear m1
 go_enter Tryd.func18, Tryd.ntmps18
 go_wp2
 go_region_held3 (fun W => W.cell? ⟨w.heap.size, 0, none⟩ = some (.slice a1 ns1.length c1) ∧ W.cell? ⟨w.heap.size, 1, none⟩ = some (.int .i64 low1) ∧ W.cell? ⟨w.heap.size, 2, none⟩ = some (.bool neg1) ∧ Below w.heap.size w W)
   (first
     | assumption
     | exact ⟨by go_simp, by go_simp, by go_simp, HB0.out.drew⟩
     | exact keep3 (by assumption) (by assumption)
     | exact keep3_set (keep3_set (keep3_set (keep3_set (by assumption) _ _ (by show w.heap.size ≠ w.heap.size + 1; omega) (by show w.heap.size ≤ w.heap.size + 1; omega)) _ _ (by show w.heap.size ≠ w.heap.size + 1; omega) (by show w.heap.size ≤ w.heap.size + 1; omega)) _ _ (by show w.heap.size ≠ w.heap.size + 1; omega) (by show w.heap.size ≤ w.heap.size + 1; omega)) _ _ (by show w.heap.size ≠ w.heap.size + 1; omega) (by show w.heap.size ≤ w.heap.size + 1; omega))
   (first
     | (go_at_call 24; refine (moved_any _ ns1 _ _ _ (M1.out.later HB0.out.drew).ws (by omega) (by omega) (by omega) (by omega)).mono ?_; rintro e w5 ⟨s5, rfl, hws5, hb5⟩)
     | (go_at_call 21; refine (number_any _ ns1 _ _ _ hws5 HO.out (by omega) (by omega)).mono ?_; rintro e w6 ⟨v9, x9, rfl, ⟨a9, ns9, c9, low9, neg9, nn9, rfl, hws9, hrest⟩, hN9, hb6⟩; have hB6 := thru hb5 hb6; have t0 : w6.cell? ⟨w.heap.size + 1, 0, none⟩ = some (.slice none 0 0) := cell_later hB6 (by go_simp); have t1 : w6.cell? ⟨w.heap.size + 1, 1, none⟩ = some (.int .i64 0) := cell_later hB6 (by go_simp); have t2 : w6.cell? ⟨w.heap.size + 1, 2, none⟩ = some (.bool false) := cell_later hB6 (by go_simp); have t3 : w6.cell? ⟨w.heap.size + 1, 3, none⟩ = some (.bool false) := cell_later hB6 (by go_simp); have u0 : ∀ i, w6.frozen? ⟨w.heap.size + 1, i, none⟩ = false := fun i => frozen_later hB6 (by go_simp) (by simp)))
 have hBf := (by assumption : _ ∧ _ ∧ _ ∧ Below w.heap.size w _).2.2.2
 have HBF : Hid _ := hBf
 rw [← HQ.out] at hN9
 have HN9 : Hid _ := hN9
 clear hb5 hb6 hB6 hws5 hN9 hBf
 have HRST : Hid _ := hrest
 clear hrest
 go_wp2
 refine bodyPost_ret (v := .agg #[.slice a9 ns9.length c9, .int .i64 low9, .bool neg9, .bool nn9]) (by simp [results, Tryd.results18, go_sem, t0, t1, t2, t3]) rfl ?_
 have hw9 := ws4 hws9 t0 t1 t2 t3 (.slice a9 ns9.length c9) (.int .i64 low9) (.bool neg9) (.bool nn9)
 refine ⟨_, x9, rfl, ⟨a9, ns9, c9, low9, neg9, nn9, rfl, hw9, HRST.out⟩, HN9.out, HBF.out⟩
theorem neg_any (va : Value) (a : Option Rat) (w : World) (ha : IsNum w va a) :
   Calls Tryd.prog 18 #[va] w fun e w' => OpR w w' (fun x => x = a.map (fun p => -p)) e := by
 obtain ⟨a1, ns1, c1, low1, neg1, nn1, rfl, p2, p3, p4, p5, p6, p7, p8⟩ := ha
 cases nn1 with
 | true =>
   refine (neg_none a1 _ c1 low1 neg1 w).mono ?_
   rintro e w' ⟨rfl, hb⟩
   exact ⟨_, none, rfl, isNum_none w', by rw [(p7 rfl).2]; rfl, hb⟩
 | false =>
   refine (neg_walk a1 c1 ns1 low1 neg1 w ⟨p2, p3, p4, p5⟩).mono ?_
   rintro e w' ⟨v, x, he, hn, hN, hb⟩
   refine ⟨v, x, he, hn, ?_, hb⟩
   have hm : May (-(sg neg1 * magR ns1 low1)) := may_neg (may_sg.2 ((may_iff p3).1 ⟨p5, p4⟩))
   rcases hN with ⟨_, h⟩ | ⟨h, _⟩
   · rw [h, p8 rfl]; rfl
   · exact absurd hm h
end
end Go.Proofs.YtlpnobcapdbfkaaDoor
