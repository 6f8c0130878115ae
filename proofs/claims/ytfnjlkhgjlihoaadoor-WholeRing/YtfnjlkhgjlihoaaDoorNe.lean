/- Add and Sub: the sum and the difference of two numbers. -/
import Derived.Test.YtfnjlkhgjlihoaaDoorNd
namespace Go.Proofs.YtfnjlkhgjlihoaaDoor
open Go.RowKit
attribute [local go_sem ↓] Go.wp_at_zero Go.wp_at_succ

/-- A call that hands back a number of which R holds. -/
def OpR (w w' : World) (R : Option Rat → Prop) (e : Ending) : Prop := ∃ v x, e = .returned v ∧ IsNum w' v x ∧ R x ∧ Below w.heap.size w w'

/-- What comes of two numbers: none of none. -/
def Op2 (f : Rat → Rat → Rat) (a b x : Option Rat) : Prop := (∃ p q, a = some p ∧ b = some q ∧ Norm (f p q) x) ∨ ((a = none ∨ b = none) ∧ x = none)

theorem sum_num (a1 a2 : Option Addr) (c1 c2 : Nat) (ns1 ns2 : List Nat) (low1 low2 : Int) (neg1 nn1 neg2 nn2 neg : Bool) (w : World) (m1 : IsMag w (.slice a1 ns1.length c1) ns1 low1) (m2 : IsMag w (.slice a2 ns2.length c2) ns2 low2) (hT : Tab w) (R : Option Rat → Prop)
    (h1 : nn1 = true ∨ nn2 = true → R none) (h2 : nn1 = false → nn2 = false → ∀ x, Norm (sg neg1 * magR ns1 low1 + sg neg * magR ns2 low2) x → R x) :
    Calls Tryd.prog 42 #[.agg #[.slice a1 ns1.length c1, .int .i64 low1, .bool neg1, .bool nn1], .agg #[.slice a2 ns2.length c2, .int .i64 low2, .bool neg2, .bool nn2], .bool neg] w fun e w' => OpR w w' R e := by
  cases nn1 with
  | true =>
    refine (sum_none1 a1 a2 _ _ c1 c2 low1 low2 neg1 neg2 nn2 neg w).mono ?_
    rintro e w' ⟨rfl, hb⟩
    exact ⟨_, none, rfl, isNum_none w', h1 (Or.inl rfl), hb⟩
  | false =>
    cases nn2 with
    | true =>
      refine (sum_none2 a1 a2 _ _ c1 c2 low1 low2 neg1 neg2 neg w).mono ?_
      rintro e w' ⟨rfl, hb⟩
      exact ⟨_, none, rfl, isNum_none w', h1 (Or.inr rfl), hb⟩
    | false =>
      refine (sum_walk a1 a2 c1 c2 ns1 ns2 low1 low2 neg1 neg2 neg w m1 m2 hT).mono ?_
      rintro e w' ⟨v, x, he, hn, hN, hb⟩
      exact ⟨v, x, he, hn, h2 rfl rfl x hN, hb⟩

set_option maxHeartbeats 1000000 in
theorem add_walk (a1 a2 : Option Addr) (c1 c2 : Nat) (ns1 ns2 : List Nat) (low1 low2 : Int) (neg1 nn1 neg2 nn2 : Bool) (w : World) (m1 : IsMag w (.slice a1 ns1.length c1) ns1 low1) (m2 : IsMag w (.slice a2 ns2.length c2) ns2 low2) (hT : Tab w) (R : Option Rat → Prop)
    (h1 : nn1 = true ∨ nn2 = true → R none) (h2 : nn1 = false → nn2 = false → ∀ x, Norm (sg neg1 * magR ns1 low1 + sg (neg2) * magR ns2 low2) x → R x) :
    Calls Tryd.prog 14 #[.agg #[.slice a1 ns1.length c1, .int .i64 low1, .bool neg1, .bool nn1], .agg #[.slice a2 ns2.length c2, .int .i64 low2, .bool neg2, .bool nn2]] w fun e w' => OpR w w' R e := by
  have HB0 : Hid (Below w.heap.size w (((w.alloc (.cells #[.slice a1 ns1.length c1, .int .i64 low1, .bool neg1, .bool nn1] 27)).alloc (.cells #[.slice a2 ns2.length c2, .int .i64 low2, .bool neg2, .bool nn2] 27)).alloc (.cells #[.slice none 0 0, .int .i64 0, .bool false, .bool false] 27))) := (((Below.refl _ _).alloc (Nat.le_refl _) _).alloc (by simp) _).alloc (by simp; omega) _
  have M1 : Hid (IsMag w (.slice a1 ns1.length c1) ns1 low1) := m1
  have M2 : Hid (IsMag w (.slice a2 ns2.length c2) ns2 low2) := m2
  have HT : Hid (Tab w) := hT
  have H1 : Hid (nn1 = true ∨ nn2 = true → R none) := h1
  have H2 : Hid (nn1 = false → nn2 = false → ∀ x, Norm (sg neg1 * magR ns1 low1 + sg (neg2) * magR ns2 low2) x → R x) := h2
  clear m1 m2 hT h1 h2
  go_enter Tryd.func14, Tryd.ntmps14
  go_wp2_with fail
  refine (sum_num _ _ _ _ ns1 ns2 _ _ _ _ _ _ _ _ (M1.out.later HB0.out) (M2.out.later HB0.out) (HT.out.later HB0.out) R H1.out H2.out).mono ?_
  rintro e w6 ⟨v9, x9, rfl, ⟨a9, ns9, c9, low9, neg9, nn9, rfl, hws9, hrest⟩, hN9, hB6⟩
  have t0 : w6.cell? ⟨w.heap.size + 1 + 1, 0, none⟩ = some (.slice none 0 0) := cell_later hB6 (by go_simp)
  have t1 : w6.cell? ⟨w.heap.size + 1 + 1, 1, none⟩ = some (.int .i64 0) := cell_later hB6 (by go_simp)
  have t2 : w6.cell? ⟨w.heap.size + 1 + 1, 2, none⟩ = some (.bool false) := cell_later hB6 (by go_simp)
  have t3 : w6.cell? ⟨w.heap.size + 1 + 1, 3, none⟩ = some (.bool false) := cell_later hB6 (by go_simp)
  have u0 : ∀ i, w6.frozen? ⟨w.heap.size + 1 + 1, i, none⟩ = false := fun i => frozen_later hB6 (by go_simp) (by simp)
  have HB6 : Hid (Below w.heap.size w w6) := thru HB0.out hB6
  have HN9 : Hid (R x9) := hN9
  clear hB6 hN9 HB0
  have HRST : Hid _ := hrest
  clear hrest
  go_wp2
  refine bodyPost_ret (v := .agg #[.slice a9 ns9.length c9, .int .i64 low9, .bool neg9, .bool nn9]) (by simp [results, Tryd.results14, go_sem, t0, t1, t2, t3]) rfl ?_
  have hw9 := ws4 hws9 t0 t1 t2 t3 (.slice a9 ns9.length c9) (.int .i64 low9) (.bool neg9) (.bool nn9)
  refine ⟨_, x9, rfl, ⟨a9, ns9, c9, low9, neg9, nn9, rfl, hw9, HRST.out⟩, HN9.out, ?_⟩
  repeat (first | exact HB6.out | refine Below.drew ?_ | refine Below.setCell ?_ (by simp; omega) _)

/-- Add. -/
theorem add_any (va vb : Value) (a b : Option Rat) (w : World) (ha : IsNum w va a) (hb : IsNum w vb b) (hT : Tab w) :
    Calls Tryd.prog 14 #[va, vb] w fun e w' => OpR w w' (Op2 (fun p q => p + q) a b) e := by
  obtain ⟨a1, ns1, c1, low1, neg1, nn1, rfl, p2, p3, p4, p5, p6, p7, p8⟩ := ha
  obtain ⟨a2, ns2, c2, low2, neg2, nn2, rfl, r2, r3, r4, r5, r6, r7, r8⟩ := hb
  refine add_walk a1 a2 c1 c2 ns1 ns2 low1 low2 neg1 nn1 neg2 nn2 w ⟨p2, p3, p4, p5⟩ ⟨r2, r3, r4, r5⟩ hT _ ?_ ?_
  · intro h
    refine Or.inr ⟨?_, rfl⟩
    rcases h with h | h
    · exact Or.inl (p7 h).2
    · exact Or.inr (r7 h).2
  · intro h1 h2 x hx
    refine Or.inl ⟨_, _, p8 h1, r8 h2, ?_⟩
    have e : sg neg1 * magR ns1 low1 + sg neg2 * magR ns2 low2 = sg neg1 * magR ns1 low1 + sg neg2 * magR ns2 low2 := by rfl
    rw [← e] at hx; exact hx

set_option maxHeartbeats 1000000 in
theorem sub_walk (a1 a2 : Option Addr) (c1 c2 : Nat) (ns1 ns2 : List Nat) (low1 low2 : Int) (neg1 nn1 neg2 nn2 : Bool) (w : World) (m1 : IsMag w (.slice a1 ns1.length c1) ns1 low1) (m2 : IsMag w (.slice a2 ns2.length c2) ns2 low2) (hT : Tab w) (R : Option Rat → Prop)
    (h1 : nn1 = true ∨ nn2 = true → R none) (h2 : nn1 = false → nn2 = false → ∀ x, Norm (sg neg1 * magR ns1 low1 + sg (!neg2) * magR ns2 low2) x → R x) :
    Calls Tryd.prog 15 #[.agg #[.slice a1 ns1.length c1, .int .i64 low1, .bool neg1, .bool nn1], .agg #[.slice a2 ns2.length c2, .int .i64 low2, .bool neg2, .bool nn2]] w fun e w' => OpR w w' R e := by
  have HB0 : Hid (Below w.heap.size w (((w.alloc (.cells #[.slice a1 ns1.length c1, .int .i64 low1, .bool neg1, .bool nn1] 27)).alloc (.cells #[.slice a2 ns2.length c2, .int .i64 low2, .bool neg2, .bool nn2] 27)).alloc (.cells #[.slice none 0 0, .int .i64 0, .bool false, .bool false] 27))) := (((Below.refl _ _).alloc (Nat.le_refl _) _).alloc (by simp) _).alloc (by simp; omega) _
  have M1 : Hid (IsMag w (.slice a1 ns1.length c1) ns1 low1) := m1
  have M2 : Hid (IsMag w (.slice a2 ns2.length c2) ns2 low2) := m2
  have HT : Hid (Tab w) := hT
  have H1 : Hid (nn1 = true ∨ nn2 = true → R none) := h1
  have H2 : Hid (nn1 = false → nn2 = false → ∀ x, Norm (sg neg1 * magR ns1 low1 + sg (!neg2) * magR ns2 low2) x → R x) := h2
  clear m1 m2 hT h1 h2
  go_enter Tryd.func15, Tryd.ntmps15
  go_wp2_with fail
  refine (sum_num _ _ _ _ ns1 ns2 _ _ _ _ _ _ _ _ (M1.out.later HB0.out) (M2.out.later HB0.out) (HT.out.later HB0.out) R H1.out H2.out).mono ?_
  rintro e w6 ⟨v9, x9, rfl, ⟨a9, ns9, c9, low9, neg9, nn9, rfl, hws9, hrest⟩, hN9, hB6⟩
  have t0 : w6.cell? ⟨w.heap.size + 1 + 1, 0, none⟩ = some (.slice none 0 0) := cell_later hB6 (by go_simp)
  have t1 : w6.cell? ⟨w.heap.size + 1 + 1, 1, none⟩ = some (.int .i64 0) := cell_later hB6 (by go_simp)
  have t2 : w6.cell? ⟨w.heap.size + 1 + 1, 2, none⟩ = some (.bool false) := cell_later hB6 (by go_simp)
  have t3 : w6.cell? ⟨w.heap.size + 1 + 1, 3, none⟩ = some (.bool false) := cell_later hB6 (by go_simp)
  have u0 : ∀ i, w6.frozen? ⟨w.heap.size + 1 + 1, i, none⟩ = false := fun i => frozen_later hB6 (by go_simp) (by simp)
  have HB6 : Hid (Below w.heap.size w w6) := thru HB0.out hB6
  have HN9 : Hid (R x9) := hN9
  clear hB6 hN9 HB0
  have HRST : Hid _ := hrest
  clear hrest
  go_wp2
  refine bodyPost_ret (v := .agg #[.slice a9 ns9.length c9, .int .i64 low9, .bool neg9, .bool nn9]) (by simp [results, Tryd.results15, go_sem, t0, t1, t2, t3]) rfl ?_
  have hw9 := ws4 hws9 t0 t1 t2 t3 (.slice a9 ns9.length c9) (.int .i64 low9) (.bool neg9) (.bool nn9)
  refine ⟨_, x9, rfl, ⟨a9, ns9, c9, low9, neg9, nn9, rfl, hw9, HRST.out⟩, HN9.out, ?_⟩
  repeat (first | exact HB6.out | refine Below.drew ?_ | refine Below.setCell ?_ (by simp; omega) _)

/-- Sub. -/
theorem sub_any (va vb : Value) (a b : Option Rat) (w : World) (ha : IsNum w va a) (hb : IsNum w vb b) (hT : Tab w) :
    Calls Tryd.prog 15 #[va, vb] w fun e w' => OpR w w' (Op2 (fun p q => p - q) a b) e := by
  obtain ⟨a1, ns1, c1, low1, neg1, nn1, rfl, p2, p3, p4, p5, p6, p7, p8⟩ := ha
  obtain ⟨a2, ns2, c2, low2, neg2, nn2, rfl, r2, r3, r4, r5, r6, r7, r8⟩ := hb
  refine sub_walk a1 a2 c1 c2 ns1 ns2 low1 low2 neg1 nn1 neg2 nn2 w ⟨p2, p3, p4, p5⟩ ⟨r2, r3, r4, r5⟩ hT _ ?_ ?_
  · intro h
    refine Or.inr ⟨?_, rfl⟩
    rcases h with h | h
    · exact Or.inl (p7 h).2
    · exact Or.inr (r7 h).2
  · intro h1 h2 x hx
    refine Or.inl ⟨_, _, p8 h1, r8 h2, ?_⟩
    have e : sg neg1 * magR ns1 low1 - sg neg2 * magR ns2 low2 = sg neg1 * magR ns1 low1 + sg (!neg2) * magR ns2 low2 := by cases neg2 <;> simp [sg] <;> grind
    rw [← e] at hx; exact hx

end Go.Proofs.YtfnjlkhgjlihoaaDoor
