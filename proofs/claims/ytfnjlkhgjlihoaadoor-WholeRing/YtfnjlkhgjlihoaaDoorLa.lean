/- The laws' helper of: a number of three floats. -/
import Derived.Test.YtfnjlkhgjlihoaaDoorFj
namespace Go.Proofs.YtfnjlkhgjlihoaaDoor
open Go.RowKit
attribute [local go_sem ↓] Go.wp_at_zero Go.wp_at_succ

theorem isNum_form {w : World} {v : Value} {x : Option Rat} (h : IsNum w v x) : ∃ a n c low neg nn, v = .agg #[.slice a n c, .int .i64 low, .bool neg, .bool nn] ∧ IsNum w (.agg #[.slice a n c, .int .i64 low, .bool neg, .bool nn]) x := by
  obtain ⟨a, ns, c, low, neg, nn, rfl, hr⟩ := h
  exact ⟨a, _, c, low, neg, nn, rfl, a, ns, c, low, neg, nn, rfl, hr⟩

theorem isNum_set4 {W : World} {v : Value} {x : Option Rat} {r : Nat} (h : IsNum W v x) (t0 : W.cell? ⟨r, 0, none⟩ = some (.slice none 0 0)) (t1 : W.cell? ⟨r, 1, none⟩ = some (.int .i64 0)) (t2 : W.cell? ⟨r, 2, none⟩ = some (.bool false)) (t3 : W.cell? ⟨r, 3, none⟩ = some (.bool false)) (v0 v1 v2 v3 : Value) :
    IsNum ((((W.setCell ⟨r, 0, none⟩ v0).setCell ⟨r, 1, none⟩ v1).setCell ⟨r, 2, none⟩ v2).setCell ⟨r, 3, none⟩ v3) v x := by
  obtain ⟨a, ns, c, low, neg, nn, rfl, hw, hr⟩ := h
  exact ⟨a, ns, c, low, neg, nn, rfl, ws4 hw t0 t1 t2 t3 v0 v1 v2 v3, hr⟩

theorem tab_set {W : World} (h : Tab W) (a : Addr) (v : Value) (ha : a.block ≠ 1) : Tab (W.setCell a v) := fun j hj => cell_other (h j hj) (fun e => ha e.symm) v

/-- What of makes of three numbers. -/
def OfX (x1 x2 x3 x : Option Rat) : Prop := ((x1.isSome && x2.isSome && x3.isSome) = false ∧ x = some 0) ∨ ∃ p q r, x1 = some p ∧ x2 = some q ∧ x3 = some r ∧ ∃ y, Norm (q * r) y ∧ Op2 (fun p q => p + q) x1 y x

theorem keep12 {w W W' : World} {p0 p1 p2 p3 p4 p5 p6 p7 p8 p9 p10 p11 : Addr} {x0 x1 x2 x3 x4 x5 x6 x7 x8 x9 x10 x11 : Value} (h : W.cell? p0 = some x0 ∧ W.cell? p1 = some x1 ∧ W.cell? p2 = some x2 ∧ W.cell? p3 = some x3 ∧ W.cell? p4 = some x4 ∧ W.cell? p5 = some x5 ∧ W.cell? p6 = some x6 ∧ W.cell? p7 = some x7 ∧ W.cell? p8 = some x8 ∧ W.cell? p9 = some x9 ∧ W.cell? p10 = some x10 ∧ W.cell? p11 = some x11 ∧ Below w.heap.size w W) (hb : Below W.heap.size W W') :
    W'.cell? p0 = some x0 ∧ W'.cell? p1 = some x1 ∧ W'.cell? p2 = some x2 ∧ W'.cell? p3 = some x3 ∧ W'.cell? p4 = some x4 ∧ W'.cell? p5 = some x5 ∧ W'.cell? p6 = some x6 ∧ W'.cell? p7 = some x7 ∧ W'.cell? p8 = some x8 ∧ W'.cell? p9 = some x9 ∧ W'.cell? p10 = some x10 ∧ W'.cell? p11 = some x11 ∧ Below w.heap.size w W' :=
  ⟨cell_later hb h.1, cell_later hb h.2.1, cell_later hb h.2.2.1, cell_later hb h.2.2.2.1, cell_later hb h.2.2.2.2.1, cell_later hb h.2.2.2.2.2.1, cell_later hb h.2.2.2.2.2.2.1, cell_later hb h.2.2.2.2.2.2.2.1, cell_later hb h.2.2.2.2.2.2.2.2.1, cell_later hb h.2.2.2.2.2.2.2.2.2.1, cell_later hb h.2.2.2.2.2.2.2.2.2.2.1, cell_later hb h.2.2.2.2.2.2.2.2.2.2.2.1, h.2.2.2.2.2.2.2.2.2.2.2.2.trans (hb.mono h.2.2.2.2.2.2.2.2.2.2.2.2.size)⟩

theorem keep12_set {w W : World} {p0 p1 p2 p3 p4 p5 p6 p7 p8 p9 p10 p11 : Addr} {x0 x1 x2 x3 x4 x5 x6 x7 x8 x9 x10 x11 : Value} (h : W.cell? p0 = some x0 ∧ W.cell? p1 = some x1 ∧ W.cell? p2 = some x2 ∧ W.cell? p3 = some x3 ∧ W.cell? p4 = some x4 ∧ W.cell? p5 = some x5 ∧ W.cell? p6 = some x6 ∧ W.cell? p7 = some x7 ∧ W.cell? p8 = some x8 ∧ W.cell? p9 = some x9 ∧ W.cell? p10 = some x10 ∧ W.cell? p11 = some x11 ∧ Below w.heap.size w W) (a : Addr) (v : Value) (hr : w.heap.size ≤ a.block) (h0 : p0.block ≠ a.block) (h1 : p1.block ≠ a.block) (h2 : p2.block ≠ a.block) (h3 : p3.block ≠ a.block) (h4 : p4.block ≠ a.block) (h5 : p5.block ≠ a.block) (h6 : p6.block ≠ a.block) (h7 : p7.block ≠ a.block) (h8 : p8.block ≠ a.block) (h9 : p9.block ≠ a.block) (h10 : p10.block ≠ a.block) (h11 : p11.block ≠ a.block) :
    (W.setCell a v).cell? p0 = some x0 ∧ (W.setCell a v).cell? p1 = some x1 ∧ (W.setCell a v).cell? p2 = some x2 ∧ (W.setCell a v).cell? p3 = some x3 ∧ (W.setCell a v).cell? p4 = some x4 ∧ (W.setCell a v).cell? p5 = some x5 ∧ (W.setCell a v).cell? p6 = some x6 ∧ (W.setCell a v).cell? p7 = some x7 ∧ (W.setCell a v).cell? p8 = some x8 ∧ (W.setCell a v).cell? p9 = some x9 ∧ (W.setCell a v).cell? p10 = some x10 ∧ (W.setCell a v).cell? p11 = some x11 ∧ Below w.heap.size w (W.setCell a v) :=
  ⟨cell_other h.1 h0 v, cell_other h.2.1 h1 v, cell_other h.2.2.1 h2 v, cell_other h.2.2.2.1 h3 v, cell_other h.2.2.2.2.1 h4 v, cell_other h.2.2.2.2.2.1 h5 v, cell_other h.2.2.2.2.2.2.1 h6 v, cell_other h.2.2.2.2.2.2.2.1 h7 v, cell_other h.2.2.2.2.2.2.2.2.1 h8 v, cell_other h.2.2.2.2.2.2.2.2.2.1 h9 v, cell_other h.2.2.2.2.2.2.2.2.2.2.1 h10 v, cell_other h.2.2.2.2.2.2.2.2.2.2.2.1 h11 v, h.2.2.2.2.2.2.2.2.2.2.2.2.setCell hr v⟩

theorem keep12_bel {w W : World} {p0 p1 p2 p3 p4 p5 p6 p7 p8 p9 p10 p11 : Addr} {x0 x1 x2 x3 x4 x5 x6 x7 x8 x9 x10 x11 : Value} (h : W.cell? p0 = some x0 ∧ W.cell? p1 = some x1 ∧ W.cell? p2 = some x2 ∧ W.cell? p3 = some x3 ∧ W.cell? p4 = some x4 ∧ W.cell? p5 = some x5 ∧ W.cell? p6 = some x6 ∧ W.cell? p7 = some x7 ∧ W.cell? p8 = some x8 ∧ W.cell? p9 = some x9 ∧ W.cell? p10 = some x10 ∧ W.cell? p11 = some x11 ∧ Below w.heap.size w W) : Below w.heap.size w W := h.2.2.2.2.2.2.2.2.2.2.2.2

set_option maxHeartbeats 2000000 in
theorem of_walk (b1 b2 b3 : Nat) (x1 x2 x3 : Option Rat) (w : World) (hT : Tab w)
    (h1 : ∀ w, Tab w → Calls Tryd.prog 18 #[.float .f64 b1] w fun e w' => OpR w w' (fun x => x = x1) e)
    (h2 : ∀ w, Tab w → Calls Tryd.prog 18 #[.float .f64 b2] w fun e w' => OpR w w' (fun x => x = x2) e)
    (h3 : ∀ w, Tab w → Calls Tryd.prog 18 #[.float .f64 b3] w fun e w' => OpR w w' (fun x => x = x3) e) :
    Calls Tryd.prog 36 #[.float .f64 b1, .float .f64 b2, .float .f64 b3] w fun e w' => OpR w w' (OfX x1 x2 x3) e := by
  have HT : Hid (Tab w) := hT
  have H1 : Hid _ := h1
  have H2 : Hid _ := h2
  have H3 : Hid _ := h3
  clear hT h1 h2 h3
  have HB0 : Hid (Below w.heap.size w (w.alloc (.cells #[.slice none 0 0, .int .i64 0, .bool false, .bool false] 27))) := (Below.refl _ _).alloc (Nat.le_refl _) _
  go_enter Tryd.func36, Tryd.ntmps36
  go_wp2_with fail
  refine (H1.out _ (HT.out.later HB0.out)).mono ?_
  rintro e w1 ⟨v1, y1, rfl, hn1, hy1, hb1⟩
  obtain ⟨a1, n1, c1, low1, neg1, nn1, rfl, hn1⟩ := isNum_form hn1
  subst hy1
  have r10 : w1.cell? ⟨w.heap.size, 0, none⟩ = some (.slice none 0 0) := cell_later hb1 (by go_simp)
  have r11 : w1.cell? ⟨w.heap.size, 1, none⟩ = some (.int .i64 0) := cell_later hb1 (by go_simp)
  have r12 : w1.cell? ⟨w.heap.size, 2, none⟩ = some (.bool false) := cell_later hb1 (by go_simp)
  have r13 : w1.cell? ⟨w.heap.size, 3, none⟩ = some (.bool false) := cell_later hb1 (by go_simp)
  have rf1 : ∀ i, w1.frozen? ⟨w.heap.size, i, none⟩ = false := fun i => frozen_later hb1 (by go_simp) (by simp)
  have hs1 : w.heap.size < w1.heap.size := by have := hb1.size; simp at this; omega
  have HB1 : Hid (Below w.heap.size w w1) := thru HB0.out hb1
  have HN1 : Hid (IsNum w1 (.agg #[.slice a1 n1 c1, .int .i64 low1, .bool neg1, .bool nn1]) y1) := hn1
  have HBa1 : Hid (Below w1.heap.size w1 (w1.alloc (.cells #[.slice a1 n1 c1, .int .i64 low1, .bool neg1, .bool nn1] 27))) := (Below.refl _ _).alloc (Nat.le_refl _) _
  have HBx1 : Hid (Below w.heap.size w (w1.alloc (.cells #[.slice a1 n1 c1, .int .i64 low1, .bool neg1, .bool nn1] 27))) := thru HB1.out HBa1.out
  clear hb1 hn1
  go_wp2_with fail
  refine (H2.out _ (HT.out.later HBx1.out)).mono ?_
  rintro e w2 ⟨v2, y2, rfl, hn2, hy2, hb2⟩
  obtain ⟨a2, n2, c2, low2, neg2, nn2, rfl, hn2⟩ := isNum_form hn2
  subst hy2
  have hc2 := thru HBa1.out hb2
  have r20 : w2.cell? ⟨w.heap.size, 0, none⟩ = some (.slice none 0 0) := cell_later hc2 r10
  have r21 : w2.cell? ⟨w.heap.size, 1, none⟩ = some (.int .i64 0) := cell_later hc2 r11
  have r22 : w2.cell? ⟨w.heap.size, 2, none⟩ = some (.bool false) := cell_later hc2 r12
  have r23 : w2.cell? ⟨w.heap.size, 3, none⟩ = some (.bool false) := cell_later hc2 r13
  have rf2 : ∀ i, w2.frozen? ⟨w.heap.size, i, none⟩ = false := fun i => frozen_later hc2 (rf1 i) (by show w.heap.size < w1.heap.size; omega)
  have q210 : w2.cell? ⟨w1.heap.size, 0, none⟩ = some (.slice a1 n1 c1) := cell_later hb2 (by go_simp)
  have q211 : w2.cell? ⟨w1.heap.size, 1, none⟩ = some (.int .i64 low1) := cell_later hb2 (by go_simp)
  have q212 : w2.cell? ⟨w1.heap.size, 2, none⟩ = some (.bool neg1) := cell_later hb2 (by go_simp)
  have q213 : w2.cell? ⟨w1.heap.size, 3, none⟩ = some (.bool nn1) := cell_later hb2 (by go_simp)
  have hs2 : w1.heap.size < w2.heap.size := by have := hb2.size; simp at this; omega
  have HB2 : Hid (Below w.heap.size w w2) := thru HB1.out hc2
  have HN1 : Hid (IsNum w2 (.agg #[.slice a1 n1 c1, .int .i64 low1, .bool neg1, .bool nn1]) y1) := HN1.out.later hc2
  have HN2 : Hid (IsNum w2 (.agg #[.slice a2 n2 c2, .int .i64 low2, .bool neg2, .bool nn2]) y2) := hn2
  have HBa2 : Hid (Below w2.heap.size w2 (w2.alloc (.cells #[.slice a2 n2 c2, .int .i64 low2, .bool neg2, .bool nn2] 27))) := (Below.refl _ _).alloc (Nat.le_refl _) _
  have HBx2 : Hid (Below w.heap.size w (w2.alloc (.cells #[.slice a2 n2 c2, .int .i64 low2, .bool neg2, .bool nn2] 27))) := thru HB2.out HBa2.out
  clear hb2 hn2 hc2
  clear r10 r11 r12 r13 rf1
  go_wp2_with fail
  refine (H3.out _ (HT.out.later HBx2.out)).mono ?_
  rintro e w3 ⟨v3, y3, rfl, hn3, hy3, hb3⟩
  obtain ⟨a3, n3, c3, low3, neg3, nn3, rfl, hn3⟩ := isNum_form hn3
  subst hy3
  have hc3 := thru HBa2.out hb3
  have r30 : w3.cell? ⟨w.heap.size, 0, none⟩ = some (.slice none 0 0) := cell_later hc3 r20
  have r31 : w3.cell? ⟨w.heap.size, 1, none⟩ = some (.int .i64 0) := cell_later hc3 r21
  have r32 : w3.cell? ⟨w.heap.size, 2, none⟩ = some (.bool false) := cell_later hc3 r22
  have r33 : w3.cell? ⟨w.heap.size, 3, none⟩ = some (.bool false) := cell_later hc3 r23
  have rf3 : ∀ i, w3.frozen? ⟨w.heap.size, i, none⟩ = false := fun i => frozen_later hc3 (rf2 i) (by show w.heap.size < w2.heap.size; omega)
  have q310 : w3.cell? ⟨w1.heap.size, 0, none⟩ = some (.slice a1 n1 c1) := cell_later hc3 q210
  have q311 : w3.cell? ⟨w1.heap.size, 1, none⟩ = some (.int .i64 low1) := cell_later hc3 q211
  have q312 : w3.cell? ⟨w1.heap.size, 2, none⟩ = some (.bool neg1) := cell_later hc3 q212
  have q313 : w3.cell? ⟨w1.heap.size, 3, none⟩ = some (.bool nn1) := cell_later hc3 q213
  have q320 : w3.cell? ⟨w2.heap.size, 0, none⟩ = some (.slice a2 n2 c2) := cell_later hb3 (by go_simp)
  have q321 : w3.cell? ⟨w2.heap.size, 1, none⟩ = some (.int .i64 low2) := cell_later hb3 (by go_simp)
  have q322 : w3.cell? ⟨w2.heap.size, 2, none⟩ = some (.bool neg2) := cell_later hb3 (by go_simp)
  have q323 : w3.cell? ⟨w2.heap.size, 3, none⟩ = some (.bool nn2) := cell_later hb3 (by go_simp)
  have hs3 : w2.heap.size < w3.heap.size := by have := hb3.size; simp at this; omega
  have HB3 : Hid (Below w.heap.size w w3) := thru HB2.out hc3
  have HN1 : Hid (IsNum w3 (.agg #[.slice a1 n1 c1, .int .i64 low1, .bool neg1, .bool nn1]) y1) := HN1.out.later hc3
  have HN2 : Hid (IsNum w3 (.agg #[.slice a2 n2 c2, .int .i64 low2, .bool neg2, .bool nn2]) y2) := HN2.out.later hc3
  have HN3 : Hid (IsNum w3 (.agg #[.slice a3 n3 c3, .int .i64 low3, .bool neg3, .bool nn3]) y3) := hn3
  have HBa3 : Hid (Below w3.heap.size w3 (w3.alloc (.cells #[.slice a3 n3 c3, .int .i64 low3, .bool neg3, .bool nn3] 27))) := (Below.refl _ _).alloc (Nat.le_refl _) _
  have HBx3 : Hid (Below w.heap.size w (w3.alloc (.cells #[.slice a3 n3 c3, .int .i64 low3, .bool neg3, .bool nn3] 27))) := thru HB3.out HBa3.out
  clear hb3 hn3 hc3
  clear r20 r21 r22 r23 rf2 q210 q211 q212 q213
  have hs13 : w1.heap.size < w3.heap.size := by omega
  have hs03 : w.heap.size < w3.heap.size := by omega
  go_wp2_with fail
  have q330 : (w3.alloc (.cells #[.slice a3 n3 c3, .int .i64 low3, .bool neg3, .bool nn3] 27)).cell? ⟨w3.heap.size, 0, none⟩ = some (.slice a3 n3 c3) := by go_simp
  have q331 : (w3.alloc (.cells #[.slice a3 n3 c3, .int .i64 low3, .bool neg3, .bool nn3] 27)).cell? ⟨w3.heap.size, 1, none⟩ = some (.int .i64 low3) := by go_simp
  have q332 : (w3.alloc (.cells #[.slice a3 n3 c3, .int .i64 low3, .bool neg3, .bool nn3] 27)).cell? ⟨w3.heap.size, 2, none⟩ = some (.bool neg3) := by go_simp
  have q333 : (w3.alloc (.cells #[.slice a3 n3 c3, .int .i64 low3, .bool neg3, .bool nn3] 27)).cell? ⟨w3.heap.size, 3, none⟩ = some (.bool nn3) := by go_simp
  have hb4 := HBa3.out
  have hs4' : w3.heap.size < (w3.alloc (.cells #[.slice a3 n3 c3, .int .i64 low3, .bool neg3, .bool nn3] 27)).heap.size := by simp
  generalize (w3.alloc (.cells #[.slice a3 n3 c3, .int .i64 low3, .bool neg3, .bool nn3] 27)) = w4 at *
  have r40 : w4.cell? ⟨w.heap.size, 0, none⟩ = some (.slice none 0 0) := cell_later hb4 r30
  have r41 : w4.cell? ⟨w.heap.size, 1, none⟩ = some (.int .i64 0) := cell_later hb4 r31
  have r42 : w4.cell? ⟨w.heap.size, 2, none⟩ = some (.bool false) := cell_later hb4 r32
  have r43 : w4.cell? ⟨w.heap.size, 3, none⟩ = some (.bool false) := cell_later hb4 r33
  have rf4 : ∀ i, w4.frozen? ⟨w.heap.size, i, none⟩ = false := fun i => frozen_later hb4 (rf3 i) (by show w.heap.size < w3.heap.size; omega)
  have q410 : w4.cell? ⟨w1.heap.size, 0, none⟩ = some (.slice a1 n1 c1) := cell_later hb4 q310
  have q411 : w4.cell? ⟨w1.heap.size, 1, none⟩ = some (.int .i64 low1) := cell_later hb4 q311
  have q412 : w4.cell? ⟨w1.heap.size, 2, none⟩ = some (.bool neg1) := cell_later hb4 q312
  have q413 : w4.cell? ⟨w1.heap.size, 3, none⟩ = some (.bool nn1) := cell_later hb4 q313
  have q420 : w4.cell? ⟨w2.heap.size, 0, none⟩ = some (.slice a2 n2 c2) := cell_later hb4 q320
  have q421 : w4.cell? ⟨w2.heap.size, 1, none⟩ = some (.int .i64 low2) := cell_later hb4 q321
  have q422 : w4.cell? ⟨w2.heap.size, 2, none⟩ = some (.bool neg2) := cell_later hb4 q322
  have q423 : w4.cell? ⟨w2.heap.size, 3, none⟩ = some (.bool nn2) := cell_later hb4 q323
  have q430 : w4.cell? ⟨w3.heap.size, 0, none⟩ = some (.slice a3 n3 c3) := q330
  have q431 : w4.cell? ⟨w3.heap.size, 1, none⟩ = some (.int .i64 low3) := q331
  have q432 : w4.cell? ⟨w3.heap.size, 2, none⟩ = some (.bool neg3) := q332
  have q433 : w4.cell? ⟨w3.heap.size, 3, none⟩ = some (.bool nn3) := q333
  have HN1 : Hid (IsNum w4 (.agg #[.slice a1 n1 c1, .int .i64 low1, .bool neg1, .bool nn1]) _) := HN1.out.later hb4
  have HN2 : Hid (IsNum w4 (.agg #[.slice a2 n2 c2, .int .i64 low2, .bool neg2, .bool nn2]) _) := HN2.out.later hb4
  have HN3 : Hid (IsNum w4 (.agg #[.slice a3 n3 c3, .int .i64 low3, .bool neg3, .bool nn3]) _) := HN3.out.later hb4
  have HB4 : Hid (Below w.heap.size w w4) := thru HB3.out hb4
  have hs4 : w3.heap.size ≤ w4.heap.size := hb4.size
  clear hb4 r30 r31 r32 r33 rf3 q310 q311 q312 q313 q320 q321 q322 q323 HB3
  refine (ok_any _ y1 _ HN1.out).mono ?_
  rintro e w5 ⟨rfl, hb5⟩
  have r50 : w5.cell? ⟨w.heap.size, 0, none⟩ = some (.slice none 0 0) := cell_later hb5 r40
  have r51 : w5.cell? ⟨w.heap.size, 1, none⟩ = some (.int .i64 0) := cell_later hb5 r41
  have r52 : w5.cell? ⟨w.heap.size, 2, none⟩ = some (.bool false) := cell_later hb5 r42
  have r53 : w5.cell? ⟨w.heap.size, 3, none⟩ = some (.bool false) := cell_later hb5 r43
  have rf5 : ∀ i, w5.frozen? ⟨w.heap.size, i, none⟩ = false := fun i => frozen_later hb5 (rf4 i) (by show w.heap.size < w4.heap.size; omega)
  have q510 : w5.cell? ⟨w1.heap.size, 0, none⟩ = some (.slice a1 n1 c1) := cell_later hb5 q410
  have q511 : w5.cell? ⟨w1.heap.size, 1, none⟩ = some (.int .i64 low1) := cell_later hb5 q411
  have q512 : w5.cell? ⟨w1.heap.size, 2, none⟩ = some (.bool neg1) := cell_later hb5 q412
  have q513 : w5.cell? ⟨w1.heap.size, 3, none⟩ = some (.bool nn1) := cell_later hb5 q413
  have q520 : w5.cell? ⟨w2.heap.size, 0, none⟩ = some (.slice a2 n2 c2) := cell_later hb5 q420
  have q521 : w5.cell? ⟨w2.heap.size, 1, none⟩ = some (.int .i64 low2) := cell_later hb5 q421
  have q522 : w5.cell? ⟨w2.heap.size, 2, none⟩ = some (.bool neg2) := cell_later hb5 q422
  have q523 : w5.cell? ⟨w2.heap.size, 3, none⟩ = some (.bool nn2) := cell_later hb5 q423
  have q530 : w5.cell? ⟨w3.heap.size, 0, none⟩ = some (.slice a3 n3 c3) := cell_later hb5 q430
  have q531 : w5.cell? ⟨w3.heap.size, 1, none⟩ = some (.int .i64 low3) := cell_later hb5 q431
  have q532 : w5.cell? ⟨w3.heap.size, 2, none⟩ = some (.bool neg3) := cell_later hb5 q432
  have q533 : w5.cell? ⟨w3.heap.size, 3, none⟩ = some (.bool nn3) := cell_later hb5 q433
  have HN1 : Hid (IsNum w5 (.agg #[.slice a1 n1 c1, .int .i64 low1, .bool neg1, .bool nn1]) _) := HN1.out.later hb5
  have HN2 : Hid (IsNum w5 (.agg #[.slice a2 n2 c2, .int .i64 low2, .bool neg2, .bool nn2]) _) := HN2.out.later hb5
  have HN3 : Hid (IsNum w5 (.agg #[.slice a3 n3 c3, .int .i64 low3, .bool neg3, .bool nn3]) _) := HN3.out.later hb5
  have HB5 : Hid (Below w.heap.size w w5) := thru HB4.out hb5
  have hs5 : w4.heap.size ≤ w5.heap.size := hb5.size
  clear hb5 r40 r41 r42 r43 rf4 q410 q411 q412 q413 q420 q421 q422 q423 q430 q431 q432 q433 HB4
  cases y1 with
  | none =>
    go_wp2
    refine bodyPost_ret (v := .agg #[.slice none 0 0, .int .i64 0, .bool false, .bool false]) (by simp [results, Tryd.results36, go_sem, r50, r51, r52, r53]) rfl ?_
    refine ⟨_, some 0, rfl, isNum_zero _, Or.inl ⟨rfl, rfl⟩, ?_⟩
    repeat (first | exact HB5.out | refine Below.drew ?_ | refine Below.setCell ?_ (by simp) _)
  | some p1 =>
    go_wp2_with fail
    refine (ok_any _ y2 _ HN2.out).mono ?_
    rintro e w6 ⟨rfl, hb6⟩
    have r60 : w6.cell? ⟨w.heap.size, 0, none⟩ = some (.slice none 0 0) := cell_later hb6 r50
    have r61 : w6.cell? ⟨w.heap.size, 1, none⟩ = some (.int .i64 0) := cell_later hb6 r51
    have r62 : w6.cell? ⟨w.heap.size, 2, none⟩ = some (.bool false) := cell_later hb6 r52
    have r63 : w6.cell? ⟨w.heap.size, 3, none⟩ = some (.bool false) := cell_later hb6 r53
    have rf6 : ∀ i, w6.frozen? ⟨w.heap.size, i, none⟩ = false := fun i => frozen_later hb6 (rf5 i) (by show w.heap.size < w5.heap.size; omega)
    have q610 : w6.cell? ⟨w1.heap.size, 0, none⟩ = some (.slice a1 n1 c1) := cell_later hb6 q510
    have q611 : w6.cell? ⟨w1.heap.size, 1, none⟩ = some (.int .i64 low1) := cell_later hb6 q511
    have q612 : w6.cell? ⟨w1.heap.size, 2, none⟩ = some (.bool neg1) := cell_later hb6 q512
    have q613 : w6.cell? ⟨w1.heap.size, 3, none⟩ = some (.bool nn1) := cell_later hb6 q513
    have q620 : w6.cell? ⟨w2.heap.size, 0, none⟩ = some (.slice a2 n2 c2) := cell_later hb6 q520
    have q621 : w6.cell? ⟨w2.heap.size, 1, none⟩ = some (.int .i64 low2) := cell_later hb6 q521
    have q622 : w6.cell? ⟨w2.heap.size, 2, none⟩ = some (.bool neg2) := cell_later hb6 q522
    have q623 : w6.cell? ⟨w2.heap.size, 3, none⟩ = some (.bool nn2) := cell_later hb6 q523
    have q630 : w6.cell? ⟨w3.heap.size, 0, none⟩ = some (.slice a3 n3 c3) := cell_later hb6 q530
    have q631 : w6.cell? ⟨w3.heap.size, 1, none⟩ = some (.int .i64 low3) := cell_later hb6 q531
    have q632 : w6.cell? ⟨w3.heap.size, 2, none⟩ = some (.bool neg3) := cell_later hb6 q532
    have q633 : w6.cell? ⟨w3.heap.size, 3, none⟩ = some (.bool nn3) := cell_later hb6 q533
    have HN1 : Hid (IsNum w6 (.agg #[.slice a1 n1 c1, .int .i64 low1, .bool neg1, .bool nn1]) _) := HN1.out.later hb6
    have HN2 : Hid (IsNum w6 (.agg #[.slice a2 n2 c2, .int .i64 low2, .bool neg2, .bool nn2]) _) := HN2.out.later hb6
    have HN3 : Hid (IsNum w6 (.agg #[.slice a3 n3 c3, .int .i64 low3, .bool neg3, .bool nn3]) _) := HN3.out.later hb6
    have HB6 : Hid (Below w.heap.size w w6) := thru HB5.out hb6
    have hs6 : w5.heap.size ≤ w6.heap.size := hb6.size
    clear hb6 r50 r51 r52 r53 rf5 q510 q511 q512 q513 q520 q521 q522 q523 q530 q531 q532 q533 HB5
    cases y2 with
    | none =>
      go_wp2
      refine bodyPost_ret (v := .agg #[.slice none 0 0, .int .i64 0, .bool false, .bool false]) (by simp [results, Tryd.results36, go_sem, r60, r61, r62, r63]) rfl ?_
      refine ⟨_, some 0, rfl, isNum_zero _, Or.inl ⟨rfl, rfl⟩, ?_⟩
      repeat (first | exact HB6.out | refine Below.drew ?_ | refine Below.setCell ?_ (by simp) _)
    | some p2 =>
      go_wp2_with fail
      refine (ok_any _ y3 _ HN3.out).mono ?_
      rintro e w7 ⟨rfl, hb7⟩
      have r70 : w7.cell? ⟨w.heap.size, 0, none⟩ = some (.slice none 0 0) := cell_later hb7 r60
      have r71 : w7.cell? ⟨w.heap.size, 1, none⟩ = some (.int .i64 0) := cell_later hb7 r61
      have r72 : w7.cell? ⟨w.heap.size, 2, none⟩ = some (.bool false) := cell_later hb7 r62
      have r73 : w7.cell? ⟨w.heap.size, 3, none⟩ = some (.bool false) := cell_later hb7 r63
      have rf7 : ∀ i, w7.frozen? ⟨w.heap.size, i, none⟩ = false := fun i => frozen_later hb7 (rf6 i) (by show w.heap.size < w6.heap.size; omega)
      have q710 : w7.cell? ⟨w1.heap.size, 0, none⟩ = some (.slice a1 n1 c1) := cell_later hb7 q610
      have q711 : w7.cell? ⟨w1.heap.size, 1, none⟩ = some (.int .i64 low1) := cell_later hb7 q611
      have q712 : w7.cell? ⟨w1.heap.size, 2, none⟩ = some (.bool neg1) := cell_later hb7 q612
      have q713 : w7.cell? ⟨w1.heap.size, 3, none⟩ = some (.bool nn1) := cell_later hb7 q613
      have q720 : w7.cell? ⟨w2.heap.size, 0, none⟩ = some (.slice a2 n2 c2) := cell_later hb7 q620
      have q721 : w7.cell? ⟨w2.heap.size, 1, none⟩ = some (.int .i64 low2) := cell_later hb7 q621
      have q722 : w7.cell? ⟨w2.heap.size, 2, none⟩ = some (.bool neg2) := cell_later hb7 q622
      have q723 : w7.cell? ⟨w2.heap.size, 3, none⟩ = some (.bool nn2) := cell_later hb7 q623
      have q730 : w7.cell? ⟨w3.heap.size, 0, none⟩ = some (.slice a3 n3 c3) := cell_later hb7 q630
      have q731 : w7.cell? ⟨w3.heap.size, 1, none⟩ = some (.int .i64 low3) := cell_later hb7 q631
      have q732 : w7.cell? ⟨w3.heap.size, 2, none⟩ = some (.bool neg3) := cell_later hb7 q632
      have q733 : w7.cell? ⟨w3.heap.size, 3, none⟩ = some (.bool nn3) := cell_later hb7 q633
      have HN1 : Hid (IsNum w7 (.agg #[.slice a1 n1 c1, .int .i64 low1, .bool neg1, .bool nn1]) _) := HN1.out.later hb7
      have HN2 : Hid (IsNum w7 (.agg #[.slice a2 n2 c2, .int .i64 low2, .bool neg2, .bool nn2]) _) := HN2.out.later hb7
      have HN3 : Hid (IsNum w7 (.agg #[.slice a3 n3 c3, .int .i64 low3, .bool neg3, .bool nn3]) _) := HN3.out.later hb7
      have HB7 : Hid (Below w.heap.size w w7) := thru HB6.out hb7
      have hs7 : w6.heap.size ≤ w7.heap.size := hb7.size
      clear hb7 r60 r61 r62 r63 rf6 q610 q611 q612 q613 q620 q621 q622 q623 q630 q631 q632 q633 HB6
      cases y3 with
      | none =>
        go_wp2
        refine bodyPost_ret (v := .agg #[.slice none 0 0, .int .i64 0, .bool false, .bool false]) (by simp [results, Tryd.results36, go_sem, r70, r71, r72, r73]) rfl ?_
        refine ⟨_, some 0, rfl, isNum_zero _, Or.inl ⟨rfl, rfl⟩, ?_⟩
        repeat (first | exact HB7.out | refine Below.drew ?_ | refine Below.setCell ?_ (by simp) _)
      | some p3 =>
        go_wp2_with fail
        go_region_held3 (fun W => W.cell? ⟨w1.heap.size, 0, none⟩ = some (.slice a1 n1 c1) ∧ W.cell? ⟨w1.heap.size, 1, none⟩ = some (.int .i64 low1) ∧ W.cell? ⟨w1.heap.size, 2, none⟩ = some (.bool neg1) ∧ W.cell? ⟨w1.heap.size, 3, none⟩ = some (.bool nn1) ∧ W.cell? ⟨w2.heap.size, 0, none⟩ = some (.slice a2 n2 c2) ∧ W.cell? ⟨w2.heap.size, 1, none⟩ = some (.int .i64 low2) ∧ W.cell? ⟨w2.heap.size, 2, none⟩ = some (.bool neg2) ∧ W.cell? ⟨w2.heap.size, 3, none⟩ = some (.bool nn2) ∧ W.cell? ⟨w3.heap.size, 0, none⟩ = some (.slice a3 n3 c3) ∧ W.cell? ⟨w3.heap.size, 1, none⟩ = some (.int .i64 low3) ∧ W.cell? ⟨w3.heap.size, 2, none⟩ = some (.bool neg3) ∧ W.cell? ⟨w3.heap.size, 3, none⟩ = some (.bool nn3) ∧ Below w.heap.size w W)
          (first
            | assumption
            | exact ⟨q710, q711, q712, q713, q720, q721, q722, q723, q730, q731, q732, q733, HB7.out.drew⟩
            | exact keep12 (by assumption) (by assumption)
            | exact (keep12_set (keep12_set (keep12_set (keep12_set (by assumption) _ _ (by simp) (by show w1.heap.size ≠ w.heap.size; omega) (by show w1.heap.size ≠ w.heap.size; omega) (by show w1.heap.size ≠ w.heap.size; omega) (by show w1.heap.size ≠ w.heap.size; omega) (by show w2.heap.size ≠ w.heap.size; omega) (by show w2.heap.size ≠ w.heap.size; omega) (by show w2.heap.size ≠ w.heap.size; omega) (by show w2.heap.size ≠ w.heap.size; omega) (by show w3.heap.size ≠ w.heap.size; omega) (by show w3.heap.size ≠ w.heap.size; omega) (by show w3.heap.size ≠ w.heap.size; omega) (by show w3.heap.size ≠ w.heap.size; omega)) _ _ (by simp) (by show w1.heap.size ≠ w.heap.size; omega) (by show w1.heap.size ≠ w.heap.size; omega) (by show w1.heap.size ≠ w.heap.size; omega) (by show w1.heap.size ≠ w.heap.size; omega) (by show w2.heap.size ≠ w.heap.size; omega) (by show w2.heap.size ≠ w.heap.size; omega) (by show w2.heap.size ≠ w.heap.size; omega) (by show w2.heap.size ≠ w.heap.size; omega) (by show w3.heap.size ≠ w.heap.size; omega) (by show w3.heap.size ≠ w.heap.size; omega) (by show w3.heap.size ≠ w.heap.size; omega) (by show w3.heap.size ≠ w.heap.size; omega)) _ _ (by simp) (by show w1.heap.size ≠ w.heap.size; omega) (by show w1.heap.size ≠ w.heap.size; omega) (by show w1.heap.size ≠ w.heap.size; omega) (by show w1.heap.size ≠ w.heap.size; omega) (by show w2.heap.size ≠ w.heap.size; omega) (by show w2.heap.size ≠ w.heap.size; omega) (by show w2.heap.size ≠ w.heap.size; omega) (by show w2.heap.size ≠ w.heap.size; omega) (by show w3.heap.size ≠ w.heap.size; omega) (by show w3.heap.size ≠ w.heap.size; omega) (by show w3.heap.size ≠ w.heap.size; omega) (by show w3.heap.size ≠ w.heap.size; omega)) _ _ (by simp) (by show w1.heap.size ≠ w.heap.size; omega) (by show w1.heap.size ≠ w.heap.size; omega) (by show w1.heap.size ≠ w.heap.size; omega) (by show w1.heap.size ≠ w.heap.size; omega) (by show w2.heap.size ≠ w.heap.size; omega) (by show w2.heap.size ≠ w.heap.size; omega) (by show w2.heap.size ≠ w.heap.size; omega) (by show w2.heap.size ≠ w.heap.size; omega) (by show w3.heap.size ≠ w.heap.size; omega) (by show w3.heap.size ≠ w.heap.size; omega) (by show w3.heap.size ≠ w.heap.size; omega) (by show w3.heap.size ≠ w.heap.size; omega)))
          (first
            | (go_at_call 17; refine (mul_any _ _ _ _ _ (HN2.out.later (Below.refl _ _).drew) (HN3.out.later (Below.refl _ _).drew) (HT.out.later HB7.out.drew)).mono ?_; rintro e w8 ⟨v8, y8, rfl, hn8, hy8, hb8⟩; obtain ⟨a8, n8, c8, low8, neg8, nn8, rfl, hn8⟩ := isNum_form hn8; have hB8 := thru (Below.refl w7.heap.size w7).drew hb8)
            | (go_at_call 14; refine (add_any _ _ _ _ _ (HN1.out.later hB8) hn8 (HT.out.later (thru HB7.out hB8))).mono ?_; rintro e w9 ⟨v9, y9, rfl, hn9, hy9, hb9⟩; obtain ⟨a9, n9, c9, low9, neg9, nn9, rfl, hn9⟩ := isNum_form hn9; have hB9 := thru hB8 hb9; have t0 : w9.cell? ⟨w.heap.size, 0, none⟩ = some (.slice none 0 0) := cell_later hB9 r70; have t1 : w9.cell? ⟨w.heap.size, 1, none⟩ = some (.int .i64 0) := cell_later hB9 r71; have t2 : w9.cell? ⟨w.heap.size, 2, none⟩ = some (.bool false) := cell_later hB9 r72; have t3 : w9.cell? ⟨w.heap.size, 3, none⟩ = some (.bool false) := cell_later hB9 r73;  have u0 : ∀ i, w9.frozen? ⟨w.heap.size, i, none⟩ = false := fun i => frozen_later hB9 (rf7 i) (by show w.heap.size < w7.heap.size; omega)))
        have HBF : Hid (Below w.heap.size w w9) := thru HB7.out hB9
        have HN9 : Hid (IsNum w9 (.agg #[.slice a9 n9 c9, .int .i64 low9, .bool neg9, .bool nn9]) y9) := hn9
        have HY : Hid _ := hy9
        have HY8 : Hid _ := hy8
        clear hn9 hy9 hy8 hB9 hB8 hb9 hb8 hn8
        go_wp2
        refine bodyPost_ret (v := .agg #[.slice a9 n9 c9, .int .i64 low9, .bool neg9, .bool nn9]) (by simp [results, Tryd.results36, go_sem, t0, t1, t2, t3]) rfl ?_
        have hw9 := isNum_set4 HN9.out t0 t1 t2 t3 (.slice a9 n9 c9) (.int .i64 low9) (.bool neg9) (.bool nn9)
        refine ⟨_, y9, rfl, hw9, Or.inr ⟨p1, p2, p3, rfl, rfl, rfl, y8, ?_, HY.out⟩, ?_⟩
        · rcases HY8.out with ⟨x, y, hx, hy, h⟩ | ⟨h, _⟩
          · cases hx; cases hy; exact h
          · rcases h with h | h <;> cases h
        · repeat (first | exact HBF.out | refine Below.drew ?_ | refine Below.setCell ?_ (by simp) _)

/-- The number that of tells of three floats. -/
def ofR (b1 b2 b3 : Nat) : Rat := if frung b1 < 9218868437227405312 ∧ frung b2 < 9218868437227405312 ∧ frung b3 < 9218868437227405312 then fval b1 + fval b2 * fval b3 else 0

theorem ofR_bd (b1 b2 b3 : Nat) : Bd 2049 (-2148) (ofR b1 b2 b3) := by
  unfold ofR
  split
  · rename_i h
    have h1 := (fval_bd h.1).mono (h' := 2048) (l' := -2148) (by omega) (by omega)
    have h2 := (fval_bd h.2.1).mul (fval_bd h.2.2)
    exact h1.add (h2.mono (by omega) (by omega))
  · exact bd_zero _ _

theorem norm_may {q : Rat} {x : Option Rat} (h : Norm q x) (hm : May q) : x = some q := by
  rcases h with ⟨_, h⟩ | ⟨h, _⟩
  · exact h
  · exact absurd hm h

theorem op2_may {f : Rat → Rat → Rat} {p q : Rat} {x : Option Rat} (h : Op2 f (some p) (some q) x) (hm : May (f p q)) : x = some (f p q) := by
  rcases h with ⟨_, _, h1, h2, h⟩ | ⟨h, _⟩
  · cases h1; cases h2; exact norm_may h hm
  · rcases h with h | h <;> cases h

theorem ofW_any (b : Nat) (w : World) (hT : Tab w) (hb : b < 18446744073709551616) :
    Calls Tryd.prog 18 #[.float .f64 b] w fun e w' => OpR w w' (fun x => x = if frung b < 9218868437227405312 then some (fval b) else none) e := by
  by_cases h : frung b < 9218868437227405312
  · rw [if_pos h]; exact of_fin b w hT hb h
  · rw [if_neg h]; exact of_not b w hb h

theorem of_any (b1 b2 b3 : Nat) (w : World) (hT : Tab w) (h1 : b1 < 18446744073709551616) (h2 : b2 < 18446744073709551616) (h3 : b3 < 18446744073709551616) :
    Calls Tryd.prog 36 #[.float .f64 b1, .float .f64 b2, .float .f64 b3] w fun e w' => OpR w w' (fun x => x = some (ofR b1 b2 b3)) e := by
  refine (of_walk b1 b2 b3 _ _ _ w hT (fun w hT => ofW_any b1 w hT h1) (fun w hT => ofW_any b2 w hT h2) (fun w hT => ofW_any b3 w hT h3)).mono ?_
  rintro e w' ⟨v, x, rfl, hn, hx, hb⟩
  refine ⟨v, x, rfl, hn, ?_, hb⟩
  show x = some (ofR b1 b2 b3)
  have hbd := ofR_bd b1 b2 b3
  unfold ofR at hbd ⊢
  by_cases f1 : frung b1 < 9218868437227405312 <;> by_cases f2 : frung b2 < 9218868437227405312 <;> by_cases f3 : frung b3 < 9218868437227405312
  all_goals simp only [f1, f2, f3, if_true, if_false, and_self, and_true, and_false] at hx hbd ⊢
  · rcases hx with ⟨h, _⟩ | ⟨p, q, r, e1, e2, e3, y, hy, h⟩
    · cases h
    · cases e1; cases e2; cases e3
      have e4 := norm_may hy (((fval_bd f2).mul (fval_bd f3)).may (by omega) (by omega))
      subst e4
      exact op2_may h (hbd.may (by omega) (by omega))
  all_goals
    rcases hx with ⟨_, h⟩ | ⟨p, q, r, e1, e2, e3, _⟩
    · exact h
    · cases e1 <;> cases e2 <;> cases e3

end Go.Proofs.YtfnjlkhgjlihoaaDoor
