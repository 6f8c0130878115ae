/- WholeRing: the walk. -/
import Derived.Test.YtfnjlkhgjlihoaaDoorLp
import Derived.Test.YtfnjlkhgjlihoaaDoorLf
import Derived.Deep.CutRange
import Derived.Deep.DeepCutAuto
namespace Go.Proofs.YtfnjlkhgjlihoaaDoor
open Go.RowKit
attribute [local go_sem ↓] Go.wp_at_zero Go.wp_at_succ

theorem cmp_zero {p q : Rat} (h : p = q) : CmpX (some p) (some q) = 0 := by rw [h]; exact cmpR_self q
theorem sgn_nil {p : Rat} (h : p = 0) : sgnR ((some p).getD 0) = 0 := by rw [h]; exact sgnR_zero
theorem tmod_range (k : Int) : -1000 < k.tmod 1000 ∧ k.tmod 1000 < 1000 := ⟨Int.lt_tmod_of_pos k (by decide), Int.tmod_lt_of_pos k (by decide)⟩
theorem wrap_mul {a b : Int} (ha : -1 ≤ a ∧ a ≤ 1) (hb : -1 ≤ b ∧ b ≤ 1) : IntKind.i64.wrap (a * b) = a * b := by
  have h1 : a = -1 ∨ a = 0 ∨ a = 1 := by omega
  have h2 : b = -1 ∨ b = 0 ∨ b = 1 := by omega
  rcases h1 with rfl | rfl | rfl <;> rcases h2 with rfl | rfl | rfl <;> decide

set_option maxHeartbeats 4000000 in
set_option maxRecDepth 8000 in
theorem ring_walk (f0 f1 f2 f3 f4 f5 f6 f7 f8 : Nat) (k : Int) (w : World) (hT : Tab w) (h0 : f0 < 18446744073709551616) (h1 : f1 < 18446744073709551616) (h2 : f2 < 18446744073709551616) (h3 : f3 < 18446744073709551616) (h4 : f4 < 18446744073709551616) (h5 : f5 < 18446744073709551616) (h6 : f6 < 18446744073709551616) (h7 : f7 < 18446744073709551616) (h8 : f8 < 18446744073709551616) :
    Calls Tryd.prog 6 #[.agg #[.float .f64 f0, .float .f64 f1, .float .f64 f2, .float .f64 f3, .float .f64 f4, .float .f64 f5, .float .f64 f6, .float .f64 f7, .float .f64 f8], .int .i64 k] w fun e w' => e = .returned (.bool true) ∧ Below w.heap.size w w' := by
  have HT : Hid (Tab w) := hT

  have H : Hid (f0 < 18446744073709551616 ∧ f1 < 18446744073709551616 ∧ f2 < 18446744073709551616 ∧ f3 < 18446744073709551616 ∧ f4 < 18446744073709551616 ∧ f5 < 18446744073709551616 ∧ f6 < 18446744073709551616 ∧ f7 < 18446744073709551616 ∧ f8 < 18446744073709551616) := ⟨h0, h1, h2, h3, h4, h5, h6, h7, h8⟩
  clear hT h0 h1 h2 h3 h4 h5 h6 h7 h8
  have HB0 : Hid (Below w.heap.size w (w.alloc (.cells #[.float .f64 f0, .float .f64 f1, .float .f64 f2, .float .f64 f3, .float .f64 f4, .float .f64 f5, .float .f64 f6, .float .f64 f7, .float .f64 f8] 60))) := (Below.refl _ _).alloc (Nat.le_refl _) _
  go_enter Tryd.func6, Tryd.ntmps6
  go_wp2_with fail
  refine (works_any _ (HT.out.later HB0.out)).mono ?_
  rintro e w1 ⟨rfl, hb1⟩
  have g0 : w1.cell? ⟨w.heap.size, 0, none⟩ = some (.float .f64 f0) := cell_later hb1 (by go_simp)
  have g1 : w1.cell? ⟨w.heap.size, 1, none⟩ = some (.float .f64 f1) := cell_later hb1 (by go_simp)
  have g2 : w1.cell? ⟨w.heap.size, 2, none⟩ = some (.float .f64 f2) := cell_later hb1 (by go_simp)
  have g3 : w1.cell? ⟨w.heap.size, 3, none⟩ = some (.float .f64 f3) := cell_later hb1 (by go_simp)
  have g4 : w1.cell? ⟨w.heap.size, 4, none⟩ = some (.float .f64 f4) := cell_later hb1 (by go_simp)
  have g5 : w1.cell? ⟨w.heap.size, 5, none⟩ = some (.float .f64 f5) := cell_later hb1 (by go_simp)
  have g6 : w1.cell? ⟨w.heap.size, 6, none⟩ = some (.float .f64 f6) := cell_later hb1 (by go_simp)
  have g7 : w1.cell? ⟨w.heap.size, 7, none⟩ = some (.float .f64 f7) := cell_later hb1 (by go_simp)
  have g8 : w1.cell? ⟨w.heap.size, 8, none⟩ = some (.float .f64 f8) := cell_later hb1 (by go_simp)
  have hs1 : w.heap.size < w1.heap.size := by have := hb1.size; simp at this; omega
  have HB1 : Hid (Below w.heap.size w w1) := thru HB0.out hb1
  clear hb1
  go_wp2_with fail
  refine (of_any f0 f1 f2 _ (HT.out.later HB1.out) H.out.1 H.out.2.1 H.out.2.2.1).mono ?_
  rintro e w2 ⟨v2, y2, rfl, hn2, hy2, hb2⟩
  obtain ⟨a2, n2, c2, low2, neg2, nn2, rfl, hn2⟩ := isNum_form hn2
  subst hy2
  have g23 : w2.cell? ⟨w.heap.size, 3, none⟩ = some (.float .f64 f3) := cell_later hb2 g3
  have g24 : w2.cell? ⟨w.heap.size, 4, none⟩ = some (.float .f64 f4) := cell_later hb2 g4
  have g25 : w2.cell? ⟨w.heap.size, 5, none⟩ = some (.float .f64 f5) := cell_later hb2 g5
  have g26 : w2.cell? ⟨w.heap.size, 6, none⟩ = some (.float .f64 f6) := cell_later hb2 g6
  have g27 : w2.cell? ⟨w.heap.size, 7, none⟩ = some (.float .f64 f7) := cell_later hb2 g7
  have g28 : w2.cell? ⟨w.heap.size, 8, none⟩ = some (.float .f64 f8) := cell_later hb2 g8
  have HB2 : Hid (Below w.heap.size w w2) := thru HB1.out hb2
  have hs2 : w.heap.size < w2.heap.size := by have := hb2.size; omega
  have HN2 : Hid (IsNum w2 (.agg #[.slice a2 n2 c2, .int .i64 low2, .bool neg2, .bool nn2]) (some (ofR f0 f1 f2))) := hn2
  clear hn2 hb2 HB1 g0 g1 g2 g3 g4 g5 g6 g7 g8
  have HA : Hid (Below w2.heap.size w2 (w2.alloc (.cells #[.slice a2 n2 c2, .int .i64 low2, .bool neg2, .bool nn2] 27))) := (Below.refl _ _).alloc (Nat.le_refl _) _
  go_wp2_with fail
  refine (of_any f3 f4 f5 _ (HT.out.later (thru HB2.out HA.out)) H.out.2.2.2.1 H.out.2.2.2.2.1 H.out.2.2.2.2.2.1).mono ?_
  rintro e w3 ⟨v3, y3, rfl, hn3, hy3, hb3⟩
  obtain ⟨a3, n3, c3, low3, neg3, nn3, rfl, hn3⟩ := isNum_form hn3
  subst hy3
  have hc := thru HA.out hb3
  have g36 : w3.cell? ⟨w.heap.size, 6, none⟩ = some (.float .f64 f6) := cell_later hc g26
  have g37 : w3.cell? ⟨w.heap.size, 7, none⟩ = some (.float .f64 f7) := cell_later hc g27
  have g38 : w3.cell? ⟨w.heap.size, 8, none⟩ = some (.float .f64 f8) := cell_later hc g28
  have q20 : w3.cell? ⟨w2.heap.size, 0, none⟩ = some (.slice a2 n2 c2) := cell_later hb3 (by go_simp)
  have q21 : w3.cell? ⟨w2.heap.size, 1, none⟩ = some (.int .i64 low2) := cell_later hb3 (by go_simp)
  have q22 : w3.cell? ⟨w2.heap.size, 2, none⟩ = some (.bool neg2) := cell_later hb3 (by go_simp)
  have q23 : w3.cell? ⟨w2.heap.size, 3, none⟩ = some (.bool nn2) := cell_later hb3 (by go_simp)
  have HB3 : Hid (Below w.heap.size w w3) := thru HB2.out hc
  have hs3 : w2.heap.size < w3.heap.size := by have := hb3.size; simp at this; omega
  have hs03 : w.heap.size < w3.heap.size := by omega
  have HN2 : Hid (IsNum w3 (.agg #[.slice a2 n2 c2, .int .i64 low2, .bool neg2, .bool nn2]) (some (ofR f0 f1 f2))) := HN2.out.later hc
  have HN3 : Hid (IsNum w3 (.agg #[.slice a3 n3 c3, .int .i64 low3, .bool neg3, .bool nn3]) (some (ofR f3 f4 f5))) := hn3
  clear hn3 hb3 hc HA HB2 g23 g24 g25 g26 g27 g28
  have HA : Hid (Below w3.heap.size w3 (w3.alloc (.cells #[.slice a3 n3 c3, .int .i64 low3, .bool neg3, .bool nn3] 27))) := (Below.refl _ _).alloc (Nat.le_refl _) _
  go_wp2_with fail
  refine (of_any f6 f7 f8 _ (HT.out.later (thru HB3.out HA.out)) H.out.2.2.2.2.2.2.1 H.out.2.2.2.2.2.2.2.1 H.out.2.2.2.2.2.2.2.2).mono ?_
  rintro e w4 ⟨v4, y4, rfl, hn4, hy4, hb4⟩
  obtain ⟨a4, n4, c4, low4, neg4, nn4, rfl, hn4⟩ := isNum_form hn4
  subst hy4
  have hc := thru HA.out hb4
  have p20 : w4.cell? ⟨w2.heap.size, 0, none⟩ = some (.slice a2 n2 c2) := cell_later hc q20
  have p21 : w4.cell? ⟨w2.heap.size, 1, none⟩ = some (.int .i64 low2) := cell_later hc q21
  have p22 : w4.cell? ⟨w2.heap.size, 2, none⟩ = some (.bool neg2) := cell_later hc q22
  have p23 : w4.cell? ⟨w2.heap.size, 3, none⟩ = some (.bool nn2) := cell_later hc q23
  have p30 : w4.cell? ⟨w3.heap.size, 0, none⟩ = some (.slice a3 n3 c3) := cell_later hb4 (by go_simp)
  have p31 : w4.cell? ⟨w3.heap.size, 1, none⟩ = some (.int .i64 low3) := cell_later hb4 (by go_simp)
  have p32 : w4.cell? ⟨w3.heap.size, 2, none⟩ = some (.bool neg3) := cell_later hb4 (by go_simp)
  have p33 : w4.cell? ⟨w3.heap.size, 3, none⟩ = some (.bool nn3) := cell_later hb4 (by go_simp)
  have HB4 : Hid (Below w.heap.size w w4) := thru HB3.out hc
  have hs4 : w3.heap.size < w4.heap.size := by have := hb4.size; simp at this; omega
  have hs24 : w2.heap.size < w4.heap.size := by omega
  have HN2 : Hid (IsNum w4 (.agg #[.slice a2 n2 c2, .int .i64 low2, .bool neg2, .bool nn2]) (some (ofR f0 f1 f2))) := HN2.out.later hc
  have HN3 : Hid (IsNum w4 (.agg #[.slice a3 n3 c3, .int .i64 low3, .bool neg3, .bool nn3]) (some (ofR f3 f4 f5))) := HN3.out.later hc
  have HN4 : Hid (IsNum w4 (.agg #[.slice a4 n4 c4, .int .i64 low4, .bool neg4, .bool nn4]) (some (ofR f6 f7 f8))) := hn4
  clear hn4 hb4 hc HA HB3 g36 g37 g38 q20 q21 q22 q23
  go_upto_region 36 with fail
  have hC : Below w4.heap.size w4 (w4.alloc (.cells #[.slice a4 n4 c4, .int .i64 low4, .bool neg4, .bool nn4] 27)) := (Below.refl _ _).alloc (Nat.le_refl _) _
  have z40 : (w4.alloc (.cells #[.slice a4 n4 c4, .int .i64 low4, .bool neg4, .bool nn4] 27)).cell? ⟨w4.heap.size, 0, none⟩ = some (.slice a4 n4 c4) := by go_simp
  have z41 : (w4.alloc (.cells #[.slice a4 n4 c4, .int .i64 low4, .bool neg4, .bool nn4] 27)).cell? ⟨w4.heap.size, 1, none⟩ = some (.int .i64 low4) := by go_simp
  have z42 : (w4.alloc (.cells #[.slice a4 n4 c4, .int .i64 low4, .bool neg4, .bool nn4] 27)).cell? ⟨w4.heap.size, 2, none⟩ = some (.bool neg4) := by go_simp
  have z43 : (w4.alloc (.cells #[.slice a4 n4 c4, .int .i64 low4, .bool neg4, .bool nn4] 27)).cell? ⟨w4.heap.size, 3, none⟩ = some (.bool nn4) := by go_simp
  generalize (w4.alloc (.cells #[.slice a4 n4 c4, .int .i64 low4, .bool neg4, .bool nn4] 27)) = wq at *
  have z20 : wq.cell? ⟨w2.heap.size, 0, none⟩ = some (.slice a2 n2 c2) := cell_later hC p20
  have z21 : wq.cell? ⟨w2.heap.size, 1, none⟩ = some (.int .i64 low2) := cell_later hC p21
  have z22 : wq.cell? ⟨w2.heap.size, 2, none⟩ = some (.bool neg2) := cell_later hC p22
  have z23 : wq.cell? ⟨w2.heap.size, 3, none⟩ = some (.bool nn2) := cell_later hC p23
  have z30 : wq.cell? ⟨w3.heap.size, 0, none⟩ = some (.slice a3 n3 c3) := cell_later hC p30
  have z31 : wq.cell? ⟨w3.heap.size, 1, none⟩ = some (.int .i64 low3) := cell_later hC p31
  have z32 : wq.cell? ⟨w3.heap.size, 2, none⟩ = some (.bool neg3) := cell_later hC p32
  have z33 : wq.cell? ⟨w3.heap.size, 3, none⟩ = some (.bool nn3) := cell_later hC p33
  have HBC : Hid (Below w.heap.size w wq) := thru HB4.out hC
  have HN2 : Hid (IsNum wq (.agg #[.slice a2 n2 c2, .int .i64 low2, .bool neg2, .bool nn2]) (some (ofR f0 f1 f2))) := HN2.out.later hC
  have HN3 : Hid (IsNum wq (.agg #[.slice a3 n3 c3, .int .i64 low3, .bool neg3, .bool nn3]) (some (ofR f3 f4 f5))) := HN3.out.later hC
  have HN4 : Hid (IsNum wq (.agg #[.slice a4 n4 c4, .int .i64 low4, .bool neg4, .bool nn4]) (some (ofR f6 f7 f8))) := HN4.out.later hC
  clear hC p20 p21 p22 p23 p30 p31 p32 p33 HB4
  have HD2 : Hid (Bd 2049 (-2148) (ofR f0 f1 f2)) := ofR_bd _ _ _
  have HD3 : Hid (Bd 2049 (-2148) (ofR f3 f4 f5)) := ofR_bd _ _ _
  have HD4 : Hid (Bd 2049 (-2148) (ofR f6 f7 f8)) := ofR_bd _ _ _
  generalize ofR f0 f1 f2 = A at *
  generalize ofR f3 f4 f5 = B at *
  generalize ofR f6 f7 f8 = C at *
  have HK : Hid (-1000 < k.tmod 1000 ∧ k.tmod 1000 < 1000) := tmod_range k
  generalize k.tmod 1000 = K at *
  obtain ⟨hK1, hK2⟩ := HK.out
  have hwk : IntKind.i64.wrap (-K) = -K := wrapI _ (by omega) (by omega)
  obtain ⟨sa, HSa⟩ : ∃ s, Hid (sgnR A = s) := ⟨_, rfl⟩
  obtain ⟨sb, HSb⟩ : ∃ s, Hid (sgnR B = s) := ⟨_, rfl⟩
  obtain ⟨cab, HCab⟩ : ∃ s, Hid (cmpR A B = s) := ⟨_, rfl⟩
  have hw1 : IntKind.i64.wrap (sa * sb) = sa * sb := by
    have ha := cmpR_range A 0
    have hb := cmpR_range B 0
    have ea : cmpR A 0 = sa := HSa.out
    have eb : cmpR B 0 = sb := HSb.out
    rw [ea] at ha
    rw [eb] at hb
    exact wrap_mul ha hb
  have hw2 : IntKind.i64.wrap (-sa) = -sa := by
    have ha := cmpR_range A 0
    have ea : cmpR A 0 = sa := HSa.out
    rw [ea] at ha
    exact wrapI _ (by omega) (by omega)
  have hw3 : IntKind.i64.wrap (-cab) = -cab := by
    have ha := cmpR_range A B
    rw [HCab.out] at ha
    exact wrapI _ (by omega) (by omega)
  refine wp_region_held_drew (S := (fun W => W.cell? ⟨w2.heap.size, 0, none⟩ = some (.slice a2 n2 c2) ∧ W.cell? ⟨w2.heap.size, 1, none⟩ = some (.int .i64 low2) ∧ W.cell? ⟨w2.heap.size, 2, none⟩ = some (.bool neg2) ∧ W.cell? ⟨w2.heap.size, 3, none⟩ = some (.bool nn2) ∧ W.cell? ⟨w3.heap.size, 0, none⟩ = some (.slice a3 n3 c3) ∧ W.cell? ⟨w3.heap.size, 1, none⟩ = some (.int .i64 low3) ∧ W.cell? ⟨w3.heap.size, 2, none⟩ = some (.bool neg3) ∧ W.cell? ⟨w3.heap.size, 3, none⟩ = some (.bool nn3) ∧ W.cell? ⟨w4.heap.size, 0, none⟩ = some (.slice a4 n4 c4) ∧ W.cell? ⟨w4.heap.size, 1, none⟩ = some (.int .i64 low4) ∧ W.cell? ⟨w4.heap.size, 2, none⟩ = some (.bool neg4) ∧ W.cell? ⟨w4.heap.size, 3, none⟩ = some (.bool nn4) ∧ Below wq.heap.size wq W)) (by kernel_rfl) ⟨z20, z21, z22, z23, z30, z31, z32, z33, z40, z41, z42, z43, (Below.refl _ _).drew⟩ (fun hS => ?_)
  refine take_at (i := 0) (d := some 36) (v := .agg #[.slice a2 n2 c2, .int .i64 low2, .bool neg2, .bool nn2]) (by kernel_rfl) (by kernel_rfl) (by kernel_rfl) (by kernel_rfl) (fun _ _ _ h => h) ?_ hS ?_
  · intro o ho
    simp only [List.getElem?_toArray, List.getElem?_cons_zero, Option.some.injEq] at ho
    subst ho
    refine Or.inl ⟨by rfl, ?_⟩
    intro w hSw
    (try dsimp only at hSw)
    go_simp
  simp only [Act.put, List.setIfInBounds_toArray, List.set_cons_zero, List.set_cons_succ]
  refine take_at (i := 1) (d := some 37) (v := .agg #[.slice a3 n3 c3, .int .i64 low3, .bool neg3, .bool nn3]) (by kernel_rfl) (by kernel_rfl) (by kernel_rfl) (by kernel_rfl) (fun _ _ _ h => h) ?_ hS ?_
  · intro o ho
    simp only [List.getElem?_toArray, List.getElem?_cons_succ, List.getElem?_cons_zero, Option.some.injEq] at ho
    subst ho
    refine Or.inl ⟨by rfl, ?_⟩
    intro w hSw
    (try dsimp only at hSw)
    go_simp
  simp only [Act.put, List.setIfInBounds_toArray, List.set_cons_zero, List.set_cons_succ]
  refine take_at (i := 3) (d := some 39) (v := .agg #[.slice a3 n3 c3, .int .i64 low3, .bool neg3, .bool nn3]) (by kernel_rfl) (by kernel_rfl) (by kernel_rfl) (by kernel_rfl) (fun _ _ _ h => h) ?_ hS ?_
  · intro o ho
    simp only [List.getElem?_toArray, List.getElem?_cons_succ, List.getElem?_cons_zero, Option.some.injEq] at ho
    subst ho
    refine Or.inl ⟨by rfl, ?_⟩
    intro w hSw
    (try dsimp only at hSw)
    go_simp
  simp only [Act.put, List.setIfInBounds_toArray, List.set_cons_zero, List.set_cons_succ]
  refine take_at (i := 4) (d := some 40) (v := .agg #[.slice a2 n2 c2, .int .i64 low2, .bool neg2, .bool nn2]) (by kernel_rfl) (by kernel_rfl) (by kernel_rfl) (by kernel_rfl) (fun _ _ _ h => h) ?_ hS ?_
  · intro o ho
    simp only [List.getElem?_toArray, List.getElem?_cons_succ, List.getElem?_cons_zero, Option.some.injEq] at ho
    subst ho
    refine Or.inl ⟨by rfl, ?_⟩
    intro w hSw
    (try dsimp only at hSw)
    go_simp
  simp only [Act.put, List.setIfInBounds_toArray, List.set_cons_zero, List.set_cons_succ]
  refine call_at 2 (by kernel_rfl) (by kernel_rfl) ?_
  intro o ho
  simp only [List.getElem?_toArray, List.getElem?_cons_succ, List.getElem?_cons_zero, Option.some.injEq] at ho
  subst ho
  intro KF hK
  go_simp
  refine (add_any _ _ _ _ _ (HN2.out.later (keep12_bel hS)) (HN3.out.later (keep12_bel hS)) (HT.out.later (thru HBC.out (keep12_bel hS)))).mono ?_
  rintro e wx ⟨v38, y38, rfl, hn38, hy38, hbx⟩
  obtain ⟨a38, n38, c38, low38, neg38, nn38, rfl, hn38⟩ := isNum_form hn38
  have e38 := op2_may hy38 ((HD2.out.add HD3.out).may (by omega) (by omega))
  subst e38
  clear hy38
  go_wp2_with fail
  refine hK.out _ _ (keep12 hS hbx) ?_
  clear hS hbx
  intro hS
  clear hK KF
  try simp only [Act.put, List.setIfInBounds_toArray, List.set_cons_zero, List.set_cons_succ]
  refine call_at 5 (by kernel_rfl) (by kernel_rfl) ?_
  intro o ho
  simp only [List.getElem?_toArray, List.getElem?_cons_succ, List.getElem?_cons_zero, Option.some.injEq] at ho
  subst ho
  intro KF hK
  go_simp
  refine (add_any _ _ _ _ _ (HN3.out.later (keep12_bel hS)) (HN2.out.later (keep12_bel hS)) (HT.out.later (thru HBC.out (keep12_bel hS)))).mono ?_
  rintro e wx ⟨v41, y41, rfl, hn41, hy41, hbx⟩
  obtain ⟨a41, n41, c41, low41, neg41, nn41, rfl, hn41⟩ := isNum_form hn41
  have e41 := op2_may hy41 ((HD3.out.add HD2.out).may (by omega) (by omega))
  subst e41
  clear hy41
  have hn38 := hn38.later hbx
  go_wp2_with fail
  refine hK.out _ _ (keep12 hS hbx) ?_
  clear hS hbx
  intro hS
  clear hK KF
  try simp only [Act.put, List.setIfInBounds_toArray, List.set_cons_zero, List.set_cons_succ]
  refine call_at 6 (by kernel_rfl) (by kernel_rfl) ?_
  intro o ho
  simp only [List.getElem?_toArray, List.getElem?_cons_succ, List.getElem?_cons_zero, Option.some.injEq] at ho
  subst ho
  intro KF hK
  go_simp
  refine (cmp_any _ _ _ _ _ hn38 hn41).mono ?_
  rw [show CmpX (some (A + B)) (some (B + A)) = 0 from cmp_zero (by grind)]
  rintro e wx ⟨rfl, hbx⟩
  clear hn38
  clear hn41
  go_wp2_with fail
  refine hK.out _ _ (keep12 hS hbx) ?_
  clear hS hbx
  intro hS
  clear hK KF
  try simp only [Act.put, List.setIfInBounds_toArray, List.set_cons_zero, List.set_cons_succ]
  refine take_at (i := 7) (d := some 43) (v := .bool true) (by kernel_rfl) (by kernel_rfl) (by kernel_rfl) (by kernel_rfl) (fun _ _ _ h => h) ?_ hS ?_
  · intro o ho
    simp only [List.getElem?_toArray, List.getElem?_cons_succ, List.getElem?_cons_zero, Option.some.injEq] at ho
    subst ho
    refine Or.inl ⟨by rfl, ?_⟩
    intro w hSw
    (try dsimp only at hSw)
    go_simp
  simp only [Act.put, List.setIfInBounds_toArray, List.set_cons_zero, List.set_cons_succ]
  refine take_at (i := 8) (d := some 44) (v := .bool true) (by kernel_rfl) (by kernel_rfl) (by kernel_rfl) (by kernel_rfl) (fun _ _ _ h => h) ?_ hS ?_
  · intro o ho
    simp only [List.getElem?_toArray, List.getElem?_cons_succ, List.getElem?_cons_zero, Option.some.injEq] at ho
    subst ho
    refine Or.inl ⟨by rfl, ?_⟩
    intro w hSw
    (try dsimp only at hSw)
    go_simp
  simp only [Act.put, List.setIfInBounds_toArray, List.set_cons_zero, List.set_cons_succ]
  refine take_at (i := 9) (d := some 45) (v := .agg #[.slice a2 n2 c2, .int .i64 low2, .bool neg2, .bool nn2]) (by kernel_rfl) (by kernel_rfl) (by kernel_rfl) (by kernel_rfl) (fun _ _ _ h => h) ?_ hS ?_
  · intro o ho
    simp only [List.getElem?_toArray, List.getElem?_cons_succ, List.getElem?_cons_zero, Option.some.injEq] at ho
    subst ho
    refine Or.inl ⟨by rfl, ?_⟩
    intro w hSw
    (try dsimp only at hSw)
    go_simp
  simp only [Act.put, List.setIfInBounds_toArray, List.set_cons_zero, List.set_cons_succ]
  refine take_at (i := 10) (d := some 46) (v := .agg #[.slice a3 n3 c3, .int .i64 low3, .bool neg3, .bool nn3]) (by kernel_rfl) (by kernel_rfl) (by kernel_rfl) (by kernel_rfl) (fun _ _ _ h => h) ?_ hS ?_
  · intro o ho
    simp only [List.getElem?_toArray, List.getElem?_cons_succ, List.getElem?_cons_zero, Option.some.injEq] at ho
    subst ho
    refine Or.inl ⟨by rfl, ?_⟩
    intro w hSw
    (try dsimp only at hSw)
    go_simp
  simp only [Act.put, List.setIfInBounds_toArray, List.set_cons_zero, List.set_cons_succ]
  refine take_at (i := 12) (d := some 48) (v := .agg #[.slice a4 n4 c4, .int .i64 low4, .bool neg4, .bool nn4]) (by kernel_rfl) (by kernel_rfl) (by kernel_rfl) (by kernel_rfl) (fun _ _ _ h => h) ?_ hS ?_
  · intro o ho
    simp only [List.getElem?_toArray, List.getElem?_cons_succ, List.getElem?_cons_zero, Option.some.injEq] at ho
    subst ho
    refine Or.inl ⟨by rfl, ?_⟩
    intro w hSw
    (try dsimp only at hSw)
    go_simp
  simp only [Act.put, List.setIfInBounds_toArray, List.set_cons_zero, List.set_cons_succ]
  refine take_at (i := 14) (d := some 50) (v := .agg #[.slice a2 n2 c2, .int .i64 low2, .bool neg2, .bool nn2]) (by kernel_rfl) (by kernel_rfl) (by kernel_rfl) (by kernel_rfl) (fun _ _ _ h => h) ?_ hS ?_
  · intro o ho
    simp only [List.getElem?_toArray, List.getElem?_cons_succ, List.getElem?_cons_zero, Option.some.injEq] at ho
    subst ho
    refine Or.inl ⟨by rfl, ?_⟩
    intro w hSw
    (try dsimp only at hSw)
    go_simp
  simp only [Act.put, List.setIfInBounds_toArray, List.set_cons_zero, List.set_cons_succ]
  refine take_at (i := 15) (d := some 51) (v := .agg #[.slice a3 n3 c3, .int .i64 low3, .bool neg3, .bool nn3]) (by kernel_rfl) (by kernel_rfl) (by kernel_rfl) (by kernel_rfl) (fun _ _ _ h => h) ?_ hS ?_
  · intro o ho
    simp only [List.getElem?_toArray, List.getElem?_cons_succ, List.getElem?_cons_zero, Option.some.injEq] at ho
    subst ho
    refine Or.inl ⟨by rfl, ?_⟩
    intro w hSw
    (try dsimp only at hSw)
    go_simp
  simp only [Act.put, List.setIfInBounds_toArray, List.set_cons_zero, List.set_cons_succ]
  refine take_at (i := 16) (d := some 52) (v := .agg #[.slice a4 n4 c4, .int .i64 low4, .bool neg4, .bool nn4]) (by kernel_rfl) (by kernel_rfl) (by kernel_rfl) (by kernel_rfl) (fun _ _ _ h => h) ?_ hS ?_
  · intro o ho
    simp only [List.getElem?_toArray, List.getElem?_cons_succ, List.getElem?_cons_zero, Option.some.injEq] at ho
    subst ho
    refine Or.inl ⟨by rfl, ?_⟩
    intro w hSw
    (try dsimp only at hSw)
    go_simp
  simp only [Act.put, List.setIfInBounds_toArray, List.set_cons_zero, List.set_cons_succ]
  refine call_at 11 (by kernel_rfl) (by kernel_rfl) ?_
  intro o ho
  simp only [List.getElem?_toArray, List.getElem?_cons_succ, List.getElem?_cons_zero, Option.some.injEq] at ho
  subst ho
  intro KF hK
  go_simp
  refine (add_any _ _ _ _ _ (HN2.out.later (keep12_bel hS)) (HN3.out.later (keep12_bel hS)) (HT.out.later (thru HBC.out (keep12_bel hS)))).mono ?_
  rintro e wx ⟨v47, y47, rfl, hn47, hy47, hbx⟩
  obtain ⟨a47, n47, c47, low47, neg47, nn47, rfl, hn47⟩ := isNum_form hn47
  have e47 := op2_may hy47 ((HD2.out.add HD3.out).may (by omega) (by omega))
  subst e47
  clear hy47
  go_wp2_with fail
  refine hK.out _ _ (keep12 hS hbx) ?_
  clear hS hbx
  intro hS
  clear hK KF
  try simp only [Act.put, List.setIfInBounds_toArray, List.set_cons_zero, List.set_cons_succ]
  refine call_at 13 (by kernel_rfl) (by kernel_rfl) ?_
  intro o ho
  simp only [List.getElem?_toArray, List.getElem?_cons_succ, List.getElem?_cons_zero, Option.some.injEq] at ho
  subst ho
  intro KF hK
  go_simp
  refine (add_any _ _ _ _ _ hn47 (HN4.out.later (keep12_bel hS)) (HT.out.later (thru HBC.out (keep12_bel hS)))).mono ?_
  rintro e wx ⟨v49, y49, rfl, hn49, hy49, hbx⟩
  obtain ⟨a49, n49, c49, low49, neg49, nn49, rfl, hn49⟩ := isNum_form hn49
  have e49 := op2_may hy49 (((HD2.out.add HD3.out).add (HD4.out.mono (h' := (2050)) (l' := (-2148)) (by omega) (by omega))).may (by omega) (by omega))
  subst e49
  clear hy49
  clear hn47
  go_wp2_with fail
  refine hK.out _ _ (keep12 hS hbx) ?_
  clear hS hbx
  intro hS
  clear hK KF
  try simp only [Act.put, List.setIfInBounds_toArray, List.set_cons_zero, List.set_cons_succ]
  refine call_at 17 (by kernel_rfl) (by kernel_rfl) ?_
  intro o ho
  simp only [List.getElem?_toArray, List.getElem?_cons_succ, List.getElem?_cons_zero, Option.some.injEq] at ho
  subst ho
  intro KF hK
  go_simp
  refine (add_any _ _ _ _ _ (HN3.out.later (keep12_bel hS)) (HN4.out.later (keep12_bel hS)) (HT.out.later (thru HBC.out (keep12_bel hS)))).mono ?_
  rintro e wx ⟨v53, y53, rfl, hn53, hy53, hbx⟩
  obtain ⟨a53, n53, c53, low53, neg53, nn53, rfl, hn53⟩ := isNum_form hn53
  have e53 := op2_may hy53 ((HD3.out.add HD4.out).may (by omega) (by omega))
  subst e53
  clear hy53
  have hn49 := hn49.later hbx
  go_wp2_with fail
  refine hK.out _ _ (keep12 hS hbx) ?_
  clear hS hbx
  intro hS
  clear hK KF
  try simp only [Act.put, List.setIfInBounds_toArray, List.set_cons_zero, List.set_cons_succ]
  refine call_at 18 (by kernel_rfl) (by kernel_rfl) ?_
  intro o ho
  simp only [List.getElem?_toArray, List.getElem?_cons_succ, List.getElem?_cons_zero, Option.some.injEq] at ho
  subst ho
  intro KF hK
  go_simp
  refine (add_any _ _ _ _ _ (HN2.out.later (keep12_bel hS)) hn53 (HT.out.later (thru HBC.out (keep12_bel hS)))).mono ?_
  rintro e wx ⟨v54, y54, rfl, hn54, hy54, hbx⟩
  obtain ⟨a54, n54, c54, low54, neg54, nn54, rfl, hn54⟩ := isNum_form hn54
  have e54 := op2_may hy54 (((HD2.out.mono (h' := (2050)) (l' := (-2148)) (by omega) (by omega)).add (HD3.out.add HD4.out)).may (by omega) (by omega))
  subst e54
  clear hy54
  have hn49 := hn49.later hbx
  clear hn53
  go_wp2_with fail
  refine hK.out _ _ (keep12 hS hbx) ?_
  clear hS hbx
  intro hS
  clear hK KF
  try simp only [Act.put, List.setIfInBounds_toArray, List.set_cons_zero, List.set_cons_succ]
  refine call_at 19 (by kernel_rfl) (by kernel_rfl) ?_
  intro o ho
  simp only [List.getElem?_toArray, List.getElem?_cons_succ, List.getElem?_cons_zero, Option.some.injEq] at ho
  subst ho
  intro KF hK
  go_simp
  refine (cmp_any _ _ _ _ _ hn49 hn54).mono ?_
  rw [show CmpX (some ((A + B) + C)) (some (A + (B + C))) = 0 from cmp_zero (by grind)]
  rintro e wx ⟨rfl, hbx⟩
  clear hn49
  clear hn54
  go_wp2_with fail
  refine hK.out _ _ (keep12 hS hbx) ?_
  clear hS hbx
  intro hS
  clear hK KF
  try simp only [Act.put, List.setIfInBounds_toArray, List.set_cons_zero, List.set_cons_succ]
  refine take_at (i := 20) (d := some 56) (v := .bool true) (by kernel_rfl) (by kernel_rfl) (by kernel_rfl) (by kernel_rfl) (fun _ _ _ h => h) ?_ hS ?_
  · intro o ho
    simp only [List.getElem?_toArray, List.getElem?_cons_succ, List.getElem?_cons_zero, Option.some.injEq] at ho
    subst ho
    refine Or.inl ⟨by rfl, ?_⟩
    intro w hSw
    (try dsimp only at hSw)
    go_simp
  simp only [Act.put, List.setIfInBounds_toArray, List.set_cons_zero, List.set_cons_succ]
  refine take_at (i := 21) (d := some 57) (v := .bool true) (by kernel_rfl) (by kernel_rfl) (by kernel_rfl) (by kernel_rfl) (fun _ _ _ h => h) ?_ hS ?_
  · intro o ho
    simp only [List.getElem?_toArray, List.getElem?_cons_succ, List.getElem?_cons_zero, Option.some.injEq] at ho
    subst ho
    refine Or.inl ⟨by rfl, ?_⟩
    intro w hSw
    (try dsimp only at hSw)
    go_simp
  simp only [Act.put, List.setIfInBounds_toArray, List.set_cons_zero, List.set_cons_succ]
  refine take_at (i := 22) (d := some 58) (v := .bool true) (by kernel_rfl) (by kernel_rfl) (by kernel_rfl) (by kernel_rfl) (fun _ _ _ h => h) ?_ hS ?_
  · intro o ho
    simp only [List.getElem?_toArray, List.getElem?_cons_succ, List.getElem?_cons_zero, Option.some.injEq] at ho
    subst ho
    refine Or.inl ⟨by rfl, ?_⟩
    intro w hSw
    (try dsimp only at hSw)
    go_simp
  simp only [Act.put, List.setIfInBounds_toArray, List.set_cons_zero, List.set_cons_succ]
  refine take_at (i := 23) (d := some 59) (v := .agg #[.slice a2 n2 c2, .int .i64 low2, .bool neg2, .bool nn2]) (by kernel_rfl) (by kernel_rfl) (by kernel_rfl) (by kernel_rfl) (fun _ _ _ h => h) ?_ hS ?_
  · intro o ho
    simp only [List.getElem?_toArray, List.getElem?_cons_succ, List.getElem?_cons_zero, Option.some.injEq] at ho
    subst ho
    refine Or.inl ⟨by rfl, ?_⟩
    intro w hSw
    (try dsimp only at hSw)
    go_simp
  simp only [Act.put, List.setIfInBounds_toArray, List.set_cons_zero, List.set_cons_succ]
  refine take_at (i := 24) (d := some 60) (v := .agg #[.slice a3 n3 c3, .int .i64 low3, .bool neg3, .bool nn3]) (by kernel_rfl) (by kernel_rfl) (by kernel_rfl) (by kernel_rfl) (fun _ _ _ h => h) ?_ hS ?_
  · intro o ho
    simp only [List.getElem?_toArray, List.getElem?_cons_succ, List.getElem?_cons_zero, Option.some.injEq] at ho
    subst ho
    refine Or.inl ⟨by rfl, ?_⟩
    intro w hSw
    (try dsimp only at hSw)
    go_simp
  simp only [Act.put, List.setIfInBounds_toArray, List.set_cons_zero, List.set_cons_succ]
  refine take_at (i := 26) (d := some 62) (v := .agg #[.slice a3 n3 c3, .int .i64 low3, .bool neg3, .bool nn3]) (by kernel_rfl) (by kernel_rfl) (by kernel_rfl) (by kernel_rfl) (fun _ _ _ h => h) ?_ hS ?_
  · intro o ho
    simp only [List.getElem?_toArray, List.getElem?_cons_succ, List.getElem?_cons_zero, Option.some.injEq] at ho
    subst ho
    refine Or.inl ⟨by rfl, ?_⟩
    intro w hSw
    (try dsimp only at hSw)
    go_simp
  simp only [Act.put, List.setIfInBounds_toArray, List.set_cons_zero, List.set_cons_succ]
  refine take_at (i := 28) (d := some 64) (v := .agg #[.slice a2 n2 c2, .int .i64 low2, .bool neg2, .bool nn2]) (by kernel_rfl) (by kernel_rfl) (by kernel_rfl) (by kernel_rfl) (fun _ _ _ h => h) ?_ hS ?_
  · intro o ho
    simp only [List.getElem?_toArray, List.getElem?_cons_succ, List.getElem?_cons_zero, Option.some.injEq] at ho
    subst ho
    refine Or.inl ⟨by rfl, ?_⟩
    intro w hSw
    (try dsimp only at hSw)
    go_simp
  simp only [Act.put, List.setIfInBounds_toArray, List.set_cons_zero, List.set_cons_succ]
  refine call_at 25 (by kernel_rfl) (by kernel_rfl) ?_
  intro o ho
  simp only [List.getElem?_toArray, List.getElem?_cons_succ, List.getElem?_cons_zero, Option.some.injEq] at ho
  subst ho
  intro KF hK
  go_simp
  refine (add_any _ _ _ _ _ (HN2.out.later (keep12_bel hS)) (HN3.out.later (keep12_bel hS)) (HT.out.later (thru HBC.out (keep12_bel hS)))).mono ?_
  rintro e wx ⟨v61, y61, rfl, hn61, hy61, hbx⟩
  obtain ⟨a61, n61, c61, low61, neg61, nn61, rfl, hn61⟩ := isNum_form hn61
  have e61 := op2_may hy61 ((HD2.out.add HD3.out).may (by omega) (by omega))
  subst e61
  clear hy61
  go_wp2_with fail
  refine hK.out _ _ (keep12 hS hbx) ?_
  clear hS hbx
  intro hS
  clear hK KF
  try simp only [Act.put, List.setIfInBounds_toArray, List.set_cons_zero, List.set_cons_succ]
  refine call_at 27 (by kernel_rfl) (by kernel_rfl) ?_
  intro o ho
  simp only [List.getElem?_toArray, List.getElem?_cons_succ, List.getElem?_cons_zero, Option.some.injEq] at ho
  subst ho
  intro KF hK
  go_simp
  refine (sub_any _ _ _ _ _ hn61 (HN3.out.later (keep12_bel hS)) (HT.out.later (thru HBC.out (keep12_bel hS)))).mono ?_
  rintro e wx ⟨v63, y63, rfl, hn63, hy63, hbx⟩
  obtain ⟨a63, n63, c63, low63, neg63, nn63, rfl, hn63⟩ := isNum_form hn63
  have e63 := op2_may hy63 (((HD2.out.add HD3.out).sub (HD3.out.mono (h' := (2050)) (l' := (-2148)) (by omega) (by omega))).may (by omega) (by omega))
  subst e63
  clear hy63
  clear hn61
  go_wp2_with fail
  refine hK.out _ _ (keep12 hS hbx) ?_
  clear hS hbx
  intro hS
  clear hK KF
  try simp only [Act.put, List.setIfInBounds_toArray, List.set_cons_zero, List.set_cons_succ]
  refine call_at 29 (by kernel_rfl) (by kernel_rfl) ?_
  intro o ho
  simp only [List.getElem?_toArray, List.getElem?_cons_succ, List.getElem?_cons_zero, Option.some.injEq] at ho
  subst ho
  intro KF hK
  go_simp
  refine (cmp_any _ _ _ _ _ hn63 (HN2.out.later (keep12_bel hS))).mono ?_
  rw [show CmpX (some ((A + B) - B)) (some A) = 0 from cmp_zero (by grind)]
  rintro e wx ⟨rfl, hbx⟩
  clear hn63
  go_wp2_with fail
  refine hK.out _ _ (keep12 hS hbx) ?_
  clear hS hbx
  intro hS
  clear hK KF
  try simp only [Act.put, List.setIfInBounds_toArray, List.set_cons_zero, List.set_cons_succ]
  refine take_at (i := 30) (d := some 66) (v := .bool true) (by kernel_rfl) (by kernel_rfl) (by kernel_rfl) (by kernel_rfl) (fun _ _ _ h => h) ?_ hS ?_
  · intro o ho
    simp only [List.getElem?_toArray, List.getElem?_cons_succ, List.getElem?_cons_zero, Option.some.injEq] at ho
    subst ho
    refine Or.inl ⟨by rfl, ?_⟩
    intro w hSw
    (try dsimp only at hSw)
    go_simp
  simp only [Act.put, List.setIfInBounds_toArray, List.set_cons_zero, List.set_cons_succ]
  refine take_at (i := 31) (d := some 67) (v := .bool true) (by kernel_rfl) (by kernel_rfl) (by kernel_rfl) (by kernel_rfl) (fun _ _ _ h => h) ?_ hS ?_
  · intro o ho
    simp only [List.getElem?_toArray, List.getElem?_cons_succ, List.getElem?_cons_zero, Option.some.injEq] at ho
    subst ho
    refine Or.inl ⟨by rfl, ?_⟩
    intro w hSw
    (try dsimp only at hSw)
    go_simp
  simp only [Act.put, List.setIfInBounds_toArray, List.set_cons_zero, List.set_cons_succ]
  refine take_at (i := 32) (d := some 68) (v := .bool true) (by kernel_rfl) (by kernel_rfl) (by kernel_rfl) (by kernel_rfl) (fun _ _ _ h => h) ?_ hS ?_
  · intro o ho
    simp only [List.getElem?_toArray, List.getElem?_cons_succ, List.getElem?_cons_zero, Option.some.injEq] at ho
    subst ho
    refine Or.inl ⟨by rfl, ?_⟩
    intro w hSw
    (try dsimp only at hSw)
    go_simp
  simp only [Act.put, List.setIfInBounds_toArray, List.set_cons_zero, List.set_cons_succ]
  refine take_at (i := 33) (d := some 69) (v := .agg #[.slice a2 n2 c2, .int .i64 low2, .bool neg2, .bool nn2]) (by kernel_rfl) (by kernel_rfl) (by kernel_rfl) (by kernel_rfl) (fun _ _ _ h => h) ?_ hS ?_
  · intro o ho
    simp only [List.getElem?_toArray, List.getElem?_cons_succ, List.getElem?_cons_zero, Option.some.injEq] at ho
    subst ho
    refine Or.inl ⟨by rfl, ?_⟩
    intro w hSw
    (try dsimp only at hSw)
    go_simp
  simp only [Act.put, List.setIfInBounds_toArray, List.set_cons_zero, List.set_cons_succ]
  refine take_at (i := 34) (d := some 70) (v := .agg #[.slice a2 n2 c2, .int .i64 low2, .bool neg2, .bool nn2]) (by kernel_rfl) (by kernel_rfl) (by kernel_rfl) (by kernel_rfl) (fun _ _ _ h => h) ?_ hS ?_
  · intro o ho
    simp only [List.getElem?_toArray, List.getElem?_cons_succ, List.getElem?_cons_zero, Option.some.injEq] at ho
    subst ho
    refine Or.inl ⟨by rfl, ?_⟩
    intro w hSw
    (try dsimp only at hSw)
    go_simp
  simp only [Act.put, List.setIfInBounds_toArray, List.set_cons_zero, List.set_cons_succ]
  refine call_at 35 (by kernel_rfl) (by kernel_rfl) ?_
  intro o ho
  simp only [List.getElem?_toArray, List.getElem?_cons_succ, List.getElem?_cons_zero, Option.some.injEq] at ho
  subst ho
  intro KF hK
  go_simp
  refine (sub_any _ _ _ _ _ (HN2.out.later (keep12_bel hS)) (HN2.out.later (keep12_bel hS)) (HT.out.later (thru HBC.out (keep12_bel hS)))).mono ?_
  rintro e wx ⟨v71, y71, rfl, hn71, hy71, hbx⟩
  obtain ⟨a71, n71, c71, low71, neg71, nn71, rfl, hn71⟩ := isNum_form hn71
  have e71 := op2_may hy71 ((HD2.out.sub HD2.out).may (by omega) (by omega))
  subst e71
  clear hy71
  go_wp2_with fail
  refine hK.out _ _ (keep12 hS hbx) ?_
  clear hS hbx
  intro hS
  clear hK KF
  try simp only [Act.put, List.setIfInBounds_toArray, List.set_cons_zero, List.set_cons_succ]
  refine call_at 36 (by kernel_rfl) (by kernel_rfl) ?_
  intro o ho
  simp only [List.getElem?_toArray, List.getElem?_cons_succ, List.getElem?_cons_zero, Option.some.injEq] at ho
  subst ho
  intro KF hK
  go_simp
  refine (sign_any _ _ _ hn71).mono ?_
  rw [show sgnR ((some (A - A)).getD 0) = 0 from sgn_nil (by grind)]
  rintro e wx ⟨rfl, hbx⟩
  clear hn71
  go_wp2_with fail
  refine hK.out _ _ (keep12 hS hbx) ?_
  clear hS hbx
  intro hS
  clear hK KF
  try simp only [Act.put, List.setIfInBounds_toArray, List.set_cons_zero, List.set_cons_succ]
  refine take_at (i := 37) (d := some 73) (v := .bool true) (by kernel_rfl) (by kernel_rfl) (by kernel_rfl) (by kernel_rfl) (fun _ _ _ h => h) ?_ hS ?_
  · intro o ho
    simp only [List.getElem?_toArray, List.getElem?_cons_succ, List.getElem?_cons_zero, Option.some.injEq] at ho
    subst ho
    refine Or.inl ⟨by rfl, ?_⟩
    intro w hSw
    (try dsimp only at hSw)
    go_simp
  simp only [Act.put, List.setIfInBounds_toArray, List.set_cons_zero, List.set_cons_succ]
  refine take_at (i := 38) (d := some 74) (v := .bool true) (by kernel_rfl) (by kernel_rfl) (by kernel_rfl) (by kernel_rfl) (fun _ _ _ h => h) ?_ hS ?_
  · intro o ho
    simp only [List.getElem?_toArray, List.getElem?_cons_succ, List.getElem?_cons_zero, Option.some.injEq] at ho
    subst ho
    refine Or.inl ⟨by rfl, ?_⟩
    intro w hSw
    (try dsimp only at hSw)
    go_simp
  simp only [Act.put, List.setIfInBounds_toArray, List.set_cons_zero, List.set_cons_succ]
  refine take_at (i := 39) (d := some 8) (v := .bool true) (by kernel_rfl) (by kernel_rfl) (by kernel_rfl) (by kernel_rfl) (fun _ _ _ h => h) ?_ hS ?_
  · intro o ho
    simp only [List.getElem?_toArray, List.getElem?_cons_succ, List.getElem?_cons_zero, Option.some.injEq] at ho
    subst ho
    refine Or.inl ⟨by rfl, ?_⟩
    intro w hSw
    (try dsimp only at hSw)
    go_simp
  simp only [Act.put, List.setIfInBounds_toArray, List.set_cons_zero, List.set_cons_succ]
  refine wpAnyH_done (by kernel_rfl) ?_ _
  go_wp2_with fail
  refine wp_region_held_drew (S := (fun W => W.cell? ⟨w2.heap.size, 0, none⟩ = some (.slice a2 n2 c2) ∧ W.cell? ⟨w2.heap.size, 1, none⟩ = some (.int .i64 low2) ∧ W.cell? ⟨w2.heap.size, 2, none⟩ = some (.bool neg2) ∧ W.cell? ⟨w2.heap.size, 3, none⟩ = some (.bool nn2) ∧ W.cell? ⟨w3.heap.size, 0, none⟩ = some (.slice a3 n3 c3) ∧ W.cell? ⟨w3.heap.size, 1, none⟩ = some (.int .i64 low3) ∧ W.cell? ⟨w3.heap.size, 2, none⟩ = some (.bool neg3) ∧ W.cell? ⟨w3.heap.size, 3, none⟩ = some (.bool nn3) ∧ W.cell? ⟨w4.heap.size, 0, none⟩ = some (.slice a4 n4 c4) ∧ W.cell? ⟨w4.heap.size, 1, none⟩ = some (.int .i64 low4) ∧ W.cell? ⟨w4.heap.size, 2, none⟩ = some (.bool neg4) ∧ W.cell? ⟨w4.heap.size, 3, none⟩ = some (.bool nn4) ∧ Below wq.heap.size wq W)) (by kernel_rfl) (keep12 hS (Below.refl _ _).drew) (fun hS => ?_)
  refine take_at (i := 0) (d := some 75) (v := .agg #[.slice a2 n2 c2, .int .i64 low2, .bool neg2, .bool nn2]) (by kernel_rfl) (by kernel_rfl) (by kernel_rfl) (by kernel_rfl) (fun _ _ _ h => h) ?_ hS ?_
  · intro o ho
    simp only [List.getElem?_toArray, List.getElem?_cons_zero, Option.some.injEq] at ho
    subst ho
    refine Or.inl ⟨by rfl, ?_⟩
    intro w hSw
    (try dsimp only at hSw)
    go_simp
  simp only [Act.put, List.setIfInBounds_toArray, List.set_cons_zero, List.set_cons_succ]
  refine take_at (i := 1) (d := some 76) (v := .agg #[.slice a3 n3 c3, .int .i64 low3, .bool neg3, .bool nn3]) (by kernel_rfl) (by kernel_rfl) (by kernel_rfl) (by kernel_rfl) (fun _ _ _ h => h) ?_ hS ?_
  · intro o ho
    simp only [List.getElem?_toArray, List.getElem?_cons_succ, List.getElem?_cons_zero, Option.some.injEq] at ho
    subst ho
    refine Or.inl ⟨by rfl, ?_⟩
    intro w hSw
    (try dsimp only at hSw)
    go_simp
  simp only [Act.put, List.setIfInBounds_toArray, List.set_cons_zero, List.set_cons_succ]
  refine take_at (i := 3) (d := some 78) (v := .agg #[.slice a3 n3 c3, .int .i64 low3, .bool neg3, .bool nn3]) (by kernel_rfl) (by kernel_rfl) (by kernel_rfl) (by kernel_rfl) (fun _ _ _ h => h) ?_ hS ?_
  · intro o ho
    simp only [List.getElem?_toArray, List.getElem?_cons_succ, List.getElem?_cons_zero, Option.some.injEq] at ho
    subst ho
    refine Or.inl ⟨by rfl, ?_⟩
    intro w hSw
    (try dsimp only at hSw)
    go_simp
  simp only [Act.put, List.setIfInBounds_toArray, List.set_cons_zero, List.set_cons_succ]
  refine take_at (i := 4) (d := some 79) (v := .agg #[.slice a2 n2 c2, .int .i64 low2, .bool neg2, .bool nn2]) (by kernel_rfl) (by kernel_rfl) (by kernel_rfl) (by kernel_rfl) (fun _ _ _ h => h) ?_ hS ?_
  · intro o ho
    simp only [List.getElem?_toArray, List.getElem?_cons_succ, List.getElem?_cons_zero, Option.some.injEq] at ho
    subst ho
    refine Or.inl ⟨by rfl, ?_⟩
    intro w hSw
    (try dsimp only at hSw)
    go_simp
  simp only [Act.put, List.setIfInBounds_toArray, List.set_cons_zero, List.set_cons_succ]
  refine call_at 2 (by kernel_rfl) (by kernel_rfl) ?_
  intro o ho
  simp only [List.getElem?_toArray, List.getElem?_cons_succ, List.getElem?_cons_zero, Option.some.injEq] at ho
  subst ho
  intro KF hK
  go_simp
  refine (mul_any _ _ _ _ _ (HN2.out.later (keep12_bel hS)) (HN3.out.later (keep12_bel hS)) (HT.out.later (thru HBC.out (keep12_bel hS)))).mono ?_
  rintro e wx ⟨v77, y77, rfl, hn77, hy77, hbx⟩
  obtain ⟨a77, n77, c77, low77, neg77, nn77, rfl, hn77⟩ := isNum_form hn77
  have e77 := op2_may hy77 ((HD2.out.mul HD3.out).may (by omega) (by omega))
  subst e77
  clear hy77
  go_wp2_with fail
  refine hK.out _ _ (keep12 hS hbx) ?_
  clear hS hbx
  intro hS
  clear hK KF
  try simp only [Act.put, List.setIfInBounds_toArray, List.set_cons_zero, List.set_cons_succ]
  refine call_at 5 (by kernel_rfl) (by kernel_rfl) ?_
  intro o ho
  simp only [List.getElem?_toArray, List.getElem?_cons_succ, List.getElem?_cons_zero, Option.some.injEq] at ho
  subst ho
  intro KF hK
  go_simp
  refine (mul_any _ _ _ _ _ (HN3.out.later (keep12_bel hS)) (HN2.out.later (keep12_bel hS)) (HT.out.later (thru HBC.out (keep12_bel hS)))).mono ?_
  rintro e wx ⟨v80, y80, rfl, hn80, hy80, hbx⟩
  obtain ⟨a80, n80, c80, low80, neg80, nn80, rfl, hn80⟩ := isNum_form hn80
  have e80 := op2_may hy80 ((HD3.out.mul HD2.out).may (by omega) (by omega))
  subst e80
  clear hy80
  have hn77 := hn77.later hbx
  go_wp2_with fail
  refine hK.out _ _ (keep12 hS hbx) ?_
  clear hS hbx
  intro hS
  clear hK KF
  try simp only [Act.put, List.setIfInBounds_toArray, List.set_cons_zero, List.set_cons_succ]
  refine call_at 6 (by kernel_rfl) (by kernel_rfl) ?_
  intro o ho
  simp only [List.getElem?_toArray, List.getElem?_cons_succ, List.getElem?_cons_zero, Option.some.injEq] at ho
  subst ho
  intro KF hK
  go_simp
  refine (cmp_any _ _ _ _ _ hn77 hn80).mono ?_
  rw [show CmpX (some (A * B)) (some (B * A)) = 0 from cmp_zero (by grind)]
  rintro e wx ⟨rfl, hbx⟩
  clear hn77
  clear hn80
  go_wp2_with fail
  refine hK.out _ _ (keep12 hS hbx) ?_
  clear hS hbx
  intro hS
  clear hK KF
  try simp only [Act.put, List.setIfInBounds_toArray, List.set_cons_zero, List.set_cons_succ]
  refine take_at (i := 7) (d := some 82) (v := .bool true) (by kernel_rfl) (by kernel_rfl) (by kernel_rfl) (by kernel_rfl) (fun _ _ _ h => h) ?_ hS ?_
  · intro o ho
    simp only [List.getElem?_toArray, List.getElem?_cons_succ, List.getElem?_cons_zero, Option.some.injEq] at ho
    subst ho
    refine Or.inl ⟨by rfl, ?_⟩
    intro w hSw
    (try dsimp only at hSw)
    go_simp
  simp only [Act.put, List.setIfInBounds_toArray, List.set_cons_zero, List.set_cons_succ]
  refine take_at (i := 8) (d := some 83) (v := .bool true) (by kernel_rfl) (by kernel_rfl) (by kernel_rfl) (by kernel_rfl) (fun _ _ _ h => h) ?_ hS ?_
  · intro o ho
    simp only [List.getElem?_toArray, List.getElem?_cons_succ, List.getElem?_cons_zero, Option.some.injEq] at ho
    subst ho
    refine Or.inl ⟨by rfl, ?_⟩
    intro w hSw
    (try dsimp only at hSw)
    go_simp
  simp only [Act.put, List.setIfInBounds_toArray, List.set_cons_zero, List.set_cons_succ]
  refine take_at (i := 9) (d := some 84) (v := .agg #[.slice a2 n2 c2, .int .i64 low2, .bool neg2, .bool nn2]) (by kernel_rfl) (by kernel_rfl) (by kernel_rfl) (by kernel_rfl) (fun _ _ _ h => h) ?_ hS ?_
  · intro o ho
    simp only [List.getElem?_toArray, List.getElem?_cons_succ, List.getElem?_cons_zero, Option.some.injEq] at ho
    subst ho
    refine Or.inl ⟨by rfl, ?_⟩
    intro w hSw
    (try dsimp only at hSw)
    go_simp
  simp only [Act.put, List.setIfInBounds_toArray, List.set_cons_zero, List.set_cons_succ]
  refine take_at (i := 10) (d := some 85) (v := .agg #[.slice a3 n3 c3, .int .i64 low3, .bool neg3, .bool nn3]) (by kernel_rfl) (by kernel_rfl) (by kernel_rfl) (by kernel_rfl) (fun _ _ _ h => h) ?_ hS ?_
  · intro o ho
    simp only [List.getElem?_toArray, List.getElem?_cons_succ, List.getElem?_cons_zero, Option.some.injEq] at ho
    subst ho
    refine Or.inl ⟨by rfl, ?_⟩
    intro w hSw
    (try dsimp only at hSw)
    go_simp
  simp only [Act.put, List.setIfInBounds_toArray, List.set_cons_zero, List.set_cons_succ]
  refine take_at (i := 12) (d := some 87) (v := .agg #[.slice a4 n4 c4, .int .i64 low4, .bool neg4, .bool nn4]) (by kernel_rfl) (by kernel_rfl) (by kernel_rfl) (by kernel_rfl) (fun _ _ _ h => h) ?_ hS ?_
  · intro o ho
    simp only [List.getElem?_toArray, List.getElem?_cons_succ, List.getElem?_cons_zero, Option.some.injEq] at ho
    subst ho
    refine Or.inl ⟨by rfl, ?_⟩
    intro w hSw
    (try dsimp only at hSw)
    go_simp
  simp only [Act.put, List.setIfInBounds_toArray, List.set_cons_zero, List.set_cons_succ]
  refine take_at (i := 14) (d := some 89) (v := .agg #[.slice a2 n2 c2, .int .i64 low2, .bool neg2, .bool nn2]) (by kernel_rfl) (by kernel_rfl) (by kernel_rfl) (by kernel_rfl) (fun _ _ _ h => h) ?_ hS ?_
  · intro o ho
    simp only [List.getElem?_toArray, List.getElem?_cons_succ, List.getElem?_cons_zero, Option.some.injEq] at ho
    subst ho
    refine Or.inl ⟨by rfl, ?_⟩
    intro w hSw
    (try dsimp only at hSw)
    go_simp
  simp only [Act.put, List.setIfInBounds_toArray, List.set_cons_zero, List.set_cons_succ]
  refine take_at (i := 15) (d := some 90) (v := .agg #[.slice a3 n3 c3, .int .i64 low3, .bool neg3, .bool nn3]) (by kernel_rfl) (by kernel_rfl) (by kernel_rfl) (by kernel_rfl) (fun _ _ _ h => h) ?_ hS ?_
  · intro o ho
    simp only [List.getElem?_toArray, List.getElem?_cons_succ, List.getElem?_cons_zero, Option.some.injEq] at ho
    subst ho
    refine Or.inl ⟨by rfl, ?_⟩
    intro w hSw
    (try dsimp only at hSw)
    go_simp
  simp only [Act.put, List.setIfInBounds_toArray, List.set_cons_zero, List.set_cons_succ]
  refine take_at (i := 16) (d := some 91) (v := .agg #[.slice a4 n4 c4, .int .i64 low4, .bool neg4, .bool nn4]) (by kernel_rfl) (by kernel_rfl) (by kernel_rfl) (by kernel_rfl) (fun _ _ _ h => h) ?_ hS ?_
  · intro o ho
    simp only [List.getElem?_toArray, List.getElem?_cons_succ, List.getElem?_cons_zero, Option.some.injEq] at ho
    subst ho
    refine Or.inl ⟨by rfl, ?_⟩
    intro w hSw
    (try dsimp only at hSw)
    go_simp
  simp only [Act.put, List.setIfInBounds_toArray, List.set_cons_zero, List.set_cons_succ]
  refine call_at 11 (by kernel_rfl) (by kernel_rfl) ?_
  intro o ho
  simp only [List.getElem?_toArray, List.getElem?_cons_succ, List.getElem?_cons_zero, Option.some.injEq] at ho
  subst ho
  intro KF hK
  go_simp
  refine (mul_any _ _ _ _ _ (HN2.out.later (keep12_bel hS)) (HN3.out.later (keep12_bel hS)) (HT.out.later (thru HBC.out (keep12_bel hS)))).mono ?_
  rintro e wx ⟨v86, y86, rfl, hn86, hy86, hbx⟩
  obtain ⟨a86, n86, c86, low86, neg86, nn86, rfl, hn86⟩ := isNum_form hn86
  have e86 := op2_may hy86 ((HD2.out.mul HD3.out).may (by omega) (by omega))
  subst e86
  clear hy86
  go_wp2_with fail
  refine hK.out _ _ (keep12 hS hbx) ?_
  clear hS hbx
  intro hS
  clear hK KF
  try simp only [Act.put, List.setIfInBounds_toArray, List.set_cons_zero, List.set_cons_succ]
  refine call_at 13 (by kernel_rfl) (by kernel_rfl) ?_
  intro o ho
  simp only [List.getElem?_toArray, List.getElem?_cons_succ, List.getElem?_cons_zero, Option.some.injEq] at ho
  subst ho
  intro KF hK
  go_simp
  refine (mul_any _ _ _ _ _ hn86 (HN4.out.later (keep12_bel hS)) (HT.out.later (thru HBC.out (keep12_bel hS)))).mono ?_
  rintro e wx ⟨v88, y88, rfl, hn88, hy88, hbx⟩
  obtain ⟨a88, n88, c88, low88, neg88, nn88, rfl, hn88⟩ := isNum_form hn88
  have e88 := op2_may hy88 (((HD2.out.mul HD3.out).mul HD4.out).may (by omega) (by omega))
  subst e88
  clear hy88
  clear hn86
  go_wp2_with fail
  refine hK.out _ _ (keep12 hS hbx) ?_
  clear hS hbx
  intro hS
  clear hK KF
  try simp only [Act.put, List.setIfInBounds_toArray, List.set_cons_zero, List.set_cons_succ]
  refine call_at 17 (by kernel_rfl) (by kernel_rfl) ?_
  intro o ho
  simp only [List.getElem?_toArray, List.getElem?_cons_succ, List.getElem?_cons_zero, Option.some.injEq] at ho
  subst ho
  intro KF hK
  go_simp
  refine (mul_any _ _ _ _ _ (HN3.out.later (keep12_bel hS)) (HN4.out.later (keep12_bel hS)) (HT.out.later (thru HBC.out (keep12_bel hS)))).mono ?_
  rintro e wx ⟨v92, y92, rfl, hn92, hy92, hbx⟩
  obtain ⟨a92, n92, c92, low92, neg92, nn92, rfl, hn92⟩ := isNum_form hn92
  have e92 := op2_may hy92 ((HD3.out.mul HD4.out).may (by omega) (by omega))
  subst e92
  clear hy92
  have hn88 := hn88.later hbx
  go_wp2_with fail
  refine hK.out _ _ (keep12 hS hbx) ?_
  clear hS hbx
  intro hS
  clear hK KF
  try simp only [Act.put, List.setIfInBounds_toArray, List.set_cons_zero, List.set_cons_succ]
  refine call_at 18 (by kernel_rfl) (by kernel_rfl) ?_
  intro o ho
  simp only [List.getElem?_toArray, List.getElem?_cons_succ, List.getElem?_cons_zero, Option.some.injEq] at ho
  subst ho
  intro KF hK
  go_simp
  refine (mul_any _ _ _ _ _ (HN2.out.later (keep12_bel hS)) hn92 (HT.out.later (thru HBC.out (keep12_bel hS)))).mono ?_
  rintro e wx ⟨v93, y93, rfl, hn93, hy93, hbx⟩
  obtain ⟨a93, n93, c93, low93, neg93, nn93, rfl, hn93⟩ := isNum_form hn93
  have e93 := op2_may hy93 ((HD2.out.mul (HD3.out.mul HD4.out)).may (by omega) (by omega))
  subst e93
  clear hy93
  have hn88 := hn88.later hbx
  clear hn92
  go_wp2_with fail
  refine hK.out _ _ (keep12 hS hbx) ?_
  clear hS hbx
  intro hS
  clear hK KF
  try simp only [Act.put, List.setIfInBounds_toArray, List.set_cons_zero, List.set_cons_succ]
  refine call_at 19 (by kernel_rfl) (by kernel_rfl) ?_
  intro o ho
  simp only [List.getElem?_toArray, List.getElem?_cons_succ, List.getElem?_cons_zero, Option.some.injEq] at ho
  subst ho
  intro KF hK
  go_simp
  refine (cmp_any _ _ _ _ _ hn88 hn93).mono ?_
  rw [show CmpX (some ((A * B) * C)) (some (A * (B * C))) = 0 from cmp_zero (by grind)]
  rintro e wx ⟨rfl, hbx⟩
  clear hn88
  clear hn93
  go_wp2_with fail
  refine hK.out _ _ (keep12 hS hbx) ?_
  clear hS hbx
  intro hS
  clear hK KF
  try simp only [Act.put, List.setIfInBounds_toArray, List.set_cons_zero, List.set_cons_succ]
  refine take_at (i := 20) (d := some 95) (v := .bool true) (by kernel_rfl) (by kernel_rfl) (by kernel_rfl) (by kernel_rfl) (fun _ _ _ h => h) ?_ hS ?_
  · intro o ho
    simp only [List.getElem?_toArray, List.getElem?_cons_succ, List.getElem?_cons_zero, Option.some.injEq] at ho
    subst ho
    refine Or.inl ⟨by rfl, ?_⟩
    intro w hSw
    (try dsimp only at hSw)
    go_simp
  simp only [Act.put, List.setIfInBounds_toArray, List.set_cons_zero, List.set_cons_succ]
  refine take_at (i := 21) (d := some 96) (v := .bool true) (by kernel_rfl) (by kernel_rfl) (by kernel_rfl) (by kernel_rfl) (fun _ _ _ h => h) ?_ hS ?_
  · intro o ho
    simp only [List.getElem?_toArray, List.getElem?_cons_succ, List.getElem?_cons_zero, Option.some.injEq] at ho
    subst ho
    refine Or.inl ⟨by rfl, ?_⟩
    intro w hSw
    (try dsimp only at hSw)
    go_simp
  simp only [Act.put, List.setIfInBounds_toArray, List.set_cons_zero, List.set_cons_succ]
  refine take_at (i := 22) (d := some 97) (v := .bool true) (by kernel_rfl) (by kernel_rfl) (by kernel_rfl) (by kernel_rfl) (fun _ _ _ h => h) ?_ hS ?_
  · intro o ho
    simp only [List.getElem?_toArray, List.getElem?_cons_succ, List.getElem?_cons_zero, Option.some.injEq] at ho
    subst ho
    refine Or.inl ⟨by rfl, ?_⟩
    intro w hSw
    (try dsimp only at hSw)
    go_simp
  simp only [Act.put, List.setIfInBounds_toArray, List.set_cons_zero, List.set_cons_succ]
  refine take_at (i := 23) (d := some 98) (v := .agg #[.slice a2 n2 c2, .int .i64 low2, .bool neg2, .bool nn2]) (by kernel_rfl) (by kernel_rfl) (by kernel_rfl) (by kernel_rfl) (fun _ _ _ h => h) ?_ hS ?_
  · intro o ho
    simp only [List.getElem?_toArray, List.getElem?_cons_succ, List.getElem?_cons_zero, Option.some.injEq] at ho
    subst ho
    refine Or.inl ⟨by rfl, ?_⟩
    intro w hSw
    (try dsimp only at hSw)
    go_simp
  simp only [Act.put, List.setIfInBounds_toArray, List.set_cons_zero, List.set_cons_succ]
  refine take_at (i := 24) (d := some 99) (v := .agg #[.slice a3 n3 c3, .int .i64 low3, .bool neg3, .bool nn3]) (by kernel_rfl) (by kernel_rfl) (by kernel_rfl) (by kernel_rfl) (fun _ _ _ h => h) ?_ hS ?_
  · intro o ho
    simp only [List.getElem?_toArray, List.getElem?_cons_succ, List.getElem?_cons_zero, Option.some.injEq] at ho
    subst ho
    refine Or.inl ⟨by rfl, ?_⟩
    intro w hSw
    (try dsimp only at hSw)
    go_simp
  simp only [Act.put, List.setIfInBounds_toArray, List.set_cons_zero, List.set_cons_succ]
  refine take_at (i := 26) (d := some 101) (v := .agg #[.slice a4 n4 c4, .int .i64 low4, .bool neg4, .bool nn4]) (by kernel_rfl) (by kernel_rfl) (by kernel_rfl) (by kernel_rfl) (fun _ _ _ h => h) ?_ hS ?_
  · intro o ho
    simp only [List.getElem?_toArray, List.getElem?_cons_succ, List.getElem?_cons_zero, Option.some.injEq] at ho
    subst ho
    refine Or.inl ⟨by rfl, ?_⟩
    intro w hSw
    (try dsimp only at hSw)
    go_simp
  simp only [Act.put, List.setIfInBounds_toArray, List.set_cons_zero, List.set_cons_succ]
  refine take_at (i := 28) (d := some 103) (v := .agg #[.slice a2 n2 c2, .int .i64 low2, .bool neg2, .bool nn2]) (by kernel_rfl) (by kernel_rfl) (by kernel_rfl) (by kernel_rfl) (fun _ _ _ h => h) ?_ hS ?_
  · intro o ho
    simp only [List.getElem?_toArray, List.getElem?_cons_succ, List.getElem?_cons_zero, Option.some.injEq] at ho
    subst ho
    refine Or.inl ⟨by rfl, ?_⟩
    intro w hSw
    (try dsimp only at hSw)
    go_simp
  simp only [Act.put, List.setIfInBounds_toArray, List.set_cons_zero, List.set_cons_succ]
  refine take_at (i := 29) (d := some 104) (v := .agg #[.slice a4 n4 c4, .int .i64 low4, .bool neg4, .bool nn4]) (by kernel_rfl) (by kernel_rfl) (by kernel_rfl) (by kernel_rfl) (fun _ _ _ h => h) ?_ hS ?_
  · intro o ho
    simp only [List.getElem?_toArray, List.getElem?_cons_succ, List.getElem?_cons_zero, Option.some.injEq] at ho
    subst ho
    refine Or.inl ⟨by rfl, ?_⟩
    intro w hSw
    (try dsimp only at hSw)
    go_simp
  simp only [Act.put, List.setIfInBounds_toArray, List.set_cons_zero, List.set_cons_succ]
  refine take_at (i := 31) (d := some 106) (v := .agg #[.slice a3 n3 c3, .int .i64 low3, .bool neg3, .bool nn3]) (by kernel_rfl) (by kernel_rfl) (by kernel_rfl) (by kernel_rfl) (fun _ _ _ h => h) ?_ hS ?_
  · intro o ho
    simp only [List.getElem?_toArray, List.getElem?_cons_succ, List.getElem?_cons_zero, Option.some.injEq] at ho
    subst ho
    refine Or.inl ⟨by rfl, ?_⟩
    intro w hSw
    (try dsimp only at hSw)
    go_simp
  simp only [Act.put, List.setIfInBounds_toArray, List.set_cons_zero, List.set_cons_succ]
  refine take_at (i := 32) (d := some 107) (v := .agg #[.slice a4 n4 c4, .int .i64 low4, .bool neg4, .bool nn4]) (by kernel_rfl) (by kernel_rfl) (by kernel_rfl) (by kernel_rfl) (fun _ _ _ h => h) ?_ hS ?_
  · intro o ho
    simp only [List.getElem?_toArray, List.getElem?_cons_succ, List.getElem?_cons_zero, Option.some.injEq] at ho
    subst ho
    refine Or.inl ⟨by rfl, ?_⟩
    intro w hSw
    (try dsimp only at hSw)
    go_simp
  simp only [Act.put, List.setIfInBounds_toArray, List.set_cons_zero, List.set_cons_succ]
  refine call_at 25 (by kernel_rfl) (by kernel_rfl) ?_
  intro o ho
  simp only [List.getElem?_toArray, List.getElem?_cons_succ, List.getElem?_cons_zero, Option.some.injEq] at ho
  subst ho
  intro KF hK
  go_simp
  refine (add_any _ _ _ _ _ (HN2.out.later (keep12_bel hS)) (HN3.out.later (keep12_bel hS)) (HT.out.later (thru HBC.out (keep12_bel hS)))).mono ?_
  rintro e wx ⟨v100, y100, rfl, hn100, hy100, hbx⟩
  obtain ⟨a100, n100, c100, low100, neg100, nn100, rfl, hn100⟩ := isNum_form hn100
  have e100 := op2_may hy100 ((HD2.out.add HD3.out).may (by omega) (by omega))
  subst e100
  clear hy100
  go_wp2_with fail
  refine hK.out _ _ (keep12 hS hbx) ?_
  clear hS hbx
  intro hS
  clear hK KF
  try simp only [Act.put, List.setIfInBounds_toArray, List.set_cons_zero, List.set_cons_succ]
  refine call_at 27 (by kernel_rfl) (by kernel_rfl) ?_
  intro o ho
  simp only [List.getElem?_toArray, List.getElem?_cons_succ, List.getElem?_cons_zero, Option.some.injEq] at ho
  subst ho
  intro KF hK
  go_simp
  refine (mul_any _ _ _ _ _ hn100 (HN4.out.later (keep12_bel hS)) (HT.out.later (thru HBC.out (keep12_bel hS)))).mono ?_
  rintro e wx ⟨v102, y102, rfl, hn102, hy102, hbx⟩
  obtain ⟨a102, n102, c102, low102, neg102, nn102, rfl, hn102⟩ := isNum_form hn102
  have e102 := op2_may hy102 (((HD2.out.add HD3.out).mul HD4.out).may (by omega) (by omega))
  subst e102
  clear hy102
  clear hn100
  go_wp2_with fail
  refine hK.out _ _ (keep12 hS hbx) ?_
  clear hS hbx
  intro hS
  clear hK KF
  try simp only [Act.put, List.setIfInBounds_toArray, List.set_cons_zero, List.set_cons_succ]
  refine call_at 30 (by kernel_rfl) (by kernel_rfl) ?_
  intro o ho
  simp only [List.getElem?_toArray, List.getElem?_cons_succ, List.getElem?_cons_zero, Option.some.injEq] at ho
  subst ho
  intro KF hK
  go_simp
  refine (mul_any _ _ _ _ _ (HN2.out.later (keep12_bel hS)) (HN4.out.later (keep12_bel hS)) (HT.out.later (thru HBC.out (keep12_bel hS)))).mono ?_
  rintro e wx ⟨v105, y105, rfl, hn105, hy105, hbx⟩
  obtain ⟨a105, n105, c105, low105, neg105, nn105, rfl, hn105⟩ := isNum_form hn105
  have e105 := op2_may hy105 ((HD2.out.mul HD4.out).may (by omega) (by omega))
  subst e105
  clear hy105
  have hn102 := hn102.later hbx
  go_wp2_with fail
  refine hK.out _ _ (keep12 hS hbx) ?_
  clear hS hbx
  intro hS
  clear hK KF
  try simp only [Act.put, List.setIfInBounds_toArray, List.set_cons_zero, List.set_cons_succ]
  refine call_at 33 (by kernel_rfl) (by kernel_rfl) ?_
  intro o ho
  simp only [List.getElem?_toArray, List.getElem?_cons_succ, List.getElem?_cons_zero, Option.some.injEq] at ho
  subst ho
  intro KF hK
  go_simp
  refine (mul_any _ _ _ _ _ (HN3.out.later (keep12_bel hS)) (HN4.out.later (keep12_bel hS)) (HT.out.later (thru HBC.out (keep12_bel hS)))).mono ?_
  rintro e wx ⟨v108, y108, rfl, hn108, hy108, hbx⟩
  obtain ⟨a108, n108, c108, low108, neg108, nn108, rfl, hn108⟩ := isNum_form hn108
  have e108 := op2_may hy108 ((HD3.out.mul HD4.out).may (by omega) (by omega))
  subst e108
  clear hy108
  have hn102 := hn102.later hbx
  have hn105 := hn105.later hbx
  go_wp2_with fail
  refine hK.out _ _ (keep12 hS hbx) ?_
  clear hS hbx
  intro hS
  clear hK KF
  try simp only [Act.put, List.setIfInBounds_toArray, List.set_cons_zero, List.set_cons_succ]
  refine call_at 34 (by kernel_rfl) (by kernel_rfl) ?_
  intro o ho
  simp only [List.getElem?_toArray, List.getElem?_cons_succ, List.getElem?_cons_zero, Option.some.injEq] at ho
  subst ho
  intro KF hK
  go_simp
  refine (add_any _ _ _ _ _ hn105 hn108 (HT.out.later (thru HBC.out (keep12_bel hS)))).mono ?_
  rintro e wx ⟨v109, y109, rfl, hn109, hy109, hbx⟩
  obtain ⟨a109, n109, c109, low109, neg109, nn109, rfl, hn109⟩ := isNum_form hn109
  have e109 := op2_may hy109 (((HD2.out.mul HD4.out).add (HD3.out.mul HD4.out)).may (by omega) (by omega))
  subst e109
  clear hy109
  have hn102 := hn102.later hbx
  clear hn105
  clear hn108
  go_wp2_with fail
  refine hK.out _ _ (keep12 hS hbx) ?_
  clear hS hbx
  intro hS
  clear hK KF
  try simp only [Act.put, List.setIfInBounds_toArray, List.set_cons_zero, List.set_cons_succ]
  refine call_at 35 (by kernel_rfl) (by kernel_rfl) ?_
  intro o ho
  simp only [List.getElem?_toArray, List.getElem?_cons_succ, List.getElem?_cons_zero, Option.some.injEq] at ho
  subst ho
  intro KF hK
  go_simp
  refine (cmp_any _ _ _ _ _ hn102 hn109).mono ?_
  rw [show CmpX (some ((A + B) * C)) (some ((A * C) + (B * C))) = 0 from cmp_zero (by grind)]
  rintro e wx ⟨rfl, hbx⟩
  clear hn102
  clear hn109
  go_wp2_with fail
  refine hK.out _ _ (keep12 hS hbx) ?_
  clear hS hbx
  intro hS
  clear hK KF
  try simp only [Act.put, List.setIfInBounds_toArray, List.set_cons_zero, List.set_cons_succ]
  refine take_at (i := 36) (d := some 111) (v := .bool true) (by kernel_rfl) (by kernel_rfl) (by kernel_rfl) (by kernel_rfl) (fun _ _ _ h => h) ?_ hS ?_
  · intro o ho
    simp only [List.getElem?_toArray, List.getElem?_cons_succ, List.getElem?_cons_zero, Option.some.injEq] at ho
    subst ho
    refine Or.inl ⟨by rfl, ?_⟩
    intro w hSw
    (try dsimp only at hSw)
    go_simp
  simp only [Act.put, List.setIfInBounds_toArray, List.set_cons_zero, List.set_cons_succ]
  refine take_at (i := 37) (d := some 112) (v := .bool true) (by kernel_rfl) (by kernel_rfl) (by kernel_rfl) (by kernel_rfl) (fun _ _ _ h => h) ?_ hS ?_
  · intro o ho
    simp only [List.getElem?_toArray, List.getElem?_cons_succ, List.getElem?_cons_zero, Option.some.injEq] at ho
    subst ho
    refine Or.inl ⟨by rfl, ?_⟩
    intro w hSw
    (try dsimp only at hSw)
    go_simp
  simp only [Act.put, List.setIfInBounds_toArray, List.set_cons_zero, List.set_cons_succ]
  refine take_at (i := 38) (d := some 9) (v := .bool true) (by kernel_rfl) (by kernel_rfl) (by kernel_rfl) (by kernel_rfl) (fun _ _ _ h => h) ?_ hS ?_
  · intro o ho
    simp only [List.getElem?_toArray, List.getElem?_cons_succ, List.getElem?_cons_zero, Option.some.injEq] at ho
    subst ho
    refine Or.inl ⟨by rfl, ?_⟩
    intro w hSw
    (try dsimp only at hSw)
    go_simp
  simp only [Act.put, List.setIfInBounds_toArray, List.set_cons_zero, List.set_cons_succ]
  refine wpAnyH_done (by kernel_rfl) ?_ _
  go_wp2_with fail
  refine wp_region_held_drew (S := (fun W => W.cell? ⟨w2.heap.size, 0, none⟩ = some (.slice a2 n2 c2) ∧ W.cell? ⟨w2.heap.size, 1, none⟩ = some (.int .i64 low2) ∧ W.cell? ⟨w2.heap.size, 2, none⟩ = some (.bool neg2) ∧ W.cell? ⟨w2.heap.size, 3, none⟩ = some (.bool nn2) ∧ W.cell? ⟨w3.heap.size, 0, none⟩ = some (.slice a3 n3 c3) ∧ W.cell? ⟨w3.heap.size, 1, none⟩ = some (.int .i64 low3) ∧ W.cell? ⟨w3.heap.size, 2, none⟩ = some (.bool neg3) ∧ W.cell? ⟨w3.heap.size, 3, none⟩ = some (.bool nn3) ∧ W.cell? ⟨w4.heap.size, 0, none⟩ = some (.slice a4 n4 c4) ∧ W.cell? ⟨w4.heap.size, 1, none⟩ = some (.int .i64 low4) ∧ W.cell? ⟨w4.heap.size, 2, none⟩ = some (.bool neg4) ∧ W.cell? ⟨w4.heap.size, 3, none⟩ = some (.bool nn4) ∧ Below wq.heap.size wq W)) (by kernel_rfl) (keep12 hS (Below.refl _ _).drew) (fun hS => ?_)
  refine take_at (i := 0) (d := some 113) (v := .agg #[.slice a2 n2 c2, .int .i64 low2, .bool neg2, .bool nn2]) (by kernel_rfl) (by kernel_rfl) (by kernel_rfl) (by kernel_rfl) (fun _ _ _ h => h) ?_ hS ?_
  · intro o ho
    simp only [List.getElem?_toArray, List.getElem?_cons_zero, Option.some.injEq] at ho
    subst ho
    refine Or.inl ⟨by rfl, ?_⟩
    intro w hSw
    (try dsimp only at hSw)
    go_simp
  simp only [Act.put, List.setIfInBounds_toArray, List.set_cons_zero, List.set_cons_succ]
  refine take_at (i := 1) (d := some 114) (v := .agg #[.slice a3 n3 c3, .int .i64 low3, .bool neg3, .bool nn3]) (by kernel_rfl) (by kernel_rfl) (by kernel_rfl) (by kernel_rfl) (fun _ _ _ h => h) ?_ hS ?_
  · intro o ho
    simp only [List.getElem?_toArray, List.getElem?_cons_succ, List.getElem?_cons_zero, Option.some.injEq] at ho
    subst ho
    refine Or.inl ⟨by rfl, ?_⟩
    intro w hSw
    (try dsimp only at hSw)
    go_simp
  simp only [Act.put, List.setIfInBounds_toArray, List.set_cons_zero, List.set_cons_succ]
  refine take_at (i := 4) (d := some 117) (v := .agg #[.slice a2 n2 c2, .int .i64 low2, .bool neg2, .bool nn2]) (by kernel_rfl) (by kernel_rfl) (by kernel_rfl) (by kernel_rfl) (fun _ _ _ h => h) ?_ hS ?_
  · intro o ho
    simp only [List.getElem?_toArray, List.getElem?_cons_succ, List.getElem?_cons_zero, Option.some.injEq] at ho
    subst ho
    refine Or.inl ⟨by rfl, ?_⟩
    intro w hSw
    (try dsimp only at hSw)
    go_simp
  simp only [Act.put, List.setIfInBounds_toArray, List.set_cons_zero, List.set_cons_succ]
  refine take_at (i := 6) (d := some 119) (v := .agg #[.slice a3 n3 c3, .int .i64 low3, .bool neg3, .bool nn3]) (by kernel_rfl) (by kernel_rfl) (by kernel_rfl) (by kernel_rfl) (fun _ _ _ h => h) ?_ hS ?_
  · intro o ho
    simp only [List.getElem?_toArray, List.getElem?_cons_succ, List.getElem?_cons_zero, Option.some.injEq] at ho
    subst ho
    refine Or.inl ⟨by rfl, ?_⟩
    intro w hSw
    (try dsimp only at hSw)
    go_simp
  simp only [Act.put, List.setIfInBounds_toArray, List.set_cons_zero, List.set_cons_succ]
  refine call_at 2 (by kernel_rfl) (by kernel_rfl) ?_
  intro o ho
  simp only [List.getElem?_toArray, List.getElem?_cons_succ, List.getElem?_cons_zero, Option.some.injEq] at ho
  subst ho
  intro KF hK
  go_simp
  refine (mul_any _ _ _ _ _ (HN2.out.later (keep12_bel hS)) (HN3.out.later (keep12_bel hS)) (HT.out.later (thru HBC.out (keep12_bel hS)))).mono ?_
  rintro e wx ⟨v115, y115, rfl, hn115, hy115, hbx⟩
  obtain ⟨a115, n115, c115, low115, neg115, nn115, rfl, hn115⟩ := isNum_form hn115
  have e115 := op2_may hy115 ((HD2.out.mul HD3.out).may (by omega) (by omega))
  subst e115
  clear hy115
  go_wp2_with fail
  refine hK.out _ _ (keep12 hS hbx) ?_
  clear hS hbx
  intro hS
  clear hK KF
  try simp only [Act.put, List.setIfInBounds_toArray, List.set_cons_zero, List.set_cons_succ]
  refine call_at 3 (by kernel_rfl) (by kernel_rfl) ?_
  intro o ho
  simp only [List.getElem?_toArray, List.getElem?_cons_succ, List.getElem?_cons_zero, Option.some.injEq] at ho
  subst ho
  intro KF hK
  go_simp
  refine (sign_any _ _ _ hn115).mono ?_
  rw [show sgnR ((some (A * B)).getD 0) = sa * sb from ((sgnR_mul A B).trans (by rw [HSa.out, HSb.out]))]
  rintro e wx ⟨rfl, hbx⟩
  clear hn115
  go_wp2_with fail
  refine hK.out _ _ (keep12 hS hbx) ?_
  clear hS hbx
  intro hS
  clear hK KF
  try simp only [Act.put, List.setIfInBounds_toArray, List.set_cons_zero, List.set_cons_succ]
  refine call_at 5 (by kernel_rfl) (by kernel_rfl) ?_
  intro o ho
  simp only [List.getElem?_toArray, List.getElem?_cons_succ, List.getElem?_cons_zero, Option.some.injEq] at ho
  subst ho
  intro KF hK
  go_simp
  refine (sign_any _ _ _ (HN2.out.later (keep12_bel hS))).mono ?_
  rw [show sgnR ((some A).getD 0) = sa from HSa.out]
  rintro e wx ⟨rfl, hbx⟩
  go_wp2_with fail
  refine hK.out _ _ (keep12 hS hbx) ?_
  clear hS hbx
  intro hS
  clear hK KF
  try simp only [Act.put, List.setIfInBounds_toArray, List.set_cons_zero, List.set_cons_succ]
  refine call_at 7 (by kernel_rfl) (by kernel_rfl) ?_
  intro o ho
  simp only [List.getElem?_toArray, List.getElem?_cons_succ, List.getElem?_cons_zero, Option.some.injEq] at ho
  subst ho
  intro KF hK
  go_simp
  refine (sign_any _ _ _ (HN3.out.later (keep12_bel hS))).mono ?_
  rw [show sgnR ((some B).getD 0) = sb from HSb.out]
  rintro e wx ⟨rfl, hbx⟩
  go_wp2_with fail
  refine hK.out _ _ (keep12 hS hbx) ?_
  clear hS hbx
  intro hS
  clear hK KF
  try simp only [Act.put, List.setIfInBounds_toArray, List.set_cons_zero, List.set_cons_succ]
  refine take_at (i := 8) (d := some 121) (v := .int .i64 (sa * sb)) (by kernel_rfl) (by kernel_rfl) (by kernel_rfl) (by kernel_rfl) (fun _ _ _ h => h) ?_ hS ?_
  · intro o ho
    simp only [List.getElem?_toArray, List.getElem?_cons_succ, List.getElem?_cons_zero, Option.some.injEq] at ho
    subst ho
    refine Or.inl ⟨by rfl, ?_⟩
    intro w hSw
    (try dsimp only at hSw)
    go_simp
  simp only [Act.put, List.setIfInBounds_toArray, List.set_cons_zero, List.set_cons_succ]
  refine take_at (i := 9) (d := some 122) (v := .bool true) (by kernel_rfl) (by kernel_rfl) (by kernel_rfl) (by kernel_rfl) (fun _ _ _ h => h) ?_ hS ?_
  · intro o ho
    simp only [List.getElem?_toArray, List.getElem?_cons_succ, List.getElem?_cons_zero, Option.some.injEq] at ho
    subst ho
    refine Or.inl ⟨by rfl, ?_⟩
    intro w hSw
    (try dsimp only at hSw)
    go_simp
  simp only [Act.put, List.setIfInBounds_toArray, List.set_cons_zero, List.set_cons_succ]
  refine take_at (i := 10) (d := some 123) (v := .bool true) (by kernel_rfl) (by kernel_rfl) (by kernel_rfl) (by kernel_rfl) (fun _ _ _ h => h) ?_ hS ?_
  · intro o ho
    simp only [List.getElem?_toArray, List.getElem?_cons_succ, List.getElem?_cons_zero, Option.some.injEq] at ho
    subst ho
    refine Or.inl ⟨by rfl, ?_⟩
    intro w hSw
    (try dsimp only at hSw)
    go_simp
  simp only [Act.put, List.setIfInBounds_toArray, List.set_cons_zero, List.set_cons_succ]
  refine take_at (i := 11) (d := some 124) (v := .agg #[.slice a2 n2 c2, .int .i64 low2, .bool neg2, .bool nn2]) (by kernel_rfl) (by kernel_rfl) (by kernel_rfl) (by kernel_rfl) (fun _ _ _ h => h) ?_ hS ?_
  · intro o ho
    simp only [List.getElem?_toArray, List.getElem?_cons_succ, List.getElem?_cons_zero, Option.some.injEq] at ho
    subst ho
    refine Or.inl ⟨by rfl, ?_⟩
    intro w hSw
    (try dsimp only at hSw)
    go_simp
  simp only [Act.put, List.setIfInBounds_toArray, List.set_cons_zero, List.set_cons_succ]
  refine take_at (i := 14) (d := some 127) (v := .agg #[.slice a2 n2 c2, .int .i64 low2, .bool neg2, .bool nn2]) (by kernel_rfl) (by kernel_rfl) (by kernel_rfl) (by kernel_rfl) (fun _ _ _ h => h) ?_ hS ?_
  · intro o ho
    simp only [List.getElem?_toArray, List.getElem?_cons_succ, List.getElem?_cons_zero, Option.some.injEq] at ho
    subst ho
    refine Or.inl ⟨by rfl, ?_⟩
    intro w hSw
    (try dsimp only at hSw)
    go_simp
  simp only [Act.put, List.setIfInBounds_toArray, List.set_cons_zero, List.set_cons_succ]
  refine call_at 12 (by kernel_rfl) (by kernel_rfl) ?_
  intro o ho
  simp only [List.getElem?_toArray, List.getElem?_cons_succ, List.getElem?_cons_zero, Option.some.injEq] at ho
  subst ho
  intro KF hK
  go_simp
  refine (neg_any _ _ _ (HN2.out.later (keep12_bel hS))).mono ?_
  rintro e wx ⟨v125, y125, rfl, hn125, hy125, hbx⟩
  obtain ⟨a125, n125, c125, low125, neg125, nn125, rfl, hn125⟩ := isNum_form hn125
  have e125 : y125 = some (-A) := hy125
  subst e125
  clear hy125
  go_wp2_with fail
  refine hK.out _ _ (keep12 hS hbx) ?_
  clear hS hbx
  intro hS
  clear hK KF
  try simp only [Act.put, List.setIfInBounds_toArray, List.set_cons_zero, List.set_cons_succ]
  refine call_at 13 (by kernel_rfl) (by kernel_rfl) ?_
  intro o ho
  simp only [List.getElem?_toArray, List.getElem?_cons_succ, List.getElem?_cons_zero, Option.some.injEq] at ho
  subst ho
  intro KF hK
  go_simp
  refine (sign_any _ _ _ hn125).mono ?_
  rw [show sgnR ((some (-A)).getD 0) = -sa from ((sgnR_neg A).trans (by rw [HSa.out]))]
  rintro e wx ⟨rfl, hbx⟩
  clear hn125
  go_wp2_with fail
  refine hK.out _ _ (keep12 hS hbx) ?_
  clear hS hbx
  intro hS
  clear hK KF
  try simp only [Act.put, List.setIfInBounds_toArray, List.set_cons_zero, List.set_cons_succ]
  refine call_at 15 (by kernel_rfl) (by kernel_rfl) ?_
  intro o ho
  simp only [List.getElem?_toArray, List.getElem?_cons_succ, List.getElem?_cons_zero, Option.some.injEq] at ho
  subst ho
  intro KF hK
  go_simp
  refine (sign_any _ _ _ (HN2.out.later (keep12_bel hS))).mono ?_
  rw [show sgnR ((some A).getD 0) = sa from HSa.out]
  rintro e wx ⟨rfl, hbx⟩
  go_wp2_with fail
  refine hK.out _ _ (keep12 hS hbx) ?_
  clear hS hbx
  intro hS
  clear hK KF
  try simp only [Act.put, List.setIfInBounds_toArray, List.set_cons_zero, List.set_cons_succ]
  refine take_at (i := 16) (d := some 129) (v := .int .i64 (-sa)) (by kernel_rfl) (by kernel_rfl) (by kernel_rfl) (by kernel_rfl) (fun _ _ _ h => h) ?_ hS ?_
  · intro o ho
    simp only [List.getElem?_toArray, List.getElem?_cons_succ, List.getElem?_cons_zero, Option.some.injEq] at ho
    subst ho
    refine Or.inl ⟨by rfl, ?_⟩
    intro w hSw
    (try dsimp only at hSw)
    go_simp
  simp only [Act.put, List.setIfInBounds_toArray, List.set_cons_zero, List.set_cons_succ]
  refine take_at (i := 17) (d := some 130) (v := .bool true) (by kernel_rfl) (by kernel_rfl) (by kernel_rfl) (by kernel_rfl) (fun _ _ _ h => h) ?_ hS ?_
  · intro o ho
    simp only [List.getElem?_toArray, List.getElem?_cons_succ, List.getElem?_cons_zero, Option.some.injEq] at ho
    subst ho
    refine Or.inl ⟨by rfl, ?_⟩
    intro w hSw
    (try dsimp only at hSw)
    go_simp
  simp only [Act.put, List.setIfInBounds_toArray, List.set_cons_zero, List.set_cons_succ]
  refine take_at (i := 18) (d := some 131) (v := .bool true) (by kernel_rfl) (by kernel_rfl) (by kernel_rfl) (by kernel_rfl) (fun _ _ _ h => h) ?_ hS ?_
  · intro o ho
    simp only [List.getElem?_toArray, List.getElem?_cons_succ, List.getElem?_cons_zero, Option.some.injEq] at ho
    subst ho
    refine Or.inl ⟨by rfl, ?_⟩
    intro w hSw
    (try dsimp only at hSw)
    go_simp
  simp only [Act.put, List.setIfInBounds_toArray, List.set_cons_zero, List.set_cons_succ]
  refine take_at (i := 19) (d := some 132) (v := .bool true) (by kernel_rfl) (by kernel_rfl) (by kernel_rfl) (by kernel_rfl) (fun _ _ _ h => h) ?_ hS ?_
  · intro o ho
    simp only [List.getElem?_toArray, List.getElem?_cons_succ, List.getElem?_cons_zero, Option.some.injEq] at ho
    subst ho
    refine Or.inl ⟨by rfl, ?_⟩
    intro w hSw
    (try dsimp only at hSw)
    go_simp
  simp only [Act.put, List.setIfInBounds_toArray, List.set_cons_zero, List.set_cons_succ]
  refine take_at (i := 20) (d := some 133) (v := .agg #[.slice a2 n2 c2, .int .i64 low2, .bool neg2, .bool nn2]) (by kernel_rfl) (by kernel_rfl) (by kernel_rfl) (by kernel_rfl) (fun _ _ _ h => h) ?_ hS ?_
  · intro o ho
    simp only [List.getElem?_toArray, List.getElem?_cons_succ, List.getElem?_cons_zero, Option.some.injEq] at ho
    subst ho
    refine Or.inl ⟨by rfl, ?_⟩
    intro w hSw
    (try dsimp only at hSw)
    go_simp
  simp only [Act.put, List.setIfInBounds_toArray, List.set_cons_zero, List.set_cons_succ]
  refine take_at (i := 23) (d := some 136) (v := .agg #[.slice a2 n2 c2, .int .i64 low2, .bool neg2, .bool nn2]) (by kernel_rfl) (by kernel_rfl) (by kernel_rfl) (by kernel_rfl) (fun _ _ _ h => h) ?_ hS ?_
  · intro o ho
    simp only [List.getElem?_toArray, List.getElem?_cons_succ, List.getElem?_cons_zero, Option.some.injEq] at ho
    subst ho
    refine Or.inl ⟨by rfl, ?_⟩
    intro w hSw
    (try dsimp only at hSw)
    go_simp
  simp only [Act.put, List.setIfInBounds_toArray, List.set_cons_zero, List.set_cons_succ]
  refine call_at 21 (by kernel_rfl) (by kernel_rfl) ?_
  intro o ho
  simp only [List.getElem?_toArray, List.getElem?_cons_succ, List.getElem?_cons_zero, Option.some.injEq] at ho
  subst ho
  intro KF hK
  go_simp
  refine (neg_any _ _ _ (HN2.out.later (keep12_bel hS))).mono ?_
  rintro e wx ⟨v134, y134, rfl, hn134, hy134, hbx⟩
  obtain ⟨a134, n134, c134, low134, neg134, nn134, rfl, hn134⟩ := isNum_form hn134
  have e134 : y134 = some (-A) := hy134
  subst e134
  clear hy134
  go_wp2_with fail
  refine hK.out _ _ (keep12 hS hbx) ?_
  clear hS hbx
  intro hS
  clear hK KF
  try simp only [Act.put, List.setIfInBounds_toArray, List.set_cons_zero, List.set_cons_succ]
  refine call_at 22 (by kernel_rfl) (by kernel_rfl) ?_
  intro o ho
  simp only [List.getElem?_toArray, List.getElem?_cons_succ, List.getElem?_cons_zero, Option.some.injEq] at ho
  subst ho
  intro KF hK
  go_simp
  refine (neg_any _ _ _ hn134).mono ?_
  rintro e wx ⟨v135, y135, rfl, hn135, hy135, hbx⟩
  obtain ⟨a135, n135, c135, low135, neg135, nn135, rfl, hn135⟩ := isNum_form hn135
  have e135 : y135 = some (-(-A)) := hy135
  subst e135
  clear hy135
  clear hn134
  go_wp2_with fail
  refine hK.out _ _ (keep12 hS hbx) ?_
  clear hS hbx
  intro hS
  clear hK KF
  try simp only [Act.put, List.setIfInBounds_toArray, List.set_cons_zero, List.set_cons_succ]
  refine call_at 24 (by kernel_rfl) (by kernel_rfl) ?_
  intro o ho
  simp only [List.getElem?_toArray, List.getElem?_cons_succ, List.getElem?_cons_zero, Option.some.injEq] at ho
  subst ho
  intro KF hK
  go_simp
  refine (cmp_any _ _ _ _ _ hn135 (HN2.out.later (keep12_bel hS))).mono ?_
  rw [show CmpX (some (-(-A))) (some A) = 0 from cmp_zero (by grind)]
  rintro e wx ⟨rfl, hbx⟩
  clear hn135
  go_wp2_with fail
  refine hK.out _ _ (keep12 hS hbx) ?_
  clear hS hbx
  intro hS
  clear hK KF
  try simp only [Act.put, List.setIfInBounds_toArray, List.set_cons_zero, List.set_cons_succ]
  refine take_at (i := 25) (d := some 138) (v := .bool true) (by kernel_rfl) (by kernel_rfl) (by kernel_rfl) (by kernel_rfl) (fun _ _ _ h => h) ?_ hS ?_
  · intro o ho
    simp only [List.getElem?_toArray, List.getElem?_cons_succ, List.getElem?_cons_zero, Option.some.injEq] at ho
    subst ho
    refine Or.inl ⟨by rfl, ?_⟩
    intro w hSw
    (try dsimp only at hSw)
    go_simp
  simp only [Act.put, List.setIfInBounds_toArray, List.set_cons_zero, List.set_cons_succ]
  refine take_at (i := 26) (d := some 139) (v := .bool true) (by kernel_rfl) (by kernel_rfl) (by kernel_rfl) (by kernel_rfl) (fun _ _ _ h => h) ?_ hS ?_
  · intro o ho
    simp only [List.getElem?_toArray, List.getElem?_cons_succ, List.getElem?_cons_zero, Option.some.injEq] at ho
    subst ho
    refine Or.inl ⟨by rfl, ?_⟩
    intro w hSw
    (try dsimp only at hSw)
    go_simp
  simp only [Act.put, List.setIfInBounds_toArray, List.set_cons_zero, List.set_cons_succ]
  refine take_at (i := 27) (d := some 140) (v := .bool true) (by kernel_rfl) (by kernel_rfl) (by kernel_rfl) (by kernel_rfl) (fun _ _ _ h => h) ?_ hS ?_
  · intro o ho
    simp only [List.getElem?_toArray, List.getElem?_cons_succ, List.getElem?_cons_zero, Option.some.injEq] at ho
    subst ho
    refine Or.inl ⟨by rfl, ?_⟩
    intro w hSw
    (try dsimp only at hSw)
    go_simp
  simp only [Act.put, List.setIfInBounds_toArray, List.set_cons_zero, List.set_cons_succ]
  refine take_at (i := 28) (d := some 141) (v := .agg #[.slice a2 n2 c2, .int .i64 low2, .bool neg2, .bool nn2]) (by kernel_rfl) (by kernel_rfl) (by kernel_rfl) (by kernel_rfl) (fun _ _ _ h => h) ?_ hS ?_
  · intro o ho
    simp only [List.getElem?_toArray, List.getElem?_cons_succ, List.getElem?_cons_zero, Option.some.injEq] at ho
    subst ho
    refine Or.inl ⟨by rfl, ?_⟩
    intro w hSw
    (try dsimp only at hSw)
    go_simp
  simp only [Act.put, List.setIfInBounds_toArray, List.set_cons_zero, List.set_cons_succ]
  refine take_at (i := 29) (d := some 142) (v := .agg #[.slice a3 n3 c3, .int .i64 low3, .bool neg3, .bool nn3]) (by kernel_rfl) (by kernel_rfl) (by kernel_rfl) (by kernel_rfl) (fun _ _ _ h => h) ?_ hS ?_
  · intro o ho
    simp only [List.getElem?_toArray, List.getElem?_cons_succ, List.getElem?_cons_zero, Option.some.injEq] at ho
    subst ho
    refine Or.inl ⟨by rfl, ?_⟩
    intro w hSw
    (try dsimp only at hSw)
    go_simp
  simp only [Act.put, List.setIfInBounds_toArray, List.set_cons_zero, List.set_cons_succ]
  refine take_at (i := 32) (d := some 145) (v := .agg #[.slice a2 n2 c2, .int .i64 low2, .bool neg2, .bool nn2]) (by kernel_rfl) (by kernel_rfl) (by kernel_rfl) (by kernel_rfl) (fun _ _ _ h => h) ?_ hS ?_
  · intro o ho
    simp only [List.getElem?_toArray, List.getElem?_cons_succ, List.getElem?_cons_zero, Option.some.injEq] at ho
    subst ho
    refine Or.inl ⟨by rfl, ?_⟩
    intro w hSw
    (try dsimp only at hSw)
    go_simp
  simp only [Act.put, List.setIfInBounds_toArray, List.set_cons_zero, List.set_cons_succ]
  refine take_at (i := 33) (d := some 146) (v := .agg #[.slice a3 n3 c3, .int .i64 low3, .bool neg3, .bool nn3]) (by kernel_rfl) (by kernel_rfl) (by kernel_rfl) (by kernel_rfl) (fun _ _ _ h => h) ?_ hS ?_
  · intro o ho
    simp only [List.getElem?_toArray, List.getElem?_cons_succ, List.getElem?_cons_zero, Option.some.injEq] at ho
    subst ho
    refine Or.inl ⟨by rfl, ?_⟩
    intro w hSw
    (try dsimp only at hSw)
    go_simp
  simp only [Act.put, List.setIfInBounds_toArray, List.set_cons_zero, List.set_cons_succ]
  refine call_at 30 (by kernel_rfl) (by kernel_rfl) ?_
  intro o ho
  simp only [List.getElem?_toArray, List.getElem?_cons_succ, List.getElem?_cons_zero, Option.some.injEq] at ho
  subst ho
  intro KF hK
  go_simp
  refine (sub_any _ _ _ _ _ (HN2.out.later (keep12_bel hS)) (HN3.out.later (keep12_bel hS)) (HT.out.later (thru HBC.out (keep12_bel hS)))).mono ?_
  rintro e wx ⟨v143, y143, rfl, hn143, hy143, hbx⟩
  obtain ⟨a143, n143, c143, low143, neg143, nn143, rfl, hn143⟩ := isNum_form hn143
  have e143 := op2_may hy143 ((HD2.out.sub HD3.out).may (by omega) (by omega))
  subst e143
  clear hy143
  go_wp2_with fail
  refine hK.out _ _ (keep12 hS hbx) ?_
  clear hS hbx
  intro hS
  clear hK KF
  try simp only [Act.put, List.setIfInBounds_toArray, List.set_cons_zero, List.set_cons_succ]
  refine call_at 31 (by kernel_rfl) (by kernel_rfl) ?_
  intro o ho
  simp only [List.getElem?_toArray, List.getElem?_cons_succ, List.getElem?_cons_zero, Option.some.injEq] at ho
  subst ho
  intro KF hK
  go_simp
  refine (sign_any _ _ _ hn143).mono ?_
  rw [show sgnR ((some (A - B)).getD 0) = cab from ((cmpR_sub A B).trans HCab.out)]
  rintro e wx ⟨rfl, hbx⟩
  clear hn143
  go_wp2_with fail
  refine hK.out _ _ (keep12 hS hbx) ?_
  clear hS hbx
  intro hS
  clear hK KF
  try simp only [Act.put, List.setIfInBounds_toArray, List.set_cons_zero, List.set_cons_succ]
  refine call_at 34 (by kernel_rfl) (by kernel_rfl) ?_
  intro o ho
  simp only [List.getElem?_toArray, List.getElem?_cons_succ, List.getElem?_cons_zero, Option.some.injEq] at ho
  subst ho
  intro KF hK
  go_simp
  refine (cmp_any _ _ _ _ _ (HN2.out.later (keep12_bel hS)) (HN3.out.later (keep12_bel hS))).mono ?_
  rw [show CmpX (some A) (some B) = cab from HCab.out]
  rintro e wx ⟨rfl, hbx⟩
  go_wp2_with fail
  refine hK.out _ _ (keep12 hS hbx) ?_
  clear hS hbx
  intro hS
  clear hK KF
  try simp only [Act.put, List.setIfInBounds_toArray, List.set_cons_zero, List.set_cons_succ]
  refine take_at (i := 35) (d := some 148) (v := .bool true) (by kernel_rfl) (by kernel_rfl) (by kernel_rfl) (by kernel_rfl) (fun _ _ _ h => h) ?_ hS ?_
  · intro o ho
    simp only [List.getElem?_toArray, List.getElem?_cons_succ, List.getElem?_cons_zero, Option.some.injEq] at ho
    subst ho
    refine Or.inl ⟨by rfl, ?_⟩
    intro w hSw
    (try dsimp only at hSw)
    go_simp
  simp only [Act.put, List.setIfInBounds_toArray, List.set_cons_zero, List.set_cons_succ]
  refine take_at (i := 36) (d := some 149) (v := .bool true) (by kernel_rfl) (by kernel_rfl) (by kernel_rfl) (by kernel_rfl) (fun _ _ _ h => h) ?_ hS ?_
  · intro o ho
    simp only [List.getElem?_toArray, List.getElem?_cons_succ, List.getElem?_cons_zero, Option.some.injEq] at ho
    subst ho
    refine Or.inl ⟨by rfl, ?_⟩
    intro w hSw
    (try dsimp only at hSw)
    go_simp
  simp only [Act.put, List.setIfInBounds_toArray, List.set_cons_zero, List.set_cons_succ]
  refine take_at (i := 37) (d := some 150) (v := .bool true) (by kernel_rfl) (by kernel_rfl) (by kernel_rfl) (by kernel_rfl) (fun _ _ _ h => h) ?_ hS ?_
  · intro o ho
    simp only [List.getElem?_toArray, List.getElem?_cons_succ, List.getElem?_cons_zero, Option.some.injEq] at ho
    subst ho
    refine Or.inl ⟨by rfl, ?_⟩
    intro w hSw
    (try dsimp only at hSw)
    go_simp
  simp only [Act.put, List.setIfInBounds_toArray, List.set_cons_zero, List.set_cons_succ]
  refine take_at (i := 38) (d := some 151) (v := .agg #[.slice a3 n3 c3, .int .i64 low3, .bool neg3, .bool nn3]) (by kernel_rfl) (by kernel_rfl) (by kernel_rfl) (by kernel_rfl) (fun _ _ _ h => h) ?_ hS ?_
  · intro o ho
    simp only [List.getElem?_toArray, List.getElem?_cons_succ, List.getElem?_cons_zero, Option.some.injEq] at ho
    subst ho
    refine Or.inl ⟨by rfl, ?_⟩
    intro w hSw
    (try dsimp only at hSw)
    go_simp
  simp only [Act.put, List.setIfInBounds_toArray, List.set_cons_zero, List.set_cons_succ]
  refine take_at (i := 39) (d := some 152) (v := .agg #[.slice a2 n2 c2, .int .i64 low2, .bool neg2, .bool nn2]) (by kernel_rfl) (by kernel_rfl) (by kernel_rfl) (by kernel_rfl) (fun _ _ _ h => h) ?_ hS ?_
  · intro o ho
    simp only [List.getElem?_toArray, List.getElem?_cons_succ, List.getElem?_cons_zero, Option.some.injEq] at ho
    subst ho
    refine Or.inl ⟨by rfl, ?_⟩
    intro w hSw
    (try dsimp only at hSw)
    go_simp
  simp only [Act.put, List.setIfInBounds_toArray, List.set_cons_zero, List.set_cons_succ]
  refine take_at (i := 41) (d := some 154) (v := .agg #[.slice a2 n2 c2, .int .i64 low2, .bool neg2, .bool nn2]) (by kernel_rfl) (by kernel_rfl) (by kernel_rfl) (by kernel_rfl) (fun _ _ _ h => h) ?_ hS ?_
  · intro o ho
    simp only [List.getElem?_toArray, List.getElem?_cons_succ, List.getElem?_cons_zero, Option.some.injEq] at ho
    subst ho
    refine Or.inl ⟨by rfl, ?_⟩
    intro w hSw
    (try dsimp only at hSw)
    go_simp
  simp only [Act.put, List.setIfInBounds_toArray, List.set_cons_zero, List.set_cons_succ]
  refine take_at (i := 42) (d := some 155) (v := .agg #[.slice a3 n3 c3, .int .i64 low3, .bool neg3, .bool nn3]) (by kernel_rfl) (by kernel_rfl) (by kernel_rfl) (by kernel_rfl) (fun _ _ _ h => h) ?_ hS ?_
  · intro o ho
    simp only [List.getElem?_toArray, List.getElem?_cons_succ, List.getElem?_cons_zero, Option.some.injEq] at ho
    subst ho
    refine Or.inl ⟨by rfl, ?_⟩
    intro w hSw
    (try dsimp only at hSw)
    go_simp
  simp only [Act.put, List.setIfInBounds_toArray, List.set_cons_zero, List.set_cons_succ]
  refine call_at 40 (by kernel_rfl) (by kernel_rfl) ?_
  intro o ho
  simp only [List.getElem?_toArray, List.getElem?_cons_succ, List.getElem?_cons_zero, Option.some.injEq] at ho
  subst ho
  intro KF hK
  go_simp
  refine (cmp_any _ _ _ _ _ (HN3.out.later (keep12_bel hS)) (HN2.out.later (keep12_bel hS))).mono ?_
  rw [show CmpX (some B) (some A) = -cab from ((cmpR_neg A B).trans (by rw [HCab.out]))]
  rintro e wx ⟨rfl, hbx⟩
  go_wp2_with fail
  refine hK.out _ _ (keep12 hS hbx) ?_
  clear hS hbx
  intro hS
  clear hK KF
  try simp only [Act.put, List.setIfInBounds_toArray, List.set_cons_zero, List.set_cons_succ]
  refine call_at 43 (by kernel_rfl) (by kernel_rfl) ?_
  intro o ho
  simp only [List.getElem?_toArray, List.getElem?_cons_succ, List.getElem?_cons_zero, Option.some.injEq] at ho
  subst ho
  intro KF hK
  go_simp
  refine (cmp_any _ _ _ _ _ (HN2.out.later (keep12_bel hS)) (HN3.out.later (keep12_bel hS))).mono ?_
  rw [show CmpX (some A) (some B) = cab from HCab.out]
  rintro e wx ⟨rfl, hbx⟩
  go_wp2_with fail
  refine hK.out _ _ (keep12 hS hbx) ?_
  clear hS hbx
  intro hS
  clear hK KF
  try simp only [Act.put, List.setIfInBounds_toArray, List.set_cons_zero, List.set_cons_succ]
  refine take_at (i := 44) (d := some 157) (v := .int .i64 (-cab)) (by kernel_rfl) (by kernel_rfl) (by kernel_rfl) (by kernel_rfl) (fun _ _ _ h => h) ?_ hS ?_
  · intro o ho
    simp only [List.getElem?_toArray, List.getElem?_cons_succ, List.getElem?_cons_zero, Option.some.injEq] at ho
    subst ho
    refine Or.inl ⟨by rfl, ?_⟩
    intro w hSw
    (try dsimp only at hSw)
    go_simp
  simp only [Act.put, List.setIfInBounds_toArray, List.set_cons_zero, List.set_cons_succ]
  refine take_at (i := 45) (d := some 158) (v := .bool true) (by kernel_rfl) (by kernel_rfl) (by kernel_rfl) (by kernel_rfl) (fun _ _ _ h => h) ?_ hS ?_
  · intro o ho
    simp only [List.getElem?_toArray, List.getElem?_cons_succ, List.getElem?_cons_zero, Option.some.injEq] at ho
    subst ho
    refine Or.inl ⟨by rfl, ?_⟩
    intro w hSw
    (try dsimp only at hSw)
    go_simp
  simp only [Act.put, List.setIfInBounds_toArray, List.set_cons_zero, List.set_cons_succ]
  refine take_at (i := 46) (d := some 159) (v := .bool true) (by kernel_rfl) (by kernel_rfl) (by kernel_rfl) (by kernel_rfl) (fun _ _ _ h => h) ?_ hS ?_
  · intro o ho
    simp only [List.getElem?_toArray, List.getElem?_cons_succ, List.getElem?_cons_zero, Option.some.injEq] at ho
    subst ho
    refine Or.inl ⟨by rfl, ?_⟩
    intro w hSw
    (try dsimp only at hSw)
    go_simp
  simp only [Act.put, List.setIfInBounds_toArray, List.set_cons_zero, List.set_cons_succ]
  refine take_at (i := 47) (d := some 10) (v := .bool true) (by kernel_rfl) (by kernel_rfl) (by kernel_rfl) (by kernel_rfl) (fun _ _ _ h => h) ?_ hS ?_
  · intro o ho
    simp only [List.getElem?_toArray, List.getElem?_cons_succ, List.getElem?_cons_zero, Option.some.injEq] at ho
    subst ho
    refine Or.inl ⟨by rfl, ?_⟩
    intro w hSw
    (try dsimp only at hSw)
    go_simp
  simp only [Act.put, List.setIfInBounds_toArray, List.set_cons_zero, List.set_cons_succ]
  refine wpAnyH_done (by kernel_rfl) ?_ _
  go_wp2_with fail
  refine wp_region_held_drew (S := (fun W => W.cell? ⟨w2.heap.size, 0, none⟩ = some (.slice a2 n2 c2) ∧ W.cell? ⟨w2.heap.size, 1, none⟩ = some (.int .i64 low2) ∧ W.cell? ⟨w2.heap.size, 2, none⟩ = some (.bool neg2) ∧ W.cell? ⟨w2.heap.size, 3, none⟩ = some (.bool nn2) ∧ W.cell? ⟨w3.heap.size, 0, none⟩ = some (.slice a3 n3 c3) ∧ W.cell? ⟨w3.heap.size, 1, none⟩ = some (.int .i64 low3) ∧ W.cell? ⟨w3.heap.size, 2, none⟩ = some (.bool neg3) ∧ W.cell? ⟨w3.heap.size, 3, none⟩ = some (.bool nn3) ∧ W.cell? ⟨w4.heap.size, 0, none⟩ = some (.slice a4 n4 c4) ∧ W.cell? ⟨w4.heap.size, 1, none⟩ = some (.int .i64 low4) ∧ W.cell? ⟨w4.heap.size, 2, none⟩ = some (.bool neg4) ∧ W.cell? ⟨w4.heap.size, 3, none⟩ = some (.bool nn4) ∧ Below wq.heap.size wq W)) (by kernel_rfl) (keep12 hS (Below.refl _ _).drew) (fun hS => ?_)
  refine take_at (i := 0) (d := some 160) (v := .bool true) (by kernel_rfl) (by kernel_rfl) (by kernel_rfl) (by kernel_rfl) (fun _ _ _ h => h) ?_ hS ?_
  · intro o ho
    simp only [List.getElem?_toArray, List.getElem?_cons_zero, Option.some.injEq] at ho
    subst ho
    refine Or.inl ⟨by rfl, ?_⟩
    intro w hSw
    (try dsimp only at hSw)
    go_simp
  simp only [Act.put, List.setIfInBounds_toArray, List.set_cons_zero, List.set_cons_succ]
  refine take_at (i := 1) (d := some 161) (v := .bool true) (by kernel_rfl) (by kernel_rfl) (by kernel_rfl) (by kernel_rfl) (fun _ _ _ h => h) ?_ hS ?_
  · intro o ho
    simp only [List.getElem?_toArray, List.getElem?_cons_succ, List.getElem?_cons_zero, Option.some.injEq] at ho
    subst ho
    refine Or.inl ⟨by rfl, ?_⟩
    intro w hSw
    (try dsimp only at hSw)
    go_simp
  simp only [Act.put, List.setIfInBounds_toArray, List.set_cons_zero, List.set_cons_succ]
  refine take_at (i := 2) (d := some 162) (v := .bool true) (by kernel_rfl) (by kernel_rfl) (by kernel_rfl) (by kernel_rfl) (fun _ _ _ h => h) ?_ hS ?_
  · intro o ho
    simp only [List.getElem?_toArray, List.getElem?_cons_succ, List.getElem?_cons_zero, Option.some.injEq] at ho
    subst ho
    refine Or.inl ⟨by rfl, ?_⟩
    intro w hSw
    (try dsimp only at hSw)
    go_simp
  simp only [Act.put, List.setIfInBounds_toArray, List.set_cons_zero, List.set_cons_succ]
  refine take_at (i := 3) (d := some 163) (v := .bool true) (by kernel_rfl) (by kernel_rfl) (by kernel_rfl) (by kernel_rfl) (fun _ _ _ h => h) ?_ hS ?_
  · intro o ho
    simp only [List.getElem?_toArray, List.getElem?_cons_succ, List.getElem?_cons_zero, Option.some.injEq] at ho
    subst ho
    refine Or.inl ⟨by rfl, ?_⟩
    intro w hSw
    (try dsimp only at hSw)
    go_simp
  simp only [Act.put, List.setIfInBounds_toArray, List.set_cons_zero, List.set_cons_succ]
  refine take_at (i := 4) (d := some 164) (v := .bool true) (by kernel_rfl) (by kernel_rfl) (by kernel_rfl) (by kernel_rfl) (fun _ _ _ h => h) ?_ hS ?_
  · intro o ho
    simp only [List.getElem?_toArray, List.getElem?_cons_succ, List.getElem?_cons_zero, Option.some.injEq] at ho
    subst ho
    refine Or.inl ⟨by rfl, ?_⟩
    intro w hSw
    (try dsimp only at hSw)
    go_simp
  simp only [Act.put, List.setIfInBounds_toArray, List.set_cons_zero, List.set_cons_succ]
  refine take_at (i := 5) (d := some 165) (v := .bool true) (by kernel_rfl) (by kernel_rfl) (by kernel_rfl) (by kernel_rfl) (fun _ _ _ h => h) ?_ hS ?_
  · intro o ho
    simp only [List.getElem?_toArray, List.getElem?_cons_succ, List.getElem?_cons_zero, Option.some.injEq] at ho
    subst ho
    refine Or.inl ⟨by rfl, ?_⟩
    intro w hSw
    (try dsimp only at hSw)
    go_simp
  simp only [Act.put, List.setIfInBounds_toArray, List.set_cons_zero, List.set_cons_succ]
  refine take_at (i := 6) (d := some 166) (v := .bool true) (by kernel_rfl) (by kernel_rfl) (by kernel_rfl) (by kernel_rfl) (fun _ _ _ h => h) ?_ hS ?_
  · intro o ho
    simp only [List.getElem?_toArray, List.getElem?_cons_succ, List.getElem?_cons_zero, Option.some.injEq] at ho
    subst ho
    refine Or.inl ⟨by rfl, ?_⟩
    intro w hSw
    (try dsimp only at hSw)
    go_simp
  simp only [Act.put, List.setIfInBounds_toArray, List.set_cons_zero, List.set_cons_succ]
  refine take_at (i := 7) (d := some 167) (v := .bool true) (by kernel_rfl) (by kernel_rfl) (by kernel_rfl) (by kernel_rfl) (fun _ _ _ h => h) ?_ hS ?_
  · intro o ho
    simp only [List.getElem?_toArray, List.getElem?_cons_succ, List.getElem?_cons_zero, Option.some.injEq] at ho
    subst ho
    refine Or.inl ⟨by rfl, ?_⟩
    intro w hSw
    (try dsimp only at hSw)
    go_simp
  simp only [Act.put, List.setIfInBounds_toArray, List.set_cons_zero, List.set_cons_succ]
  refine take_at (i := 8) (d := some 168) (v := .agg #[.slice a2 n2 c2, .int .i64 low2, .bool neg2, .bool nn2]) (by kernel_rfl) (by kernel_rfl) (by kernel_rfl) (by kernel_rfl) (fun _ _ _ h => h) ?_ hS ?_
  · intro o ho
    simp only [List.getElem?_toArray, List.getElem?_cons_succ, List.getElem?_cons_zero, Option.some.injEq] at ho
    subst ho
    refine Or.inl ⟨by rfl, ?_⟩
    intro w hSw
    (try dsimp only at hSw)
    go_simp
  simp only [Act.put, List.setIfInBounds_toArray, List.set_cons_zero, List.set_cons_succ]
  refine take_at (i := 9) (d := some 169) (v := .int .i64 (K)) (by kernel_rfl) (by kernel_rfl) (by kernel_rfl) (by kernel_rfl) (fun _ _ _ h => h) ?_ hS ?_
  · intro o ho
    simp only [List.getElem?_toArray, List.getElem?_cons_succ, List.getElem?_cons_zero, Option.some.injEq] at ho
    subst ho
    refine Or.inl ⟨by rfl, ?_⟩
    intro w hSw
    (try dsimp only at hSw)
    go_simp
  simp only [Act.put, List.setIfInBounds_toArray, List.set_cons_zero, List.set_cons_succ]
  refine take_at (i := 11) (d := some 171) (v := .int .i64 (K)) (by kernel_rfl) (by kernel_rfl) (by kernel_rfl) (by kernel_rfl) (fun _ _ _ h => h) ?_ hS ?_
  · intro o ho
    simp only [List.getElem?_toArray, List.getElem?_cons_succ, List.getElem?_cons_zero, Option.some.injEq] at ho
    subst ho
    refine Or.inl ⟨by rfl, ?_⟩
    intro w hSw
    (try dsimp only at hSw)
    go_simp
  simp only [Act.put, List.setIfInBounds_toArray, List.set_cons_zero, List.set_cons_succ]
  refine take_at (i := 12) (d := some 172) (v := .int .i64 (-K)) (by kernel_rfl) (by kernel_rfl) (by kernel_rfl) (by kernel_rfl) (fun _ _ _ h => h) ?_ hS ?_
  · intro o ho
    simp only [List.getElem?_toArray, List.getElem?_cons_succ, List.getElem?_cons_zero, Option.some.injEq] at ho
    subst ho
    refine Or.inl ⟨by rfl, ?_⟩
    intro w hSw
    (try dsimp only at hSw)
    go_simp
  simp only [Act.put, List.setIfInBounds_toArray, List.set_cons_zero, List.set_cons_succ]
  refine take_at (i := 14) (d := some 174) (v := .agg #[.slice a2 n2 c2, .int .i64 low2, .bool neg2, .bool nn2]) (by kernel_rfl) (by kernel_rfl) (by kernel_rfl) (by kernel_rfl) (fun _ _ _ h => h) ?_ hS ?_
  · intro o ho
    simp only [List.getElem?_toArray, List.getElem?_cons_succ, List.getElem?_cons_zero, Option.some.injEq] at ho
    subst ho
    refine Or.inl ⟨by rfl, ?_⟩
    intro w hSw
    (try dsimp only at hSw)
    go_simp
  simp only [Act.put, List.setIfInBounds_toArray, List.set_cons_zero, List.set_cons_succ]
  refine call_at 10 (by kernel_rfl) (by kernel_rfl) ?_
  intro o ho
  simp only [List.getElem?_toArray, List.getElem?_cons_succ, List.getElem?_cons_zero, Option.some.injEq] at ho
  subst ho
  intro KF hK
  go_simp
  refine (shift_any _ _ _ _ (HN2.out.later (keep12_bel hS))).mono ?_
  rintro e wx ⟨v170, y170, rfl, hn170, hy170, hbx⟩
  obtain ⟨a170, n170, c170, low170, neg170, nn170, rfl, hn170⟩ := isNum_form hn170
  have e170 := shiftX_may hy170 ((HD2.out.shift (K)).may (by omega) (by omega))
  subst e170
  clear hy170
  go_wp2_with fail
  refine hK.out _ _ (keep12 hS hbx) ?_
  clear hS hbx
  intro hS
  clear hK KF
  try simp only [Act.put, List.setIfInBounds_toArray, List.set_cons_zero, List.set_cons_succ]
  refine call_at 13 (by kernel_rfl) (by kernel_rfl) ?_
  intro o ho
  simp only [List.getElem?_toArray, List.getElem?_cons_succ, List.getElem?_cons_zero, Option.some.injEq] at ho
  subst ho
  intro KF hK
  go_simp
  refine (shift_any _ _ _ _ hn170).mono ?_
  rintro e wx ⟨v173, y173, rfl, hn173, hy173, hbx⟩
  obtain ⟨a173, n173, c173, low173, neg173, nn173, rfl, hn173⟩ := isNum_form hn173
  have e173 := shiftX_may hy173 (((HD2.out.shift (K)).shift (-K)).may (by omega) (by omega))
  subst e173
  clear hy173
  clear hn170
  go_wp2_with fail
  refine hK.out _ _ (keep12 hS hbx) ?_
  clear hS hbx
  intro hS
  clear hK KF
  try simp only [Act.put, List.setIfInBounds_toArray, List.set_cons_zero, List.set_cons_succ]
  refine call_at 15 (by kernel_rfl) (by kernel_rfl) ?_
  intro o ho
  simp only [List.getElem?_toArray, List.getElem?_cons_succ, List.getElem?_cons_zero, Option.some.injEq] at ho
  subst ho
  intro KF hK
  go_simp
  refine (cmp_any _ _ _ _ _ hn173 (HN2.out.later (keep12_bel hS))).mono ?_
  rw [show CmpX (some ((A * p2 (K)) * p2 (-K))) (some A) = 0 from cmp_zero (shift_back A K)]
  rintro e wx ⟨rfl, hbx⟩
  clear hn173
  go_wp2_with fail
  refine hK.out _ _ (keep12 hS hbx) ?_
  clear hS hbx
  intro hS
  clear hK KF
  try simp only [Act.put, List.setIfInBounds_toArray, List.set_cons_zero, List.set_cons_succ]
  refine take_at (i := 16) (d := some 176) (v := .bool true) (by kernel_rfl) (by kernel_rfl) (by kernel_rfl) (by kernel_rfl) (fun _ _ _ h => h) ?_ hS ?_
  · intro o ho
    simp only [List.getElem?_toArray, List.getElem?_cons_succ, List.getElem?_cons_zero, Option.some.injEq] at ho
    subst ho
    refine Or.inl ⟨by rfl, ?_⟩
    intro w hSw
    (try dsimp only at hSw)
    go_simp
  simp only [Act.put, List.setIfInBounds_toArray, List.set_cons_zero, List.set_cons_succ]
  refine take_at (i := 17) (d := some 177) (v := .bool true) (by kernel_rfl) (by kernel_rfl) (by kernel_rfl) (by kernel_rfl) (fun _ _ _ h => h) ?_ hS ?_
  · intro o ho
    simp only [List.getElem?_toArray, List.getElem?_cons_succ, List.getElem?_cons_zero, Option.some.injEq] at ho
    subst ho
    refine Or.inl ⟨by rfl, ?_⟩
    intro w hSw
    (try dsimp only at hSw)
    go_simp
  simp only [Act.put, List.setIfInBounds_toArray, List.set_cons_zero, List.set_cons_succ]
  refine take_at (i := 18) (d := some 178) (v := .bool true) (by kernel_rfl) (by kernel_rfl) (by kernel_rfl) (by kernel_rfl) (fun _ _ _ h => h) ?_ hS ?_
  · intro o ho
    simp only [List.getElem?_toArray, List.getElem?_cons_succ, List.getElem?_cons_zero, Option.some.injEq] at ho
    subst ho
    refine Or.inl ⟨by rfl, ?_⟩
    intro w hSw
    (try dsimp only at hSw)
    go_simp
  simp only [Act.put, List.setIfInBounds_toArray, List.set_cons_zero, List.set_cons_succ]
  refine take_at (i := 19) (d := some 179) (v := .agg #[.slice a2 n2 c2, .int .i64 low2, .bool neg2, .bool nn2]) (by kernel_rfl) (by kernel_rfl) (by kernel_rfl) (by kernel_rfl) (fun _ _ _ h => h) ?_ hS ?_
  · intro o ho
    simp only [List.getElem?_toArray, List.getElem?_cons_succ, List.getElem?_cons_zero, Option.some.injEq] at ho
    subst ho
    refine Or.inl ⟨by rfl, ?_⟩
    intro w hSw
    (try dsimp only at hSw)
    go_simp
  simp only [Act.put, List.setIfInBounds_toArray, List.set_cons_zero, List.set_cons_succ]
  refine take_at (i := 20) (d := some 180) (v := .int .i64 (K)) (by kernel_rfl) (by kernel_rfl) (by kernel_rfl) (by kernel_rfl) (fun _ _ _ h => h) ?_ hS ?_
  · intro o ho
    simp only [List.getElem?_toArray, List.getElem?_cons_succ, List.getElem?_cons_zero, Option.some.injEq] at ho
    subst ho
    refine Or.inl ⟨by rfl, ?_⟩
    intro w hSw
    (try dsimp only at hSw)
    go_simp
  simp only [Act.put, List.setIfInBounds_toArray, List.set_cons_zero, List.set_cons_succ]
  refine take_at (i := 22) (d := some 182) (v := .agg #[.slice a3 n3 c3, .int .i64 low3, .bool neg3, .bool nn3]) (by kernel_rfl) (by kernel_rfl) (by kernel_rfl) (by kernel_rfl) (fun _ _ _ h => h) ?_ hS ?_
  · intro o ho
    simp only [List.getElem?_toArray, List.getElem?_cons_succ, List.getElem?_cons_zero, Option.some.injEq] at ho
    subst ho
    refine Or.inl ⟨by rfl, ?_⟩
    intro w hSw
    (try dsimp only at hSw)
    go_simp
  simp only [Act.put, List.setIfInBounds_toArray, List.set_cons_zero, List.set_cons_succ]
  refine take_at (i := 23) (d := some 183) (v := .int .i64 (K)) (by kernel_rfl) (by kernel_rfl) (by kernel_rfl) (by kernel_rfl) (fun _ _ _ h => h) ?_ hS ?_
  · intro o ho
    simp only [List.getElem?_toArray, List.getElem?_cons_succ, List.getElem?_cons_zero, Option.some.injEq] at ho
    subst ho
    refine Or.inl ⟨by rfl, ?_⟩
    intro w hSw
    (try dsimp only at hSw)
    go_simp
  simp only [Act.put, List.setIfInBounds_toArray, List.set_cons_zero, List.set_cons_succ]
  refine take_at (i := 26) (d := some 186) (v := .agg #[.slice a2 n2 c2, .int .i64 low2, .bool neg2, .bool nn2]) (by kernel_rfl) (by kernel_rfl) (by kernel_rfl) (by kernel_rfl) (fun _ _ _ h => h) ?_ hS ?_
  · intro o ho
    simp only [List.getElem?_toArray, List.getElem?_cons_succ, List.getElem?_cons_zero, Option.some.injEq] at ho
    subst ho
    refine Or.inl ⟨by rfl, ?_⟩
    intro w hSw
    (try dsimp only at hSw)
    go_simp
  simp only [Act.put, List.setIfInBounds_toArray, List.set_cons_zero, List.set_cons_succ]
  refine take_at (i := 27) (d := some 187) (v := .agg #[.slice a3 n3 c3, .int .i64 low3, .bool neg3, .bool nn3]) (by kernel_rfl) (by kernel_rfl) (by kernel_rfl) (by kernel_rfl) (fun _ _ _ h => h) ?_ hS ?_
  · intro o ho
    simp only [List.getElem?_toArray, List.getElem?_cons_succ, List.getElem?_cons_zero, Option.some.injEq] at ho
    subst ho
    refine Or.inl ⟨by rfl, ?_⟩
    intro w hSw
    (try dsimp only at hSw)
    go_simp
  simp only [Act.put, List.setIfInBounds_toArray, List.set_cons_zero, List.set_cons_succ]
  refine take_at (i := 29) (d := some 189) (v := .int .i64 (K)) (by kernel_rfl) (by kernel_rfl) (by kernel_rfl) (by kernel_rfl) (fun _ _ _ h => h) ?_ hS ?_
  · intro o ho
    simp only [List.getElem?_toArray, List.getElem?_cons_succ, List.getElem?_cons_zero, Option.some.injEq] at ho
    subst ho
    refine Or.inl ⟨by rfl, ?_⟩
    intro w hSw
    (try dsimp only at hSw)
    go_simp
  simp only [Act.put, List.setIfInBounds_toArray, List.set_cons_zero, List.set_cons_succ]
  refine call_at 21 (by kernel_rfl) (by kernel_rfl) ?_
  intro o ho
  simp only [List.getElem?_toArray, List.getElem?_cons_succ, List.getElem?_cons_zero, Option.some.injEq] at ho
  subst ho
  intro KF hK
  go_simp
  refine (shift_any _ _ _ _ (HN2.out.later (keep12_bel hS))).mono ?_
  rintro e wx ⟨v181, y181, rfl, hn181, hy181, hbx⟩
  obtain ⟨a181, n181, c181, low181, neg181, nn181, rfl, hn181⟩ := isNum_form hn181
  have e181 := shiftX_may hy181 ((HD2.out.shift (K)).may (by omega) (by omega))
  subst e181
  clear hy181
  go_wp2_with fail
  refine hK.out _ _ (keep12 hS hbx) ?_
  clear hS hbx
  intro hS
  clear hK KF
  try simp only [Act.put, List.setIfInBounds_toArray, List.set_cons_zero, List.set_cons_succ]
  refine call_at 24 (by kernel_rfl) (by kernel_rfl) ?_
  intro o ho
  simp only [List.getElem?_toArray, List.getElem?_cons_succ, List.getElem?_cons_zero, Option.some.injEq] at ho
  subst ho
  intro KF hK
  go_simp
  refine (shift_any _ _ _ _ (HN3.out.later (keep12_bel hS))).mono ?_
  rintro e wx ⟨v184, y184, rfl, hn184, hy184, hbx⟩
  obtain ⟨a184, n184, c184, low184, neg184, nn184, rfl, hn184⟩ := isNum_form hn184
  have e184 := shiftX_may hy184 ((HD3.out.shift (K)).may (by omega) (by omega))
  subst e184
  clear hy184
  have hn181 := hn181.later hbx
  go_wp2_with fail
  refine hK.out _ _ (keep12 hS hbx) ?_
  clear hS hbx
  intro hS
  clear hK KF
  try simp only [Act.put, List.setIfInBounds_toArray, List.set_cons_zero, List.set_cons_succ]
  refine call_at 25 (by kernel_rfl) (by kernel_rfl) ?_
  intro o ho
  simp only [List.getElem?_toArray, List.getElem?_cons_succ, List.getElem?_cons_zero, Option.some.injEq] at ho
  subst ho
  intro KF hK
  go_simp
  refine (add_any _ _ _ _ _ hn181 hn184 (HT.out.later (thru HBC.out (keep12_bel hS)))).mono ?_
  rintro e wx ⟨v185, y185, rfl, hn185, hy185, hbx⟩
  obtain ⟨a185, n185, c185, low185, neg185, nn185, rfl, hn185⟩ := isNum_form hn185
  have e185 := op2_may hy185 (((HD2.out.shift (K)).add (HD3.out.shift (K))).may (by omega) (by omega))
  subst e185
  clear hy185
  clear hn181
  clear hn184
  go_wp2_with fail
  refine hK.out _ _ (keep12 hS hbx) ?_
  clear hS hbx
  intro hS
  clear hK KF
  try simp only [Act.put, List.setIfInBounds_toArray, List.set_cons_zero, List.set_cons_succ]
  refine call_at 28 (by kernel_rfl) (by kernel_rfl) ?_
  intro o ho
  simp only [List.getElem?_toArray, List.getElem?_cons_succ, List.getElem?_cons_zero, Option.some.injEq] at ho
  subst ho
  intro KF hK
  go_simp
  refine (add_any _ _ _ _ _ (HN2.out.later (keep12_bel hS)) (HN3.out.later (keep12_bel hS)) (HT.out.later (thru HBC.out (keep12_bel hS)))).mono ?_
  rintro e wx ⟨v188, y188, rfl, hn188, hy188, hbx⟩
  obtain ⟨a188, n188, c188, low188, neg188, nn188, rfl, hn188⟩ := isNum_form hn188
  have e188 := op2_may hy188 ((HD2.out.add HD3.out).may (by omega) (by omega))
  subst e188
  clear hy188
  have hn185 := hn185.later hbx
  go_wp2_with fail
  refine hK.out _ _ (keep12 hS hbx) ?_
  clear hS hbx
  intro hS
  clear hK KF
  try simp only [Act.put, List.setIfInBounds_toArray, List.set_cons_zero, List.set_cons_succ]
  refine call_at 30 (by kernel_rfl) (by kernel_rfl) ?_
  intro o ho
  simp only [List.getElem?_toArray, List.getElem?_cons_succ, List.getElem?_cons_zero, Option.some.injEq] at ho
  subst ho
  intro KF hK
  go_simp
  refine (shift_any _ _ _ _ hn188).mono ?_
  rintro e wx ⟨v190, y190, rfl, hn190, hy190, hbx⟩
  obtain ⟨a190, n190, c190, low190, neg190, nn190, rfl, hn190⟩ := isNum_form hn190
  have e190 := shiftX_may hy190 (((HD2.out.add HD3.out).shift (K)).may (by omega) (by omega))
  subst e190
  clear hy190
  have hn185 := hn185.later hbx
  clear hn188
  go_wp2_with fail
  refine hK.out _ _ (keep12 hS hbx) ?_
  clear hS hbx
  intro hS
  clear hK KF
  try simp only [Act.put, List.setIfInBounds_toArray, List.set_cons_zero, List.set_cons_succ]
  refine call_at 31 (by kernel_rfl) (by kernel_rfl) ?_
  intro o ho
  simp only [List.getElem?_toArray, List.getElem?_cons_succ, List.getElem?_cons_zero, Option.some.injEq] at ho
  subst ho
  intro KF hK
  go_simp
  refine (cmp_any _ _ _ _ _ hn185 hn190).mono ?_
  rw [show CmpX (some ((A * p2 (K)) + (B * p2 (K)))) (some ((A + B) * p2 (K))) = 0 from cmp_zero (by grind)]
  rintro e wx ⟨rfl, hbx⟩
  clear hn185
  clear hn190
  go_wp2_with fail
  refine hK.out _ _ (keep12 hS hbx) ?_
  clear hS hbx
  intro hS
  clear hK KF
  try simp only [Act.put, List.setIfInBounds_toArray, List.set_cons_zero, List.set_cons_succ]
  refine take_at (i := 32) (d := some 192) (v := .bool true) (by kernel_rfl) (by kernel_rfl) (by kernel_rfl) (by kernel_rfl) (fun _ _ _ h => h) ?_ hS ?_
  · intro o ho
    simp only [List.getElem?_toArray, List.getElem?_cons_succ, List.getElem?_cons_zero, Option.some.injEq] at ho
    subst ho
    refine Or.inl ⟨by rfl, ?_⟩
    intro w hSw
    (try dsimp only at hSw)
    go_simp
  simp only [Act.put, List.setIfInBounds_toArray, List.set_cons_zero, List.set_cons_succ]
  refine take_at (i := 33) (d := some 193) (v := .bool true) (by kernel_rfl) (by kernel_rfl) (by kernel_rfl) (by kernel_rfl) (fun _ _ _ h => h) ?_ hS ?_
  · intro o ho
    simp only [List.getElem?_toArray, List.getElem?_cons_succ, List.getElem?_cons_zero, Option.some.injEq] at ho
    subst ho
    refine Or.inl ⟨by rfl, ?_⟩
    intro w hSw
    (try dsimp only at hSw)
    go_simp
  simp only [Act.put, List.setIfInBounds_toArray, List.set_cons_zero, List.set_cons_succ]
  refine take_at (i := 34) (d := some 194) (v := .bool true) (by kernel_rfl) (by kernel_rfl) (by kernel_rfl) (by kernel_rfl) (fun _ _ _ h => h) ?_ hS ?_
  · intro o ho
    simp only [List.getElem?_toArray, List.getElem?_cons_succ, List.getElem?_cons_zero, Option.some.injEq] at ho
    subst ho
    refine Or.inl ⟨by rfl, ?_⟩
    intro w hSw
    (try dsimp only at hSw)
    go_simp
  simp only [Act.put, List.setIfInBounds_toArray, List.set_cons_zero, List.set_cons_succ]
  refine take_at (i := 35) (d := some 195) (v := .agg #[.slice a2 n2 c2, .int .i64 low2, .bool neg2, .bool nn2]) (by kernel_rfl) (by kernel_rfl) (by kernel_rfl) (by kernel_rfl) (fun _ _ _ h => h) ?_ hS ?_
  · intro o ho
    simp only [List.getElem?_toArray, List.getElem?_cons_succ, List.getElem?_cons_zero, Option.some.injEq] at ho
    subst ho
    refine Or.inl ⟨by rfl, ?_⟩
    intro w hSw
    (try dsimp only at hSw)
    go_simp
  simp only [Act.put, List.setIfInBounds_toArray, List.set_cons_zero, List.set_cons_succ]
  refine take_at (i := 38) (d := some 198) (v := .agg #[.slice a2 n2 c2, .int .i64 low2, .bool neg2, .bool nn2]) (by kernel_rfl) (by kernel_rfl) (by kernel_rfl) (by kernel_rfl) (fun _ _ _ h => h) ?_ hS ?_
  · intro o ho
    simp only [List.getElem?_toArray, List.getElem?_cons_succ, List.getElem?_cons_zero, Option.some.injEq] at ho
    subst ho
    refine Or.inl ⟨by rfl, ?_⟩
    intro w hSw
    (try dsimp only at hSw)
    go_simp
  simp only [Act.put, List.setIfInBounds_toArray, List.set_cons_zero, List.set_cons_succ]
  refine call_at 36 (by kernel_rfl) (by kernel_rfl) ?_
  intro o ho
  simp only [List.getElem?_toArray, List.getElem?_cons_succ, List.getElem?_cons_zero, Option.some.injEq] at ho
  subst ho
  intro KF hK
  go_simp
  refine (int_any 1 _ (HT.out.later (thru HBC.out (keep12_bel hS))) (by omega) (by omega)).mono ?_
  rintro e wx ⟨v196, y196, rfl, hn196, hy196, hbx⟩
  obtain ⟨a196, n196, c196, low196, neg196, nn196, rfl, hn196⟩ := isNum_form hn196
  subst hy196
  go_wp2_with fail
  refine hK.out _ _ (keep12 hS hbx) ?_
  clear hS hbx
  intro hS
  clear hK KF
  try simp only [Act.put, List.setIfInBounds_toArray, List.set_cons_zero, List.set_cons_succ]
  refine call_at 37 (by kernel_rfl) (by kernel_rfl) ?_
  intro o ho
  simp only [List.getElem?_toArray, List.getElem?_cons_succ, List.getElem?_cons_zero, Option.some.injEq] at ho
  subst ho
  intro KF hK
  go_simp
  refine (mul_any _ _ _ _ _ (HN2.out.later (keep12_bel hS)) hn196 (HT.out.later (thru HBC.out (keep12_bel hS)))).mono ?_
  rintro e wx ⟨v197, y197, rfl, hn197, hy197, hbx⟩
  obtain ⟨a197, n197, c197, low197, neg197, nn197, rfl, hn197⟩ := isNum_form hn197
  have e197 := op2_may hy197 ((HD2.out.mul (int_bd 1 (by omega) (by omega))).may (by omega) (by omega))
  subst e197
  clear hy197
  clear hn196
  go_wp2_with fail
  refine hK.out _ _ (keep12 hS hbx) ?_
  clear hS hbx
  intro hS
  clear hK KF
  try simp only [Act.put, List.setIfInBounds_toArray, List.set_cons_zero, List.set_cons_succ]
  refine call_at 39 (by kernel_rfl) (by kernel_rfl) ?_
  intro o ho
  simp only [List.getElem?_toArray, List.getElem?_cons_succ, List.getElem?_cons_zero, Option.some.injEq] at ho
  subst ho
  intro KF hK
  go_simp
  refine (cmp_any _ _ _ _ _ hn197 (HN2.out.later (keep12_bel hS))).mono ?_
  rw [show CmpX (some (A * ((1 : Int) : Rat))) (some A) = 0 from cmp_zero (by rw [show ((1 : Int) : Rat) = 1 from rfl]; grind)]
  rintro e wx ⟨rfl, hbx⟩
  clear hn197
  go_wp2_with fail
  refine hK.out _ _ (keep12 hS hbx) ?_
  clear hS hbx
  intro hS
  clear hK KF
  try simp only [Act.put, List.setIfInBounds_toArray, List.set_cons_zero, List.set_cons_succ]
  refine take_at (i := 40) (d := some 200) (v := .bool true) (by kernel_rfl) (by kernel_rfl) (by kernel_rfl) (by kernel_rfl) (fun _ _ _ h => h) ?_ hS ?_
  · intro o ho
    simp only [List.getElem?_toArray, List.getElem?_cons_succ, List.getElem?_cons_zero, Option.some.injEq] at ho
    subst ho
    refine Or.inl ⟨by rfl, ?_⟩
    intro w hSw
    (try dsimp only at hSw)
    go_simp
  simp only [Act.put, List.setIfInBounds_toArray, List.set_cons_zero, List.set_cons_succ]
  refine take_at (i := 41) (d := some 201) (v := .bool true) (by kernel_rfl) (by kernel_rfl) (by kernel_rfl) (by kernel_rfl) (fun _ _ _ h => h) ?_ hS ?_
  · intro o ho
    simp only [List.getElem?_toArray, List.getElem?_cons_succ, List.getElem?_cons_zero, Option.some.injEq] at ho
    subst ho
    refine Or.inl ⟨by rfl, ?_⟩
    intro w hSw
    (try dsimp only at hSw)
    go_simp
  simp only [Act.put, List.setIfInBounds_toArray, List.set_cons_zero, List.set_cons_succ]
  refine take_at (i := 42) (d := some 202) (v := .bool true) (by kernel_rfl) (by kernel_rfl) (by kernel_rfl) (by kernel_rfl) (fun _ _ _ h => h) ?_ hS ?_
  · intro o ho
    simp only [List.getElem?_toArray, List.getElem?_cons_succ, List.getElem?_cons_zero, Option.some.injEq] at ho
    subst ho
    refine Or.inl ⟨by rfl, ?_⟩
    intro w hSw
    (try dsimp only at hSw)
    go_simp
  simp only [Act.put, List.setIfInBounds_toArray, List.set_cons_zero, List.set_cons_succ]
  refine take_at (i := 43) (d := some 203) (v := .agg #[.slice a2 n2 c2, .int .i64 low2, .bool neg2, .bool nn2]) (by kernel_rfl) (by kernel_rfl) (by kernel_rfl) (by kernel_rfl) (fun _ _ _ h => h) ?_ hS ?_
  · intro o ho
    simp only [List.getElem?_toArray, List.getElem?_cons_succ, List.getElem?_cons_zero, Option.some.injEq] at ho
    subst ho
    refine Or.inl ⟨by rfl, ?_⟩
    intro w hSw
    (try dsimp only at hSw)
    go_simp
  simp only [Act.put, List.setIfInBounds_toArray, List.set_cons_zero, List.set_cons_succ]
  refine call_at 44 (by kernel_rfl) (by kernel_rfl) ?_
  intro o ho
  simp only [List.getElem?_toArray, List.getElem?_cons_succ, List.getElem?_cons_zero, Option.some.injEq] at ho
  subst ho
  intro KF hK
  go_simp
  refine (ok_any _ _ _ (HN2.out.later (keep12_bel hS))).mono ?_
  rw [show (some A : Option Rat).isSome = true from rfl]
  rintro e wx ⟨rfl, hbx⟩
  go_wp2_with fail
  refine hK.out _ _ (keep12 hS hbx) ?_
  clear hS hbx
  intro hS
  clear hK KF
  try simp only [Act.put, List.setIfInBounds_toArray, List.set_cons_zero, List.set_cons_succ]
  refine take_at (i := 45) (d := some 205) (v := .bool true) (by kernel_rfl) (by kernel_rfl) (by kernel_rfl) (by kernel_rfl) (fun _ _ _ h => h) ?_ hS ?_
  · intro o ho
    simp only [List.getElem?_toArray, List.getElem?_cons_succ, List.getElem?_cons_zero, Option.some.injEq] at ho
    subst ho
    refine Or.inl ⟨by rfl, ?_⟩
    intro w hSw
    (try dsimp only at hSw)
    go_simp
  simp only [Act.put, List.setIfInBounds_toArray, List.set_cons_zero, List.set_cons_succ]
  refine take_at (i := 46) (d := some 4) (v := .bool true) (by kernel_rfl) (by kernel_rfl) (by kernel_rfl) (by kernel_rfl) (fun _ _ _ h => h) ?_ hS ?_
  · intro o ho
    simp only [List.getElem?_toArray, List.getElem?_cons_succ, List.getElem?_cons_zero, Option.some.injEq] at ho
    subst ho
    refine Or.inl ⟨by rfl, ?_⟩
    intro w hSw
    (try dsimp only at hSw)
    go_simp
  simp only [Act.put, List.setIfInBounds_toArray, List.set_cons_zero, List.set_cons_succ]
  refine wpAnyH_done (by kernel_rfl) ?_ _
  go_wp2
  go_ret
  exact ⟨rfl, thru HBC.out (keep12_bel hS)⟩

end Go.Proofs.YtfnjlkhgjlihoaaDoor
