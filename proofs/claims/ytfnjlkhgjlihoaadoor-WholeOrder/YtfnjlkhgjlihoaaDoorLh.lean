/- WholeOrder: the walk. -/
import Derived.Test.YtfnjlkhgjlihoaaDoorLo
import Derived.Test.YtfnjlkhgjlihoaaDoorLp
import Derived.Deep.CutRange
import Derived.Deep.DeepCutAuto
namespace Go.Proofs.YtfnjlkhgjlihoaaDoor
open Go.RowKit
attribute [local go_sem ↓] Go.wp_at_zero Go.wp_at_succ

set_option maxHeartbeats 4000000 in
set_option maxRecDepth 8000 in
theorem order_walk (f0 f1 f2 f3 f4 f5 f6 f7 f8 : Nat) (w : World) (hT : Tab w) (h0 : f0 < 18446744073709551616) (h1 : f1 < 18446744073709551616) (h2 : f2 < 18446744073709551616) (h3 : f3 < 18446744073709551616) (h4 : f4 < 18446744073709551616) (h5 : f5 < 18446744073709551616) (h6 : f6 < 18446744073709551616) (h7 : f7 < 18446744073709551616) (h8 : f8 < 18446744073709551616) :
    Calls Tryd.prog 7 #[.agg #[.float .f64 f0, .float .f64 f1, .float .f64 f2, .float .f64 f3, .float .f64 f4, .float .f64 f5, .float .f64 f6, .float .f64 f7, .float .f64 f8]] w fun e w' => e = .returned (.bool true) ∧ Below w.heap.size w w' := by
  have HT : Hid (Tab w) := hT
  have H : Hid (f0 < 18446744073709551616 ∧ f1 < 18446744073709551616 ∧ f2 < 18446744073709551616 ∧ f3 < 18446744073709551616 ∧ f4 < 18446744073709551616 ∧ f5 < 18446744073709551616 ∧ f6 < 18446744073709551616 ∧ f7 < 18446744073709551616 ∧ f8 < 18446744073709551616) := ⟨h0, h1, h2, h3, h4, h5, h6, h7, h8⟩
  clear hT h0 h1 h2 h3 h4 h5 h6 h7 h8
  have HB0 : Hid (Below w.heap.size w (w.alloc (.cells #[.float .f64 f0, .float .f64 f1, .float .f64 f2, .float .f64 f3, .float .f64 f4, .float .f64 f5, .float .f64 f6, .float .f64 f7, .float .f64 f8] 60))) := (Below.refl _ _).alloc (Nat.le_refl _) _
  go_enter Tryd.func7, Tryd.ntmps7
  go_wp2_with fail
  refine (works_any _ (HT.out.later HB0.out)).mono ?_
  rintro e w1 ⟨rfl, hb1⟩
  have g0 : w1.cell? ⟨w.heap.size, 0, none⟩ = some (.float .f64 f0) := cell_later hb1 (by go_simp)
  have g1 : w1.cell? ⟨w.heap.size, 1, none⟩ = some (.float .f64 f1) := cell_later hb1 (by go_simp)
  have g2 : w1.cell? ⟨w.heap.size, 2, none⟩ = some (.float .f64 f2) := cell_later hb1 (by go_simp)
  have g3 : w1.cell? ⟨w.heap.size, 3, none⟩ = some (.float .f64 f3) := cell_later hb1 (by go_simp)
  have g4 : w1.cell? ⟨w.heap.size, 4, none⟩ = some (.float .f64 f4) := cell_later hb1 (by go_simp)
  have g5 : w1.cell? ⟨w.heap.size, 5, none⟩ = some (.float .f64 f5) := cell_later hb1 (by go_simp)
  have g6 : w1.cell? ⟨w.heap.size, 6, none⟩ = some (.float .f64 f6) := cell_later hb1 (by go_simp)
  have g7 : w1.cell? ⟨w.heap.size, 7, none⟩ = some (.float .f64 f7) := cell_later hb1 (by go_simp)
  have g8 : w1.cell? ⟨w.heap.size, 8, none⟩ = some (.float .f64 f8) := cell_later hb1 (by go_simp)
  have hs1 : w.heap.size < w1.heap.size := by have := hb1.size; simp at this; omega
  have HB1 : Hid (Below w.heap.size w w1) := thru HB0.out hb1
  clear hb1
  go_wp2_with fail
  refine (of_any f0 f1 f2 _ (HT.out.later HB1.out) H.out.1 H.out.2.1 H.out.2.2.1).mono ?_
  rintro e w2 ⟨v2, y2, rfl, hn2, hy2, hb2⟩
  obtain ⟨a2, n2, c2, low2, neg2, nn2, rfl, hn2⟩ := isNum_form hn2
  subst hy2
  have g23 : w2.cell? ⟨w.heap.size, 3, none⟩ = some (.float .f64 f3) := cell_later hb2 g3
  have g24 : w2.cell? ⟨w.heap.size, 4, none⟩ = some (.float .f64 f4) := cell_later hb2 g4
  have g25 : w2.cell? ⟨w.heap.size, 5, none⟩ = some (.float .f64 f5) := cell_later hb2 g5
  have g26 : w2.cell? ⟨w.heap.size, 6, none⟩ = some (.float .f64 f6) := cell_later hb2 g6
  have g27 : w2.cell? ⟨w.heap.size, 7, none⟩ = some (.float .f64 f7) := cell_later hb2 g7
  have g28 : w2.cell? ⟨w.heap.size, 8, none⟩ = some (.float .f64 f8) := cell_later hb2 g8
  have HB2 : Hid (Below w.heap.size w w2) := thru HB1.out hb2
  have hs2 : w.heap.size < w2.heap.size := by have := hb2.size; omega
  have HN2 : Hid (IsNum w2 (.agg #[.slice a2 n2 c2, .int .i64 low2, .bool neg2, .bool nn2]) (some (ofR f0 f1 f2))) := hn2
  clear hn2 hb2 HB1 g0 g1 g2 g3 g4 g5 g6 g7 g8
  have HA : Hid (Below w2.heap.size w2 (w2.alloc (.cells #[.slice a2 n2 c2, .int .i64 low2, .bool neg2, .bool nn2] 27))) := (Below.refl _ _).alloc (Nat.le_refl _) _
  go_wp2_with fail
  refine (of_any f3 f4 f5 _ (HT.out.later (thru HB2.out HA.out)) H.out.2.2.2.1 H.out.2.2.2.2.1 H.out.2.2.2.2.2.1).mono ?_
  rintro e w3 ⟨v3, y3, rfl, hn3, hy3, hb3⟩
  obtain ⟨a3, n3, c3, low3, neg3, nn3, rfl, hn3⟩ := isNum_form hn3
  subst hy3
  have hc := thru HA.out hb3
  have g36 : w3.cell? ⟨w.heap.size, 6, none⟩ = some (.float .f64 f6) := cell_later hc g26
  have g37 : w3.cell? ⟨w.heap.size, 7, none⟩ = some (.float .f64 f7) := cell_later hc g27
  have g38 : w3.cell? ⟨w.heap.size, 8, none⟩ = some (.float .f64 f8) := cell_later hc g28
  have q20 : w3.cell? ⟨w2.heap.size, 0, none⟩ = some (.slice a2 n2 c2) := cell_later hb3 (by go_simp)
  have q21 : w3.cell? ⟨w2.heap.size, 1, none⟩ = some (.int .i64 low2) := cell_later hb3 (by go_simp)
  have q22 : w3.cell? ⟨w2.heap.size, 2, none⟩ = some (.bool neg2) := cell_later hb3 (by go_simp)
  have q23 : w3.cell? ⟨w2.heap.size, 3, none⟩ = some (.bool nn2) := cell_later hb3 (by go_simp)
  have HB3 : Hid (Below w.heap.size w w3) := thru HB2.out hc
  have hs3 : w2.heap.size < w3.heap.size := by have := hb3.size; simp at this; omega
  have hs03 : w.heap.size < w3.heap.size := by omega
  have HN2 : Hid (IsNum w3 (.agg #[.slice a2 n2 c2, .int .i64 low2, .bool neg2, .bool nn2]) (some (ofR f0 f1 f2))) := HN2.out.later hc
  have HN3 : Hid (IsNum w3 (.agg #[.slice a3 n3 c3, .int .i64 low3, .bool neg3, .bool nn3]) (some (ofR f3 f4 f5))) := hn3
  clear hn3 hb3 hc HA HB2 g23 g24 g25 g26 g27 g28
  have HA : Hid (Below w3.heap.size w3 (w3.alloc (.cells #[.slice a3 n3 c3, .int .i64 low3, .bool neg3, .bool nn3] 27))) := (Below.refl _ _).alloc (Nat.le_refl _) _
  go_wp2_with fail
  refine (of_any f6 f7 f8 _ (HT.out.later (thru HB3.out HA.out)) H.out.2.2.2.2.2.2.1 H.out.2.2.2.2.2.2.2.1 H.out.2.2.2.2.2.2.2.2).mono ?_
  rintro e w4 ⟨v4, y4, rfl, hn4, hy4, hb4⟩
  obtain ⟨a4, n4, c4, low4, neg4, nn4, rfl, hn4⟩ := isNum_form hn4
  subst hy4
  have hc := thru HA.out hb4
  have p20 : w4.cell? ⟨w2.heap.size, 0, none⟩ = some (.slice a2 n2 c2) := cell_later hc q20
  have p21 : w4.cell? ⟨w2.heap.size, 1, none⟩ = some (.int .i64 low2) := cell_later hc q21
  have p22 : w4.cell? ⟨w2.heap.size, 2, none⟩ = some (.bool neg2) := cell_later hc q22
  have p23 : w4.cell? ⟨w2.heap.size, 3, none⟩ = some (.bool nn2) := cell_later hc q23
  have p30 : w4.cell? ⟨w3.heap.size, 0, none⟩ = some (.slice a3 n3 c3) := cell_later hb4 (by go_simp)
  have p31 : w4.cell? ⟨w3.heap.size, 1, none⟩ = some (.int .i64 low3) := cell_later hb4 (by go_simp)
  have p32 : w4.cell? ⟨w3.heap.size, 2, none⟩ = some (.bool neg3) := cell_later hb4 (by go_simp)
  have p33 : w4.cell? ⟨w3.heap.size, 3, none⟩ = some (.bool nn3) := cell_later hb4 (by go_simp)
  have HB4 : Hid (Below w.heap.size w w4) := thru HB3.out hc
  have hs4 : w3.heap.size < w4.heap.size := by have := hb4.size; simp at this; omega
  have hs24 : w2.heap.size < w4.heap.size := by omega
  have HN2 : Hid (IsNum w4 (.agg #[.slice a2 n2 c2, .int .i64 low2, .bool neg2, .bool nn2]) (some (ofR f0 f1 f2))) := HN2.out.later hc
  have HN3 : Hid (IsNum w4 (.agg #[.slice a3 n3 c3, .int .i64 low3, .bool neg3, .bool nn3]) (some (ofR f3 f4 f5))) := HN3.out.later hc
  have HN4 : Hid (IsNum w4 (.agg #[.slice a4 n4 c4, .int .i64 low4, .bool neg4, .bool nn4]) (some (ofR f6 f7 f8))) := hn4
  clear hn4 hb4 hc HA HB3 g36 g37 g38 q20 q21 q22 q23
  go_upto_region 32 with fail
  have hC : Below w4.heap.size w4 (w4.alloc (.cells #[.slice a4 n4 c4, .int .i64 low4, .bool neg4, .bool nn4] 27)) := (Below.refl _ _).alloc (Nat.le_refl _) _
  have z40 : (w4.alloc (.cells #[.slice a4 n4 c4, .int .i64 low4, .bool neg4, .bool nn4] 27)).cell? ⟨w4.heap.size, 0, none⟩ = some (.slice a4 n4 c4) := by go_simp
  have z41 : (w4.alloc (.cells #[.slice a4 n4 c4, .int .i64 low4, .bool neg4, .bool nn4] 27)).cell? ⟨w4.heap.size, 1, none⟩ = some (.int .i64 low4) := by go_simp
  have z42 : (w4.alloc (.cells #[.slice a4 n4 c4, .int .i64 low4, .bool neg4, .bool nn4] 27)).cell? ⟨w4.heap.size, 2, none⟩ = some (.bool neg4) := by go_simp
  have z43 : (w4.alloc (.cells #[.slice a4 n4 c4, .int .i64 low4, .bool neg4, .bool nn4] 27)).cell? ⟨w4.heap.size, 3, none⟩ = some (.bool nn4) := by go_simp
  generalize (w4.alloc (.cells #[.slice a4 n4 c4, .int .i64 low4, .bool neg4, .bool nn4] 27)) = wq at *
  have z20 : wq.cell? ⟨w2.heap.size, 0, none⟩ = some (.slice a2 n2 c2) := cell_later hC p20
  have z21 : wq.cell? ⟨w2.heap.size, 1, none⟩ = some (.int .i64 low2) := cell_later hC p21
  have z22 : wq.cell? ⟨w2.heap.size, 2, none⟩ = some (.bool neg2) := cell_later hC p22
  have z23 : wq.cell? ⟨w2.heap.size, 3, none⟩ = some (.bool nn2) := cell_later hC p23
  have z30 : wq.cell? ⟨w3.heap.size, 0, none⟩ = some (.slice a3 n3 c3) := cell_later hC p30
  have z31 : wq.cell? ⟨w3.heap.size, 1, none⟩ = some (.int .i64 low3) := cell_later hC p31
  have z32 : wq.cell? ⟨w3.heap.size, 2, none⟩ = some (.bool neg3) := cell_later hC p32
  have z33 : wq.cell? ⟨w3.heap.size, 3, none⟩ = some (.bool nn3) := cell_later hC p33
  have HBC : Hid (Below w.heap.size w wq) := thru HB4.out hC
  have HN2 : Hid (IsNum wq (.agg #[.slice a2 n2 c2, .int .i64 low2, .bool neg2, .bool nn2]) (some (ofR f0 f1 f2))) := HN2.out.later hC
  have HN3 : Hid (IsNum wq (.agg #[.slice a3 n3 c3, .int .i64 low3, .bool neg3, .bool nn3]) (some (ofR f3 f4 f5))) := HN3.out.later hC
  have HN4 : Hid (IsNum wq (.agg #[.slice a4 n4 c4, .int .i64 low4, .bool neg4, .bool nn4]) (some (ofR f6 f7 f8))) := HN4.out.later hC
  clear hC p20 p21 p22 p23 p30 p31 p32 p33 HB4
  have HD2 : Hid (Bd 2049 (-2148) (ofR f0 f1 f2)) := ofR_bd _ _ _
  have HD3 : Hid (Bd 2049 (-2148) (ofR f3 f4 f5)) := ofR_bd _ _ _
  have HD4 : Hid (Bd 2049 (-2148) (ofR f6 f7 f8)) := ofR_bd _ _ _
  generalize ofR f0 f1 f2 = A at *
  generalize ofR f3 f4 f5 = B at *
  generalize ofR f6 f7 f8 = C at *
  have HAC : Hid (May (A + C)) := ((HD2.out.add HD4.out).may (by omega) (by omega))
  have HBCm : Hid (May (B + C)) := ((HD3.out.add HD4.out).may (by omega) (by omega))
  have HSUM : Hid (CmpX (some (A + C)) (some (B + C)) = cmpR A B) := cmpR_add A B C
  have rAB := cmpR_range A B
  have rBC := cmpR_range B C
  have rAC := cmpR_range A C
  have HTR : Hid (0 ≤ cmpR A B → 0 ≤ cmpR B C → 0 ≤ cmpR A C) := cmpR_trans
  have HPOS : Hid (0 < cmpR A B → B < A) := cmpR_pos
  have eAB : Hid (CmpX (some A) (some B) = cmpR A B) := rfl
  have eBC : Hid (CmpX (some B) (some C) = cmpR B C) := rfl
  have eAC : Hid (CmpX (some A) (some C) = cmpR A C) := rfl
  generalize cmpR A B = ab at *
  generalize cmpR B C = bc at *
  generalize cmpR A C = ac at *
  go_cut [73] (fun s wx => s = .bool false ∧ wx.cell? ⟨w2.heap.size, 0, none⟩ = some (.slice a2 n2 c2) ∧ wx.cell? ⟨w2.heap.size, 1, none⟩ = some (.int .i64 low2) ∧ wx.cell? ⟨w2.heap.size, 2, none⟩ = some (.bool neg2) ∧ wx.cell? ⟨w2.heap.size, 3, none⟩ = some (.bool nn2) ∧ wx.cell? ⟨w3.heap.size, 0, none⟩ = some (.slice a3 n3 c3) ∧ wx.cell? ⟨w3.heap.size, 1, none⟩ = some (.int .i64 low3) ∧ wx.cell? ⟨w3.heap.size, 2, none⟩ = some (.bool neg3) ∧ wx.cell? ⟨w3.heap.size, 3, none⟩ = some (.bool nn3) ∧ wx.cell? ⟨w4.heap.size, 0, none⟩ = some (.slice a4 n4 c4) ∧ wx.cell? ⟨w4.heap.size, 1, none⟩ = some (.int .i64 low4) ∧ wx.cell? ⟨w4.heap.size, 2, none⟩ = some (.bool neg4) ∧ wx.cell? ⟨w4.heap.size, 3, none⟩ = some (.bool nn4) ∧ Below wq.heap.size wq wx)
  case first =>
    have key : ab = -1 ∨ (ab = 0 ∧ bc < 0) ∨ (ab = 0 ∧ 0 ≤ bc) ∨ (ab = 1 ∧ bc < 0) ∨ (ab = 1 ∧ 0 ≤ bc) := by omega
    clear rAB rBC rAC
    rcases key with rfl | ⟨rfl, hbc⟩ | ⟨rfl, hbc⟩ | ⟨rfl, hbc⟩ | ⟨rfl, hbc⟩
    · refine wp_region_held_drew (S := (fun W => W.cell? ⟨w2.heap.size, 0, none⟩ = some (.slice a2 n2 c2) ∧ W.cell? ⟨w2.heap.size, 1, none⟩ = some (.int .i64 low2) ∧ W.cell? ⟨w2.heap.size, 2, none⟩ = some (.bool neg2) ∧ W.cell? ⟨w2.heap.size, 3, none⟩ = some (.bool nn2) ∧ W.cell? ⟨w3.heap.size, 0, none⟩ = some (.slice a3 n3 c3) ∧ W.cell? ⟨w3.heap.size, 1, none⟩ = some (.int .i64 low3) ∧ W.cell? ⟨w3.heap.size, 2, none⟩ = some (.bool neg3) ∧ W.cell? ⟨w3.heap.size, 3, none⟩ = some (.bool nn3) ∧ W.cell? ⟨w4.heap.size, 0, none⟩ = some (.slice a4 n4 c4) ∧ W.cell? ⟨w4.heap.size, 1, none⟩ = some (.int .i64 low4) ∧ W.cell? ⟨w4.heap.size, 2, none⟩ = some (.bool neg4) ∧ W.cell? ⟨w4.heap.size, 3, none⟩ = some (.bool nn4) ∧ Below wq.heap.size wq W)) (by kernel_rfl) ⟨z20, z21, z22, z23, z30, z31, z32, z33, z40, z41, z42, z43, (Below.refl _ _).drew⟩ (fun hS => ?_)
      refine take_at (i := 0) (d := some 32) (v := .agg #[.slice a2 n2 c2, .int .i64 low2, .bool neg2, .bool nn2]) (by kernel_rfl) (by kernel_rfl) (by kernel_rfl) (by kernel_rfl) (fun _ _ _ h => h) ?_ hS ?_
      · intro o ho
        simp only [List.getElem?_toArray, List.getElem?_cons_zero, Option.some.injEq] at ho
        subst ho
        refine Or.inl ⟨by rfl, ?_⟩
        intro w hSw
        (try dsimp only at hSw)
        go_simp
      simp only [Act.put, List.setIfInBounds_toArray, List.set_cons_zero, List.set_cons_succ]
      refine take_at (i := 1) (d := some 33) (v := .agg #[.slice a3 n3 c3, .int .i64 low3, .bool neg3, .bool nn3]) (by kernel_rfl) (by kernel_rfl) (by kernel_rfl) (by kernel_rfl) (fun _ _ _ h => h) ?_ hS ?_
      · intro o ho
        simp only [List.getElem?_toArray, List.getElem?_cons_succ, List.getElem?_cons_zero, Option.some.injEq] at ho
        subst ho
        refine Or.inl ⟨by rfl, ?_⟩
        intro w hSw
        (try dsimp only at hSw)
        go_simp
      simp only [Act.put, List.setIfInBounds_toArray, List.set_cons_zero, List.set_cons_succ]
      refine call_at 2 (by kernel_rfl) (by kernel_rfl) ?_
      intro o ho
      simp only [List.getElem?_toArray, List.getElem?_cons_succ, List.getElem?_cons_zero, Option.some.injEq] at ho
      subst ho
      intro K hK
      go_simp
      refine (cmp_any _ _ _ _ _ (HN2.out.later (keep12_bel hS)) (HN3.out.later (keep12_bel hS))).mono ?_
      rw [eAB.out]
      rintro e wx ⟨rfl, hbx⟩
      go_wp2_with fail
      refine hK.out _ _ (keep12 hS hbx) (fun hS => ?_)
      clear hK K
      try simp only [Act.put, List.setIfInBounds_toArray, List.set_cons_zero, List.set_cons_succ]
      refine take_at (i := 3) (d := some 35) (v := .bool false) (by kernel_rfl) (by kernel_rfl) (by kernel_rfl) (by kernel_rfl) (fun _ _ _ h => h) ?_ hS ?_
      · intro o ho
        simp only [List.getElem?_toArray, List.getElem?_cons_succ, List.getElem?_cons_zero, Option.some.injEq] at ho
        subst ho
        refine Or.inl ⟨by rfl, ?_⟩
        intro w hSw
        (try dsimp only at hSw)
        go_simp
      simp only [Act.put, List.setIfInBounds_toArray, List.set_cons_zero, List.set_cons_succ]
      refine take_at (i := 4) (d := some 36) (v := .bool false) (by kernel_rfl) (by kernel_rfl) (by kernel_rfl) (by kernel_rfl) (fun _ _ _ h => h) ?_ hS ?_
      · intro o ho
        simp only [List.getElem?_toArray, List.getElem?_cons_succ, List.getElem?_cons_zero, Option.some.injEq] at ho
        subst ho
        refine Or.inl ⟨by rfl, ?_⟩
        intro w hSw
        (try dsimp only at hSw)
        go_simp
      simp only [Act.put, List.setIfInBounds_toArray, List.set_cons_zero, List.set_cons_succ]
      refine skip_at 5 (d := some 37) (by kernel_rfl) (by kernel_rfl) (by kernel_rfl) (by kernel_rfl) (fun _ _ _ h => h) (by rfl) hS ?_
      simp only [Act.put, List.setIfInBounds_toArray, List.set_cons_zero, List.set_cons_succ]
      refine skip_at 6 (d := some 38) (by kernel_rfl) (by kernel_rfl) (by kernel_rfl) (by kernel_rfl) (fun _ _ _ h => h) (by rfl) hS ?_
      simp only [Act.put, List.setIfInBounds_toArray, List.set_cons_zero, List.set_cons_succ]
      refine skip_at 7 (d := some 39) (by kernel_rfl) (by kernel_rfl) (by kernel_rfl) (by kernel_rfl) (fun _ _ _ h => h) (by rfl) hS ?_
      simp only [Act.put, List.setIfInBounds_toArray, List.set_cons_zero, List.set_cons_succ]
      refine skip_at 8 (d := some 40) (by kernel_rfl) (by kernel_rfl) (by kernel_rfl) (by kernel_rfl) (fun _ _ _ h => h) (by rfl) hS ?_
      simp only [Act.put, List.setIfInBounds_toArray, List.set_cons_zero, List.set_cons_succ]
      refine take_at (i := 9) (d := some 41) (v := .bool false) (by kernel_rfl) (by kernel_rfl) (by kernel_rfl) (by kernel_rfl) (fun _ _ _ h => h) ?_ hS ?_
      · intro o ho
        simp only [List.getElem?_toArray, List.getElem?_cons_succ, List.getElem?_cons_zero, Option.some.injEq] at ho
        subst ho
        refine Or.inl ⟨by rfl, ?_⟩
        intro w hSw
        (try dsimp only at hSw)
        go_simp
      simp only [Act.put, List.setIfInBounds_toArray, List.set_cons_zero, List.set_cons_succ]
      refine take_at (i := 10) (d := some 42) (v := .bool false) (by kernel_rfl) (by kernel_rfl) (by kernel_rfl) (by kernel_rfl) (fun _ _ _ h => h) ?_ hS ?_
      · intro o ho
        simp only [List.getElem?_toArray, List.getElem?_cons_succ, List.getElem?_cons_zero, Option.some.injEq] at ho
        subst ho
        refine Or.inl ⟨by rfl, ?_⟩
        intro w hSw
        (try dsimp only at hSw)
        go_simp
      simp only [Act.put, List.setIfInBounds_toArray, List.set_cons_zero, List.set_cons_succ]
      refine skip_at 11 (d := some 43) (by kernel_rfl) (by kernel_rfl) (by kernel_rfl) (by kernel_rfl) (fun _ _ _ h => h) (by rfl) hS ?_
      simp only [Act.put, List.setIfInBounds_toArray, List.set_cons_zero, List.set_cons_succ]
      refine skip_at 12 (d := some 44) (by kernel_rfl) (by kernel_rfl) (by kernel_rfl) (by kernel_rfl) (fun _ _ _ h => h) (by rfl) hS ?_
      simp only [Act.put, List.setIfInBounds_toArray, List.set_cons_zero, List.set_cons_succ]
      refine skip_at 13 (d := some 45) (by kernel_rfl) (by kernel_rfl) (by kernel_rfl) (by kernel_rfl) (fun _ _ _ h => h) (by rfl) hS ?_
      simp only [Act.put, List.setIfInBounds_toArray, List.set_cons_zero, List.set_cons_succ]
      refine skip_at 14 (d := some 46) (by kernel_rfl) (by kernel_rfl) (by kernel_rfl) (by kernel_rfl) (fun _ _ _ h => h) (by rfl) hS ?_
      simp only [Act.put, List.setIfInBounds_toArray, List.set_cons_zero, List.set_cons_succ]
      refine take_at (i := 15) (d := some 47) (v := .bool false) (by kernel_rfl) (by kernel_rfl) (by kernel_rfl) (by kernel_rfl) (fun _ _ _ h => h) ?_ hS ?_
      · intro o ho
        simp only [List.getElem?_toArray, List.getElem?_cons_succ, List.getElem?_cons_zero, Option.some.injEq] at ho
        subst ho
        refine Or.inl ⟨by rfl, ?_⟩
        intro w hSw
        (try dsimp only at hSw)
        go_simp
      simp only [Act.put, List.setIfInBounds_toArray, List.set_cons_zero, List.set_cons_succ]
      refine take_at (i := 16) (d := some 48) (v := .bool false) (by kernel_rfl) (by kernel_rfl) (by kernel_rfl) (by kernel_rfl) (fun _ _ _ h => h) ?_ hS ?_
      · intro o ho
        simp only [List.getElem?_toArray, List.getElem?_cons_succ, List.getElem?_cons_zero, Option.some.injEq] at ho
        subst ho
        refine Or.inl ⟨by rfl, ?_⟩
        intro w hSw
        (try dsimp only at hSw)
        go_simp
      simp only [Act.put, List.setIfInBounds_toArray, List.set_cons_zero, List.set_cons_succ]
      refine take_at (i := 17) (d := some 49) (v := .agg #[.slice a2 n2 c2, .int .i64 low2, .bool neg2, .bool nn2]) (by kernel_rfl) (by kernel_rfl) (by kernel_rfl) (by kernel_rfl) (fun _ _ _ h => h) ?_ hS ?_
      · intro o ho
        simp only [List.getElem?_toArray, List.getElem?_cons_succ, List.getElem?_cons_zero, Option.some.injEq] at ho
        subst ho
        refine Or.inl ⟨by rfl, ?_⟩
        intro w hSw
        (try dsimp only at hSw)
        go_simp
      simp only [Act.put, List.setIfInBounds_toArray, List.set_cons_zero, List.set_cons_succ]
      refine take_at (i := 18) (d := some 50) (v := .agg #[.slice a4 n4 c4, .int .i64 low4, .bool neg4, .bool nn4]) (by kernel_rfl) (by kernel_rfl) (by kernel_rfl) (by kernel_rfl) (fun _ _ _ h => h) ?_ hS ?_
      · intro o ho
        simp only [List.getElem?_toArray, List.getElem?_cons_succ, List.getElem?_cons_zero, Option.some.injEq] at ho
        subst ho
        refine Or.inl ⟨by rfl, ?_⟩
        intro w hSw
        (try dsimp only at hSw)
        go_simp
      simp only [Act.put, List.setIfInBounds_toArray, List.set_cons_zero, List.set_cons_succ]
      refine take_at (i := 20) (d := some 52) (v := .agg #[.slice a3 n3 c3, .int .i64 low3, .bool neg3, .bool nn3]) (by kernel_rfl) (by kernel_rfl) (by kernel_rfl) (by kernel_rfl) (fun _ _ _ h => h) ?_ hS ?_
      · intro o ho
        simp only [List.getElem?_toArray, List.getElem?_cons_succ, List.getElem?_cons_zero, Option.some.injEq] at ho
        subst ho
        refine Or.inl ⟨by rfl, ?_⟩
        intro w hSw
        (try dsimp only at hSw)
        go_simp
      simp only [Act.put, List.setIfInBounds_toArray, List.set_cons_zero, List.set_cons_succ]
      refine take_at (i := 21) (d := some 53) (v := .agg #[.slice a4 n4 c4, .int .i64 low4, .bool neg4, .bool nn4]) (by kernel_rfl) (by kernel_rfl) (by kernel_rfl) (by kernel_rfl) (fun _ _ _ h => h) ?_ hS ?_
      · intro o ho
        simp only [List.getElem?_toArray, List.getElem?_cons_succ, List.getElem?_cons_zero, Option.some.injEq] at ho
        subst ho
        refine Or.inl ⟨by rfl, ?_⟩
        intro w hSw
        (try dsimp only at hSw)
        go_simp
      simp only [Act.put, List.setIfInBounds_toArray, List.set_cons_zero, List.set_cons_succ]
      refine take_at (i := 24) (d := some 56) (v := .agg #[.slice a2 n2 c2, .int .i64 low2, .bool neg2, .bool nn2]) (by kernel_rfl) (by kernel_rfl) (by kernel_rfl) (by kernel_rfl) (fun _ _ _ h => h) ?_ hS ?_
      · intro o ho
        simp only [List.getElem?_toArray, List.getElem?_cons_succ, List.getElem?_cons_zero, Option.some.injEq] at ho
        subst ho
        refine Or.inl ⟨by rfl, ?_⟩
        intro w hSw
        (try dsimp only at hSw)
        go_simp
      simp only [Act.put, List.setIfInBounds_toArray, List.set_cons_zero, List.set_cons_succ]
      refine take_at (i := 25) (d := some 57) (v := .agg #[.slice a3 n3 c3, .int .i64 low3, .bool neg3, .bool nn3]) (by kernel_rfl) (by kernel_rfl) (by kernel_rfl) (by kernel_rfl) (fun _ _ _ h => h) ?_ hS ?_
      · intro o ho
        simp only [List.getElem?_toArray, List.getElem?_cons_succ, List.getElem?_cons_zero, Option.some.injEq] at ho
        subst ho
        refine Or.inl ⟨by rfl, ?_⟩
        intro w hSw
        (try dsimp only at hSw)
        go_simp
      simp only [Act.put, List.setIfInBounds_toArray, List.set_cons_zero, List.set_cons_succ]
      refine call_at 19 (by kernel_rfl) (by kernel_rfl) ?_
      intro o ho
      simp only [List.getElem?_toArray, List.getElem?_cons_succ, List.getElem?_cons_zero, Option.some.injEq] at ho
      subst ho
      intro K hK
      go_simp
      refine (add_any _ _ _ _ _ (HN2.out.later (keep12_bel hS)) (HN4.out.later (keep12_bel hS)) (HT.out.later (thru HBC.out (keep12_bel hS)))).mono ?_
      rintro e wx ⟨v21, y21, rfl, hn21, hy21, hbx⟩
      obtain ⟨a21, n21, c21, low21, neg21, nn21, rfl, hn21⟩ := isNum_form hn21
      have e21 := op2_may hy21 HAC.out
      subst e21
      go_wp2_with fail
      refine hK.out _ _ (keep12 hS hbx) (fun hS => ?_)
      clear hK K
      try simp only [Act.put, List.setIfInBounds_toArray, List.set_cons_zero, List.set_cons_succ]
      refine call_at 22 (by kernel_rfl) (by kernel_rfl) ?_
      intro o ho
      simp only [List.getElem?_toArray, List.getElem?_cons_succ, List.getElem?_cons_zero, Option.some.injEq] at ho
      subst ho
      intro K hK
      go_simp
      refine (add_any _ _ _ _ _ (HN3.out.later (keep12_bel hS)) (HN4.out.later (keep12_bel hS)) (HT.out.later (thru HBC.out (keep12_bel hS)))).mono ?_
      rintro e wx ⟨v22, y22, rfl, hn22, hy22, hbx⟩
      obtain ⟨a22, n22, c22, low22, neg22, nn22, rfl, hn22⟩ := isNum_form hn22
      have e22 := op2_may hy22 HBCm.out
      subst e22
      have hn21 := hn21.later hbx
      go_wp2_with fail
      refine hK.out _ _ (keep12 hS hbx) (fun hS => ?_)
      clear hK K
      try simp only [Act.put, List.setIfInBounds_toArray, List.set_cons_zero, List.set_cons_succ]
      refine call_at 23 (by kernel_rfl) (by kernel_rfl) ?_
      intro o ho
      simp only [List.getElem?_toArray, List.getElem?_cons_succ, List.getElem?_cons_zero, Option.some.injEq] at ho
      subst ho
      intro K hK
      go_simp
      refine (cmp_any _ _ _ _ _ hn21 hn22).mono ?_
      rw [HSUM.out]
      rintro e wx ⟨rfl, hbx⟩
      go_wp2_with fail
      refine hK.out _ _ (keep12 hS hbx) (fun hS => ?_)
      clear hK K
      try simp only [Act.put, List.setIfInBounds_toArray, List.set_cons_zero, List.set_cons_succ]
      refine call_at 26 (by kernel_rfl) (by kernel_rfl) ?_
      intro o ho
      simp only [List.getElem?_toArray, List.getElem?_cons_succ, List.getElem?_cons_zero, Option.some.injEq] at ho
      subst ho
      intro K hK
      go_simp
      refine (cmp_any _ _ _ _ _ (HN2.out.later (keep12_bel hS)) (HN3.out.later (keep12_bel hS))).mono ?_
      rw [eAB.out]
      rintro e wx ⟨rfl, hbx⟩
      go_wp2_with fail
      refine hK.out _ _ (keep12 hS hbx) (fun hS => ?_)
      clear hK K
      try simp only [Act.put, List.setIfInBounds_toArray, List.set_cons_zero, List.set_cons_succ]
      refine take_at (i := 27) (d := some 59) (v := .bool false) (by kernel_rfl) (by kernel_rfl) (by kernel_rfl) (by kernel_rfl) (fun _ _ _ h => h) ?_ hS ?_
      · intro o ho
        simp only [List.getElem?_toArray, List.getElem?_cons_succ, List.getElem?_cons_zero, Option.some.injEq] at ho
        subst ho
        refine Or.inl ⟨by rfl, ?_⟩
        intro w hSw
        (try dsimp only at hSw)
        go_simp
      simp only [Act.put, List.setIfInBounds_toArray, List.set_cons_zero, List.set_cons_succ]
      refine take_at (i := 28) (d := some 60) (v := .bool false) (by kernel_rfl) (by kernel_rfl) (by kernel_rfl) (by kernel_rfl) (fun _ _ _ h => h) ?_ hS ?_
      · intro o ho
        simp only [List.getElem?_toArray, List.getElem?_cons_succ, List.getElem?_cons_zero, Option.some.injEq] at ho
        subst ho
        refine Or.inl ⟨by rfl, ?_⟩
        intro w hSw
        (try dsimp only at hSw)
        go_simp
      simp only [Act.put, List.setIfInBounds_toArray, List.set_cons_zero, List.set_cons_succ]
      refine take_at (i := 29) (d := some 61) (v := .bool false) (by kernel_rfl) (by kernel_rfl) (by kernel_rfl) (by kernel_rfl) (fun _ _ _ h => h) ?_ hS ?_
      · intro o ho
        simp only [List.getElem?_toArray, List.getElem?_cons_succ, List.getElem?_cons_zero, Option.some.injEq] at ho
        subst ho
        refine Or.inl ⟨by rfl, ?_⟩
        intro w hSw
        (try dsimp only at hSw)
        go_simp
      simp only [Act.put, List.setIfInBounds_toArray, List.set_cons_zero, List.set_cons_succ]
      refine take_at (i := 30) (d := some 62) (v := .agg #[.slice a2 n2 c2, .int .i64 low2, .bool neg2, .bool nn2]) (by kernel_rfl) (by kernel_rfl) (by kernel_rfl) (by kernel_rfl) (fun _ _ _ h => h) ?_ hS ?_
      · intro o ho
        simp only [List.getElem?_toArray, List.getElem?_cons_succ, List.getElem?_cons_zero, Option.some.injEq] at ho
        subst ho
        refine Or.inl ⟨by rfl, ?_⟩
        intro w hSw
        (try dsimp only at hSw)
        go_simp
      simp only [Act.put, List.setIfInBounds_toArray, List.set_cons_zero, List.set_cons_succ]
      refine take_at (i := 31) (d := some 63) (v := .agg #[.slice a3 n3 c3, .int .i64 low3, .bool neg3, .bool nn3]) (by kernel_rfl) (by kernel_rfl) (by kernel_rfl) (by kernel_rfl) (fun _ _ _ h => h) ?_ hS ?_
      · intro o ho
        simp only [List.getElem?_toArray, List.getElem?_cons_succ, List.getElem?_cons_zero, Option.some.injEq] at ho
        subst ho
        refine Or.inl ⟨by rfl, ?_⟩
        intro w hSw
        (try dsimp only at hSw)
        go_simp
      simp only [Act.put, List.setIfInBounds_toArray, List.set_cons_zero, List.set_cons_succ]
      refine call_at 32 (by kernel_rfl) (by kernel_rfl) ?_
      intro o ho
      simp only [List.getElem?_toArray, List.getElem?_cons_succ, List.getElem?_cons_zero, Option.some.injEq] at ho
      subst ho
      intro K hK
      go_simp
      refine (cmp_any _ _ _ _ _ (HN2.out.later (keep12_bel hS)) (HN3.out.later (keep12_bel hS))).mono ?_
      rw [eAB.out]
      rintro e wx ⟨rfl, hbx⟩
      go_wp2_with fail
      refine hK.out _ _ (keep12 hS hbx) (fun hS => ?_)
      clear hK K
      try simp only [Act.put, List.setIfInBounds_toArray, List.set_cons_zero, List.set_cons_succ]
      refine take_at (i := 33) (d := some 65) (v := .bool false) (by kernel_rfl) (by kernel_rfl) (by kernel_rfl) (by kernel_rfl) (fun _ _ _ h => h) ?_ hS ?_
      · intro o ho
        simp only [List.getElem?_toArray, List.getElem?_cons_succ, List.getElem?_cons_zero, Option.some.injEq] at ho
        subst ho
        refine Or.inl ⟨by rfl, ?_⟩
        intro w hSw
        (try dsimp only at hSw)
        go_simp
      simp only [Act.put, List.setIfInBounds_toArray, List.set_cons_zero, List.set_cons_succ]
      refine take_at (i := 34) (d := some 66) (v := .bool false) (by kernel_rfl) (by kernel_rfl) (by kernel_rfl) (by kernel_rfl) (fun _ _ _ h => h) ?_ hS ?_
      · intro o ho
        simp only [List.getElem?_toArray, List.getElem?_cons_succ, List.getElem?_cons_zero, Option.some.injEq] at ho
        subst ho
        refine Or.inl ⟨by rfl, ?_⟩
        intro w hSw
        (try dsimp only at hSw)
        go_simp
      simp only [Act.put, List.setIfInBounds_toArray, List.set_cons_zero, List.set_cons_succ]
      refine skip_at 35 (d := some 67) (by kernel_rfl) (by kernel_rfl) (by kernel_rfl) (by kernel_rfl) (fun _ _ _ h => h) (by rfl) hS ?_
      simp only [Act.put, List.setIfInBounds_toArray, List.set_cons_zero, List.set_cons_succ]
      refine skip_at 37 (d := some 69) (by kernel_rfl) (by kernel_rfl) (by kernel_rfl) (by kernel_rfl) (fun _ _ _ h => h) (by rfl) hS ?_
      simp only [Act.put, List.setIfInBounds_toArray, List.set_cons_zero, List.set_cons_succ]
      refine skip_at 36 (d := some 68) (by kernel_rfl) (by kernel_rfl) (by kernel_rfl) (by kernel_rfl) (fun _ _ _ h => h) (by rfl) hS ?_
      simp only [Act.put, List.setIfInBounds_toArray, List.set_cons_zero, List.set_cons_succ]
      refine skip_at 38 (d := some 70) (by kernel_rfl) (by kernel_rfl) (by kernel_rfl) (by kernel_rfl) (fun _ _ _ h => h) (by rfl) hS ?_
      simp only [Act.put, List.setIfInBounds_toArray, List.set_cons_zero, List.set_cons_succ]
      refine skip_at 39 (d := some 71) (by kernel_rfl) (by kernel_rfl) (by kernel_rfl) (by kernel_rfl) (fun _ _ _ h => h) (by rfl) hS ?_
      simp only [Act.put, List.setIfInBounds_toArray, List.set_cons_zero, List.set_cons_succ]
      refine take_at (i := 40) (d := some 72) (v := .bool false) (by kernel_rfl) (by kernel_rfl) (by kernel_rfl) (by kernel_rfl) (fun _ _ _ h => h) ?_ hS ?_
      · intro o ho
        simp only [List.getElem?_toArray, List.getElem?_cons_succ, List.getElem?_cons_zero, Option.some.injEq] at ho
        subst ho
        refine Or.inl ⟨by rfl, ?_⟩
        intro w hSw
        (try dsimp only at hSw)
        go_simp
      simp only [Act.put, List.setIfInBounds_toArray, List.set_cons_zero, List.set_cons_succ]
      refine take_at (i := 41) (d := some 73) (v := .bool false) (by kernel_rfl) (by kernel_rfl) (by kernel_rfl) (by kernel_rfl) (fun _ _ _ h => h) ?_ hS ?_
      · intro o ho
        simp only [List.getElem?_toArray, List.getElem?_cons_succ, List.getElem?_cons_zero, Option.some.injEq] at ho
        subst ho
        refine Or.inl ⟨by rfl, ?_⟩
        intro w hSw
        (try dsimp only at hSw)
        go_simp
      simp only [Act.put, List.setIfInBounds_toArray, List.set_cons_zero, List.set_cons_succ]
      refine wpAnyH_done (by kernel_rfl) ?_ _
      go_wp2_with fail
      go_meet
      exact ⟨rfl, hS⟩
    · have hb : decide (0 ≤ bc) = false := decide_eq_false (by omega)
      clear hbc
      refine wp_region_held_drew (S := (fun W => W.cell? ⟨w2.heap.size, 0, none⟩ = some (.slice a2 n2 c2) ∧ W.cell? ⟨w2.heap.size, 1, none⟩ = some (.int .i64 low2) ∧ W.cell? ⟨w2.heap.size, 2, none⟩ = some (.bool neg2) ∧ W.cell? ⟨w2.heap.size, 3, none⟩ = some (.bool nn2) ∧ W.cell? ⟨w3.heap.size, 0, none⟩ = some (.slice a3 n3 c3) ∧ W.cell? ⟨w3.heap.size, 1, none⟩ = some (.int .i64 low3) ∧ W.cell? ⟨w3.heap.size, 2, none⟩ = some (.bool neg3) ∧ W.cell? ⟨w3.heap.size, 3, none⟩ = some (.bool nn3) ∧ W.cell? ⟨w4.heap.size, 0, none⟩ = some (.slice a4 n4 c4) ∧ W.cell? ⟨w4.heap.size, 1, none⟩ = some (.int .i64 low4) ∧ W.cell? ⟨w4.heap.size, 2, none⟩ = some (.bool neg4) ∧ W.cell? ⟨w4.heap.size, 3, none⟩ = some (.bool nn4) ∧ Below wq.heap.size wq W)) (by kernel_rfl) ⟨z20, z21, z22, z23, z30, z31, z32, z33, z40, z41, z42, z43, (Below.refl _ _).drew⟩ (fun hS => ?_)
      refine take_at (i := 0) (d := some 32) (v := .agg #[.slice a2 n2 c2, .int .i64 low2, .bool neg2, .bool nn2]) (by kernel_rfl) (by kernel_rfl) (by kernel_rfl) (by kernel_rfl) (fun _ _ _ h => h) ?_ hS ?_
      · intro o ho
        simp only [List.getElem?_toArray, List.getElem?_cons_zero, Option.some.injEq] at ho
        subst ho
        refine Or.inl ⟨by rfl, ?_⟩
        intro w hSw
        (try dsimp only at hSw)
        go_simp
      simp only [Act.put, List.setIfInBounds_toArray, List.set_cons_zero, List.set_cons_succ]
      refine take_at (i := 1) (d := some 33) (v := .agg #[.slice a3 n3 c3, .int .i64 low3, .bool neg3, .bool nn3]) (by kernel_rfl) (by kernel_rfl) (by kernel_rfl) (by kernel_rfl) (fun _ _ _ h => h) ?_ hS ?_
      · intro o ho
        simp only [List.getElem?_toArray, List.getElem?_cons_succ, List.getElem?_cons_zero, Option.some.injEq] at ho
        subst ho
        refine Or.inl ⟨by rfl, ?_⟩
        intro w hSw
        (try dsimp only at hSw)
        go_simp
      simp only [Act.put, List.setIfInBounds_toArray, List.set_cons_zero, List.set_cons_succ]
      refine call_at 2 (by kernel_rfl) (by kernel_rfl) ?_
      intro o ho
      simp only [List.getElem?_toArray, List.getElem?_cons_succ, List.getElem?_cons_zero, Option.some.injEq] at ho
      subst ho
      intro K hK
      go_simp
      refine (cmp_any _ _ _ _ _ (HN2.out.later (keep12_bel hS)) (HN3.out.later (keep12_bel hS))).mono ?_
      rw [eAB.out]
      rintro e wx ⟨rfl, hbx⟩
      go_wp2_with fail
      refine hK.out _ _ (keep12 hS hbx) (fun hS => ?_)
      clear hK K
      try simp only [Act.put, List.setIfInBounds_toArray, List.set_cons_zero, List.set_cons_succ]
      refine take_at (i := 3) (d := some 35) (v := .bool true) (by kernel_rfl) (by kernel_rfl) (by kernel_rfl) (by kernel_rfl) (fun _ _ _ h => h) ?_ hS ?_
      · intro o ho
        simp only [List.getElem?_toArray, List.getElem?_cons_succ, List.getElem?_cons_zero, Option.some.injEq] at ho
        subst ho
        refine Or.inl ⟨by rfl, ?_⟩
        intro w hSw
        (try dsimp only at hSw)
        go_simp
      simp only [Act.put, List.setIfInBounds_toArray, List.set_cons_zero, List.set_cons_succ]
      refine take_at (i := 4) (d := some 36) (v := .bool true) (by kernel_rfl) (by kernel_rfl) (by kernel_rfl) (by kernel_rfl) (fun _ _ _ h => h) ?_ hS ?_
      · intro o ho
        simp only [List.getElem?_toArray, List.getElem?_cons_succ, List.getElem?_cons_zero, Option.some.injEq] at ho
        subst ho
        refine Or.inl ⟨by rfl, ?_⟩
        intro w hSw
        (try dsimp only at hSw)
        go_simp
      simp only [Act.put, List.setIfInBounds_toArray, List.set_cons_zero, List.set_cons_succ]
      refine take_at (i := 5) (d := some 37) (v := .agg #[.slice a3 n3 c3, .int .i64 low3, .bool neg3, .bool nn3]) (by kernel_rfl) (by kernel_rfl) (by kernel_rfl) (by kernel_rfl) (fun _ _ _ h => h) ?_ hS ?_
      · intro o ho
        simp only [List.getElem?_toArray, List.getElem?_cons_succ, List.getElem?_cons_zero, Option.some.injEq] at ho
        subst ho
        refine Or.inl ⟨by rfl, ?_⟩
        intro w hSw
        (try dsimp only at hSw)
        go_simp
      simp only [Act.put, List.setIfInBounds_toArray, List.set_cons_zero, List.set_cons_succ]
      refine take_at (i := 6) (d := some 38) (v := .agg #[.slice a4 n4 c4, .int .i64 low4, .bool neg4, .bool nn4]) (by kernel_rfl) (by kernel_rfl) (by kernel_rfl) (by kernel_rfl) (fun _ _ _ h => h) ?_ hS ?_
      · intro o ho
        simp only [List.getElem?_toArray, List.getElem?_cons_succ, List.getElem?_cons_zero, Option.some.injEq] at ho
        subst ho
        refine Or.inl ⟨by rfl, ?_⟩
        intro w hSw
        (try dsimp only at hSw)
        go_simp
      simp only [Act.put, List.setIfInBounds_toArray, List.set_cons_zero, List.set_cons_succ]
      refine call_at 7 (by kernel_rfl) (by kernel_rfl) ?_
      intro o ho
      simp only [List.getElem?_toArray, List.getElem?_cons_succ, List.getElem?_cons_zero, Option.some.injEq] at ho
      subst ho
      intro K hK
      go_simp
      refine (cmp_any _ _ _ _ _ (HN3.out.later (keep12_bel hS)) (HN4.out.later (keep12_bel hS))).mono ?_
      rw [eBC.out]
      rintro e wx ⟨rfl, hbx⟩
      go_wp2_with fail
      refine hK.out _ _ (keep12 hS hbx) (fun hS => ?_)
      clear hK K
      try simp only [Act.put, List.setIfInBounds_toArray, List.set_cons_zero, List.set_cons_succ]
      refine take_at (i := 8) (d := some 40) (v := .bool false) (by kernel_rfl) (by kernel_rfl) (by kernel_rfl) (by kernel_rfl) (fun _ _ _ h => h) ?_ hS ?_
      · intro o ho
        simp only [List.getElem?_toArray, List.getElem?_cons_succ, List.getElem?_cons_zero, Option.some.injEq] at ho
        subst ho
        refine Or.inl ⟨by rfl, ?_⟩
        intro w hSw
        (try dsimp only at hSw)
        go_simp
      simp only [Act.put, List.setIfInBounds_toArray, List.set_cons_zero, List.set_cons_succ]
      refine take_at (i := 9) (d := some 41) (v := .bool false) (by kernel_rfl) (by kernel_rfl) (by kernel_rfl) (by kernel_rfl) (fun _ _ _ h => h) ?_ hS ?_
      · intro o ho
        simp only [List.getElem?_toArray, List.getElem?_cons_succ, List.getElem?_cons_zero, Option.some.injEq] at ho
        subst ho
        refine Or.inl ⟨by rfl, ?_⟩
        intro w hSw
        (try dsimp only at hSw)
        go_simp
      simp only [Act.put, List.setIfInBounds_toArray, List.set_cons_zero, List.set_cons_succ]
      refine take_at (i := 10) (d := some 42) (v := .bool false) (by kernel_rfl) (by kernel_rfl) (by kernel_rfl) (by kernel_rfl) (fun _ _ _ h => h) ?_ hS ?_
      · intro o ho
        simp only [List.getElem?_toArray, List.getElem?_cons_succ, List.getElem?_cons_zero, Option.some.injEq] at ho
        subst ho
        refine Or.inl ⟨by rfl, ?_⟩
        intro w hSw
        (try dsimp only at hSw)
        go_simp
      simp only [Act.put, List.setIfInBounds_toArray, List.set_cons_zero, List.set_cons_succ]
      refine skip_at 11 (d := some 43) (by kernel_rfl) (by kernel_rfl) (by kernel_rfl) (by kernel_rfl) (fun _ _ _ h => h) (by rfl) hS ?_
      simp only [Act.put, List.setIfInBounds_toArray, List.set_cons_zero, List.set_cons_succ]
      refine skip_at 12 (d := some 44) (by kernel_rfl) (by kernel_rfl) (by kernel_rfl) (by kernel_rfl) (fun _ _ _ h => h) (by rfl) hS ?_
      simp only [Act.put, List.setIfInBounds_toArray, List.set_cons_zero, List.set_cons_succ]
      refine skip_at 13 (d := some 45) (by kernel_rfl) (by kernel_rfl) (by kernel_rfl) (by kernel_rfl) (fun _ _ _ h => h) (by rfl) hS ?_
      simp only [Act.put, List.setIfInBounds_toArray, List.set_cons_zero, List.set_cons_succ]
      refine skip_at 14 (d := some 46) (by kernel_rfl) (by kernel_rfl) (by kernel_rfl) (by kernel_rfl) (fun _ _ _ h => h) (by rfl) hS ?_
      simp only [Act.put, List.setIfInBounds_toArray, List.set_cons_zero, List.set_cons_succ]
      refine take_at (i := 15) (d := some 47) (v := .bool false) (by kernel_rfl) (by kernel_rfl) (by kernel_rfl) (by kernel_rfl) (fun _ _ _ h => h) ?_ hS ?_
      · intro o ho
        simp only [List.getElem?_toArray, List.getElem?_cons_succ, List.getElem?_cons_zero, Option.some.injEq] at ho
        subst ho
        refine Or.inl ⟨by rfl, ?_⟩
        intro w hSw
        (try dsimp only at hSw)
        go_simp
      simp only [Act.put, List.setIfInBounds_toArray, List.set_cons_zero, List.set_cons_succ]
      refine take_at (i := 16) (d := some 48) (v := .bool false) (by kernel_rfl) (by kernel_rfl) (by kernel_rfl) (by kernel_rfl) (fun _ _ _ h => h) ?_ hS ?_
      · intro o ho
        simp only [List.getElem?_toArray, List.getElem?_cons_succ, List.getElem?_cons_zero, Option.some.injEq] at ho
        subst ho
        refine Or.inl ⟨by rfl, ?_⟩
        intro w hSw
        (try dsimp only at hSw)
        go_simp
      simp only [Act.put, List.setIfInBounds_toArray, List.set_cons_zero, List.set_cons_succ]
      refine take_at (i := 17) (d := some 49) (v := .agg #[.slice a2 n2 c2, .int .i64 low2, .bool neg2, .bool nn2]) (by kernel_rfl) (by kernel_rfl) (by kernel_rfl) (by kernel_rfl) (fun _ _ _ h => h) ?_ hS ?_
      · intro o ho
        simp only [List.getElem?_toArray, List.getElem?_cons_succ, List.getElem?_cons_zero, Option.some.injEq] at ho
        subst ho
        refine Or.inl ⟨by rfl, ?_⟩
        intro w hSw
        (try dsimp only at hSw)
        go_simp
      simp only [Act.put, List.setIfInBounds_toArray, List.set_cons_zero, List.set_cons_succ]
      refine take_at (i := 18) (d := some 50) (v := .agg #[.slice a4 n4 c4, .int .i64 low4, .bool neg4, .bool nn4]) (by kernel_rfl) (by kernel_rfl) (by kernel_rfl) (by kernel_rfl) (fun _ _ _ h => h) ?_ hS ?_
      · intro o ho
        simp only [List.getElem?_toArray, List.getElem?_cons_succ, List.getElem?_cons_zero, Option.some.injEq] at ho
        subst ho
        refine Or.inl ⟨by rfl, ?_⟩
        intro w hSw
        (try dsimp only at hSw)
        go_simp
      simp only [Act.put, List.setIfInBounds_toArray, List.set_cons_zero, List.set_cons_succ]
      refine take_at (i := 20) (d := some 52) (v := .agg #[.slice a3 n3 c3, .int .i64 low3, .bool neg3, .bool nn3]) (by kernel_rfl) (by kernel_rfl) (by kernel_rfl) (by kernel_rfl) (fun _ _ _ h => h) ?_ hS ?_
      · intro o ho
        simp only [List.getElem?_toArray, List.getElem?_cons_succ, List.getElem?_cons_zero, Option.some.injEq] at ho
        subst ho
        refine Or.inl ⟨by rfl, ?_⟩
        intro w hSw
        (try dsimp only at hSw)
        go_simp
      simp only [Act.put, List.setIfInBounds_toArray, List.set_cons_zero, List.set_cons_succ]
      refine take_at (i := 21) (d := some 53) (v := .agg #[.slice a4 n4 c4, .int .i64 low4, .bool neg4, .bool nn4]) (by kernel_rfl) (by kernel_rfl) (by kernel_rfl) (by kernel_rfl) (fun _ _ _ h => h) ?_ hS ?_
      · intro o ho
        simp only [List.getElem?_toArray, List.getElem?_cons_succ, List.getElem?_cons_zero, Option.some.injEq] at ho
        subst ho
        refine Or.inl ⟨by rfl, ?_⟩
        intro w hSw
        (try dsimp only at hSw)
        go_simp
      simp only [Act.put, List.setIfInBounds_toArray, List.set_cons_zero, List.set_cons_succ]
      refine take_at (i := 24) (d := some 56) (v := .agg #[.slice a2 n2 c2, .int .i64 low2, .bool neg2, .bool nn2]) (by kernel_rfl) (by kernel_rfl) (by kernel_rfl) (by kernel_rfl) (fun _ _ _ h => h) ?_ hS ?_
      · intro o ho
        simp only [List.getElem?_toArray, List.getElem?_cons_succ, List.getElem?_cons_zero, Option.some.injEq] at ho
        subst ho
        refine Or.inl ⟨by rfl, ?_⟩
        intro w hSw
        (try dsimp only at hSw)
        go_simp
      simp only [Act.put, List.setIfInBounds_toArray, List.set_cons_zero, List.set_cons_succ]
      refine take_at (i := 25) (d := some 57) (v := .agg #[.slice a3 n3 c3, .int .i64 low3, .bool neg3, .bool nn3]) (by kernel_rfl) (by kernel_rfl) (by kernel_rfl) (by kernel_rfl) (fun _ _ _ h => h) ?_ hS ?_
      · intro o ho
        simp only [List.getElem?_toArray, List.getElem?_cons_succ, List.getElem?_cons_zero, Option.some.injEq] at ho
        subst ho
        refine Or.inl ⟨by rfl, ?_⟩
        intro w hSw
        (try dsimp only at hSw)
        go_simp
      simp only [Act.put, List.setIfInBounds_toArray, List.set_cons_zero, List.set_cons_succ]
      refine call_at 19 (by kernel_rfl) (by kernel_rfl) ?_
      intro o ho
      simp only [List.getElem?_toArray, List.getElem?_cons_succ, List.getElem?_cons_zero, Option.some.injEq] at ho
      subst ho
      intro K hK
      go_simp
      refine (add_any _ _ _ _ _ (HN2.out.later (keep12_bel hS)) (HN4.out.later (keep12_bel hS)) (HT.out.later (thru HBC.out (keep12_bel hS)))).mono ?_
      rintro e wx ⟨v21, y21, rfl, hn21, hy21, hbx⟩
      obtain ⟨a21, n21, c21, low21, neg21, nn21, rfl, hn21⟩ := isNum_form hn21
      have e21 := op2_may hy21 HAC.out
      subst e21
      go_wp2_with fail
      refine hK.out _ _ (keep12 hS hbx) (fun hS => ?_)
      clear hK K
      try simp only [Act.put, List.setIfInBounds_toArray, List.set_cons_zero, List.set_cons_succ]
      refine call_at 22 (by kernel_rfl) (by kernel_rfl) ?_
      intro o ho
      simp only [List.getElem?_toArray, List.getElem?_cons_succ, List.getElem?_cons_zero, Option.some.injEq] at ho
      subst ho
      intro K hK
      go_simp
      refine (add_any _ _ _ _ _ (HN3.out.later (keep12_bel hS)) (HN4.out.later (keep12_bel hS)) (HT.out.later (thru HBC.out (keep12_bel hS)))).mono ?_
      rintro e wx ⟨v22, y22, rfl, hn22, hy22, hbx⟩
      obtain ⟨a22, n22, c22, low22, neg22, nn22, rfl, hn22⟩ := isNum_form hn22
      have e22 := op2_may hy22 HBCm.out
      subst e22
      have hn21 := hn21.later hbx
      go_wp2_with fail
      refine hK.out _ _ (keep12 hS hbx) (fun hS => ?_)
      clear hK K
      try simp only [Act.put, List.setIfInBounds_toArray, List.set_cons_zero, List.set_cons_succ]
      refine call_at 23 (by kernel_rfl) (by kernel_rfl) ?_
      intro o ho
      simp only [List.getElem?_toArray, List.getElem?_cons_succ, List.getElem?_cons_zero, Option.some.injEq] at ho
      subst ho
      intro K hK
      go_simp
      refine (cmp_any _ _ _ _ _ hn21 hn22).mono ?_
      rw [HSUM.out]
      rintro e wx ⟨rfl, hbx⟩
      go_wp2_with fail
      refine hK.out _ _ (keep12 hS hbx) (fun hS => ?_)
      clear hK K
      try simp only [Act.put, List.setIfInBounds_toArray, List.set_cons_zero, List.set_cons_succ]
      refine call_at 26 (by kernel_rfl) (by kernel_rfl) ?_
      intro o ho
      simp only [List.getElem?_toArray, List.getElem?_cons_succ, List.getElem?_cons_zero, Option.some.injEq] at ho
      subst ho
      intro K hK
      go_simp
      refine (cmp_any _ _ _ _ _ (HN2.out.later (keep12_bel hS)) (HN3.out.later (keep12_bel hS))).mono ?_
      rw [eAB.out]
      rintro e wx ⟨rfl, hbx⟩
      go_wp2_with fail
      refine hK.out _ _ (keep12 hS hbx) (fun hS => ?_)
      clear hK K
      try simp only [Act.put, List.setIfInBounds_toArray, List.set_cons_zero, List.set_cons_succ]
      refine take_at (i := 27) (d := some 59) (v := .bool false) (by kernel_rfl) (by kernel_rfl) (by kernel_rfl) (by kernel_rfl) (fun _ _ _ h => h) ?_ hS ?_
      · intro o ho
        simp only [List.getElem?_toArray, List.getElem?_cons_succ, List.getElem?_cons_zero, Option.some.injEq] at ho
        subst ho
        refine Or.inl ⟨by rfl, ?_⟩
        intro w hSw
        (try dsimp only at hSw)
        go_simp
      simp only [Act.put, List.setIfInBounds_toArray, List.set_cons_zero, List.set_cons_succ]
      refine take_at (i := 28) (d := some 60) (v := .bool false) (by kernel_rfl) (by kernel_rfl) (by kernel_rfl) (by kernel_rfl) (fun _ _ _ h => h) ?_ hS ?_
      · intro o ho
        simp only [List.getElem?_toArray, List.getElem?_cons_succ, List.getElem?_cons_zero, Option.some.injEq] at ho
        subst ho
        refine Or.inl ⟨by rfl, ?_⟩
        intro w hSw
        (try dsimp only at hSw)
        go_simp
      simp only [Act.put, List.setIfInBounds_toArray, List.set_cons_zero, List.set_cons_succ]
      refine take_at (i := 29) (d := some 61) (v := .bool false) (by kernel_rfl) (by kernel_rfl) (by kernel_rfl) (by kernel_rfl) (fun _ _ _ h => h) ?_ hS ?_
      · intro o ho
        simp only [List.getElem?_toArray, List.getElem?_cons_succ, List.getElem?_cons_zero, Option.some.injEq] at ho
        subst ho
        refine Or.inl ⟨by rfl, ?_⟩
        intro w hSw
        (try dsimp only at hSw)
        go_simp
      simp only [Act.put, List.setIfInBounds_toArray, List.set_cons_zero, List.set_cons_succ]
      refine take_at (i := 30) (d := some 62) (v := .agg #[.slice a2 n2 c2, .int .i64 low2, .bool neg2, .bool nn2]) (by kernel_rfl) (by kernel_rfl) (by kernel_rfl) (by kernel_rfl) (fun _ _ _ h => h) ?_ hS ?_
      · intro o ho
        simp only [List.getElem?_toArray, List.getElem?_cons_succ, List.getElem?_cons_zero, Option.some.injEq] at ho
        subst ho
        refine Or.inl ⟨by rfl, ?_⟩
        intro w hSw
        (try dsimp only at hSw)
        go_simp
      simp only [Act.put, List.setIfInBounds_toArray, List.set_cons_zero, List.set_cons_succ]
      refine take_at (i := 31) (d := some 63) (v := .agg #[.slice a3 n3 c3, .int .i64 low3, .bool neg3, .bool nn3]) (by kernel_rfl) (by kernel_rfl) (by kernel_rfl) (by kernel_rfl) (fun _ _ _ h => h) ?_ hS ?_
      · intro o ho
        simp only [List.getElem?_toArray, List.getElem?_cons_succ, List.getElem?_cons_zero, Option.some.injEq] at ho
        subst ho
        refine Or.inl ⟨by rfl, ?_⟩
        intro w hSw
        (try dsimp only at hSw)
        go_simp
      simp only [Act.put, List.setIfInBounds_toArray, List.set_cons_zero, List.set_cons_succ]
      refine call_at 32 (by kernel_rfl) (by kernel_rfl) ?_
      intro o ho
      simp only [List.getElem?_toArray, List.getElem?_cons_succ, List.getElem?_cons_zero, Option.some.injEq] at ho
      subst ho
      intro K hK
      go_simp
      refine (cmp_any _ _ _ _ _ (HN2.out.later (keep12_bel hS)) (HN3.out.later (keep12_bel hS))).mono ?_
      rw [eAB.out]
      rintro e wx ⟨rfl, hbx⟩
      go_wp2_with fail
      refine hK.out _ _ (keep12 hS hbx) (fun hS => ?_)
      clear hK K
      try simp only [Act.put, List.setIfInBounds_toArray, List.set_cons_zero, List.set_cons_succ]
      refine take_at (i := 33) (d := some 65) (v := .bool false) (by kernel_rfl) (by kernel_rfl) (by kernel_rfl) (by kernel_rfl) (fun _ _ _ h => h) ?_ hS ?_
      · intro o ho
        simp only [List.getElem?_toArray, List.getElem?_cons_succ, List.getElem?_cons_zero, Option.some.injEq] at ho
        subst ho
        refine Or.inl ⟨by rfl, ?_⟩
        intro w hSw
        (try dsimp only at hSw)
        go_simp
      simp only [Act.put, List.setIfInBounds_toArray, List.set_cons_zero, List.set_cons_succ]
      refine take_at (i := 34) (d := some 66) (v := .bool false) (by kernel_rfl) (by kernel_rfl) (by kernel_rfl) (by kernel_rfl) (fun _ _ _ h => h) ?_ hS ?_
      · intro o ho
        simp only [List.getElem?_toArray, List.getElem?_cons_succ, List.getElem?_cons_zero, Option.some.injEq] at ho
        subst ho
        refine Or.inl ⟨by rfl, ?_⟩
        intro w hSw
        (try dsimp only at hSw)
        go_simp
      simp only [Act.put, List.setIfInBounds_toArray, List.set_cons_zero, List.set_cons_succ]
      refine skip_at 35 (d := some 67) (by kernel_rfl) (by kernel_rfl) (by kernel_rfl) (by kernel_rfl) (fun _ _ _ h => h) (by rfl) hS ?_
      simp only [Act.put, List.setIfInBounds_toArray, List.set_cons_zero, List.set_cons_succ]
      refine skip_at 37 (d := some 69) (by kernel_rfl) (by kernel_rfl) (by kernel_rfl) (by kernel_rfl) (fun _ _ _ h => h) (by rfl) hS ?_
      simp only [Act.put, List.setIfInBounds_toArray, List.set_cons_zero, List.set_cons_succ]
      refine skip_at 36 (d := some 68) (by kernel_rfl) (by kernel_rfl) (by kernel_rfl) (by kernel_rfl) (fun _ _ _ h => h) (by rfl) hS ?_
      simp only [Act.put, List.setIfInBounds_toArray, List.set_cons_zero, List.set_cons_succ]
      refine skip_at 38 (d := some 70) (by kernel_rfl) (by kernel_rfl) (by kernel_rfl) (by kernel_rfl) (fun _ _ _ h => h) (by rfl) hS ?_
      simp only [Act.put, List.setIfInBounds_toArray, List.set_cons_zero, List.set_cons_succ]
      refine skip_at 39 (d := some 71) (by kernel_rfl) (by kernel_rfl) (by kernel_rfl) (by kernel_rfl) (fun _ _ _ h => h) (by rfl) hS ?_
      simp only [Act.put, List.setIfInBounds_toArray, List.set_cons_zero, List.set_cons_succ]
      refine take_at (i := 40) (d := some 72) (v := .bool false) (by kernel_rfl) (by kernel_rfl) (by kernel_rfl) (by kernel_rfl) (fun _ _ _ h => h) ?_ hS ?_
      · intro o ho
        simp only [List.getElem?_toArray, List.getElem?_cons_succ, List.getElem?_cons_zero, Option.some.injEq] at ho
        subst ho
        refine Or.inl ⟨by rfl, ?_⟩
        intro w hSw
        (try dsimp only at hSw)
        go_simp
      simp only [Act.put, List.setIfInBounds_toArray, List.set_cons_zero, List.set_cons_succ]
      refine take_at (i := 41) (d := some 73) (v := .bool false) (by kernel_rfl) (by kernel_rfl) (by kernel_rfl) (by kernel_rfl) (fun _ _ _ h => h) ?_ hS ?_
      · intro o ho
        simp only [List.getElem?_toArray, List.getElem?_cons_succ, List.getElem?_cons_zero, Option.some.injEq] at ho
        subst ho
        refine Or.inl ⟨by rfl, ?_⟩
        intro w hSw
        (try dsimp only at hSw)
        go_simp
      simp only [Act.put, List.setIfInBounds_toArray, List.set_cons_zero, List.set_cons_succ]
      refine wpAnyH_done (by kernel_rfl) ?_ _
      go_wp2_with fail
      go_meet
      exact ⟨rfl, hS⟩
    · have hac : decide (ac < 0) = false := decide_eq_false (by have := HTR.out (by decide) hbc; omega)
      have hb : decide (0 ≤ bc) = true := decide_eq_true hbc
      clear hbc
      refine wp_region_held_drew (S := (fun W => W.cell? ⟨w2.heap.size, 0, none⟩ = some (.slice a2 n2 c2) ∧ W.cell? ⟨w2.heap.size, 1, none⟩ = some (.int .i64 low2) ∧ W.cell? ⟨w2.heap.size, 2, none⟩ = some (.bool neg2) ∧ W.cell? ⟨w2.heap.size, 3, none⟩ = some (.bool nn2) ∧ W.cell? ⟨w3.heap.size, 0, none⟩ = some (.slice a3 n3 c3) ∧ W.cell? ⟨w3.heap.size, 1, none⟩ = some (.int .i64 low3) ∧ W.cell? ⟨w3.heap.size, 2, none⟩ = some (.bool neg3) ∧ W.cell? ⟨w3.heap.size, 3, none⟩ = some (.bool nn3) ∧ W.cell? ⟨w4.heap.size, 0, none⟩ = some (.slice a4 n4 c4) ∧ W.cell? ⟨w4.heap.size, 1, none⟩ = some (.int .i64 low4) ∧ W.cell? ⟨w4.heap.size, 2, none⟩ = some (.bool neg4) ∧ W.cell? ⟨w4.heap.size, 3, none⟩ = some (.bool nn4) ∧ Below wq.heap.size wq W)) (by kernel_rfl) ⟨z20, z21, z22, z23, z30, z31, z32, z33, z40, z41, z42, z43, (Below.refl _ _).drew⟩ (fun hS => ?_)
      refine take_at (i := 0) (d := some 32) (v := .agg #[.slice a2 n2 c2, .int .i64 low2, .bool neg2, .bool nn2]) (by kernel_rfl) (by kernel_rfl) (by kernel_rfl) (by kernel_rfl) (fun _ _ _ h => h) ?_ hS ?_
      · intro o ho
        simp only [List.getElem?_toArray, List.getElem?_cons_zero, Option.some.injEq] at ho
        subst ho
        refine Or.inl ⟨by rfl, ?_⟩
        intro w hSw
        (try dsimp only at hSw)
        go_simp
      simp only [Act.put, List.setIfInBounds_toArray, List.set_cons_zero, List.set_cons_succ]
      refine take_at (i := 1) (d := some 33) (v := .agg #[.slice a3 n3 c3, .int .i64 low3, .bool neg3, .bool nn3]) (by kernel_rfl) (by kernel_rfl) (by kernel_rfl) (by kernel_rfl) (fun _ _ _ h => h) ?_ hS ?_
      · intro o ho
        simp only [List.getElem?_toArray, List.getElem?_cons_succ, List.getElem?_cons_zero, Option.some.injEq] at ho
        subst ho
        refine Or.inl ⟨by rfl, ?_⟩
        intro w hSw
        (try dsimp only at hSw)
        go_simp
      simp only [Act.put, List.setIfInBounds_toArray, List.set_cons_zero, List.set_cons_succ]
      refine call_at 2 (by kernel_rfl) (by kernel_rfl) ?_
      intro o ho
      simp only [List.getElem?_toArray, List.getElem?_cons_succ, List.getElem?_cons_zero, Option.some.injEq] at ho
      subst ho
      intro K hK
      go_simp
      refine (cmp_any _ _ _ _ _ (HN2.out.later (keep12_bel hS)) (HN3.out.later (keep12_bel hS))).mono ?_
      rw [eAB.out]
      rintro e wx ⟨rfl, hbx⟩
      go_wp2_with fail
      refine hK.out _ _ (keep12 hS hbx) (fun hS => ?_)
      clear hK K
      try simp only [Act.put, List.setIfInBounds_toArray, List.set_cons_zero, List.set_cons_succ]
      refine take_at (i := 3) (d := some 35) (v := .bool true) (by kernel_rfl) (by kernel_rfl) (by kernel_rfl) (by kernel_rfl) (fun _ _ _ h => h) ?_ hS ?_
      · intro o ho
        simp only [List.getElem?_toArray, List.getElem?_cons_succ, List.getElem?_cons_zero, Option.some.injEq] at ho
        subst ho
        refine Or.inl ⟨by rfl, ?_⟩
        intro w hSw
        (try dsimp only at hSw)
        go_simp
      simp only [Act.put, List.setIfInBounds_toArray, List.set_cons_zero, List.set_cons_succ]
      refine take_at (i := 4) (d := some 36) (v := .bool true) (by kernel_rfl) (by kernel_rfl) (by kernel_rfl) (by kernel_rfl) (fun _ _ _ h => h) ?_ hS ?_
      · intro o ho
        simp only [List.getElem?_toArray, List.getElem?_cons_succ, List.getElem?_cons_zero, Option.some.injEq] at ho
        subst ho
        refine Or.inl ⟨by rfl, ?_⟩
        intro w hSw
        (try dsimp only at hSw)
        go_simp
      simp only [Act.put, List.setIfInBounds_toArray, List.set_cons_zero, List.set_cons_succ]
      refine take_at (i := 5) (d := some 37) (v := .agg #[.slice a3 n3 c3, .int .i64 low3, .bool neg3, .bool nn3]) (by kernel_rfl) (by kernel_rfl) (by kernel_rfl) (by kernel_rfl) (fun _ _ _ h => h) ?_ hS ?_
      · intro o ho
        simp only [List.getElem?_toArray, List.getElem?_cons_succ, List.getElem?_cons_zero, Option.some.injEq] at ho
        subst ho
        refine Or.inl ⟨by rfl, ?_⟩
        intro w hSw
        (try dsimp only at hSw)
        go_simp
      simp only [Act.put, List.setIfInBounds_toArray, List.set_cons_zero, List.set_cons_succ]
      refine take_at (i := 6) (d := some 38) (v := .agg #[.slice a4 n4 c4, .int .i64 low4, .bool neg4, .bool nn4]) (by kernel_rfl) (by kernel_rfl) (by kernel_rfl) (by kernel_rfl) (fun _ _ _ h => h) ?_ hS ?_
      · intro o ho
        simp only [List.getElem?_toArray, List.getElem?_cons_succ, List.getElem?_cons_zero, Option.some.injEq] at ho
        subst ho
        refine Or.inl ⟨by rfl, ?_⟩
        intro w hSw
        (try dsimp only at hSw)
        go_simp
      simp only [Act.put, List.setIfInBounds_toArray, List.set_cons_zero, List.set_cons_succ]
      refine call_at 7 (by kernel_rfl) (by kernel_rfl) ?_
      intro o ho
      simp only [List.getElem?_toArray, List.getElem?_cons_succ, List.getElem?_cons_zero, Option.some.injEq] at ho
      subst ho
      intro K hK
      go_simp
      refine (cmp_any _ _ _ _ _ (HN3.out.later (keep12_bel hS)) (HN4.out.later (keep12_bel hS))).mono ?_
      rw [eBC.out]
      rintro e wx ⟨rfl, hbx⟩
      go_wp2_with fail
      refine hK.out _ _ (keep12 hS hbx) (fun hS => ?_)
      clear hK K
      try simp only [Act.put, List.setIfInBounds_toArray, List.set_cons_zero, List.set_cons_succ]
      refine take_at (i := 8) (d := some 40) (v := .bool true) (by kernel_rfl) (by kernel_rfl) (by kernel_rfl) (by kernel_rfl) (fun _ _ _ h => h) ?_ hS ?_
      · intro o ho
        simp only [List.getElem?_toArray, List.getElem?_cons_succ, List.getElem?_cons_zero, Option.some.injEq] at ho
        subst ho
        refine Or.inl ⟨by rfl, ?_⟩
        intro w hSw
        (try dsimp only at hSw)
        go_simp
      simp only [Act.put, List.setIfInBounds_toArray, List.set_cons_zero, List.set_cons_succ]
      refine take_at (i := 9) (d := some 41) (v := .bool true) (by kernel_rfl) (by kernel_rfl) (by kernel_rfl) (by kernel_rfl) (fun _ _ _ h => h) ?_ hS ?_
      · intro o ho
        simp only [List.getElem?_toArray, List.getElem?_cons_succ, List.getElem?_cons_zero, Option.some.injEq] at ho
        subst ho
        refine Or.inl ⟨by rfl, ?_⟩
        intro w hSw
        (try dsimp only at hSw)
        go_simp
      simp only [Act.put, List.setIfInBounds_toArray, List.set_cons_zero, List.set_cons_succ]
      refine take_at (i := 10) (d := some 42) (v := .bool true) (by kernel_rfl) (by kernel_rfl) (by kernel_rfl) (by kernel_rfl) (fun _ _ _ h => h) ?_ hS ?_
      · intro o ho
        simp only [List.getElem?_toArray, List.getElem?_cons_succ, List.getElem?_cons_zero, Option.some.injEq] at ho
        subst ho
        refine Or.inl ⟨by rfl, ?_⟩
        intro w hSw
        (try dsimp only at hSw)
        go_simp
      simp only [Act.put, List.setIfInBounds_toArray, List.set_cons_zero, List.set_cons_succ]
      refine take_at (i := 11) (d := some 43) (v := .agg #[.slice a2 n2 c2, .int .i64 low2, .bool neg2, .bool nn2]) (by kernel_rfl) (by kernel_rfl) (by kernel_rfl) (by kernel_rfl) (fun _ _ _ h => h) ?_ hS ?_
      · intro o ho
        simp only [List.getElem?_toArray, List.getElem?_cons_succ, List.getElem?_cons_zero, Option.some.injEq] at ho
        subst ho
        refine Or.inl ⟨by rfl, ?_⟩
        intro w hSw
        (try dsimp only at hSw)
        go_simp
      simp only [Act.put, List.setIfInBounds_toArray, List.set_cons_zero, List.set_cons_succ]
      refine take_at (i := 12) (d := some 44) (v := .agg #[.slice a4 n4 c4, .int .i64 low4, .bool neg4, .bool nn4]) (by kernel_rfl) (by kernel_rfl) (by kernel_rfl) (by kernel_rfl) (fun _ _ _ h => h) ?_ hS ?_
      · intro o ho
        simp only [List.getElem?_toArray, List.getElem?_cons_succ, List.getElem?_cons_zero, Option.some.injEq] at ho
        subst ho
        refine Or.inl ⟨by rfl, ?_⟩
        intro w hSw
        (try dsimp only at hSw)
        go_simp
      simp only [Act.put, List.setIfInBounds_toArray, List.set_cons_zero, List.set_cons_succ]
      refine call_at 13 (by kernel_rfl) (by kernel_rfl) ?_
      intro o ho
      simp only [List.getElem?_toArray, List.getElem?_cons_succ, List.getElem?_cons_zero, Option.some.injEq] at ho
      subst ho
      intro K hK
      go_simp
      refine (cmp_any _ _ _ _ _ (HN2.out.later (keep12_bel hS)) (HN4.out.later (keep12_bel hS))).mono ?_
      rw [eAC.out]
      rintro e wx ⟨rfl, hbx⟩
      go_wp2_with fail
      refine hK.out _ _ (keep12 hS hbx) (fun hS => ?_)
      clear hK K
      try simp only [Act.put, List.setIfInBounds_toArray, List.set_cons_zero, List.set_cons_succ]
      refine take_at (i := 14) (d := some 46) (v := .bool false) (by kernel_rfl) (by kernel_rfl) (by kernel_rfl) (by kernel_rfl) (fun _ _ _ h => h) ?_ hS ?_
      · intro o ho
        simp only [List.getElem?_toArray, List.getElem?_cons_succ, List.getElem?_cons_zero, Option.some.injEq] at ho
        subst ho
        refine Or.inl ⟨by rfl, ?_⟩
        intro w hSw
        (try dsimp only at hSw)
        go_simp
      simp only [Act.put, List.setIfInBounds_toArray, List.set_cons_zero, List.set_cons_succ]
      refine take_at (i := 15) (d := some 47) (v := .bool false) (by kernel_rfl) (by kernel_rfl) (by kernel_rfl) (by kernel_rfl) (fun _ _ _ h => h) ?_ hS ?_
      · intro o ho
        simp only [List.getElem?_toArray, List.getElem?_cons_succ, List.getElem?_cons_zero, Option.some.injEq] at ho
        subst ho
        refine Or.inl ⟨by rfl, ?_⟩
        intro w hSw
        (try dsimp only at hSw)
        go_simp
      simp only [Act.put, List.setIfInBounds_toArray, List.set_cons_zero, List.set_cons_succ]
      refine take_at (i := 16) (d := some 48) (v := .bool false) (by kernel_rfl) (by kernel_rfl) (by kernel_rfl) (by kernel_rfl) (fun _ _ _ h => h) ?_ hS ?_
      · intro o ho
        simp only [List.getElem?_toArray, List.getElem?_cons_succ, List.getElem?_cons_zero, Option.some.injEq] at ho
        subst ho
        refine Or.inl ⟨by rfl, ?_⟩
        intro w hSw
        (try dsimp only at hSw)
        go_simp
      simp only [Act.put, List.setIfInBounds_toArray, List.set_cons_zero, List.set_cons_succ]
      refine take_at (i := 17) (d := some 49) (v := .agg #[.slice a2 n2 c2, .int .i64 low2, .bool neg2, .bool nn2]) (by kernel_rfl) (by kernel_rfl) (by kernel_rfl) (by kernel_rfl) (fun _ _ _ h => h) ?_ hS ?_
      · intro o ho
        simp only [List.getElem?_toArray, List.getElem?_cons_succ, List.getElem?_cons_zero, Option.some.injEq] at ho
        subst ho
        refine Or.inl ⟨by rfl, ?_⟩
        intro w hSw
        (try dsimp only at hSw)
        go_simp
      simp only [Act.put, List.setIfInBounds_toArray, List.set_cons_zero, List.set_cons_succ]
      refine take_at (i := 18) (d := some 50) (v := .agg #[.slice a4 n4 c4, .int .i64 low4, .bool neg4, .bool nn4]) (by kernel_rfl) (by kernel_rfl) (by kernel_rfl) (by kernel_rfl) (fun _ _ _ h => h) ?_ hS ?_
      · intro o ho
        simp only [List.getElem?_toArray, List.getElem?_cons_succ, List.getElem?_cons_zero, Option.some.injEq] at ho
        subst ho
        refine Or.inl ⟨by rfl, ?_⟩
        intro w hSw
        (try dsimp only at hSw)
        go_simp
      simp only [Act.put, List.setIfInBounds_toArray, List.set_cons_zero, List.set_cons_succ]
      refine take_at (i := 20) (d := some 52) (v := .agg #[.slice a3 n3 c3, .int .i64 low3, .bool neg3, .bool nn3]) (by kernel_rfl) (by kernel_rfl) (by kernel_rfl) (by kernel_rfl) (fun _ _ _ h => h) ?_ hS ?_
      · intro o ho
        simp only [List.getElem?_toArray, List.getElem?_cons_succ, List.getElem?_cons_zero, Option.some.injEq] at ho
        subst ho
        refine Or.inl ⟨by rfl, ?_⟩
        intro w hSw
        (try dsimp only at hSw)
        go_simp
      simp only [Act.put, List.setIfInBounds_toArray, List.set_cons_zero, List.set_cons_succ]
      refine take_at (i := 21) (d := some 53) (v := .agg #[.slice a4 n4 c4, .int .i64 low4, .bool neg4, .bool nn4]) (by kernel_rfl) (by kernel_rfl) (by kernel_rfl) (by kernel_rfl) (fun _ _ _ h => h) ?_ hS ?_
      · intro o ho
        simp only [List.getElem?_toArray, List.getElem?_cons_succ, List.getElem?_cons_zero, Option.some.injEq] at ho
        subst ho
        refine Or.inl ⟨by rfl, ?_⟩
        intro w hSw
        (try dsimp only at hSw)
        go_simp
      simp only [Act.put, List.setIfInBounds_toArray, List.set_cons_zero, List.set_cons_succ]
      refine take_at (i := 24) (d := some 56) (v := .agg #[.slice a2 n2 c2, .int .i64 low2, .bool neg2, .bool nn2]) (by kernel_rfl) (by kernel_rfl) (by kernel_rfl) (by kernel_rfl) (fun _ _ _ h => h) ?_ hS ?_
      · intro o ho
        simp only [List.getElem?_toArray, List.getElem?_cons_succ, List.getElem?_cons_zero, Option.some.injEq] at ho
        subst ho
        refine Or.inl ⟨by rfl, ?_⟩
        intro w hSw
        (try dsimp only at hSw)
        go_simp
      simp only [Act.put, List.setIfInBounds_toArray, List.set_cons_zero, List.set_cons_succ]
      refine take_at (i := 25) (d := some 57) (v := .agg #[.slice a3 n3 c3, .int .i64 low3, .bool neg3, .bool nn3]) (by kernel_rfl) (by kernel_rfl) (by kernel_rfl) (by kernel_rfl) (fun _ _ _ h => h) ?_ hS ?_
      · intro o ho
        simp only [List.getElem?_toArray, List.getElem?_cons_succ, List.getElem?_cons_zero, Option.some.injEq] at ho
        subst ho
        refine Or.inl ⟨by rfl, ?_⟩
        intro w hSw
        (try dsimp only at hSw)
        go_simp
      simp only [Act.put, List.setIfInBounds_toArray, List.set_cons_zero, List.set_cons_succ]
      refine call_at 19 (by kernel_rfl) (by kernel_rfl) ?_
      intro o ho
      simp only [List.getElem?_toArray, List.getElem?_cons_succ, List.getElem?_cons_zero, Option.some.injEq] at ho
      subst ho
      intro K hK
      go_simp
      refine (add_any _ _ _ _ _ (HN2.out.later (keep12_bel hS)) (HN4.out.later (keep12_bel hS)) (HT.out.later (thru HBC.out (keep12_bel hS)))).mono ?_
      rintro e wx ⟨v21, y21, rfl, hn21, hy21, hbx⟩
      obtain ⟨a21, n21, c21, low21, neg21, nn21, rfl, hn21⟩ := isNum_form hn21
      have e21 := op2_may hy21 HAC.out
      subst e21
      go_wp2_with fail
      refine hK.out _ _ (keep12 hS hbx) (fun hS => ?_)
      clear hK K
      try simp only [Act.put, List.setIfInBounds_toArray, List.set_cons_zero, List.set_cons_succ]
      refine call_at 22 (by kernel_rfl) (by kernel_rfl) ?_
      intro o ho
      simp only [List.getElem?_toArray, List.getElem?_cons_succ, List.getElem?_cons_zero, Option.some.injEq] at ho
      subst ho
      intro K hK
      go_simp
      refine (add_any _ _ _ _ _ (HN3.out.later (keep12_bel hS)) (HN4.out.later (keep12_bel hS)) (HT.out.later (thru HBC.out (keep12_bel hS)))).mono ?_
      rintro e wx ⟨v22, y22, rfl, hn22, hy22, hbx⟩
      obtain ⟨a22, n22, c22, low22, neg22, nn22, rfl, hn22⟩ := isNum_form hn22
      have e22 := op2_may hy22 HBCm.out
      subst e22
      have hn21 := hn21.later hbx
      go_wp2_with fail
      refine hK.out _ _ (keep12 hS hbx) (fun hS => ?_)
      clear hK K
      try simp only [Act.put, List.setIfInBounds_toArray, List.set_cons_zero, List.set_cons_succ]
      refine call_at 23 (by kernel_rfl) (by kernel_rfl) ?_
      intro o ho
      simp only [List.getElem?_toArray, List.getElem?_cons_succ, List.getElem?_cons_zero, Option.some.injEq] at ho
      subst ho
      intro K hK
      go_simp
      refine (cmp_any _ _ _ _ _ hn21 hn22).mono ?_
      rw [HSUM.out]
      rintro e wx ⟨rfl, hbx⟩
      go_wp2_with fail
      refine hK.out _ _ (keep12 hS hbx) (fun hS => ?_)
      clear hK K
      try simp only [Act.put, List.setIfInBounds_toArray, List.set_cons_zero, List.set_cons_succ]
      refine call_at 26 (by kernel_rfl) (by kernel_rfl) ?_
      intro o ho
      simp only [List.getElem?_toArray, List.getElem?_cons_succ, List.getElem?_cons_zero, Option.some.injEq] at ho
      subst ho
      intro K hK
      go_simp
      refine (cmp_any _ _ _ _ _ (HN2.out.later (keep12_bel hS)) (HN3.out.later (keep12_bel hS))).mono ?_
      rw [eAB.out]
      rintro e wx ⟨rfl, hbx⟩
      go_wp2_with fail
      refine hK.out _ _ (keep12 hS hbx) (fun hS => ?_)
      clear hK K
      try simp only [Act.put, List.setIfInBounds_toArray, List.set_cons_zero, List.set_cons_succ]
      refine take_at (i := 27) (d := some 59) (v := .bool false) (by kernel_rfl) (by kernel_rfl) (by kernel_rfl) (by kernel_rfl) (fun _ _ _ h => h) ?_ hS ?_
      · intro o ho
        simp only [List.getElem?_toArray, List.getElem?_cons_succ, List.getElem?_cons_zero, Option.some.injEq] at ho
        subst ho
        refine Or.inl ⟨by rfl, ?_⟩
        intro w hSw
        (try dsimp only at hSw)
        go_simp
      simp only [Act.put, List.setIfInBounds_toArray, List.set_cons_zero, List.set_cons_succ]
      refine take_at (i := 28) (d := some 60) (v := .bool false) (by kernel_rfl) (by kernel_rfl) (by kernel_rfl) (by kernel_rfl) (fun _ _ _ h => h) ?_ hS ?_
      · intro o ho
        simp only [List.getElem?_toArray, List.getElem?_cons_succ, List.getElem?_cons_zero, Option.some.injEq] at ho
        subst ho
        refine Or.inl ⟨by rfl, ?_⟩
        intro w hSw
        (try dsimp only at hSw)
        go_simp
      simp only [Act.put, List.setIfInBounds_toArray, List.set_cons_zero, List.set_cons_succ]
      refine take_at (i := 29) (d := some 61) (v := .bool false) (by kernel_rfl) (by kernel_rfl) (by kernel_rfl) (by kernel_rfl) (fun _ _ _ h => h) ?_ hS ?_
      · intro o ho
        simp only [List.getElem?_toArray, List.getElem?_cons_succ, List.getElem?_cons_zero, Option.some.injEq] at ho
        subst ho
        refine Or.inl ⟨by rfl, ?_⟩
        intro w hSw
        (try dsimp only at hSw)
        go_simp
      simp only [Act.put, List.setIfInBounds_toArray, List.set_cons_zero, List.set_cons_succ]
      refine take_at (i := 30) (d := some 62) (v := .agg #[.slice a2 n2 c2, .int .i64 low2, .bool neg2, .bool nn2]) (by kernel_rfl) (by kernel_rfl) (by kernel_rfl) (by kernel_rfl) (fun _ _ _ h => h) ?_ hS ?_
      · intro o ho
        simp only [List.getElem?_toArray, List.getElem?_cons_succ, List.getElem?_cons_zero, Option.some.injEq] at ho
        subst ho
        refine Or.inl ⟨by rfl, ?_⟩
        intro w hSw
        (try dsimp only at hSw)
        go_simp
      simp only [Act.put, List.setIfInBounds_toArray, List.set_cons_zero, List.set_cons_succ]
      refine take_at (i := 31) (d := some 63) (v := .agg #[.slice a3 n3 c3, .int .i64 low3, .bool neg3, .bool nn3]) (by kernel_rfl) (by kernel_rfl) (by kernel_rfl) (by kernel_rfl) (fun _ _ _ h => h) ?_ hS ?_
      · intro o ho
        simp only [List.getElem?_toArray, List.getElem?_cons_succ, List.getElem?_cons_zero, Option.some.injEq] at ho
        subst ho
        refine Or.inl ⟨by rfl, ?_⟩
        intro w hSw
        (try dsimp only at hSw)
        go_simp
      simp only [Act.put, List.setIfInBounds_toArray, List.set_cons_zero, List.set_cons_succ]
      refine call_at 32 (by kernel_rfl) (by kernel_rfl) ?_
      intro o ho
      simp only [List.getElem?_toArray, List.getElem?_cons_succ, List.getElem?_cons_zero, Option.some.injEq] at ho
      subst ho
      intro K hK
      go_simp
      refine (cmp_any _ _ _ _ _ (HN2.out.later (keep12_bel hS)) (HN3.out.later (keep12_bel hS))).mono ?_
      rw [eAB.out]
      rintro e wx ⟨rfl, hbx⟩
      go_wp2_with fail
      refine hK.out _ _ (keep12 hS hbx) (fun hS => ?_)
      clear hK K
      try simp only [Act.put, List.setIfInBounds_toArray, List.set_cons_zero, List.set_cons_succ]
      refine take_at (i := 33) (d := some 65) (v := .bool false) (by kernel_rfl) (by kernel_rfl) (by kernel_rfl) (by kernel_rfl) (fun _ _ _ h => h) ?_ hS ?_
      · intro o ho
        simp only [List.getElem?_toArray, List.getElem?_cons_succ, List.getElem?_cons_zero, Option.some.injEq] at ho
        subst ho
        refine Or.inl ⟨by rfl, ?_⟩
        intro w hSw
        (try dsimp only at hSw)
        go_simp
      simp only [Act.put, List.setIfInBounds_toArray, List.set_cons_zero, List.set_cons_succ]
      refine take_at (i := 34) (d := some 66) (v := .bool false) (by kernel_rfl) (by kernel_rfl) (by kernel_rfl) (by kernel_rfl) (fun _ _ _ h => h) ?_ hS ?_
      · intro o ho
        simp only [List.getElem?_toArray, List.getElem?_cons_succ, List.getElem?_cons_zero, Option.some.injEq] at ho
        subst ho
        refine Or.inl ⟨by rfl, ?_⟩
        intro w hSw
        (try dsimp only at hSw)
        go_simp
      simp only [Act.put, List.setIfInBounds_toArray, List.set_cons_zero, List.set_cons_succ]
      refine skip_at 35 (d := some 67) (by kernel_rfl) (by kernel_rfl) (by kernel_rfl) (by kernel_rfl) (fun _ _ _ h => h) (by rfl) hS ?_
      simp only [Act.put, List.setIfInBounds_toArray, List.set_cons_zero, List.set_cons_succ]
      refine skip_at 37 (d := some 69) (by kernel_rfl) (by kernel_rfl) (by kernel_rfl) (by kernel_rfl) (fun _ _ _ h => h) (by rfl) hS ?_
      simp only [Act.put, List.setIfInBounds_toArray, List.set_cons_zero, List.set_cons_succ]
      refine skip_at 36 (d := some 68) (by kernel_rfl) (by kernel_rfl) (by kernel_rfl) (by kernel_rfl) (fun _ _ _ h => h) (by rfl) hS ?_
      simp only [Act.put, List.setIfInBounds_toArray, List.set_cons_zero, List.set_cons_succ]
      refine skip_at 38 (d := some 70) (by kernel_rfl) (by kernel_rfl) (by kernel_rfl) (by kernel_rfl) (fun _ _ _ h => h) (by rfl) hS ?_
      simp only [Act.put, List.setIfInBounds_toArray, List.set_cons_zero, List.set_cons_succ]
      refine skip_at 39 (d := some 71) (by kernel_rfl) (by kernel_rfl) (by kernel_rfl) (by kernel_rfl) (fun _ _ _ h => h) (by rfl) hS ?_
      simp only [Act.put, List.setIfInBounds_toArray, List.set_cons_zero, List.set_cons_succ]
      refine take_at (i := 40) (d := some 72) (v := .bool false) (by kernel_rfl) (by kernel_rfl) (by kernel_rfl) (by kernel_rfl) (fun _ _ _ h => h) ?_ hS ?_
      · intro o ho
        simp only [List.getElem?_toArray, List.getElem?_cons_succ, List.getElem?_cons_zero, Option.some.injEq] at ho
        subst ho
        refine Or.inl ⟨by rfl, ?_⟩
        intro w hSw
        (try dsimp only at hSw)
        go_simp
      simp only [Act.put, List.setIfInBounds_toArray, List.set_cons_zero, List.set_cons_succ]
      refine take_at (i := 41) (d := some 73) (v := .bool false) (by kernel_rfl) (by kernel_rfl) (by kernel_rfl) (by kernel_rfl) (fun _ _ _ h => h) ?_ hS ?_
      · intro o ho
        simp only [List.getElem?_toArray, List.getElem?_cons_succ, List.getElem?_cons_zero, Option.some.injEq] at ho
        subst ho
        refine Or.inl ⟨by rfl, ?_⟩
        intro w hSw
        (try dsimp only at hSw)
        go_simp
      simp only [Act.put, List.setIfInBounds_toArray, List.set_cons_zero, List.set_cons_succ]
      refine wpAnyH_done (by kernel_rfl) ?_ _
      go_wp2_with fail
      go_meet
      exact ⟨rfl, hS⟩
    · have hb : decide (0 ≤ bc) = false := decide_eq_false (by omega)
      clear hbc
      refine wp_region_held_drew (S := (fun W => W.cell? ⟨w2.heap.size, 0, none⟩ = some (.slice a2 n2 c2) ∧ W.cell? ⟨w2.heap.size, 1, none⟩ = some (.int .i64 low2) ∧ W.cell? ⟨w2.heap.size, 2, none⟩ = some (.bool neg2) ∧ W.cell? ⟨w2.heap.size, 3, none⟩ = some (.bool nn2) ∧ W.cell? ⟨w3.heap.size, 0, none⟩ = some (.slice a3 n3 c3) ∧ W.cell? ⟨w3.heap.size, 1, none⟩ = some (.int .i64 low3) ∧ W.cell? ⟨w3.heap.size, 2, none⟩ = some (.bool neg3) ∧ W.cell? ⟨w3.heap.size, 3, none⟩ = some (.bool nn3) ∧ W.cell? ⟨w4.heap.size, 0, none⟩ = some (.slice a4 n4 c4) ∧ W.cell? ⟨w4.heap.size, 1, none⟩ = some (.int .i64 low4) ∧ W.cell? ⟨w4.heap.size, 2, none⟩ = some (.bool neg4) ∧ W.cell? ⟨w4.heap.size, 3, none⟩ = some (.bool nn4) ∧ Below wq.heap.size wq W)) (by kernel_rfl) ⟨z20, z21, z22, z23, z30, z31, z32, z33, z40, z41, z42, z43, (Below.refl _ _).drew⟩ (fun hS => ?_)
      refine take_at (i := 0) (d := some 32) (v := .agg #[.slice a2 n2 c2, .int .i64 low2, .bool neg2, .bool nn2]) (by kernel_rfl) (by kernel_rfl) (by kernel_rfl) (by kernel_rfl) (fun _ _ _ h => h) ?_ hS ?_
      · intro o ho
        simp only [List.getElem?_toArray, List.getElem?_cons_zero, Option.some.injEq] at ho
        subst ho
        refine Or.inl ⟨by rfl, ?_⟩
        intro w hSw
        (try dsimp only at hSw)
        go_simp
      simp only [Act.put, List.setIfInBounds_toArray, List.set_cons_zero, List.set_cons_succ]
      refine take_at (i := 1) (d := some 33) (v := .agg #[.slice a3 n3 c3, .int .i64 low3, .bool neg3, .bool nn3]) (by kernel_rfl) (by kernel_rfl) (by kernel_rfl) (by kernel_rfl) (fun _ _ _ h => h) ?_ hS ?_
      · intro o ho
        simp only [List.getElem?_toArray, List.getElem?_cons_succ, List.getElem?_cons_zero, Option.some.injEq] at ho
        subst ho
        refine Or.inl ⟨by rfl, ?_⟩
        intro w hSw
        (try dsimp only at hSw)
        go_simp
      simp only [Act.put, List.setIfInBounds_toArray, List.set_cons_zero, List.set_cons_succ]
      refine call_at 2 (by kernel_rfl) (by kernel_rfl) ?_
      intro o ho
      simp only [List.getElem?_toArray, List.getElem?_cons_succ, List.getElem?_cons_zero, Option.some.injEq] at ho
      subst ho
      intro K hK
      go_simp
      refine (cmp_any _ _ _ _ _ (HN2.out.later (keep12_bel hS)) (HN3.out.later (keep12_bel hS))).mono ?_
      rw [eAB.out]
      rintro e wx ⟨rfl, hbx⟩
      go_wp2_with fail
      refine hK.out _ _ (keep12 hS hbx) (fun hS => ?_)
      clear hK K
      try simp only [Act.put, List.setIfInBounds_toArray, List.set_cons_zero, List.set_cons_succ]
      refine take_at (i := 3) (d := some 35) (v := .bool true) (by kernel_rfl) (by kernel_rfl) (by kernel_rfl) (by kernel_rfl) (fun _ _ _ h => h) ?_ hS ?_
      · intro o ho
        simp only [List.getElem?_toArray, List.getElem?_cons_succ, List.getElem?_cons_zero, Option.some.injEq] at ho
        subst ho
        refine Or.inl ⟨by rfl, ?_⟩
        intro w hSw
        (try dsimp only at hSw)
        go_simp
      simp only [Act.put, List.setIfInBounds_toArray, List.set_cons_zero, List.set_cons_succ]
      refine take_at (i := 4) (d := some 36) (v := .bool true) (by kernel_rfl) (by kernel_rfl) (by kernel_rfl) (by kernel_rfl) (fun _ _ _ h => h) ?_ hS ?_
      · intro o ho
        simp only [List.getElem?_toArray, List.getElem?_cons_succ, List.getElem?_cons_zero, Option.some.injEq] at ho
        subst ho
        refine Or.inl ⟨by rfl, ?_⟩
        intro w hSw
        (try dsimp only at hSw)
        go_simp
      simp only [Act.put, List.setIfInBounds_toArray, List.set_cons_zero, List.set_cons_succ]
      refine take_at (i := 5) (d := some 37) (v := .agg #[.slice a3 n3 c3, .int .i64 low3, .bool neg3, .bool nn3]) (by kernel_rfl) (by kernel_rfl) (by kernel_rfl) (by kernel_rfl) (fun _ _ _ h => h) ?_ hS ?_
      · intro o ho
        simp only [List.getElem?_toArray, List.getElem?_cons_succ, List.getElem?_cons_zero, Option.some.injEq] at ho
        subst ho
        refine Or.inl ⟨by rfl, ?_⟩
        intro w hSw
        (try dsimp only at hSw)
        go_simp
      simp only [Act.put, List.setIfInBounds_toArray, List.set_cons_zero, List.set_cons_succ]
      refine take_at (i := 6) (d := some 38) (v := .agg #[.slice a4 n4 c4, .int .i64 low4, .bool neg4, .bool nn4]) (by kernel_rfl) (by kernel_rfl) (by kernel_rfl) (by kernel_rfl) (fun _ _ _ h => h) ?_ hS ?_
      · intro o ho
        simp only [List.getElem?_toArray, List.getElem?_cons_succ, List.getElem?_cons_zero, Option.some.injEq] at ho
        subst ho
        refine Or.inl ⟨by rfl, ?_⟩
        intro w hSw
        (try dsimp only at hSw)
        go_simp
      simp only [Act.put, List.setIfInBounds_toArray, List.set_cons_zero, List.set_cons_succ]
      refine call_at 7 (by kernel_rfl) (by kernel_rfl) ?_
      intro o ho
      simp only [List.getElem?_toArray, List.getElem?_cons_succ, List.getElem?_cons_zero, Option.some.injEq] at ho
      subst ho
      intro K hK
      go_simp
      refine (cmp_any _ _ _ _ _ (HN3.out.later (keep12_bel hS)) (HN4.out.later (keep12_bel hS))).mono ?_
      rw [eBC.out]
      rintro e wx ⟨rfl, hbx⟩
      go_wp2_with fail
      refine hK.out _ _ (keep12 hS hbx) (fun hS => ?_)
      clear hK K
      try simp only [Act.put, List.setIfInBounds_toArray, List.set_cons_zero, List.set_cons_succ]
      refine take_at (i := 8) (d := some 40) (v := .bool false) (by kernel_rfl) (by kernel_rfl) (by kernel_rfl) (by kernel_rfl) (fun _ _ _ h => h) ?_ hS ?_
      · intro o ho
        simp only [List.getElem?_toArray, List.getElem?_cons_succ, List.getElem?_cons_zero, Option.some.injEq] at ho
        subst ho
        refine Or.inl ⟨by rfl, ?_⟩
        intro w hSw
        (try dsimp only at hSw)
        go_simp
      simp only [Act.put, List.setIfInBounds_toArray, List.set_cons_zero, List.set_cons_succ]
      refine take_at (i := 9) (d := some 41) (v := .bool false) (by kernel_rfl) (by kernel_rfl) (by kernel_rfl) (by kernel_rfl) (fun _ _ _ h => h) ?_ hS ?_
      · intro o ho
        simp only [List.getElem?_toArray, List.getElem?_cons_succ, List.getElem?_cons_zero, Option.some.injEq] at ho
        subst ho
        refine Or.inl ⟨by rfl, ?_⟩
        intro w hSw
        (try dsimp only at hSw)
        go_simp
      simp only [Act.put, List.setIfInBounds_toArray, List.set_cons_zero, List.set_cons_succ]
      refine take_at (i := 10) (d := some 42) (v := .bool false) (by kernel_rfl) (by kernel_rfl) (by kernel_rfl) (by kernel_rfl) (fun _ _ _ h => h) ?_ hS ?_
      · intro o ho
        simp only [List.getElem?_toArray, List.getElem?_cons_succ, List.getElem?_cons_zero, Option.some.injEq] at ho
        subst ho
        refine Or.inl ⟨by rfl, ?_⟩
        intro w hSw
        (try dsimp only at hSw)
        go_simp
      simp only [Act.put, List.setIfInBounds_toArray, List.set_cons_zero, List.set_cons_succ]
      refine skip_at 11 (d := some 43) (by kernel_rfl) (by kernel_rfl) (by kernel_rfl) (by kernel_rfl) (fun _ _ _ h => h) (by rfl) hS ?_
      simp only [Act.put, List.setIfInBounds_toArray, List.set_cons_zero, List.set_cons_succ]
      refine skip_at 12 (d := some 44) (by kernel_rfl) (by kernel_rfl) (by kernel_rfl) (by kernel_rfl) (fun _ _ _ h => h) (by rfl) hS ?_
      simp only [Act.put, List.setIfInBounds_toArray, List.set_cons_zero, List.set_cons_succ]
      refine skip_at 13 (d := some 45) (by kernel_rfl) (by kernel_rfl) (by kernel_rfl) (by kernel_rfl) (fun _ _ _ h => h) (by rfl) hS ?_
      simp only [Act.put, List.setIfInBounds_toArray, List.set_cons_zero, List.set_cons_succ]
      refine skip_at 14 (d := some 46) (by kernel_rfl) (by kernel_rfl) (by kernel_rfl) (by kernel_rfl) (fun _ _ _ h => h) (by rfl) hS ?_
      simp only [Act.put, List.setIfInBounds_toArray, List.set_cons_zero, List.set_cons_succ]
      refine take_at (i := 15) (d := some 47) (v := .bool false) (by kernel_rfl) (by kernel_rfl) (by kernel_rfl) (by kernel_rfl) (fun _ _ _ h => h) ?_ hS ?_
      · intro o ho
        simp only [List.getElem?_toArray, List.getElem?_cons_succ, List.getElem?_cons_zero, Option.some.injEq] at ho
        subst ho
        refine Or.inl ⟨by rfl, ?_⟩
        intro w hSw
        (try dsimp only at hSw)
        go_simp
      simp only [Act.put, List.setIfInBounds_toArray, List.set_cons_zero, List.set_cons_succ]
      refine take_at (i := 16) (d := some 48) (v := .bool false) (by kernel_rfl) (by kernel_rfl) (by kernel_rfl) (by kernel_rfl) (fun _ _ _ h => h) ?_ hS ?_
      · intro o ho
        simp only [List.getElem?_toArray, List.getElem?_cons_succ, List.getElem?_cons_zero, Option.some.injEq] at ho
        subst ho
        refine Or.inl ⟨by rfl, ?_⟩
        intro w hSw
        (try dsimp only at hSw)
        go_simp
      simp only [Act.put, List.setIfInBounds_toArray, List.set_cons_zero, List.set_cons_succ]
      refine take_at (i := 17) (d := some 49) (v := .agg #[.slice a2 n2 c2, .int .i64 low2, .bool neg2, .bool nn2]) (by kernel_rfl) (by kernel_rfl) (by kernel_rfl) (by kernel_rfl) (fun _ _ _ h => h) ?_ hS ?_
      · intro o ho
        simp only [List.getElem?_toArray, List.getElem?_cons_succ, List.getElem?_cons_zero, Option.some.injEq] at ho
        subst ho
        refine Or.inl ⟨by rfl, ?_⟩
        intro w hSw
        (try dsimp only at hSw)
        go_simp
      simp only [Act.put, List.setIfInBounds_toArray, List.set_cons_zero, List.set_cons_succ]
      refine take_at (i := 18) (d := some 50) (v := .agg #[.slice a4 n4 c4, .int .i64 low4, .bool neg4, .bool nn4]) (by kernel_rfl) (by kernel_rfl) (by kernel_rfl) (by kernel_rfl) (fun _ _ _ h => h) ?_ hS ?_
      · intro o ho
        simp only [List.getElem?_toArray, List.getElem?_cons_succ, List.getElem?_cons_zero, Option.some.injEq] at ho
        subst ho
        refine Or.inl ⟨by rfl, ?_⟩
        intro w hSw
        (try dsimp only at hSw)
        go_simp
      simp only [Act.put, List.setIfInBounds_toArray, List.set_cons_zero, List.set_cons_succ]
      refine take_at (i := 20) (d := some 52) (v := .agg #[.slice a3 n3 c3, .int .i64 low3, .bool neg3, .bool nn3]) (by kernel_rfl) (by kernel_rfl) (by kernel_rfl) (by kernel_rfl) (fun _ _ _ h => h) ?_ hS ?_
      · intro o ho
        simp only [List.getElem?_toArray, List.getElem?_cons_succ, List.getElem?_cons_zero, Option.some.injEq] at ho
        subst ho
        refine Or.inl ⟨by rfl, ?_⟩
        intro w hSw
        (try dsimp only at hSw)
        go_simp
      simp only [Act.put, List.setIfInBounds_toArray, List.set_cons_zero, List.set_cons_succ]
      refine take_at (i := 21) (d := some 53) (v := .agg #[.slice a4 n4 c4, .int .i64 low4, .bool neg4, .bool nn4]) (by kernel_rfl) (by kernel_rfl) (by kernel_rfl) (by kernel_rfl) (fun _ _ _ h => h) ?_ hS ?_
      · intro o ho
        simp only [List.getElem?_toArray, List.getElem?_cons_succ, List.getElem?_cons_zero, Option.some.injEq] at ho
        subst ho
        refine Or.inl ⟨by rfl, ?_⟩
        intro w hSw
        (try dsimp only at hSw)
        go_simp
      simp only [Act.put, List.setIfInBounds_toArray, List.set_cons_zero, List.set_cons_succ]
      refine take_at (i := 24) (d := some 56) (v := .agg #[.slice a2 n2 c2, .int .i64 low2, .bool neg2, .bool nn2]) (by kernel_rfl) (by kernel_rfl) (by kernel_rfl) (by kernel_rfl) (fun _ _ _ h => h) ?_ hS ?_
      · intro o ho
        simp only [List.getElem?_toArray, List.getElem?_cons_succ, List.getElem?_cons_zero, Option.some.injEq] at ho
        subst ho
        refine Or.inl ⟨by rfl, ?_⟩
        intro w hSw
        (try dsimp only at hSw)
        go_simp
      simp only [Act.put, List.setIfInBounds_toArray, List.set_cons_zero, List.set_cons_succ]
      refine take_at (i := 25) (d := some 57) (v := .agg #[.slice a3 n3 c3, .int .i64 low3, .bool neg3, .bool nn3]) (by kernel_rfl) (by kernel_rfl) (by kernel_rfl) (by kernel_rfl) (fun _ _ _ h => h) ?_ hS ?_
      · intro o ho
        simp only [List.getElem?_toArray, List.getElem?_cons_succ, List.getElem?_cons_zero, Option.some.injEq] at ho
        subst ho
        refine Or.inl ⟨by rfl, ?_⟩
        intro w hSw
        (try dsimp only at hSw)
        go_simp
      simp only [Act.put, List.setIfInBounds_toArray, List.set_cons_zero, List.set_cons_succ]
      refine call_at 19 (by kernel_rfl) (by kernel_rfl) ?_
      intro o ho
      simp only [List.getElem?_toArray, List.getElem?_cons_succ, List.getElem?_cons_zero, Option.some.injEq] at ho
      subst ho
      intro K hK
      go_simp
      refine (add_any _ _ _ _ _ (HN2.out.later (keep12_bel hS)) (HN4.out.later (keep12_bel hS)) (HT.out.later (thru HBC.out (keep12_bel hS)))).mono ?_
      rintro e wx ⟨v21, y21, rfl, hn21, hy21, hbx⟩
      obtain ⟨a21, n21, c21, low21, neg21, nn21, rfl, hn21⟩ := isNum_form hn21
      have e21 := op2_may hy21 HAC.out
      subst e21
      go_wp2_with fail
      refine hK.out _ _ (keep12 hS hbx) (fun hS => ?_)
      clear hK K
      try simp only [Act.put, List.setIfInBounds_toArray, List.set_cons_zero, List.set_cons_succ]
      refine call_at 22 (by kernel_rfl) (by kernel_rfl) ?_
      intro o ho
      simp only [List.getElem?_toArray, List.getElem?_cons_succ, List.getElem?_cons_zero, Option.some.injEq] at ho
      subst ho
      intro K hK
      go_simp
      refine (add_any _ _ _ _ _ (HN3.out.later (keep12_bel hS)) (HN4.out.later (keep12_bel hS)) (HT.out.later (thru HBC.out (keep12_bel hS)))).mono ?_
      rintro e wx ⟨v22, y22, rfl, hn22, hy22, hbx⟩
      obtain ⟨a22, n22, c22, low22, neg22, nn22, rfl, hn22⟩ := isNum_form hn22
      have e22 := op2_may hy22 HBCm.out
      subst e22
      have hn21 := hn21.later hbx
      go_wp2_with fail
      refine hK.out _ _ (keep12 hS hbx) (fun hS => ?_)
      clear hK K
      try simp only [Act.put, List.setIfInBounds_toArray, List.set_cons_zero, List.set_cons_succ]
      refine call_at 23 (by kernel_rfl) (by kernel_rfl) ?_
      intro o ho
      simp only [List.getElem?_toArray, List.getElem?_cons_succ, List.getElem?_cons_zero, Option.some.injEq] at ho
      subst ho
      intro K hK
      go_simp
      refine (cmp_any _ _ _ _ _ hn21 hn22).mono ?_
      rw [HSUM.out]
      rintro e wx ⟨rfl, hbx⟩
      go_wp2_with fail
      refine hK.out _ _ (keep12 hS hbx) (fun hS => ?_)
      clear hK K
      try simp only [Act.put, List.setIfInBounds_toArray, List.set_cons_zero, List.set_cons_succ]
      refine call_at 26 (by kernel_rfl) (by kernel_rfl) ?_
      intro o ho
      simp only [List.getElem?_toArray, List.getElem?_cons_succ, List.getElem?_cons_zero, Option.some.injEq] at ho
      subst ho
      intro K hK
      go_simp
      refine (cmp_any _ _ _ _ _ (HN2.out.later (keep12_bel hS)) (HN3.out.later (keep12_bel hS))).mono ?_
      rw [eAB.out]
      rintro e wx ⟨rfl, hbx⟩
      go_wp2_with fail
      refine hK.out _ _ (keep12 hS hbx) (fun hS => ?_)
      clear hK K
      try simp only [Act.put, List.setIfInBounds_toArray, List.set_cons_zero, List.set_cons_succ]
      refine take_at (i := 27) (d := some 59) (v := .bool false) (by kernel_rfl) (by kernel_rfl) (by kernel_rfl) (by kernel_rfl) (fun _ _ _ h => h) ?_ hS ?_
      · intro o ho
        simp only [List.getElem?_toArray, List.getElem?_cons_succ, List.getElem?_cons_zero, Option.some.injEq] at ho
        subst ho
        refine Or.inl ⟨by rfl, ?_⟩
        intro w hSw
        (try dsimp only at hSw)
        go_simp
      simp only [Act.put, List.setIfInBounds_toArray, List.set_cons_zero, List.set_cons_succ]
      refine take_at (i := 28) (d := some 60) (v := .bool false) (by kernel_rfl) (by kernel_rfl) (by kernel_rfl) (by kernel_rfl) (fun _ _ _ h => h) ?_ hS ?_
      · intro o ho
        simp only [List.getElem?_toArray, List.getElem?_cons_succ, List.getElem?_cons_zero, Option.some.injEq] at ho
        subst ho
        refine Or.inl ⟨by rfl, ?_⟩
        intro w hSw
        (try dsimp only at hSw)
        go_simp
      simp only [Act.put, List.setIfInBounds_toArray, List.set_cons_zero, List.set_cons_succ]
      refine take_at (i := 29) (d := some 61) (v := .bool false) (by kernel_rfl) (by kernel_rfl) (by kernel_rfl) (by kernel_rfl) (fun _ _ _ h => h) ?_ hS ?_
      · intro o ho
        simp only [List.getElem?_toArray, List.getElem?_cons_succ, List.getElem?_cons_zero, Option.some.injEq] at ho
        subst ho
        refine Or.inl ⟨by rfl, ?_⟩
        intro w hSw
        (try dsimp only at hSw)
        go_simp
      simp only [Act.put, List.setIfInBounds_toArray, List.set_cons_zero, List.set_cons_succ]
      refine take_at (i := 30) (d := some 62) (v := .agg #[.slice a2 n2 c2, .int .i64 low2, .bool neg2, .bool nn2]) (by kernel_rfl) (by kernel_rfl) (by kernel_rfl) (by kernel_rfl) (fun _ _ _ h => h) ?_ hS ?_
      · intro o ho
        simp only [List.getElem?_toArray, List.getElem?_cons_succ, List.getElem?_cons_zero, Option.some.injEq] at ho
        subst ho
        refine Or.inl ⟨by rfl, ?_⟩
        intro w hSw
        (try dsimp only at hSw)
        go_simp
      simp only [Act.put, List.setIfInBounds_toArray, List.set_cons_zero, List.set_cons_succ]
      refine take_at (i := 31) (d := some 63) (v := .agg #[.slice a3 n3 c3, .int .i64 low3, .bool neg3, .bool nn3]) (by kernel_rfl) (by kernel_rfl) (by kernel_rfl) (by kernel_rfl) (fun _ _ _ h => h) ?_ hS ?_
      · intro o ho
        simp only [List.getElem?_toArray, List.getElem?_cons_succ, List.getElem?_cons_zero, Option.some.injEq] at ho
        subst ho
        refine Or.inl ⟨by rfl, ?_⟩
        intro w hSw
        (try dsimp only at hSw)
        go_simp
      simp only [Act.put, List.setIfInBounds_toArray, List.set_cons_zero, List.set_cons_succ]
      refine call_at 32 (by kernel_rfl) (by kernel_rfl) ?_
      intro o ho
      simp only [List.getElem?_toArray, List.getElem?_cons_succ, List.getElem?_cons_zero, Option.some.injEq] at ho
      subst ho
      intro K hK
      go_simp
      refine (cmp_any _ _ _ _ _ (HN2.out.later (keep12_bel hS)) (HN3.out.later (keep12_bel hS))).mono ?_
      rw [eAB.out]
      rintro e wx ⟨rfl, hbx⟩
      go_wp2_with fail
      refine hK.out _ _ (keep12 hS hbx) (fun hS => ?_)
      clear hK K
      try simp only [Act.put, List.setIfInBounds_toArray, List.set_cons_zero, List.set_cons_succ]
      refine take_at (i := 33) (d := some 65) (v := .bool true) (by kernel_rfl) (by kernel_rfl) (by kernel_rfl) (by kernel_rfl) (fun _ _ _ h => h) ?_ hS ?_
      · intro o ho
        simp only [List.getElem?_toArray, List.getElem?_cons_succ, List.getElem?_cons_zero, Option.some.injEq] at ho
        subst ho
        refine Or.inl ⟨by rfl, ?_⟩
        intro w hSw
        (try dsimp only at hSw)
        go_simp
      simp only [Act.put, List.setIfInBounds_toArray, List.set_cons_zero, List.set_cons_succ]
      refine take_at (i := 34) (d := some 66) (v := .bool true) (by kernel_rfl) (by kernel_rfl) (by kernel_rfl) (by kernel_rfl) (fun _ _ _ h => h) ?_ hS ?_
      · intro o ho
        simp only [List.getElem?_toArray, List.getElem?_cons_succ, List.getElem?_cons_zero, Option.some.injEq] at ho
        subst ho
        refine Or.inl ⟨by rfl, ?_⟩
        intro w hSw
        (try dsimp only at hSw)
        go_simp
      simp only [Act.put, List.setIfInBounds_toArray, List.set_cons_zero, List.set_cons_succ]
      refine take_at (i := 35) (d := some 67) (v := .agg #[.slice a2 n2 c2, .int .i64 low2, .bool neg2, .bool nn2]) (by kernel_rfl) (by kernel_rfl) (by kernel_rfl) (by kernel_rfl) (fun _ _ _ h => h) ?_ hS ?_
      · intro o ho
        simp only [List.getElem?_toArray, List.getElem?_cons_succ, List.getElem?_cons_zero, Option.some.injEq] at ho
        subst ho
        refine Or.inl ⟨by rfl, ?_⟩
        intro w hSw
        (try dsimp only at hSw)
        go_simp
      simp only [Act.put, List.setIfInBounds_toArray, List.set_cons_zero, List.set_cons_succ]
      refine take_at (i := 37) (d := some 69) (v := .agg #[.slice a3 n3 c3, .int .i64 low3, .bool neg3, .bool nn3]) (by kernel_rfl) (by kernel_rfl) (by kernel_rfl) (by kernel_rfl) (fun _ _ _ h => h) ?_ hS ?_
      · intro o ho
        simp only [List.getElem?_toArray, List.getElem?_cons_succ, List.getElem?_cons_zero, Option.some.injEq] at ho
        subst ho
        refine Or.inl ⟨by rfl, ?_⟩
        intro w hSw
        (try dsimp only at hSw)
        go_simp
      simp only [Act.put, List.setIfInBounds_toArray, List.set_cons_zero, List.set_cons_succ]
      refine call_at 36 (by kernel_rfl) (by kernel_rfl) ?_
      intro o ho
      simp only [List.getElem?_toArray, List.getElem?_cons_succ, List.getElem?_cons_zero, Option.some.injEq] at ho
      subst ho
      intro K hK
      go_simp
      refine (float_any _ _ _ (HN2.out.later (keep12_bel hS))).mono ?_
      rintro e wx ⟨⟨fl2, rfl, hf2⟩, hbx⟩
      go_wp2_with fail
      refine hK.out _ _ (keep12 hS hbx) (fun hS => ?_)
      clear hK K
      try simp only [Act.put, List.setIfInBounds_toArray, List.set_cons_zero, List.set_cons_succ]
      refine call_at 38 (by kernel_rfl) (by kernel_rfl) ?_
      intro o ho
      simp only [List.getElem?_toArray, List.getElem?_cons_succ, List.getElem?_cons_zero, Option.some.injEq] at ho
      subst ho
      intro K hK
      go_simp
      refine (float_any _ _ _ (HN3.out.later (keep12_bel hS))).mono ?_
      rintro e wx ⟨⟨fl3, rfl, hf3⟩, hbx⟩
      have hlt := floatOf_order (Rat.le_of_lt (HPOS.out (by decide))) hf2 hf3
      go_wp2_with fail
      refine hK.out _ _ (keep12 hS hbx) (fun hS => ?_)
      clear hK K
      try simp only [Act.put, List.setIfInBounds_toArray, List.set_cons_zero, List.set_cons_succ]
      refine take_at (i := 39) (d := some 71) (v := .bool false) (by kernel_rfl) (by kernel_rfl) (by kernel_rfl) (by kernel_rfl) (fun _ _ _ h => h) ?_ hS ?_
      · intro o ho
        simp only [List.getElem?_toArray, List.getElem?_cons_succ, List.getElem?_cons_zero, Option.some.injEq] at ho
        subst ho
        refine Or.inl ⟨by rfl, ?_⟩
        intro w hSw
        (try dsimp only at hSw)
        go_simp
      simp only [Act.put, List.setIfInBounds_toArray, List.set_cons_zero, List.set_cons_succ]
      refine take_at (i := 40) (d := some 72) (v := .bool false) (by kernel_rfl) (by kernel_rfl) (by kernel_rfl) (by kernel_rfl) (fun _ _ _ h => h) ?_ hS ?_
      · intro o ho
        simp only [List.getElem?_toArray, List.getElem?_cons_succ, List.getElem?_cons_zero, Option.some.injEq] at ho
        subst ho
        refine Or.inl ⟨by rfl, ?_⟩
        intro w hSw
        (try dsimp only at hSw)
        go_simp
      simp only [Act.put, List.setIfInBounds_toArray, List.set_cons_zero, List.set_cons_succ]
      refine take_at (i := 41) (d := some 73) (v := .bool false) (by kernel_rfl) (by kernel_rfl) (by kernel_rfl) (by kernel_rfl) (fun _ _ _ h => h) ?_ hS ?_
      · intro o ho
        simp only [List.getElem?_toArray, List.getElem?_cons_succ, List.getElem?_cons_zero, Option.some.injEq] at ho
        subst ho
        refine Or.inl ⟨by rfl, ?_⟩
        intro w hSw
        (try dsimp only at hSw)
        go_simp
      simp only [Act.put, List.setIfInBounds_toArray, List.set_cons_zero, List.set_cons_succ]
      refine wpAnyH_done (by kernel_rfl) ?_ _
      go_wp2_with fail
      go_meet
      exact ⟨rfl, hS⟩
    · have hac : decide (ac < 0) = false := decide_eq_false (by have := HTR.out (by decide) hbc; omega)
      have hb : decide (0 ≤ bc) = true := decide_eq_true hbc
      clear hbc
      refine wp_region_held_drew (S := (fun W => W.cell? ⟨w2.heap.size, 0, none⟩ = some (.slice a2 n2 c2) ∧ W.cell? ⟨w2.heap.size, 1, none⟩ = some (.int .i64 low2) ∧ W.cell? ⟨w2.heap.size, 2, none⟩ = some (.bool neg2) ∧ W.cell? ⟨w2.heap.size, 3, none⟩ = some (.bool nn2) ∧ W.cell? ⟨w3.heap.size, 0, none⟩ = some (.slice a3 n3 c3) ∧ W.cell? ⟨w3.heap.size, 1, none⟩ = some (.int .i64 low3) ∧ W.cell? ⟨w3.heap.size, 2, none⟩ = some (.bool neg3) ∧ W.cell? ⟨w3.heap.size, 3, none⟩ = some (.bool nn3) ∧ W.cell? ⟨w4.heap.size, 0, none⟩ = some (.slice a4 n4 c4) ∧ W.cell? ⟨w4.heap.size, 1, none⟩ = some (.int .i64 low4) ∧ W.cell? ⟨w4.heap.size, 2, none⟩ = some (.bool neg4) ∧ W.cell? ⟨w4.heap.size, 3, none⟩ = some (.bool nn4) ∧ Below wq.heap.size wq W)) (by kernel_rfl) ⟨z20, z21, z22, z23, z30, z31, z32, z33, z40, z41, z42, z43, (Below.refl _ _).drew⟩ (fun hS => ?_)
      refine take_at (i := 0) (d := some 32) (v := .agg #[.slice a2 n2 c2, .int .i64 low2, .bool neg2, .bool nn2]) (by kernel_rfl) (by kernel_rfl) (by kernel_rfl) (by kernel_rfl) (fun _ _ _ h => h) ?_ hS ?_
      · intro o ho
        simp only [List.getElem?_toArray, List.getElem?_cons_zero, Option.some.injEq] at ho
        subst ho
        refine Or.inl ⟨by rfl, ?_⟩
        intro w hSw
        (try dsimp only at hSw)
        go_simp
      simp only [Act.put, List.setIfInBounds_toArray, List.set_cons_zero, List.set_cons_succ]
      refine take_at (i := 1) (d := some 33) (v := .agg #[.slice a3 n3 c3, .int .i64 low3, .bool neg3, .bool nn3]) (by kernel_rfl) (by kernel_rfl) (by kernel_rfl) (by kernel_rfl) (fun _ _ _ h => h) ?_ hS ?_
      · intro o ho
        simp only [List.getElem?_toArray, List.getElem?_cons_succ, List.getElem?_cons_zero, Option.some.injEq] at ho
        subst ho
        refine Or.inl ⟨by rfl, ?_⟩
        intro w hSw
        (try dsimp only at hSw)
        go_simp
      simp only [Act.put, List.setIfInBounds_toArray, List.set_cons_zero, List.set_cons_succ]
      refine call_at 2 (by kernel_rfl) (by kernel_rfl) ?_
      intro o ho
      simp only [List.getElem?_toArray, List.getElem?_cons_succ, List.getElem?_cons_zero, Option.some.injEq] at ho
      subst ho
      intro K hK
      go_simp
      refine (cmp_any _ _ _ _ _ (HN2.out.later (keep12_bel hS)) (HN3.out.later (keep12_bel hS))).mono ?_
      rw [eAB.out]
      rintro e wx ⟨rfl, hbx⟩
      go_wp2_with fail
      refine hK.out _ _ (keep12 hS hbx) (fun hS => ?_)
      clear hK K
      try simp only [Act.put, List.setIfInBounds_toArray, List.set_cons_zero, List.set_cons_succ]
      refine take_at (i := 3) (d := some 35) (v := .bool true) (by kernel_rfl) (by kernel_rfl) (by kernel_rfl) (by kernel_rfl) (fun _ _ _ h => h) ?_ hS ?_
      · intro o ho
        simp only [List.getElem?_toArray, List.getElem?_cons_succ, List.getElem?_cons_zero, Option.some.injEq] at ho
        subst ho
        refine Or.inl ⟨by rfl, ?_⟩
        intro w hSw
        (try dsimp only at hSw)
        go_simp
      simp only [Act.put, List.setIfInBounds_toArray, List.set_cons_zero, List.set_cons_succ]
      refine take_at (i := 4) (d := some 36) (v := .bool true) (by kernel_rfl) (by kernel_rfl) (by kernel_rfl) (by kernel_rfl) (fun _ _ _ h => h) ?_ hS ?_
      · intro o ho
        simp only [List.getElem?_toArray, List.getElem?_cons_succ, List.getElem?_cons_zero, Option.some.injEq] at ho
        subst ho
        refine Or.inl ⟨by rfl, ?_⟩
        intro w hSw
        (try dsimp only at hSw)
        go_simp
      simp only [Act.put, List.setIfInBounds_toArray, List.set_cons_zero, List.set_cons_succ]
      refine take_at (i := 5) (d := some 37) (v := .agg #[.slice a3 n3 c3, .int .i64 low3, .bool neg3, .bool nn3]) (by kernel_rfl) (by kernel_rfl) (by kernel_rfl) (by kernel_rfl) (fun _ _ _ h => h) ?_ hS ?_
      · intro o ho
        simp only [List.getElem?_toArray, List.getElem?_cons_succ, List.getElem?_cons_zero, Option.some.injEq] at ho
        subst ho
        refine Or.inl ⟨by rfl, ?_⟩
        intro w hSw
        (try dsimp only at hSw)
        go_simp
      simp only [Act.put, List.setIfInBounds_toArray, List.set_cons_zero, List.set_cons_succ]
      refine take_at (i := 6) (d := some 38) (v := .agg #[.slice a4 n4 c4, .int .i64 low4, .bool neg4, .bool nn4]) (by kernel_rfl) (by kernel_rfl) (by kernel_rfl) (by kernel_rfl) (fun _ _ _ h => h) ?_ hS ?_
      · intro o ho
        simp only [List.getElem?_toArray, List.getElem?_cons_succ, List.getElem?_cons_zero, Option.some.injEq] at ho
        subst ho
        refine Or.inl ⟨by rfl, ?_⟩
        intro w hSw
        (try dsimp only at hSw)
        go_simp
      simp only [Act.put, List.setIfInBounds_toArray, List.set_cons_zero, List.set_cons_succ]
      refine call_at 7 (by kernel_rfl) (by kernel_rfl) ?_
      intro o ho
      simp only [List.getElem?_toArray, List.getElem?_cons_succ, List.getElem?_cons_zero, Option.some.injEq] at ho
      subst ho
      intro K hK
      go_simp
      refine (cmp_any _ _ _ _ _ (HN3.out.later (keep12_bel hS)) (HN4.out.later (keep12_bel hS))).mono ?_
      rw [eBC.out]
      rintro e wx ⟨rfl, hbx⟩
      go_wp2_with fail
      refine hK.out _ _ (keep12 hS hbx) (fun hS => ?_)
      clear hK K
      try simp only [Act.put, List.setIfInBounds_toArray, List.set_cons_zero, List.set_cons_succ]
      refine take_at (i := 8) (d := some 40) (v := .bool true) (by kernel_rfl) (by kernel_rfl) (by kernel_rfl) (by kernel_rfl) (fun _ _ _ h => h) ?_ hS ?_
      · intro o ho
        simp only [List.getElem?_toArray, List.getElem?_cons_succ, List.getElem?_cons_zero, Option.some.injEq] at ho
        subst ho
        refine Or.inl ⟨by rfl, ?_⟩
        intro w hSw
        (try dsimp only at hSw)
        go_simp
      simp only [Act.put, List.setIfInBounds_toArray, List.set_cons_zero, List.set_cons_succ]
      refine take_at (i := 9) (d := some 41) (v := .bool true) (by kernel_rfl) (by kernel_rfl) (by kernel_rfl) (by kernel_rfl) (fun _ _ _ h => h) ?_ hS ?_
      · intro o ho
        simp only [List.getElem?_toArray, List.getElem?_cons_succ, List.getElem?_cons_zero, Option.some.injEq] at ho
        subst ho
        refine Or.inl ⟨by rfl, ?_⟩
        intro w hSw
        (try dsimp only at hSw)
        go_simp
      simp only [Act.put, List.setIfInBounds_toArray, List.set_cons_zero, List.set_cons_succ]
      refine take_at (i := 10) (d := some 42) (v := .bool true) (by kernel_rfl) (by kernel_rfl) (by kernel_rfl) (by kernel_rfl) (fun _ _ _ h => h) ?_ hS ?_
      · intro o ho
        simp only [List.getElem?_toArray, List.getElem?_cons_succ, List.getElem?_cons_zero, Option.some.injEq] at ho
        subst ho
        refine Or.inl ⟨by rfl, ?_⟩
        intro w hSw
        (try dsimp only at hSw)
        go_simp
      simp only [Act.put, List.setIfInBounds_toArray, List.set_cons_zero, List.set_cons_succ]
      refine take_at (i := 11) (d := some 43) (v := .agg #[.slice a2 n2 c2, .int .i64 low2, .bool neg2, .bool nn2]) (by kernel_rfl) (by kernel_rfl) (by kernel_rfl) (by kernel_rfl) (fun _ _ _ h => h) ?_ hS ?_
      · intro o ho
        simp only [List.getElem?_toArray, List.getElem?_cons_succ, List.getElem?_cons_zero, Option.some.injEq] at ho
        subst ho
        refine Or.inl ⟨by rfl, ?_⟩
        intro w hSw
        (try dsimp only at hSw)
        go_simp
      simp only [Act.put, List.setIfInBounds_toArray, List.set_cons_zero, List.set_cons_succ]
      refine take_at (i := 12) (d := some 44) (v := .agg #[.slice a4 n4 c4, .int .i64 low4, .bool neg4, .bool nn4]) (by kernel_rfl) (by kernel_rfl) (by kernel_rfl) (by kernel_rfl) (fun _ _ _ h => h) ?_ hS ?_
      · intro o ho
        simp only [List.getElem?_toArray, List.getElem?_cons_succ, List.getElem?_cons_zero, Option.some.injEq] at ho
        subst ho
        refine Or.inl ⟨by rfl, ?_⟩
        intro w hSw
        (try dsimp only at hSw)
        go_simp
      simp only [Act.put, List.setIfInBounds_toArray, List.set_cons_zero, List.set_cons_succ]
      refine call_at 13 (by kernel_rfl) (by kernel_rfl) ?_
      intro o ho
      simp only [List.getElem?_toArray, List.getElem?_cons_succ, List.getElem?_cons_zero, Option.some.injEq] at ho
      subst ho
      intro K hK
      go_simp
      refine (cmp_any _ _ _ _ _ (HN2.out.later (keep12_bel hS)) (HN4.out.later (keep12_bel hS))).mono ?_
      rw [eAC.out]
      rintro e wx ⟨rfl, hbx⟩
      go_wp2_with fail
      refine hK.out _ _ (keep12 hS hbx) (fun hS => ?_)
      clear hK K
      try simp only [Act.put, List.setIfInBounds_toArray, List.set_cons_zero, List.set_cons_succ]
      refine take_at (i := 14) (d := some 46) (v := .bool false) (by kernel_rfl) (by kernel_rfl) (by kernel_rfl) (by kernel_rfl) (fun _ _ _ h => h) ?_ hS ?_
      · intro o ho
        simp only [List.getElem?_toArray, List.getElem?_cons_succ, List.getElem?_cons_zero, Option.some.injEq] at ho
        subst ho
        refine Or.inl ⟨by rfl, ?_⟩
        intro w hSw
        (try dsimp only at hSw)
        go_simp
      simp only [Act.put, List.setIfInBounds_toArray, List.set_cons_zero, List.set_cons_succ]
      refine take_at (i := 15) (d := some 47) (v := .bool false) (by kernel_rfl) (by kernel_rfl) (by kernel_rfl) (by kernel_rfl) (fun _ _ _ h => h) ?_ hS ?_
      · intro o ho
        simp only [List.getElem?_toArray, List.getElem?_cons_succ, List.getElem?_cons_zero, Option.some.injEq] at ho
        subst ho
        refine Or.inl ⟨by rfl, ?_⟩
        intro w hSw
        (try dsimp only at hSw)
        go_simp
      simp only [Act.put, List.setIfInBounds_toArray, List.set_cons_zero, List.set_cons_succ]
      refine take_at (i := 16) (d := some 48) (v := .bool false) (by kernel_rfl) (by kernel_rfl) (by kernel_rfl) (by kernel_rfl) (fun _ _ _ h => h) ?_ hS ?_
      · intro o ho
        simp only [List.getElem?_toArray, List.getElem?_cons_succ, List.getElem?_cons_zero, Option.some.injEq] at ho
        subst ho
        refine Or.inl ⟨by rfl, ?_⟩
        intro w hSw
        (try dsimp only at hSw)
        go_simp
      simp only [Act.put, List.setIfInBounds_toArray, List.set_cons_zero, List.set_cons_succ]
      refine take_at (i := 17) (d := some 49) (v := .agg #[.slice a2 n2 c2, .int .i64 low2, .bool neg2, .bool nn2]) (by kernel_rfl) (by kernel_rfl) (by kernel_rfl) (by kernel_rfl) (fun _ _ _ h => h) ?_ hS ?_
      · intro o ho
        simp only [List.getElem?_toArray, List.getElem?_cons_succ, List.getElem?_cons_zero, Option.some.injEq] at ho
        subst ho
        refine Or.inl ⟨by rfl, ?_⟩
        intro w hSw
        (try dsimp only at hSw)
        go_simp
      simp only [Act.put, List.setIfInBounds_toArray, List.set_cons_zero, List.set_cons_succ]
      refine take_at (i := 18) (d := some 50) (v := .agg #[.slice a4 n4 c4, .int .i64 low4, .bool neg4, .bool nn4]) (by kernel_rfl) (by kernel_rfl) (by kernel_rfl) (by kernel_rfl) (fun _ _ _ h => h) ?_ hS ?_
      · intro o ho
        simp only [List.getElem?_toArray, List.getElem?_cons_succ, List.getElem?_cons_zero, Option.some.injEq] at ho
        subst ho
        refine Or.inl ⟨by rfl, ?_⟩
        intro w hSw
        (try dsimp only at hSw)
        go_simp
      simp only [Act.put, List.setIfInBounds_toArray, List.set_cons_zero, List.set_cons_succ]
      refine take_at (i := 20) (d := some 52) (v := .agg #[.slice a3 n3 c3, .int .i64 low3, .bool neg3, .bool nn3]) (by kernel_rfl) (by kernel_rfl) (by kernel_rfl) (by kernel_rfl) (fun _ _ _ h => h) ?_ hS ?_
      · intro o ho
        simp only [List.getElem?_toArray, List.getElem?_cons_succ, List.getElem?_cons_zero, Option.some.injEq] at ho
        subst ho
        refine Or.inl ⟨by rfl, ?_⟩
        intro w hSw
        (try dsimp only at hSw)
        go_simp
      simp only [Act.put, List.setIfInBounds_toArray, List.set_cons_zero, List.set_cons_succ]
      refine take_at (i := 21) (d := some 53) (v := .agg #[.slice a4 n4 c4, .int .i64 low4, .bool neg4, .bool nn4]) (by kernel_rfl) (by kernel_rfl) (by kernel_rfl) (by kernel_rfl) (fun _ _ _ h => h) ?_ hS ?_
      · intro o ho
        simp only [List.getElem?_toArray, List.getElem?_cons_succ, List.getElem?_cons_zero, Option.some.injEq] at ho
        subst ho
        refine Or.inl ⟨by rfl, ?_⟩
        intro w hSw
        (try dsimp only at hSw)
        go_simp
      simp only [Act.put, List.setIfInBounds_toArray, List.set_cons_zero, List.set_cons_succ]
      refine take_at (i := 24) (d := some 56) (v := .agg #[.slice a2 n2 c2, .int .i64 low2, .bool neg2, .bool nn2]) (by kernel_rfl) (by kernel_rfl) (by kernel_rfl) (by kernel_rfl) (fun _ _ _ h => h) ?_ hS ?_
      · intro o ho
        simp only [List.getElem?_toArray, List.getElem?_cons_succ, List.getElem?_cons_zero, Option.some.injEq] at ho
        subst ho
        refine Or.inl ⟨by rfl, ?_⟩
        intro w hSw
        (try dsimp only at hSw)
        go_simp
      simp only [Act.put, List.setIfInBounds_toArray, List.set_cons_zero, List.set_cons_succ]
      refine take_at (i := 25) (d := some 57) (v := .agg #[.slice a3 n3 c3, .int .i64 low3, .bool neg3, .bool nn3]) (by kernel_rfl) (by kernel_rfl) (by kernel_rfl) (by kernel_rfl) (fun _ _ _ h => h) ?_ hS ?_
      · intro o ho
        simp only [List.getElem?_toArray, List.getElem?_cons_succ, List.getElem?_cons_zero, Option.some.injEq] at ho
        subst ho
        refine Or.inl ⟨by rfl, ?_⟩
        intro w hSw
        (try dsimp only at hSw)
        go_simp
      simp only [Act.put, List.setIfInBounds_toArray, List.set_cons_zero, List.set_cons_succ]
      refine call_at 19 (by kernel_rfl) (by kernel_rfl) ?_
      intro o ho
      simp only [List.getElem?_toArray, List.getElem?_cons_succ, List.getElem?_cons_zero, Option.some.injEq] at ho
      subst ho
      intro K hK
      go_simp
      refine (add_any _ _ _ _ _ (HN2.out.later (keep12_bel hS)) (HN4.out.later (keep12_bel hS)) (HT.out.later (thru HBC.out (keep12_bel hS)))).mono ?_
      rintro e wx ⟨v21, y21, rfl, hn21, hy21, hbx⟩
      obtain ⟨a21, n21, c21, low21, neg21, nn21, rfl, hn21⟩ := isNum_form hn21
      have e21 := op2_may hy21 HAC.out
      subst e21
      go_wp2_with fail
      refine hK.out _ _ (keep12 hS hbx) (fun hS => ?_)
      clear hK K
      try simp only [Act.put, List.setIfInBounds_toArray, List.set_cons_zero, List.set_cons_succ]
      refine call_at 22 (by kernel_rfl) (by kernel_rfl) ?_
      intro o ho
      simp only [List.getElem?_toArray, List.getElem?_cons_succ, List.getElem?_cons_zero, Option.some.injEq] at ho
      subst ho
      intro K hK
      go_simp
      refine (add_any _ _ _ _ _ (HN3.out.later (keep12_bel hS)) (HN4.out.later (keep12_bel hS)) (HT.out.later (thru HBC.out (keep12_bel hS)))).mono ?_
      rintro e wx ⟨v22, y22, rfl, hn22, hy22, hbx⟩
      obtain ⟨a22, n22, c22, low22, neg22, nn22, rfl, hn22⟩ := isNum_form hn22
      have e22 := op2_may hy22 HBCm.out
      subst e22
      have hn21 := hn21.later hbx
      go_wp2_with fail
      refine hK.out _ _ (keep12 hS hbx) (fun hS => ?_)
      clear hK K
      try simp only [Act.put, List.setIfInBounds_toArray, List.set_cons_zero, List.set_cons_succ]
      refine call_at 23 (by kernel_rfl) (by kernel_rfl) ?_
      intro o ho
      simp only [List.getElem?_toArray, List.getElem?_cons_succ, List.getElem?_cons_zero, Option.some.injEq] at ho
      subst ho
      intro K hK
      go_simp
      refine (cmp_any _ _ _ _ _ hn21 hn22).mono ?_
      rw [HSUM.out]
      rintro e wx ⟨rfl, hbx⟩
      go_wp2_with fail
      refine hK.out _ _ (keep12 hS hbx) (fun hS => ?_)
      clear hK K
      try simp only [Act.put, List.setIfInBounds_toArray, List.set_cons_zero, List.set_cons_succ]
      refine call_at 26 (by kernel_rfl) (by kernel_rfl) ?_
      intro o ho
      simp only [List.getElem?_toArray, List.getElem?_cons_succ, List.getElem?_cons_zero, Option.some.injEq] at ho
      subst ho
      intro K hK
      go_simp
      refine (cmp_any _ _ _ _ _ (HN2.out.later (keep12_bel hS)) (HN3.out.later (keep12_bel hS))).mono ?_
      rw [eAB.out]
      rintro e wx ⟨rfl, hbx⟩
      go_wp2_with fail
      refine hK.out _ _ (keep12 hS hbx) (fun hS => ?_)
      clear hK K
      try simp only [Act.put, List.setIfInBounds_toArray, List.set_cons_zero, List.set_cons_succ]
      refine take_at (i := 27) (d := some 59) (v := .bool false) (by kernel_rfl) (by kernel_rfl) (by kernel_rfl) (by kernel_rfl) (fun _ _ _ h => h) ?_ hS ?_
      · intro o ho
        simp only [List.getElem?_toArray, List.getElem?_cons_succ, List.getElem?_cons_zero, Option.some.injEq] at ho
        subst ho
        refine Or.inl ⟨by rfl, ?_⟩
        intro w hSw
        (try dsimp only at hSw)
        go_simp
      simp only [Act.put, List.setIfInBounds_toArray, List.set_cons_zero, List.set_cons_succ]
      refine take_at (i := 28) (d := some 60) (v := .bool false) (by kernel_rfl) (by kernel_rfl) (by kernel_rfl) (by kernel_rfl) (fun _ _ _ h => h) ?_ hS ?_
      · intro o ho
        simp only [List.getElem?_toArray, List.getElem?_cons_succ, List.getElem?_cons_zero, Option.some.injEq] at ho
        subst ho
        refine Or.inl ⟨by rfl, ?_⟩
        intro w hSw
        (try dsimp only at hSw)
        go_simp
      simp only [Act.put, List.setIfInBounds_toArray, List.set_cons_zero, List.set_cons_succ]
      refine take_at (i := 29) (d := some 61) (v := .bool false) (by kernel_rfl) (by kernel_rfl) (by kernel_rfl) (by kernel_rfl) (fun _ _ _ h => h) ?_ hS ?_
      · intro o ho
        simp only [List.getElem?_toArray, List.getElem?_cons_succ, List.getElem?_cons_zero, Option.some.injEq] at ho
        subst ho
        refine Or.inl ⟨by rfl, ?_⟩
        intro w hSw
        (try dsimp only at hSw)
        go_simp
      simp only [Act.put, List.setIfInBounds_toArray, List.set_cons_zero, List.set_cons_succ]
      refine take_at (i := 30) (d := some 62) (v := .agg #[.slice a2 n2 c2, .int .i64 low2, .bool neg2, .bool nn2]) (by kernel_rfl) (by kernel_rfl) (by kernel_rfl) (by kernel_rfl) (fun _ _ _ h => h) ?_ hS ?_
      · intro o ho
        simp only [List.getElem?_toArray, List.getElem?_cons_succ, List.getElem?_cons_zero, Option.some.injEq] at ho
        subst ho
        refine Or.inl ⟨by rfl, ?_⟩
        intro w hSw
        (try dsimp only at hSw)
        go_simp
      simp only [Act.put, List.setIfInBounds_toArray, List.set_cons_zero, List.set_cons_succ]
      refine take_at (i := 31) (d := some 63) (v := .agg #[.slice a3 n3 c3, .int .i64 low3, .bool neg3, .bool nn3]) (by kernel_rfl) (by kernel_rfl) (by kernel_rfl) (by kernel_rfl) (fun _ _ _ h => h) ?_ hS ?_
      · intro o ho
        simp only [List.getElem?_toArray, List.getElem?_cons_succ, List.getElem?_cons_zero, Option.some.injEq] at ho
        subst ho
        refine Or.inl ⟨by rfl, ?_⟩
        intro w hSw
        (try dsimp only at hSw)
        go_simp
      simp only [Act.put, List.setIfInBounds_toArray, List.set_cons_zero, List.set_cons_succ]
      refine call_at 32 (by kernel_rfl) (by kernel_rfl) ?_
      intro o ho
      simp only [List.getElem?_toArray, List.getElem?_cons_succ, List.getElem?_cons_zero, Option.some.injEq] at ho
      subst ho
      intro K hK
      go_simp
      refine (cmp_any _ _ _ _ _ (HN2.out.later (keep12_bel hS)) (HN3.out.later (keep12_bel hS))).mono ?_
      rw [eAB.out]
      rintro e wx ⟨rfl, hbx⟩
      go_wp2_with fail
      refine hK.out _ _ (keep12 hS hbx) (fun hS => ?_)
      clear hK K
      try simp only [Act.put, List.setIfInBounds_toArray, List.set_cons_zero, List.set_cons_succ]
      refine take_at (i := 33) (d := some 65) (v := .bool true) (by kernel_rfl) (by kernel_rfl) (by kernel_rfl) (by kernel_rfl) (fun _ _ _ h => h) ?_ hS ?_
      · intro o ho
        simp only [List.getElem?_toArray, List.getElem?_cons_succ, List.getElem?_cons_zero, Option.some.injEq] at ho
        subst ho
        refine Or.inl ⟨by rfl, ?_⟩
        intro w hSw
        (try dsimp only at hSw)
        go_simp
      simp only [Act.put, List.setIfInBounds_toArray, List.set_cons_zero, List.set_cons_succ]
      refine take_at (i := 34) (d := some 66) (v := .bool true) (by kernel_rfl) (by kernel_rfl) (by kernel_rfl) (by kernel_rfl) (fun _ _ _ h => h) ?_ hS ?_
      · intro o ho
        simp only [List.getElem?_toArray, List.getElem?_cons_succ, List.getElem?_cons_zero, Option.some.injEq] at ho
        subst ho
        refine Or.inl ⟨by rfl, ?_⟩
        intro w hSw
        (try dsimp only at hSw)
        go_simp
      simp only [Act.put, List.setIfInBounds_toArray, List.set_cons_zero, List.set_cons_succ]
      refine take_at (i := 35) (d := some 67) (v := .agg #[.slice a2 n2 c2, .int .i64 low2, .bool neg2, .bool nn2]) (by kernel_rfl) (by kernel_rfl) (by kernel_rfl) (by kernel_rfl) (fun _ _ _ h => h) ?_ hS ?_
      · intro o ho
        simp only [List.getElem?_toArray, List.getElem?_cons_succ, List.getElem?_cons_zero, Option.some.injEq] at ho
        subst ho
        refine Or.inl ⟨by rfl, ?_⟩
        intro w hSw
        (try dsimp only at hSw)
        go_simp
      simp only [Act.put, List.setIfInBounds_toArray, List.set_cons_zero, List.set_cons_succ]
      refine take_at (i := 37) (d := some 69) (v := .agg #[.slice a3 n3 c3, .int .i64 low3, .bool neg3, .bool nn3]) (by kernel_rfl) (by kernel_rfl) (by kernel_rfl) (by kernel_rfl) (fun _ _ _ h => h) ?_ hS ?_
      · intro o ho
        simp only [List.getElem?_toArray, List.getElem?_cons_succ, List.getElem?_cons_zero, Option.some.injEq] at ho
        subst ho
        refine Or.inl ⟨by rfl, ?_⟩
        intro w hSw
        (try dsimp only at hSw)
        go_simp
      simp only [Act.put, List.setIfInBounds_toArray, List.set_cons_zero, List.set_cons_succ]
      refine call_at 36 (by kernel_rfl) (by kernel_rfl) ?_
      intro o ho
      simp only [List.getElem?_toArray, List.getElem?_cons_succ, List.getElem?_cons_zero, Option.some.injEq] at ho
      subst ho
      intro K hK
      go_simp
      refine (float_any _ _ _ (HN2.out.later (keep12_bel hS))).mono ?_
      rintro e wx ⟨⟨fl2, rfl, hf2⟩, hbx⟩
      go_wp2_with fail
      refine hK.out _ _ (keep12 hS hbx) (fun hS => ?_)
      clear hK K
      try simp only [Act.put, List.setIfInBounds_toArray, List.set_cons_zero, List.set_cons_succ]
      refine call_at 38 (by kernel_rfl) (by kernel_rfl) ?_
      intro o ho
      simp only [List.getElem?_toArray, List.getElem?_cons_succ, List.getElem?_cons_zero, Option.some.injEq] at ho
      subst ho
      intro K hK
      go_simp
      refine (float_any _ _ _ (HN3.out.later (keep12_bel hS))).mono ?_
      rintro e wx ⟨⟨fl3, rfl, hf3⟩, hbx⟩
      have hlt := floatOf_order (Rat.le_of_lt (HPOS.out (by decide))) hf2 hf3
      go_wp2_with fail
      refine hK.out _ _ (keep12 hS hbx) (fun hS => ?_)
      clear hK K
      try simp only [Act.put, List.setIfInBounds_toArray, List.set_cons_zero, List.set_cons_succ]
      refine take_at (i := 39) (d := some 71) (v := .bool false) (by kernel_rfl) (by kernel_rfl) (by kernel_rfl) (by kernel_rfl) (fun _ _ _ h => h) ?_ hS ?_
      · intro o ho
        simp only [List.getElem?_toArray, List.getElem?_cons_succ, List.getElem?_cons_zero, Option.some.injEq] at ho
        subst ho
        refine Or.inl ⟨by rfl, ?_⟩
        intro w hSw
        (try dsimp only at hSw)
        go_simp
      simp only [Act.put, List.setIfInBounds_toArray, List.set_cons_zero, List.set_cons_succ]
      refine take_at (i := 40) (d := some 72) (v := .bool false) (by kernel_rfl) (by kernel_rfl) (by kernel_rfl) (by kernel_rfl) (fun _ _ _ h => h) ?_ hS ?_
      · intro o ho
        simp only [List.getElem?_toArray, List.getElem?_cons_succ, List.getElem?_cons_zero, Option.some.injEq] at ho
        subst ho
        refine Or.inl ⟨by rfl, ?_⟩
        intro w hSw
        (try dsimp only at hSw)
        go_simp
      simp only [Act.put, List.setIfInBounds_toArray, List.set_cons_zero, List.set_cons_succ]
      refine take_at (i := 41) (d := some 73) (v := .bool false) (by kernel_rfl) (by kernel_rfl) (by kernel_rfl) (by kernel_rfl) (fun _ _ _ h => h) ?_ hS ?_
      · intro o ho
        simp only [List.getElem?_toArray, List.getElem?_cons_succ, List.getElem?_cons_zero, Option.some.injEq] at ho
        subst ho
        refine Or.inl ⟨by rfl, ?_⟩
        intro w hSw
        (try dsimp only at hSw)
        go_simp
      simp only [Act.put, List.setIfInBounds_toArray, List.set_cons_zero, List.set_cons_succ]
      refine wpAnyH_done (by kernel_rfl) ?_ _
      go_wp2_with fail
      go_meet
      exact ⟨rfl, hS⟩
  case rest =>
    obtain ⟨rfl, k20, k21, k22, k23, -, -, -, -, -, -, -, -, hbk⟩ := hcut
    have HN2 : Hid (IsNum wc (.agg #[.slice a2 n2 c2, .int .i64 low2, .bool neg2, .bool nn2]) (some A)) := HN2.out.later hbk
    have HBk : Hid (Below w.heap.size w wc) := thru HBC.out hbk
    have hsk : w2.heap.size < wc.heap.size := World.block_lt_of_cell? _ _ k20
    have hsw : w.heap.size ≤ w2.heap.size := by omega
    clear hbk HBC HN3 HN4 HD3 HD4 HAC HBCm HSUM rAB rBC rAC HTR HPOS eAB eBC eAC z20 z21 z22 z23 z30 z31 z32 z33 z40 z41 z42 z43
    rcases sgn_cases A with ⟨h0, hs⟩ | ⟨h0, hsg, hs⟩ | ⟨h0, hsg, hs⟩
    · have HA0 : Hid (A = 0) := h0
      clear h0
      go_wp2_with fail
      refine (sign_any _ _ _ HN2.out).mono ?_
      rw [show sgnR ((some A).getD 0) = 0 from hs]
      rintro e w5 ⟨rfl, hb5⟩
      clear hs
      have k50 : w5.cell? ⟨w2.heap.size, 0, none⟩ = some (.slice a2 n2 c2) := cell_later hb5 k20
      have k51 : w5.cell? ⟨w2.heap.size, 1, none⟩ = some (.int .i64 low2) := cell_later hb5 k21
      have k52 : w5.cell? ⟨w2.heap.size, 2, none⟩ = some (.bool neg2) := cell_later hb5 k22
      have k53 : w5.cell? ⟨w2.heap.size, 3, none⟩ = some (.bool nn2) := cell_later hb5 k23
      clear k20 k21 k22 k23
      go_wp2_with fail
      refine (high_any _ _ _ (HN2.out.later hb5)).mono ?_
      rintro e w6 ⟨⟨h, rfl, hh⟩, hb6⟩
      obtain rfl : h = 0 := high_zero (by rw [← HA0.out]; exact hh)
      clear hh
      have k60 : w6.cell? ⟨w2.heap.size, 0, none⟩ = some (.slice a2 n2 c2) := cell_later hb6 k50
      have k61 : w6.cell? ⟨w2.heap.size, 1, none⟩ = some (.int .i64 low2) := cell_later hb6 k51
      have k62 : w6.cell? ⟨w2.heap.size, 2, none⟩ = some (.bool neg2) := cell_later hb6 k52
      have k63 : w6.cell? ⟨w2.heap.size, 3, none⟩ = some (.bool nn2) := cell_later hb6 k53
      clear k50 k51 k52 k53
      go_wp2_with fail
      refine (low_any _ _ _ (HN2.out.later (thru hb5 hb6))).mono ?_
      rintro e w7 ⟨⟨l, rfl, hl⟩, hb7⟩
      obtain rfl : l = 0 := low_zero (by rw [← HA0.out]; exact hl)
      clear hl
      go_wp2
      go_ret
      exact ⟨rfl, thru (thru (thru HBk.out hb5) hb6) hb7⟩
    · have HA0 : Hid (A ≠ 0) := h0
      clear h0
      go_wp2_with fail
      refine (sign_any _ _ _ HN2.out).mono ?_
      rw [show sgnR ((some A).getD 0) = 1 from hs]
      rintro e w5 ⟨rfl, hb5⟩
      have k50 : w5.cell? ⟨w2.heap.size, 0, none⟩ = some (.slice a2 n2 c2) := cell_later hb5 k20
      have k51 : w5.cell? ⟨w2.heap.size, 1, none⟩ = some (.int .i64 low2) := cell_later hb5 k21
      have k52 : w5.cell? ⟨w2.heap.size, 2, none⟩ = some (.bool neg2) := cell_later hb5 k22
      have k53 : w5.cell? ⟨w2.heap.size, 3, none⟩ = some (.bool nn2) := cell_later hb5 k23
      clear k20 k21 k22 k23
      have HN2 : Hid (IsNum w5 (.agg #[.slice a2 n2 c2, .int .i64 low2, .bool neg2, .bool nn2]) (some A)) := HN2.out.later hb5
      have HB5 : Hid (Below w.heap.size w w5) := thru HBk.out hb5
      have hs5 : w2.heap.size < w5.heap.size := by have := hb5.size; omega
      clear hb5 HBk
      go_wp2_with fail
      have HA : Below w5.heap.size w5 (w5.alloc (.cells #[.slice a2 n2 c2, .int .i64 low2, .bool neg2, .bool nn2] 27)) := (Below.refl _ _).alloc (Nat.le_refl _) _
      refine (sign_any _ _ _ (HN2.out.later HA)).mono ?_
      rw [show sgnR ((some A).getD 0) = 1 from hs]
      rintro e w6 ⟨rfl, hb6⟩
      clear hs
      have m60 : w6.cell? ⟨w5.heap.size, 0, none⟩ = some (.slice a2 n2 c2) := cell_later hb6 (by go_simp)
      have m61 : w6.cell? ⟨w5.heap.size, 1, none⟩ = some (.int .i64 low2) := cell_later hb6 (by go_simp)
      have m62 : w6.cell? ⟨w5.heap.size, 2, none⟩ = some (.bool neg2) := cell_later hb6 (by go_simp)
      have m63 : w6.cell? ⟨w5.heap.size, 3, none⟩ = some (.bool nn2) := cell_later hb6 (by go_simp)
      have k60 : w6.cell? ⟨w2.heap.size, 0, none⟩ = some (.slice a2 n2 c2) := cell_later (thru HA hb6) k50
      have k61 : w6.cell? ⟨w2.heap.size, 1, none⟩ = some (.int .i64 low2) := cell_later (thru HA hb6) k51
      have k62 : w6.cell? ⟨w2.heap.size, 2, none⟩ = some (.bool neg2) := cell_later (thru HA hb6) k52
      have k63 : w6.cell? ⟨w2.heap.size, 3, none⟩ = some (.bool nn2) := cell_later (thru HA hb6) k53
      clear k50 k51 k52 k53
      have HN2 : Hid (IsNum w6 (.agg #[.slice a2 n2 c2, .int .i64 low2, .bool neg2, .bool nn2]) (some A)) := HN2.out.later (thru HA hb6)
      have HB6 : Hid (Below w.heap.size w w6) := thru HB5.out (thru HA hb6)
      have hs6 : w5.heap.size < w6.heap.size := by have := hb6.size; simp at this; omega
      clear HA hb6 HB5
      have HM : Hid (IsNum w6 (.agg #[.slice a2 n2 c2, .int .i64 low2, .bool neg2, .bool nn2]) (some A)) := HN2.out
      have HSG : Hid (0 ≤ A) := hsg
      clear hsg
      go_wp2_with fail
      refine (int_any 1 _ (HT.out.later HB6.out) (by omega) (by omega)).mono ?_
      rintro e w9 ⟨v9, y9, rfl, hn9, hy9, hb9⟩
      obtain ⟨a9, n9, c9, low9, neg9, nn9, rfl, hn9⟩ := isNum_form hn9
      subst hy9
      have k90 : w9.cell? ⟨w2.heap.size, 0, none⟩ = some (.slice a2 n2 c2) := cell_later hb9 k60
      have k91 : w9.cell? ⟨w2.heap.size, 1, none⟩ = some (.int .i64 low2) := cell_later hb9 k61
      have k92 : w9.cell? ⟨w2.heap.size, 2, none⟩ = some (.bool neg2) := cell_later hb9 k62
      have k93 : w9.cell? ⟨w2.heap.size, 3, none⟩ = some (.bool nn2) := cell_later hb9 k63
      have m90 : w9.cell? ⟨w5.heap.size, 0, none⟩ = some (.slice a2 n2 c2) := cell_later hb9 m60
      have m91 : w9.cell? ⟨w5.heap.size, 1, none⟩ = some (.int .i64 low2) := cell_later hb9 m61
      have m92 : w9.cell? ⟨w5.heap.size, 2, none⟩ = some (.bool neg2) := cell_later hb9 m62
      have m93 : w9.cell? ⟨w5.heap.size, 3, none⟩ = some (.bool nn2) := cell_later hb9 m63
      have HN2 : Hid (IsNum w9 (.agg #[.slice a2 n2 c2, .int .i64 low2, .bool neg2, .bool nn2]) (some A)) := HN2.out.later hb9
      have HM : Hid (IsNum w9 (.agg #[.slice a2 n2 c2, .int .i64 low2, .bool neg2, .bool nn2]) (some A)) := HM.out.later hb9
      have HB9 : Hid (Below w.heap.size w w9) := thru HB6.out hb9
      have hs9 : w5.heap.size < w9.heap.size := World.block_lt_of_cell? _ _ m90
      have hs29 : w2.heap.size < w9.heap.size := by omega
      have HN9 : Hid (IsNum w9 (.agg #[.slice a9 n9 c9, .int .i64 low9, .bool neg9, .bool nn9]) (some ((1 : Int) : Rat))) := hn9
      clear hn9 hb9 HB6 k60 k61 k62 k63 m60 m61 m62 m63
      go_wp2_with fail
      have HA : Below w9.heap.size w9 (w9.alloc (.cells #[.slice a9 n9 c9, .int .i64 low9, .bool neg9, .bool nn9] 27)) := (Below.refl _ _).alloc (Nat.le_refl _) _
      refine (high_any _ _ _ (HN2.out.later HA)).mono ?_
      rintro e w10 ⟨⟨h, rfl, hh⟩, hb10⟩
      have z90 : w10.cell? ⟨w9.heap.size, 0, none⟩ = some (.slice a9 n9 c9) := cell_later hb10 (by go_simp)
      have z91 : w10.cell? ⟨w9.heap.size, 1, none⟩ = some (.int .i64 low9) := cell_later hb10 (by go_simp)
      have z92 : w10.cell? ⟨w9.heap.size, 2, none⟩ = some (.bool neg9) := cell_later hb10 (by go_simp)
      have z93 : w10.cell? ⟨w9.heap.size, 3, none⟩ = some (.bool nn9) := cell_later hb10 (by go_simp)
      have z20 : w10.cell? ⟨w2.heap.size, 0, none⟩ = some (.slice a2 n2 c2) := cell_later (thru HA hb10) k90
      have z21 : w10.cell? ⟨w2.heap.size, 1, none⟩ = some (.int .i64 low2) := cell_later (thru HA hb10) k91
      have z22 : w10.cell? ⟨w2.heap.size, 2, none⟩ = some (.bool neg2) := cell_later (thru HA hb10) k92
      have z23 : w10.cell? ⟨w2.heap.size, 3, none⟩ = some (.bool nn2) := cell_later (thru HA hb10) k93
      have z50 : w10.cell? ⟨w5.heap.size, 0, none⟩ = some (.slice a2 n2 c2) := cell_later (thru HA hb10) m90
      have z51 : w10.cell? ⟨w5.heap.size, 1, none⟩ = some (.int .i64 low2) := cell_later (thru HA hb10) m91
      have z52 : w10.cell? ⟨w5.heap.size, 2, none⟩ = some (.bool neg2) := cell_later (thru HA hb10) m92
      have z53 : w10.cell? ⟨w5.heap.size, 3, none⟩ = some (.bool nn2) := cell_later (thru HA hb10) m93
      have HN2 : Hid (IsNum w10 (.agg #[.slice a2 n2 c2, .int .i64 low2, .bool neg2, .bool nn2]) (some A)) := HN2.out.later (thru HA hb10)
      have HM : Hid (IsNum w10 (.agg #[.slice a2 n2 c2, .int .i64 low2, .bool neg2, .bool nn2]) (some A)) := HM.out.later (thru HA hb10)
      have HN9 : Hid (IsNum w10 (.agg #[.slice a9 n9 c9, .int .i64 low9, .bool neg9, .bool nn9]) (some ((1 : Int) : Rat))) := HN9.out.later (thru HA hb10)
      have HB10 : Hid (Below w.heap.size w w10) := thru HB9.out (thru HA hb10)
      have hr := high_range hh HD2.out HA0.out
      obtain ⟨hr1, hr2⟩ := hr
      have HC := high_cmp (q := A) (m := A) hh HA0.out (Or.inl ⟨rfl, HSG.out⟩)
      have HH : Hid (HighOf A h) := hh
      have hm1 : Hid (May (((1 : Int) : Rat) * p2 h)) := one_may (by omega) (by omega)
      have hm2 : Hid (May (((1 : Int) : Rat) * p2 (h + 1))) := one_may (by omega) (by omega)
      have cq1 : Hid (CmpX (some A) (some (((1 : Int) : Rat) * p2 h)) = cmpR A (((1 : Int) : Rat) * p2 h)) := rfl
      have cq2 : Hid (CmpX (some A) (some (((1 : Int) : Rat) * p2 (h + 1))) = cmpR A (((1 : Int) : Rat) * p2 (h + 1))) := rfl
      obtain ⟨hc1, hc2⟩ := HC
      generalize cmpR A (((1 : Int) : Rat) * p2 h) = x1 at *
      generalize cmpR A (((1 : Int) : Rat) * p2 (h + 1)) = x2 at *
      have hx1 : decide (0 ≤ x1) = true := decide_eq_true hc1
      have hx2 : decide (x2 < 0) = true := decide_eq_true hc2
      have hwr : IntKind.i64.wrap (h + 1) = h + 1 := wrapI _ (by omega) (by omega)
      clear hc1 hc2 hh hb10 HA HB9 HSG HD2 k90 k91 k92 k93 m90 m91 m92 m93
      go_wp2_with fail
      refine wp_region_held_drew (S := (fun W => W.cell? ⟨w2.heap.size, 0, none⟩ = some (.slice a2 n2 c2) ∧ W.cell? ⟨w2.heap.size, 1, none⟩ = some (.int .i64 low2) ∧ W.cell? ⟨w2.heap.size, 2, none⟩ = some (.bool neg2) ∧ W.cell? ⟨w2.heap.size, 3, none⟩ = some (.bool nn2) ∧ W.cell? ⟨w5.heap.size, 0, none⟩ = some (.slice a2 n2 c2) ∧ W.cell? ⟨w5.heap.size, 1, none⟩ = some (.int .i64 low2) ∧ W.cell? ⟨w5.heap.size, 2, none⟩ = some (.bool neg2) ∧ W.cell? ⟨w5.heap.size, 3, none⟩ = some (.bool nn2) ∧ W.cell? ⟨w9.heap.size, 0, none⟩ = some (.slice a9 n9 c9) ∧ W.cell? ⟨w9.heap.size, 1, none⟩ = some (.int .i64 low9) ∧ W.cell? ⟨w9.heap.size, 2, none⟩ = some (.bool neg9) ∧ W.cell? ⟨w9.heap.size, 3, none⟩ = some (.bool nn9) ∧ Below w10.heap.size w10 W)) (by kernel_rfl) ⟨z20, z21, z22, z23, z50, z51, z52, z53, z90, z91, z92, z93, (Below.refl _ _).drew⟩ (fun hS => ?_)
      refine take_at (i := 0) (d := some 94) (v := .agg #[.slice a2 n2 c2, .int .i64 low2, .bool neg2, .bool nn2]) (by kernel_rfl) (by kernel_rfl) (by kernel_rfl) (by kernel_rfl) (fun _ _ _ h => h) ?_ hS ?_
      · intro o ho
        simp only [List.getElem?_toArray, List.getElem?_cons_zero, Option.some.injEq] at ho
        subst ho
        refine Or.inl ⟨by rfl, ?_⟩
        intro w hSw
        (try dsimp only at hSw)
        go_simp
      simp only [Act.put, List.setIfInBounds_toArray, List.set_cons_zero, List.set_cons_succ]
      refine take_at (i := 2) (d := some 96) (v := .int .i64 h) (by kernel_rfl) (by kernel_rfl) (by kernel_rfl) (by kernel_rfl) (fun _ _ _ h => h) ?_ hS ?_
      · intro o ho
        simp only [List.getElem?_toArray, List.getElem?_cons_succ, List.getElem?_cons_zero, Option.some.injEq] at ho
        subst ho
        refine Or.inl ⟨by rfl, ?_⟩
        intro w hSw
        (try dsimp only at hSw)
        go_simp
      simp only [Act.put, List.setIfInBounds_toArray, List.set_cons_zero, List.set_cons_succ]
      refine call_at 1 (by kernel_rfl) (by kernel_rfl) ?_
      intro o ho
      simp only [List.getElem?_toArray, List.getElem?_cons_succ, List.getElem?_cons_zero, Option.some.injEq] at ho
      subst ho
      intro K hK
      go_simp
      refine (low_any _ _ _ (HN2.out.later (keep12_bel hS))).mono ?_
      rintro e wx ⟨⟨l, rfl, hl⟩, hbx⟩
      have hlh : decide (l ≤ h) = true := decide_eq_true (low_le_high hl HH.out HA0.out)
      clear hl
      go_wp2_with fail
      refine hK.out _ _ (keep12 hS hbx) (fun hS => ?_)
      clear hK K
      try simp only [Act.put, List.setIfInBounds_toArray, List.set_cons_zero, List.set_cons_succ]
      refine take_at (i := 3) (d := some 97) (v := .bool true) (by kernel_rfl) (by kernel_rfl) (by kernel_rfl) (by kernel_rfl) (fun _ _ _ h => h) ?_ hS ?_
      · intro o ho
        simp only [List.getElem?_toArray, List.getElem?_cons_succ, List.getElem?_cons_zero, Option.some.injEq] at ho
        subst ho
        refine Or.inl ⟨by rfl, ?_⟩
        intro w hSw
        (try dsimp only at hSw)
        go_simp
      simp only [Act.put, List.setIfInBounds_toArray, List.set_cons_zero, List.set_cons_succ]
      refine take_at (i := 4) (d := some 98) (v := .bool true) (by kernel_rfl) (by kernel_rfl) (by kernel_rfl) (by kernel_rfl) (fun _ _ _ h => h) ?_ hS ?_
      · intro o ho
        simp only [List.getElem?_toArray, List.getElem?_cons_succ, List.getElem?_cons_zero, Option.some.injEq] at ho
        subst ho
        refine Or.inl ⟨by rfl, ?_⟩
        intro w hSw
        (try dsimp only at hSw)
        go_simp
      simp only [Act.put, List.setIfInBounds_toArray, List.set_cons_zero, List.set_cons_succ]
      refine take_at (i := 5) (d := some 99) (v := .agg #[.slice a2 n2 c2, .int .i64 low2, .bool neg2, .bool nn2]) (by kernel_rfl) (by kernel_rfl) (by kernel_rfl) (by kernel_rfl) (fun _ _ _ h => h) ?_ hS ?_
      · intro o ho
        simp only [List.getElem?_toArray, List.getElem?_cons_succ, List.getElem?_cons_zero, Option.some.injEq] at ho
        subst ho
        refine Or.inl ⟨by rfl, ?_⟩
        intro w hSw
        (try dsimp only at hSw)
        go_simp
      simp only [Act.put, List.setIfInBounds_toArray, List.set_cons_zero, List.set_cons_succ]
      refine take_at (i := 6) (d := some 100) (v := .agg #[.slice a9 n9 c9, .int .i64 low9, .bool neg9, .bool nn9]) (by kernel_rfl) (by kernel_rfl) (by kernel_rfl) (by kernel_rfl) (fun _ _ _ h => h) ?_ hS ?_
      · intro o ho
        simp only [List.getElem?_toArray, List.getElem?_cons_succ, List.getElem?_cons_zero, Option.some.injEq] at ho
        subst ho
        refine Or.inl ⟨by rfl, ?_⟩
        intro w hSw
        (try dsimp only at hSw)
        go_simp
      simp only [Act.put, List.setIfInBounds_toArray, List.set_cons_zero, List.set_cons_succ]
      refine take_at (i := 7) (d := some 101) (v := .int .i64 h) (by kernel_rfl) (by kernel_rfl) (by kernel_rfl) (by kernel_rfl) (fun _ _ _ h => h) ?_ hS ?_
      · intro o ho
        simp only [List.getElem?_toArray, List.getElem?_cons_succ, List.getElem?_cons_zero, Option.some.injEq] at ho
        subst ho
        refine Or.inl ⟨by rfl, ?_⟩
        intro w hSw
        (try dsimp only at hSw)
        go_simp
      simp only [Act.put, List.setIfInBounds_toArray, List.set_cons_zero, List.set_cons_succ]
      refine call_at 8 (by kernel_rfl) (by kernel_rfl) ?_
      intro o ho
      simp only [List.getElem?_toArray, List.getElem?_cons_succ, List.getElem?_cons_zero, Option.some.injEq] at ho
      subst ho
      intro K hK
      go_simp
      refine (shift_any _ _ _ _ (HN9.out.later (keep12_bel hS))).mono ?_
      rintro e wx ⟨v21, y21, rfl, hn21, hy21, hbx⟩
      obtain ⟨a21, n21, c21, low21, neg21, nn21, rfl, hn21⟩ := isNum_form hn21
      have e21 := shiftX_may hy21 hm1.out
      subst e21
      go_wp2_with fail
      refine hK.out _ _ (keep12 hS hbx) (fun hS => ?_)
      clear hK K
      try simp only [Act.put, List.setIfInBounds_toArray, List.set_cons_zero, List.set_cons_succ]
      refine call_at 9 (by kernel_rfl) (by kernel_rfl) ?_
      intro o ho
      simp only [List.getElem?_toArray, List.getElem?_cons_succ, List.getElem?_cons_zero, Option.some.injEq] at ho
      subst ho
      intro K hK
      go_simp
      refine (cmp_any _ _ _ _ _ (HM.out.later (keep12_bel hS)) hn21).mono ?_
      rw [cq1.out]
      rintro e wx ⟨rfl, hbx⟩
      go_wp2_with fail
      refine hK.out _ _ (keep12 hS hbx) (fun hS => ?_)
      clear hK K
      try simp only [Act.put, List.setIfInBounds_toArray, List.set_cons_zero, List.set_cons_succ]
      refine take_at (i := 10) (d := some 104) (v := .bool true) (by kernel_rfl) (by kernel_rfl) (by kernel_rfl) (by kernel_rfl) (fun _ _ _ h => h) ?_ hS ?_
      · intro o ho
        simp only [List.getElem?_toArray, List.getElem?_cons_succ, List.getElem?_cons_zero, Option.some.injEq] at ho
        subst ho
        refine Or.inl ⟨by rfl, ?_⟩
        intro w hSw
        (try dsimp only at hSw)
        go_simp
      simp only [Act.put, List.setIfInBounds_toArray, List.set_cons_zero, List.set_cons_succ]
      refine take_at (i := 11) (d := some 105) (v := .bool true) (by kernel_rfl) (by kernel_rfl) (by kernel_rfl) (by kernel_rfl) (fun _ _ _ h => h) ?_ hS ?_
      · intro o ho
        simp only [List.getElem?_toArray, List.getElem?_cons_succ, List.getElem?_cons_zero, Option.some.injEq] at ho
        subst ho
        refine Or.inl ⟨by rfl, ?_⟩
        intro w hSw
        (try dsimp only at hSw)
        go_simp
      simp only [Act.put, List.setIfInBounds_toArray, List.set_cons_zero, List.set_cons_succ]
      refine take_at (i := 12) (d := some 106) (v := .bool true) (by kernel_rfl) (by kernel_rfl) (by kernel_rfl) (by kernel_rfl) (fun _ _ _ h => h) ?_ hS ?_
      · intro o ho
        simp only [List.getElem?_toArray, List.getElem?_cons_succ, List.getElem?_cons_zero, Option.some.injEq] at ho
        subst ho
        refine Or.inl ⟨by rfl, ?_⟩
        intro w hSw
        (try dsimp only at hSw)
        go_simp
      simp only [Act.put, List.setIfInBounds_toArray, List.set_cons_zero, List.set_cons_succ]
      refine take_at (i := 13) (d := some 107) (v := .agg #[.slice a2 n2 c2, .int .i64 low2, .bool neg2, .bool nn2]) (by kernel_rfl) (by kernel_rfl) (by kernel_rfl) (by kernel_rfl) (fun _ _ _ h => h) ?_ hS ?_
      · intro o ho
        simp only [List.getElem?_toArray, List.getElem?_cons_succ, List.getElem?_cons_zero, Option.some.injEq] at ho
        subst ho
        refine Or.inl ⟨by rfl, ?_⟩
        intro w hSw
        (try dsimp only at hSw)
        go_simp
      simp only [Act.put, List.setIfInBounds_toArray, List.set_cons_zero, List.set_cons_succ]
      refine take_at (i := 14) (d := some 108) (v := .agg #[.slice a9 n9 c9, .int .i64 low9, .bool neg9, .bool nn9]) (by kernel_rfl) (by kernel_rfl) (by kernel_rfl) (by kernel_rfl) (fun _ _ _ h => h) ?_ hS ?_
      · intro o ho
        simp only [List.getElem?_toArray, List.getElem?_cons_succ, List.getElem?_cons_zero, Option.some.injEq] at ho
        subst ho
        refine Or.inl ⟨by rfl, ?_⟩
        intro w hSw
        (try dsimp only at hSw)
        go_simp
      simp only [Act.put, List.setIfInBounds_toArray, List.set_cons_zero, List.set_cons_succ]
      refine take_at (i := 15) (d := some 109) (v := .int .i64 h) (by kernel_rfl) (by kernel_rfl) (by kernel_rfl) (by kernel_rfl) (fun _ _ _ h => h) ?_ hS ?_
      · intro o ho
        simp only [List.getElem?_toArray, List.getElem?_cons_succ, List.getElem?_cons_zero, Option.some.injEq] at ho
        subst ho
        refine Or.inl ⟨by rfl, ?_⟩
        intro w hSw
        (try dsimp only at hSw)
        go_simp
      simp only [Act.put, List.setIfInBounds_toArray, List.set_cons_zero, List.set_cons_succ]
      refine take_at (i := 16) (d := some 110) (v := .int .i64 (h + 1)) (by kernel_rfl) (by kernel_rfl) (by kernel_rfl) (by kernel_rfl) (fun _ _ _ h => h) ?_ hS ?_
      · intro o ho
        simp only [List.getElem?_toArray, List.getElem?_cons_succ, List.getElem?_cons_zero, Option.some.injEq] at ho
        subst ho
        refine Or.inl ⟨by rfl, ?_⟩
        intro w hSw
        (try dsimp only at hSw)
        go_simp
      simp only [Act.put, List.setIfInBounds_toArray, List.set_cons_zero, List.set_cons_succ]
      refine call_at 17 (by kernel_rfl) (by kernel_rfl) ?_
      intro o ho
      simp only [List.getElem?_toArray, List.getElem?_cons_succ, List.getElem?_cons_zero, Option.some.injEq] at ho
      subst ho
      intro K hK
      go_simp
      refine (shift_any _ _ _ _ (HN9.out.later (keep12_bel hS))).mono ?_
      rintro e wx ⟨v22, y22, rfl, hn22, hy22, hbx⟩
      obtain ⟨a22, n22, c22, low22, neg22, nn22, rfl, hn22⟩ := isNum_form hn22
      have e22 := shiftX_may hy22 hm2.out
      subst e22
      go_wp2_with fail
      refine hK.out _ _ (keep12 hS hbx) (fun hS => ?_)
      clear hK K
      try simp only [Act.put, List.setIfInBounds_toArray, List.set_cons_zero, List.set_cons_succ]
      refine call_at 18 (by kernel_rfl) (by kernel_rfl) ?_
      intro o ho
      simp only [List.getElem?_toArray, List.getElem?_cons_succ, List.getElem?_cons_zero, Option.some.injEq] at ho
      subst ho
      intro K hK
      go_simp
      refine (cmp_any _ _ _ _ _ (HM.out.later (keep12_bel hS)) hn22).mono ?_
      rw [cq2.out]
      rintro e wx ⟨rfl, hbx⟩
      go_wp2_with fail
      refine hK.out _ _ (keep12 hS hbx) (fun hS => ?_)
      clear hK K
      try simp only [Act.put, List.setIfInBounds_toArray, List.set_cons_zero, List.set_cons_succ]
      refine take_at (i := 19) (d := some 113) (v := .bool true) (by kernel_rfl) (by kernel_rfl) (by kernel_rfl) (by kernel_rfl) (fun _ _ _ h => h) ?_ hS ?_
      · intro o ho
        simp only [List.getElem?_toArray, List.getElem?_cons_succ, List.getElem?_cons_zero, Option.some.injEq] at ho
        subst ho
        refine Or.inl ⟨by rfl, ?_⟩
        intro w hSw
        (try dsimp only at hSw)
        go_simp
      simp only [Act.put, List.setIfInBounds_toArray, List.set_cons_zero, List.set_cons_succ]
      refine take_at (i := 20) (d := some 114) (v := .bool true) (by kernel_rfl) (by kernel_rfl) (by kernel_rfl) (by kernel_rfl) (fun _ _ _ h => h) ?_ hS ?_
      · intro o ho
        simp only [List.getElem?_toArray, List.getElem?_cons_succ, List.getElem?_cons_zero, Option.some.injEq] at ho
        subst ho
        refine Or.inl ⟨by rfl, ?_⟩
        intro w hSw
        (try dsimp only at hSw)
        go_simp
      simp only [Act.put, List.setIfInBounds_toArray, List.set_cons_zero, List.set_cons_succ]
      refine take_at (i := 21) (d := some 2) (v := .bool true) (by kernel_rfl) (by kernel_rfl) (by kernel_rfl) (by kernel_rfl) (fun _ _ _ h => h) ?_ hS ?_
      · intro o ho
        simp only [List.getElem?_toArray, List.getElem?_cons_succ, List.getElem?_cons_zero, Option.some.injEq] at ho
        subst ho
        refine Or.inl ⟨by rfl, ?_⟩
        intro w hSw
        (try dsimp only at hSw)
        go_simp
      simp only [Act.put, List.setIfInBounds_toArray, List.set_cons_zero, List.set_cons_succ]
      refine wpAnyH_done (by kernel_rfl) ?_ _
      go_wp2
      go_ret
      exact ⟨rfl, thru HB10.out (keep12_bel hS)⟩
    · have HA0 : Hid (A ≠ 0) := h0
      clear h0
      go_wp2_with fail
      refine (sign_any _ _ _ HN2.out).mono ?_
      rw [show sgnR ((some A).getD 0) = -1 from hs]
      rintro e w5 ⟨rfl, hb5⟩
      have k50 : w5.cell? ⟨w2.heap.size, 0, none⟩ = some (.slice a2 n2 c2) := cell_later hb5 k20
      have k51 : w5.cell? ⟨w2.heap.size, 1, none⟩ = some (.int .i64 low2) := cell_later hb5 k21
      have k52 : w5.cell? ⟨w2.heap.size, 2, none⟩ = some (.bool neg2) := cell_later hb5 k22
      have k53 : w5.cell? ⟨w2.heap.size, 3, none⟩ = some (.bool nn2) := cell_later hb5 k23
      clear k20 k21 k22 k23
      have HN2 : Hid (IsNum w5 (.agg #[.slice a2 n2 c2, .int .i64 low2, .bool neg2, .bool nn2]) (some A)) := HN2.out.later hb5
      have HB5 : Hid (Below w.heap.size w w5) := thru HBk.out hb5
      have hs5 : w2.heap.size < w5.heap.size := by have := hb5.size; omega
      clear hb5 HBk
      go_wp2_with fail
      have HA : Below w5.heap.size w5 (w5.alloc (.cells #[.slice a2 n2 c2, .int .i64 low2, .bool neg2, .bool nn2] 27)) := (Below.refl _ _).alloc (Nat.le_refl _) _
      refine (sign_any _ _ _ (HN2.out.later HA)).mono ?_
      rw [show sgnR ((some A).getD 0) = -1 from hs]
      rintro e w6 ⟨rfl, hb6⟩
      clear hs
      have m60 : w6.cell? ⟨w5.heap.size, 0, none⟩ = some (.slice a2 n2 c2) := cell_later hb6 (by go_simp)
      have m61 : w6.cell? ⟨w5.heap.size, 1, none⟩ = some (.int .i64 low2) := cell_later hb6 (by go_simp)
      have m62 : w6.cell? ⟨w5.heap.size, 2, none⟩ = some (.bool neg2) := cell_later hb6 (by go_simp)
      have m63 : w6.cell? ⟨w5.heap.size, 3, none⟩ = some (.bool nn2) := cell_later hb6 (by go_simp)
      have k60 : w6.cell? ⟨w2.heap.size, 0, none⟩ = some (.slice a2 n2 c2) := cell_later (thru HA hb6) k50
      have k61 : w6.cell? ⟨w2.heap.size, 1, none⟩ = some (.int .i64 low2) := cell_later (thru HA hb6) k51
      have k62 : w6.cell? ⟨w2.heap.size, 2, none⟩ = some (.bool neg2) := cell_later (thru HA hb6) k52
      have k63 : w6.cell? ⟨w2.heap.size, 3, none⟩ = some (.bool nn2) := cell_later (thru HA hb6) k53
      clear k50 k51 k52 k53
      have HN2 : Hid (IsNum w6 (.agg #[.slice a2 n2 c2, .int .i64 low2, .bool neg2, .bool nn2]) (some A)) := HN2.out.later (thru HA hb6)
      have HB6 : Hid (Below w.heap.size w w6) := thru HB5.out (thru HA hb6)
      have hs6 : w5.heap.size < w6.heap.size := by have := hb6.size; simp at this; omega
      have hz6 : ∀ i, w6.frozen? ⟨w5.heap.size, i, none⟩ = false := fun i => frozen_later hb6 (by go_simp) (by simp)
      clear HA hb6 HB5
      go_wp2_with fail
      refine (neg_any _ _ _ HN2.out).mono ?_
      rintro e w7 ⟨v7, y7, rfl, hn7, hy7, hb7⟩
      obtain ⟨a7, n7, c7, low7, neg7, nn7, rfl, hn7⟩ := isNum_form hn7
      have e7 : y7 = some (-A) := hy7
      subst e7
      clear hy7
      have k70 : w7.cell? ⟨w2.heap.size, 0, none⟩ = some (.slice a2 n2 c2) := cell_later hb7 k60
      have k71 : w7.cell? ⟨w2.heap.size, 1, none⟩ = some (.int .i64 low2) := cell_later hb7 k61
      have k72 : w7.cell? ⟨w2.heap.size, 2, none⟩ = some (.bool neg2) := cell_later hb7 k62
      have k73 : w7.cell? ⟨w2.heap.size, 3, none⟩ = some (.bool nn2) := cell_later hb7 k63
      have m70 : w7.cell? ⟨w5.heap.size, 0, none⟩ = some (.slice a2 n2 c2) := cell_later hb7 m60
      have m71 : w7.cell? ⟨w5.heap.size, 1, none⟩ = some (.int .i64 low2) := cell_later hb7 m61
      have m72 : w7.cell? ⟨w5.heap.size, 2, none⟩ = some (.bool neg2) := cell_later hb7 m62
      have m73 : w7.cell? ⟨w5.heap.size, 3, none⟩ = some (.bool nn2) := cell_later hb7 m63
      have hz7 : ∀ i, w7.frozen? ⟨w5.heap.size, i, none⟩ = false := fun i => frozen_later hb7 (hz6 i) (by show w5.heap.size < w6.heap.size; omega)
      have hz70 := hz7 0
      have hz71 := hz7 1
      have hz72 := hz7 2
      have hz73 := hz7 3
      have HB7 : Hid (Below w.heap.size w ((((w7.setCell ⟨w5.heap.size, 0, none⟩ (.slice a7 n7 c7)).setCell ⟨w5.heap.size, 1, none⟩ (.int .i64 low7)).setCell ⟨w5.heap.size, 2, none⟩ (.bool neg7)).setCell ⟨w5.heap.size, 3, none⟩ (.bool nn7))) := ((((thru HB6.out hb7).setCell (by show w.heap.size ≤ w5.heap.size; omega) _).setCell (by show w.heap.size ≤ w5.heap.size; omega) _).setCell (by show w.heap.size ≤ w5.heap.size; omega) _).setCell (by show w.heap.size ≤ w5.heap.size; omega) _
      have HN2 : Hid (IsNum ((((w7.setCell ⟨w5.heap.size, 0, none⟩ (.slice a7 n7 c7)).setCell ⟨w5.heap.size, 1, none⟩ (.int .i64 low7)).setCell ⟨w5.heap.size, 2, none⟩ (.bool neg7)).setCell ⟨w5.heap.size, 3, none⟩ (.bool nn7)) (.agg #[.slice a2 n2 c2, .int .i64 low2, .bool neg2, .bool nn2]) (some A)) := isNum_set4g (HN2.out.later hb7) m70 m71 m72 m73 _ _ _ _
      have HM : Hid (IsNum ((((w7.setCell ⟨w5.heap.size, 0, none⟩ (.slice a7 n7 c7)).setCell ⟨w5.heap.size, 1, none⟩ (.int .i64 low7)).setCell ⟨w5.heap.size, 2, none⟩ (.bool neg7)).setCell ⟨w5.heap.size, 3, none⟩ (.bool nn7)) (.agg #[.slice a7 n7 c7, .int .i64 low7, .bool neg7, .bool nn7]) (some (-A))) := isNum_set4g hn7 m70 m71 m72 m73 _ _ _ _
      have hm8 := set4_cells m70 m71 m72 m73 (.slice a7 n7 c7) (.int .i64 low7) (.bool neg7) (.bool nn7)
      dsimp only at hm8
      obtain ⟨m80, m81, m82, m83⟩ := hm8
      have k80 : ((((w7.setCell ⟨w5.heap.size, 0, none⟩ (.slice a7 n7 c7)).setCell ⟨w5.heap.size, 1, none⟩ (.int .i64 low7)).setCell ⟨w5.heap.size, 2, none⟩ (.bool neg7)).setCell ⟨w5.heap.size, 3, none⟩ (.bool nn7)).cell? ⟨w2.heap.size, 0, none⟩ = some (.slice a2 n2 c2) := cell_other (cell_other (cell_other (cell_other k70 (by show w2.heap.size ≠ w5.heap.size; omega) _) (by show w2.heap.size ≠ w5.heap.size; omega) _) (by show w2.heap.size ≠ w5.heap.size; omega) _) (by show w2.heap.size ≠ w5.heap.size; omega) _
      have k81 : ((((w7.setCell ⟨w5.heap.size, 0, none⟩ (.slice a7 n7 c7)).setCell ⟨w5.heap.size, 1, none⟩ (.int .i64 low7)).setCell ⟨w5.heap.size, 2, none⟩ (.bool neg7)).setCell ⟨w5.heap.size, 3, none⟩ (.bool nn7)).cell? ⟨w2.heap.size, 1, none⟩ = some (.int .i64 low2) := cell_other (cell_other (cell_other (cell_other k71 (by show w2.heap.size ≠ w5.heap.size; omega) _) (by show w2.heap.size ≠ w5.heap.size; omega) _) (by show w2.heap.size ≠ w5.heap.size; omega) _) (by show w2.heap.size ≠ w5.heap.size; omega) _
      have k82 : ((((w7.setCell ⟨w5.heap.size, 0, none⟩ (.slice a7 n7 c7)).setCell ⟨w5.heap.size, 1, none⟩ (.int .i64 low7)).setCell ⟨w5.heap.size, 2, none⟩ (.bool neg7)).setCell ⟨w5.heap.size, 3, none⟩ (.bool nn7)).cell? ⟨w2.heap.size, 2, none⟩ = some (.bool neg2) := cell_other (cell_other (cell_other (cell_other k72 (by show w2.heap.size ≠ w5.heap.size; omega) _) (by show w2.heap.size ≠ w5.heap.size; omega) _) (by show w2.heap.size ≠ w5.heap.size; omega) _) (by show w2.heap.size ≠ w5.heap.size; omega) _
      have k83 : ((((w7.setCell ⟨w5.heap.size, 0, none⟩ (.slice a7 n7 c7)).setCell ⟨w5.heap.size, 1, none⟩ (.int .i64 low7)).setCell ⟨w5.heap.size, 2, none⟩ (.bool neg7)).setCell ⟨w5.heap.size, 3, none⟩ (.bool nn7)).cell? ⟨w2.heap.size, 3, none⟩ = some (.bool nn2) := cell_other (cell_other (cell_other (cell_other k73 (by show w2.heap.size ≠ w5.heap.size; omega) _) (by show w2.heap.size ≠ w5.heap.size; omega) _) (by show w2.heap.size ≠ w5.heap.size; omega) _) (by show w2.heap.size ≠ w5.heap.size; omega) _
      have HSG : Hid (A ≤ 0) := hsg
      clear hsg
      go_wp2_with fail
      refine (int_any 1 _ (HT.out.later HB7.out) (by omega) (by omega)).mono ?_
      rintro e w9 ⟨v9, y9, rfl, hn9, hy9, hb9⟩
      obtain ⟨a9, n9, c9, low9, neg9, nn9, rfl, hn9⟩ := isNum_form hn9
      subst hy9
      have k90 : w9.cell? ⟨w2.heap.size, 0, none⟩ = some (.slice a2 n2 c2) := cell_later hb9 k80
      have k91 : w9.cell? ⟨w2.heap.size, 1, none⟩ = some (.int .i64 low2) := cell_later hb9 k81
      have k92 : w9.cell? ⟨w2.heap.size, 2, none⟩ = some (.bool neg2) := cell_later hb9 k82
      have k93 : w9.cell? ⟨w2.heap.size, 3, none⟩ = some (.bool nn2) := cell_later hb9 k83
      have m90 : w9.cell? ⟨w5.heap.size, 0, none⟩ = some (.slice a7 n7 c7) := cell_later hb9 m80
      have m91 : w9.cell? ⟨w5.heap.size, 1, none⟩ = some (.int .i64 low7) := cell_later hb9 m81
      have m92 : w9.cell? ⟨w5.heap.size, 2, none⟩ = some (.bool neg7) := cell_later hb9 m82
      have m93 : w9.cell? ⟨w5.heap.size, 3, none⟩ = some (.bool nn7) := cell_later hb9 m83
      have HN2 : Hid (IsNum w9 (.agg #[.slice a2 n2 c2, .int .i64 low2, .bool neg2, .bool nn2]) (some A)) := HN2.out.later hb9
      have HM : Hid (IsNum w9 (.agg #[.slice a7 n7 c7, .int .i64 low7, .bool neg7, .bool nn7]) (some (-A))) := HM.out.later hb9
      have HB9 : Hid (Below w.heap.size w w9) := thru HB7.out hb9
      have hs9 : w5.heap.size < w9.heap.size := World.block_lt_of_cell? _ _ m90
      have hs29 : w2.heap.size < w9.heap.size := by omega
      have HN9 : Hid (IsNum w9 (.agg #[.slice a9 n9 c9, .int .i64 low9, .bool neg9, .bool nn9]) (some ((1 : Int) : Rat))) := hn9
      clear hn9 hb9 HB7 k80 k81 k82 k83 m80 m81 m82 m83 hn7 hb7 hz6 hz7 hz70 hz71 hz72 hz73 HB6 k60 k61 k62 k63 k70 k71 k72 k73 m60 m61 m62 m63 m70 m71 m72 m73
      go_wp2_with fail
      have HA : Below w9.heap.size w9 (w9.alloc (.cells #[.slice a9 n9 c9, .int .i64 low9, .bool neg9, .bool nn9] 27)) := (Below.refl _ _).alloc (Nat.le_refl _) _
      refine (high_any _ _ _ (HN2.out.later HA)).mono ?_
      rintro e w10 ⟨⟨h, rfl, hh⟩, hb10⟩
      have z90 : w10.cell? ⟨w9.heap.size, 0, none⟩ = some (.slice a9 n9 c9) := cell_later hb10 (by go_simp)
      have z91 : w10.cell? ⟨w9.heap.size, 1, none⟩ = some (.int .i64 low9) := cell_later hb10 (by go_simp)
      have z92 : w10.cell? ⟨w9.heap.size, 2, none⟩ = some (.bool neg9) := cell_later hb10 (by go_simp)
      have z93 : w10.cell? ⟨w9.heap.size, 3, none⟩ = some (.bool nn9) := cell_later hb10 (by go_simp)
      have z20 : w10.cell? ⟨w2.heap.size, 0, none⟩ = some (.slice a2 n2 c2) := cell_later (thru HA hb10) k90
      have z21 : w10.cell? ⟨w2.heap.size, 1, none⟩ = some (.int .i64 low2) := cell_later (thru HA hb10) k91
      have z22 : w10.cell? ⟨w2.heap.size, 2, none⟩ = some (.bool neg2) := cell_later (thru HA hb10) k92
      have z23 : w10.cell? ⟨w2.heap.size, 3, none⟩ = some (.bool nn2) := cell_later (thru HA hb10) k93
      have z50 : w10.cell? ⟨w5.heap.size, 0, none⟩ = some (.slice a7 n7 c7) := cell_later (thru HA hb10) m90
      have z51 : w10.cell? ⟨w5.heap.size, 1, none⟩ = some (.int .i64 low7) := cell_later (thru HA hb10) m91
      have z52 : w10.cell? ⟨w5.heap.size, 2, none⟩ = some (.bool neg7) := cell_later (thru HA hb10) m92
      have z53 : w10.cell? ⟨w5.heap.size, 3, none⟩ = some (.bool nn7) := cell_later (thru HA hb10) m93
      have HN2 : Hid (IsNum w10 (.agg #[.slice a2 n2 c2, .int .i64 low2, .bool neg2, .bool nn2]) (some A)) := HN2.out.later (thru HA hb10)
      have HM : Hid (IsNum w10 (.agg #[.slice a7 n7 c7, .int .i64 low7, .bool neg7, .bool nn7]) (some (-A))) := HM.out.later (thru HA hb10)
      have HN9 : Hid (IsNum w10 (.agg #[.slice a9 n9 c9, .int .i64 low9, .bool neg9, .bool nn9]) (some ((1 : Int) : Rat))) := HN9.out.later (thru HA hb10)
      have HB10 : Hid (Below w.heap.size w w10) := thru HB9.out (thru HA hb10)
      have hr := high_range hh HD2.out HA0.out
      obtain ⟨hr1, hr2⟩ := hr
      have HC := high_cmp (q := A) (m := (-A)) hh HA0.out (Or.inr ⟨rfl, HSG.out⟩)
      have HH : Hid (HighOf A h) := hh
      have hm1 : Hid (May (((1 : Int) : Rat) * p2 h)) := one_may (by omega) (by omega)
      have hm2 : Hid (May (((1 : Int) : Rat) * p2 (h + 1))) := one_may (by omega) (by omega)
      have cq1 : Hid (CmpX (some (-A)) (some (((1 : Int) : Rat) * p2 h)) = cmpR (-A) (((1 : Int) : Rat) * p2 h)) := rfl
      have cq2 : Hid (CmpX (some (-A)) (some (((1 : Int) : Rat) * p2 (h + 1))) = cmpR (-A) (((1 : Int) : Rat) * p2 (h + 1))) := rfl
      obtain ⟨hc1, hc2⟩ := HC
      generalize cmpR (-A) (((1 : Int) : Rat) * p2 h) = x1 at *
      generalize cmpR (-A) (((1 : Int) : Rat) * p2 (h + 1)) = x2 at *
      have hx1 : decide (0 ≤ x1) = true := decide_eq_true hc1
      have hx2 : decide (x2 < 0) = true := decide_eq_true hc2
      have hwr : IntKind.i64.wrap (h + 1) = h + 1 := wrapI _ (by omega) (by omega)
      clear hc1 hc2 hh hb10 HA HB9 HSG HD2 k90 k91 k92 k93 m90 m91 m92 m93
      go_wp2_with fail
      refine wp_region_held_drew (S := (fun W => W.cell? ⟨w2.heap.size, 0, none⟩ = some (.slice a2 n2 c2) ∧ W.cell? ⟨w2.heap.size, 1, none⟩ = some (.int .i64 low2) ∧ W.cell? ⟨w2.heap.size, 2, none⟩ = some (.bool neg2) ∧ W.cell? ⟨w2.heap.size, 3, none⟩ = some (.bool nn2) ∧ W.cell? ⟨w5.heap.size, 0, none⟩ = some (.slice a7 n7 c7) ∧ W.cell? ⟨w5.heap.size, 1, none⟩ = some (.int .i64 low7) ∧ W.cell? ⟨w5.heap.size, 2, none⟩ = some (.bool neg7) ∧ W.cell? ⟨w5.heap.size, 3, none⟩ = some (.bool nn7) ∧ W.cell? ⟨w9.heap.size, 0, none⟩ = some (.slice a9 n9 c9) ∧ W.cell? ⟨w9.heap.size, 1, none⟩ = some (.int .i64 low9) ∧ W.cell? ⟨w9.heap.size, 2, none⟩ = some (.bool neg9) ∧ W.cell? ⟨w9.heap.size, 3, none⟩ = some (.bool nn9) ∧ Below w10.heap.size w10 W)) (by kernel_rfl) ⟨z20, z21, z22, z23, z50, z51, z52, z53, z90, z91, z92, z93, (Below.refl _ _).drew⟩ (fun hS => ?_)
      refine take_at (i := 0) (d := some 94) (v := .agg #[.slice a2 n2 c2, .int .i64 low2, .bool neg2, .bool nn2]) (by kernel_rfl) (by kernel_rfl) (by kernel_rfl) (by kernel_rfl) (fun _ _ _ h => h) ?_ hS ?_
      · intro o ho
        simp only [List.getElem?_toArray, List.getElem?_cons_zero, Option.some.injEq] at ho
        subst ho
        refine Or.inl ⟨by rfl, ?_⟩
        intro w hSw
        (try dsimp only at hSw)
        go_simp
      simp only [Act.put, List.setIfInBounds_toArray, List.set_cons_zero, List.set_cons_succ]
      refine take_at (i := 2) (d := some 96) (v := .int .i64 h) (by kernel_rfl) (by kernel_rfl) (by kernel_rfl) (by kernel_rfl) (fun _ _ _ h => h) ?_ hS ?_
      · intro o ho
        simp only [List.getElem?_toArray, List.getElem?_cons_succ, List.getElem?_cons_zero, Option.some.injEq] at ho
        subst ho
        refine Or.inl ⟨by rfl, ?_⟩
        intro w hSw
        (try dsimp only at hSw)
        go_simp
      simp only [Act.put, List.setIfInBounds_toArray, List.set_cons_zero, List.set_cons_succ]
      refine call_at 1 (by kernel_rfl) (by kernel_rfl) ?_
      intro o ho
      simp only [List.getElem?_toArray, List.getElem?_cons_succ, List.getElem?_cons_zero, Option.some.injEq] at ho
      subst ho
      intro K hK
      go_simp
      refine (low_any _ _ _ (HN2.out.later (keep12_bel hS))).mono ?_
      rintro e wx ⟨⟨l, rfl, hl⟩, hbx⟩
      have hlh : decide (l ≤ h) = true := decide_eq_true (low_le_high hl HH.out HA0.out)
      clear hl
      go_wp2_with fail
      refine hK.out _ _ (keep12 hS hbx) (fun hS => ?_)
      clear hK K
      try simp only [Act.put, List.setIfInBounds_toArray, List.set_cons_zero, List.set_cons_succ]
      refine take_at (i := 3) (d := some 97) (v := .bool true) (by kernel_rfl) (by kernel_rfl) (by kernel_rfl) (by kernel_rfl) (fun _ _ _ h => h) ?_ hS ?_
      · intro o ho
        simp only [List.getElem?_toArray, List.getElem?_cons_succ, List.getElem?_cons_zero, Option.some.injEq] at ho
        subst ho
        refine Or.inl ⟨by rfl, ?_⟩
        intro w hSw
        (try dsimp only at hSw)
        go_simp
      simp only [Act.put, List.setIfInBounds_toArray, List.set_cons_zero, List.set_cons_succ]
      refine take_at (i := 4) (d := some 98) (v := .bool true) (by kernel_rfl) (by kernel_rfl) (by kernel_rfl) (by kernel_rfl) (fun _ _ _ h => h) ?_ hS ?_
      · intro o ho
        simp only [List.getElem?_toArray, List.getElem?_cons_succ, List.getElem?_cons_zero, Option.some.injEq] at ho
        subst ho
        refine Or.inl ⟨by rfl, ?_⟩
        intro w hSw
        (try dsimp only at hSw)
        go_simp
      simp only [Act.put, List.setIfInBounds_toArray, List.set_cons_zero, List.set_cons_succ]
      refine take_at (i := 5) (d := some 99) (v := .agg #[.slice a7 n7 c7, .int .i64 low7, .bool neg7, .bool nn7]) (by kernel_rfl) (by kernel_rfl) (by kernel_rfl) (by kernel_rfl) (fun _ _ _ h => h) ?_ hS ?_
      · intro o ho
        simp only [List.getElem?_toArray, List.getElem?_cons_succ, List.getElem?_cons_zero, Option.some.injEq] at ho
        subst ho
        refine Or.inl ⟨by rfl, ?_⟩
        intro w hSw
        (try dsimp only at hSw)
        go_simp
      simp only [Act.put, List.setIfInBounds_toArray, List.set_cons_zero, List.set_cons_succ]
      refine take_at (i := 6) (d := some 100) (v := .agg #[.slice a9 n9 c9, .int .i64 low9, .bool neg9, .bool nn9]) (by kernel_rfl) (by kernel_rfl) (by kernel_rfl) (by kernel_rfl) (fun _ _ _ h => h) ?_ hS ?_
      · intro o ho
        simp only [List.getElem?_toArray, List.getElem?_cons_succ, List.getElem?_cons_zero, Option.some.injEq] at ho
        subst ho
        refine Or.inl ⟨by rfl, ?_⟩
        intro w hSw
        (try dsimp only at hSw)
        go_simp
      simp only [Act.put, List.setIfInBounds_toArray, List.set_cons_zero, List.set_cons_succ]
      refine take_at (i := 7) (d := some 101) (v := .int .i64 h) (by kernel_rfl) (by kernel_rfl) (by kernel_rfl) (by kernel_rfl) (fun _ _ _ h => h) ?_ hS ?_
      · intro o ho
        simp only [List.getElem?_toArray, List.getElem?_cons_succ, List.getElem?_cons_zero, Option.some.injEq] at ho
        subst ho
        refine Or.inl ⟨by rfl, ?_⟩
        intro w hSw
        (try dsimp only at hSw)
        go_simp
      simp only [Act.put, List.setIfInBounds_toArray, List.set_cons_zero, List.set_cons_succ]
      refine call_at 8 (by kernel_rfl) (by kernel_rfl) ?_
      intro o ho
      simp only [List.getElem?_toArray, List.getElem?_cons_succ, List.getElem?_cons_zero, Option.some.injEq] at ho
      subst ho
      intro K hK
      go_simp
      refine (shift_any _ _ _ _ (HN9.out.later (keep12_bel hS))).mono ?_
      rintro e wx ⟨v21, y21, rfl, hn21, hy21, hbx⟩
      obtain ⟨a21, n21, c21, low21, neg21, nn21, rfl, hn21⟩ := isNum_form hn21
      have e21 := shiftX_may hy21 hm1.out
      subst e21
      go_wp2_with fail
      refine hK.out _ _ (keep12 hS hbx) (fun hS => ?_)
      clear hK K
      try simp only [Act.put, List.setIfInBounds_toArray, List.set_cons_zero, List.set_cons_succ]
      refine call_at 9 (by kernel_rfl) (by kernel_rfl) ?_
      intro o ho
      simp only [List.getElem?_toArray, List.getElem?_cons_succ, List.getElem?_cons_zero, Option.some.injEq] at ho
      subst ho
      intro K hK
      go_simp
      refine (cmp_any _ _ _ _ _ (HM.out.later (keep12_bel hS)) hn21).mono ?_
      rw [cq1.out]
      rintro e wx ⟨rfl, hbx⟩
      go_wp2_with fail
      refine hK.out _ _ (keep12 hS hbx) (fun hS => ?_)
      clear hK K
      try simp only [Act.put, List.setIfInBounds_toArray, List.set_cons_zero, List.set_cons_succ]
      refine take_at (i := 10) (d := some 104) (v := .bool true) (by kernel_rfl) (by kernel_rfl) (by kernel_rfl) (by kernel_rfl) (fun _ _ _ h => h) ?_ hS ?_
      · intro o ho
        simp only [List.getElem?_toArray, List.getElem?_cons_succ, List.getElem?_cons_zero, Option.some.injEq] at ho
        subst ho
        refine Or.inl ⟨by rfl, ?_⟩
        intro w hSw
        (try dsimp only at hSw)
        go_simp
      simp only [Act.put, List.setIfInBounds_toArray, List.set_cons_zero, List.set_cons_succ]
      refine take_at (i := 11) (d := some 105) (v := .bool true) (by kernel_rfl) (by kernel_rfl) (by kernel_rfl) (by kernel_rfl) (fun _ _ _ h => h) ?_ hS ?_
      · intro o ho
        simp only [List.getElem?_toArray, List.getElem?_cons_succ, List.getElem?_cons_zero, Option.some.injEq] at ho
        subst ho
        refine Or.inl ⟨by rfl, ?_⟩
        intro w hSw
        (try dsimp only at hSw)
        go_simp
      simp only [Act.put, List.setIfInBounds_toArray, List.set_cons_zero, List.set_cons_succ]
      refine take_at (i := 12) (d := some 106) (v := .bool true) (by kernel_rfl) (by kernel_rfl) (by kernel_rfl) (by kernel_rfl) (fun _ _ _ h => h) ?_ hS ?_
      · intro o ho
        simp only [List.getElem?_toArray, List.getElem?_cons_succ, List.getElem?_cons_zero, Option.some.injEq] at ho
        subst ho
        refine Or.inl ⟨by rfl, ?_⟩
        intro w hSw
        (try dsimp only at hSw)
        go_simp
      simp only [Act.put, List.setIfInBounds_toArray, List.set_cons_zero, List.set_cons_succ]
      refine take_at (i := 13) (d := some 107) (v := .agg #[.slice a7 n7 c7, .int .i64 low7, .bool neg7, .bool nn7]) (by kernel_rfl) (by kernel_rfl) (by kernel_rfl) (by kernel_rfl) (fun _ _ _ h => h) ?_ hS ?_
      · intro o ho
        simp only [List.getElem?_toArray, List.getElem?_cons_succ, List.getElem?_cons_zero, Option.some.injEq] at ho
        subst ho
        refine Or.inl ⟨by rfl, ?_⟩
        intro w hSw
        (try dsimp only at hSw)
        go_simp
      simp only [Act.put, List.setIfInBounds_toArray, List.set_cons_zero, List.set_cons_succ]
      refine take_at (i := 14) (d := some 108) (v := .agg #[.slice a9 n9 c9, .int .i64 low9, .bool neg9, .bool nn9]) (by kernel_rfl) (by kernel_rfl) (by kernel_rfl) (by kernel_rfl) (fun _ _ _ h => h) ?_ hS ?_
      · intro o ho
        simp only [List.getElem?_toArray, List.getElem?_cons_succ, List.getElem?_cons_zero, Option.some.injEq] at ho
        subst ho
        refine Or.inl ⟨by rfl, ?_⟩
        intro w hSw
        (try dsimp only at hSw)
        go_simp
      simp only [Act.put, List.setIfInBounds_toArray, List.set_cons_zero, List.set_cons_succ]
      refine take_at (i := 15) (d := some 109) (v := .int .i64 h) (by kernel_rfl) (by kernel_rfl) (by kernel_rfl) (by kernel_rfl) (fun _ _ _ h => h) ?_ hS ?_
      · intro o ho
        simp only [List.getElem?_toArray, List.getElem?_cons_succ, List.getElem?_cons_zero, Option.some.injEq] at ho
        subst ho
        refine Or.inl ⟨by rfl, ?_⟩
        intro w hSw
        (try dsimp only at hSw)
        go_simp
      simp only [Act.put, List.setIfInBounds_toArray, List.set_cons_zero, List.set_cons_succ]
      refine take_at (i := 16) (d := some 110) (v := .int .i64 (h + 1)) (by kernel_rfl) (by kernel_rfl) (by kernel_rfl) (by kernel_rfl) (fun _ _ _ h => h) ?_ hS ?_
      · intro o ho
        simp only [List.getElem?_toArray, List.getElem?_cons_succ, List.getElem?_cons_zero, Option.some.injEq] at ho
        subst ho
        refine Or.inl ⟨by rfl, ?_⟩
        intro w hSw
        (try dsimp only at hSw)
        go_simp
      simp only [Act.put, List.setIfInBounds_toArray, List.set_cons_zero, List.set_cons_succ]
      refine call_at 17 (by kernel_rfl) (by kernel_rfl) ?_
      intro o ho
      simp only [List.getElem?_toArray, List.getElem?_cons_succ, List.getElem?_cons_zero, Option.some.injEq] at ho
      subst ho
      intro K hK
      go_simp
      refine (shift_any _ _ _ _ (HN9.out.later (keep12_bel hS))).mono ?_
      rintro e wx ⟨v22, y22, rfl, hn22, hy22, hbx⟩
      obtain ⟨a22, n22, c22, low22, neg22, nn22, rfl, hn22⟩ := isNum_form hn22
      have e22 := shiftX_may hy22 hm2.out
      subst e22
      go_wp2_with fail
      refine hK.out _ _ (keep12 hS hbx) (fun hS => ?_)
      clear hK K
      try simp only [Act.put, List.setIfInBounds_toArray, List.set_cons_zero, List.set_cons_succ]
      refine call_at 18 (by kernel_rfl) (by kernel_rfl) ?_
      intro o ho
      simp only [List.getElem?_toArray, List.getElem?_cons_succ, List.getElem?_cons_zero, Option.some.injEq] at ho
      subst ho
      intro K hK
      go_simp
      refine (cmp_any _ _ _ _ _ (HM.out.later (keep12_bel hS)) hn22).mono ?_
      rw [cq2.out]
      rintro e wx ⟨rfl, hbx⟩
      go_wp2_with fail
      refine hK.out _ _ (keep12 hS hbx) (fun hS => ?_)
      clear hK K
      try simp only [Act.put, List.setIfInBounds_toArray, List.set_cons_zero, List.set_cons_succ]
      refine take_at (i := 19) (d := some 113) (v := .bool true) (by kernel_rfl) (by kernel_rfl) (by kernel_rfl) (by kernel_rfl) (fun _ _ _ h => h) ?_ hS ?_
      · intro o ho
        simp only [List.getElem?_toArray, List.getElem?_cons_succ, List.getElem?_cons_zero, Option.some.injEq] at ho
        subst ho
        refine Or.inl ⟨by rfl, ?_⟩
        intro w hSw
        (try dsimp only at hSw)
        go_simp
      simp only [Act.put, List.setIfInBounds_toArray, List.set_cons_zero, List.set_cons_succ]
      refine take_at (i := 20) (d := some 114) (v := .bool true) (by kernel_rfl) (by kernel_rfl) (by kernel_rfl) (by kernel_rfl) (fun _ _ _ h => h) ?_ hS ?_
      · intro o ho
        simp only [List.getElem?_toArray, List.getElem?_cons_succ, List.getElem?_cons_zero, Option.some.injEq] at ho
        subst ho
        refine Or.inl ⟨by rfl, ?_⟩
        intro w hSw
        (try dsimp only at hSw)
        go_simp
      simp only [Act.put, List.setIfInBounds_toArray, List.set_cons_zero, List.set_cons_succ]
      refine take_at (i := 21) (d := some 2) (v := .bool true) (by kernel_rfl) (by kernel_rfl) (by kernel_rfl) (by kernel_rfl) (fun _ _ _ h => h) ?_ hS ?_
      · intro o ho
        simp only [List.getElem?_toArray, List.getElem?_cons_succ, List.getElem?_cons_zero, Option.some.injEq] at ho
        subst ho
        refine Or.inl ⟨by rfl, ?_⟩
        intro w hSw
        (try dsimp only at hSw)
        go_simp
      simp only [Act.put, List.setIfInBounds_toArray, List.set_cons_zero, List.set_cons_succ]
      refine wpAnyH_done (by kernel_rfl) ?_ _
      go_wp2
      go_ret
      exact ⟨rfl, thru HB10.out (keep12_bel hS)⟩

end Go.Proofs.YtfnjlkhgjlihoaaDoor
