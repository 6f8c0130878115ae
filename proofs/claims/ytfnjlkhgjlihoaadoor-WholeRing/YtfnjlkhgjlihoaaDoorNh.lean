/- Cmp, High and Low. -/
import Derived.Test.YtfnjlkhgjlihoaaDoorNg
namespace Go.Proofs.YtfnjlkhgjlihoaaDoor
open Go.RowKit
attribute [local go_sem ↓] Go.wp_at_zero Go.wp_at_succ

theorem keep8 {w W W' : World} {p0 p1 p2 p3 p4 p5 p6 p7 : Addr} {x0 x1 x2 x3 x4 x5 x6 x7 : Value} (h : W.cell? p0 = some x0 ∧ W.cell? p1 = some x1 ∧ W.cell? p2 = some x2 ∧ W.cell? p3 = some x3 ∧ W.cell? p4 = some x4 ∧ W.cell? p5 = some x5 ∧ W.cell? p6 = some x6 ∧ W.cell? p7 = some x7 ∧ Below w.heap.size w W) (hb : Below W.heap.size W W') :
    W'.cell? p0 = some x0 ∧ W'.cell? p1 = some x1 ∧ W'.cell? p2 = some x2 ∧ W'.cell? p3 = some x3 ∧ W'.cell? p4 = some x4 ∧ W'.cell? p5 = some x5 ∧ W'.cell? p6 = some x6 ∧ W'.cell? p7 = some x7 ∧ Below w.heap.size w W' :=
  ⟨cell_later hb h.1, cell_later hb h.2.1, cell_later hb h.2.2.1, cell_later hb h.2.2.2.1, cell_later hb h.2.2.2.2.1, cell_later hb h.2.2.2.2.2.1, cell_later hb h.2.2.2.2.2.2.1, cell_later hb h.2.2.2.2.2.2.2.1, h.2.2.2.2.2.2.2.2.trans (hb.mono h.2.2.2.2.2.2.2.2.size)⟩

theorem bel8 {w W : World} {p0 p1 p2 p3 p4 p5 p6 p7 : Addr} {x0 x1 x2 x3 x4 x5 x6 x7 : Value} (h : W.cell? p0 = some x0 ∧ W.cell? p1 = some x1 ∧ W.cell? p2 = some x2 ∧ W.cell? p3 = some x3 ∧ W.cell? p4 = some x4 ∧ W.cell? p5 = some x5 ∧ W.cell? p6 = some x6 ∧ W.cell? p7 = some x7 ∧ Below w.heap.size w W) : Below w.heap.size w W := h.2.2.2.2.2.2.2.2

theorem sg_range (q : Rat) : -1 ≤ sgnR q ∧ sgnR q ≤ 1 := by unfold sgnR cmpR; split <;> (try split) <;> omega

theorem cmpR_range (p q : Rat) : -1 ≤ cmpR p q ∧ cmpR p q ≤ 1 := by unfold cmpR; split <;> (try split) <;> omega

theorem cmp_signs {p q : Rat} (h : sgnR p ≠ sgnR q) : cmpI (sgnR p) (sgnR q) = cmpR p q := by
  unfold sgnR cmpR at *
  unfold cmpI
  rcases Rat.le_total (a := p) (b := 0) with h1 | h1 <;> rcases Rat.le_total (a := q) (b := 0) with h2 | h2
  all_goals grind

theorem cmp_mags {p q : Rat} {neg1 neg2 : Bool} (hp : 0 ≤ p) (hq : 0 ≤ q) (h : sgnR (sg neg1 * p) = sgnR (sg neg2 * q)) : sgnR (sg neg1 * p) * cmpR p q = cmpR (sg neg1 * p) (sg neg2 * q) := by
  unfold sgnR cmpR sg at *
  cases neg1 <;> cases neg2 <;> simp only [Bool.false_eq_true, if_false, if_true] at h ⊢
  all_goals grind

set_option maxHeartbeats 1000000 in
theorem cmp_none1 (a1 a2 : Option Addr) (n1 n2 c1 c2 : Nat) (low1 low2 : Int) (neg1 neg2 nn2 : Bool) (w : World) :
    Calls Tryd.prog 16 #[.agg #[.slice a1 n1 c1, .int .i64 low1, .bool neg1, .bool true], .agg #[.slice a2 n2 c2, .int .i64 low2, .bool neg2, .bool nn2]] w fun e w' => e = .returned (.int .i64 0) ∧ Below w.heap.size w w' := by
  go_enter Tryd.func16, Tryd.ntmps16
  go_wp2
  go_ret
  exact ⟨rfl, ((Below.refl _ _).alloc (Nat.le_refl _) _).alloc (by simp) _⟩

set_option maxHeartbeats 1000000 in
theorem cmp_none2 (a1 a2 : Option Addr) (n1 n2 c1 c2 : Nat) (low1 low2 : Int) (neg1 neg2 : Bool) (w : World) :
    Calls Tryd.prog 16 #[.agg #[.slice a1 n1 c1, .int .i64 low1, .bool neg1, .bool false], .agg #[.slice a2 n2 c2, .int .i64 low2, .bool neg2, .bool true]] w fun e w' => e = .returned (.int .i64 0) ∧ Below w.heap.size w w' := by
  go_enter Tryd.func16, Tryd.ntmps16
  go_wp2
  go_ret
  exact ⟨rfl, ((Below.refl _ _).alloc (Nat.le_refl _) _).alloc (by simp) _⟩

set_option maxHeartbeats 2000000 in
theorem cmp_walk (a1 a2 : Option Addr) (c1 c2 : Nat) (ns1 ns2 : List Nat) (low1 low2 : Int) (neg1 neg2 : Bool) (w : World) (m1 : IsMag w (.slice a1 ns1.length c1) ns1 low1) (m2 : IsMag w (.slice a2 ns2.length c2) ns2 low2) :
    Calls Tryd.prog 16 #[.agg #[.slice a1 ns1.length c1, .int .i64 low1, .bool neg1, .bool false], .agg #[.slice a2 ns2.length c2, .int .i64 low2, .bool neg2, .bool false]] w fun e w' => e = .returned (.int .i64 (cmpR (sg neg1 * magR ns1 low1) (sg neg2 * magR ns2 low2))) ∧ Below w.heap.size w w' := by
  have HB0 : Hid (Below w.heap.size w ((w.alloc (.cells #[.slice a1 ns1.length c1, .int .i64 low1, .bool neg1, .bool false] 27)).alloc (.cells #[.slice a2 ns2.length c2, .int .i64 low2, .bool neg2, .bool false] 27))) := ((Below.refl _ _).alloc (Nat.le_refl _) _).alloc (by simp) _
  have M1 : Hid (IsMag w (.slice a1 ns1.length c1) ns1 low1) := m1
  have M2 : Hid (IsMag w (.slice a2 ns2.length c2) ns2 low2) := m2
  have hs1 := sgn_num (neg := neg1) m1.own
  have hs2 := sgn_num (neg := neg2) m2.own
  have r1 := sg_range (sg neg1 * magR ns1 low1)
  have r2 := cmpR_range (magR ns1 low1) (magR ns2 low2)
  have HF1 : Hid (sgnR (sg neg1 * magR ns1 low1) ≠ sgnR (sg neg2 * magR ns2 low2) → cmpI (sgnR (sg neg1 * magR ns1 low1)) (sgnR (sg neg2 * magR ns2 low2)) = cmpR (sg neg1 * magR ns1 low1) (sg neg2 * magR ns2 low2)) := cmp_signs
  have HF2 : Hid (sgnR (sg neg1 * magR ns1 low1) = sgnR (sg neg2 * magR ns2 low2) → sgnR (sg neg1 * magR ns1 low1) * cmpR (magR ns1 low1) (magR ns2 low2) = cmpR (sg neg1 * magR ns1 low1) (sg neg2 * magR ns2 low2)) := cmp_mags (magR_nonneg _ _) (magR_nonneg _ _)
  have HS1 : Hid _ := hs1
  have HS2 : Hid _ := hs2
  clear hs1 hs2 m1 m2
  generalize hg1 : sgnR (sg neg1 * magR ns1 low1) = g1 at *
  generalize hg2 : sgnR (sg neg2 * magR ns2 low2) = g2 at *
  generalize hg3 : cmpR (sg neg1 * magR ns1 low1) (sg neg2 * magR ns2 low2) = g3 at *
  clear hg1 hg2 hg3
  go_enter Tryd.func16, Tryd.ntmps16
  go_wp2
  go_region_held3 (fun W => W.cell? ⟨w.heap.size, 0, none⟩ = some (.slice a1 ns1.length c1) ∧ W.cell? ⟨w.heap.size, 1, none⟩ = some (.int .i64 low1) ∧ W.cell? ⟨w.heap.size, 2, none⟩ = some (.bool neg1) ∧ W.cell? ⟨w.heap.size, 3, none⟩ = some (.bool false) ∧ W.cell? ⟨w.heap.size + 1, 0, none⟩ = some (.slice a2 ns2.length c2) ∧ W.cell? ⟨w.heap.size + 1, 1, none⟩ = some (.int .i64 low2) ∧ W.cell? ⟨w.heap.size + 1, 2, none⟩ = some (.bool neg2) ∧ W.cell? ⟨w.heap.size + 1, 3, none⟩ = some (.bool false) ∧ Below w.heap.size w W)
    (first
      | assumption
      | exact ⟨by go_simp, by go_simp, by go_simp, by go_simp, by go_simp, by go_simp, by go_simp, by go_simp, HB0.out.drew⟩
      | exact keep8 (by assumption) (by assumption))
    (first
      | (go_at_call_of 12 low1; refine (sign_walk _ _ _ _ _ _ _).mono ?_; rw [HS1.out]; rintro e wx ⟨rfl, hbx⟩)
      | (go_at_call_of 12 low2; refine (sign_walk _ _ _ _ _ _ _).mono ?_; rw [HS2.out]; rintro e wx ⟨rfl, hbx⟩)
      | (go_at_call 43; refine (cmpInt_any _ _ _).mono ?_; rintro e wz ⟨rfl, rfl⟩))
  have hh := (by assumption : wz.cell? ⟨w.heap.size, 0, none⟩ = _ ∧ wz.cell? ⟨w.heap.size, 1, none⟩ = _ ∧ wz.cell? ⟨w.heap.size, 2, none⟩ = _ ∧ wz.cell? ⟨w.heap.size, 3, none⟩ = _ ∧ wz.cell? _ = _ ∧ wz.cell? _ = _ ∧ wz.cell? _ = _ ∧ wz.cell? _ = _ ∧ Below w.heap.size w wz)
  obtain ⟨q0, q1, q2, q3, q4, q5, q6, q7, q8⟩ := hh
  have Q8 : Hid (Below w.heap.size w wz) := q8
  clear q8
  by_cases hg : g1 = g2
  · have hz : (cmpI g1 g2 != 0) = false := by rw [hg]; simp [cmpI]
    have hf := HF2.out hg
    have hw : IntKind.i64.wrap (g1 * cmpR (magR ns1 low1) (magR ns2 low2)) = g3 := by
      rw [hf]
      refine wrapI _ ?_ ?_
      · rw [← hf]
        have : g1 = -1 ∨ g1 = 0 ∨ g1 = 1 := by omega
        rcases this with h | h | h <;> rw [h] <;> omega
      · rw [← hf]
        have : g1 = -1 ∨ g1 = 0 ∨ g1 = 1 := by omega
        rcases this with h | h | h <;> rw [h] <;> omega
    have HG : Hid (g1 = g2) := hg
    clear hf hg
    generalize cmpI g1 g2 = cc at *
    generalize h4 : cmpR (magR ns1 low1) (magR ns2 low2) = c4 at *
    have H4 : Hid (cmpR (magR ns1 low1) (magR ns2 low2) = c4) := h4
    clear h4
    go_wp2
    go_region_held3 (fun W => W.cell? ⟨w.heap.size, 0, none⟩ = some (.slice a1 ns1.length c1) ∧ W.cell? ⟨w.heap.size, 1, none⟩ = some (.int .i64 low1) ∧ W.cell? ⟨w.heap.size, 2, none⟩ = some (.bool neg1) ∧ W.cell? ⟨w.heap.size, 3, none⟩ = some (.bool false) ∧ W.cell? ⟨w.heap.size + 1, 0, none⟩ = some (.slice a2 ns2.length c2) ∧ W.cell? ⟨w.heap.size + 1, 1, none⟩ = some (.int .i64 low2) ∧ W.cell? ⟨w.heap.size + 1, 2, none⟩ = some (.bool neg2) ∧ W.cell? ⟨w.heap.size + 1, 3, none⟩ = some (.bool false) ∧ Below w.heap.size w W)
      (first
        | assumption
        | exact ⟨q0, q1, q2, q3, q4, q5, q6, q7, Q8.out.drew⟩
        | exact keep8 (by assumption) (by assumption))
      (first
        | (go_at_call 12; refine (sign_walk _ _ _ _ _ _ _).mono ?_; rw [HS1.out]; rintro e wx ⟨rfl, hbx⟩)
        | (go_at_call 44; refine (against_any _ _ ns1 ns2 _ _ _ (M1.out.later (bel8 (by assumption))) (M2.out.later (bel8 (by assumption)))).mono ?_; rw [H4.out]; rintro e wy ⟨rfl, hby⟩))
    have hBf := (by assumption : wy.cell? ⟨w.heap.size, 0, none⟩ = _ ∧ wy.cell? ⟨w.heap.size, 1, none⟩ = _ ∧ wy.cell? ⟨w.heap.size, 2, none⟩ = _ ∧ wy.cell? ⟨w.heap.size, 3, none⟩ = _ ∧ wy.cell? _ = _ ∧ wy.cell? _ = _ ∧ wy.cell? _ = _ ∧ wy.cell? _ = _ ∧ Below w.heap.size w wy).2.2.2.2.2.2.2.2
    have HBF : Hid _ := hBf
    clear hBf
    go_wp2
    go_ret
    exact ⟨rfl, HBF.out⟩
  · have hz : (cmpI g1 g2 != 0) = true := by
      rw [bne_iff_ne]; unfold cmpI; split
      · omega
      · split <;> omega
    have hf := HF1.out hg
    clear hg
    generalize cmpI g1 g2 = cc at *
    subst hf
    go_wp2
    go_ret
    exact ⟨rfl, Q8.out⟩

/-- Cmp: which is greater; 0 with none. -/
def CmpX (a b : Option Rat) : Int := match a, b with
  | some p, some q => cmpR p q
  | _, _ => 0

theorem cmp_any (va vb : Value) (a b : Option Rat) (w : World) (ha : IsNum w va a) (hb : IsNum w vb b) :
    Calls Tryd.prog 16 #[va, vb] w fun e w' => e = .returned (.int .i64 (CmpX a b)) ∧ Below w.heap.size w w' := by
  obtain ⟨a1, ns1, c1, low1, neg1, nn1, rfl, p2, p3, p4, p5, p6, p7, p8⟩ := ha
  obtain ⟨a2, ns2, c2, low2, neg2, nn2, rfl, r2, r3, r4, r5, r6, r7, r8⟩ := hb
  cases nn1 with
  | true =>
    rw [(p7 rfl).2]
    exact cmp_none1 a1 a2 _ _ c1 c2 low1 low2 neg1 neg2 nn2 w
  | false =>
    cases nn2 with
    | true =>
      rw [p8 rfl, (r7 rfl).2]
      exact cmp_none2 a1 a2 _ _ c1 c2 low1 low2 neg1 neg2 w
    | false =>
      rw [p8 rfl, r8 rfl]
      exact cmp_walk a1 a2 c1 c2 ns1 ns2 low1 low2 neg1 neg2 w ⟨p2, p3, p4, p5⟩ ⟨r2, r3, r4, r5⟩

set_option maxHeartbeats 1000000 in
theorem high_walk (a1 : Option Addr) (c1 : Nat) (ns1 : List Nat) (low1 : Int) (neg1 nn1 : Bool) (w : World) (m1 : IsMag w (.slice a1 ns1.length c1) ns1 low1) :
    Calls Tryd.prog 23 #[.agg #[.slice a1 ns1.length c1, .int .i64 low1, .bool neg1, .bool nn1]] w fun e w' => e = .returned (.int .i64 (hiB ns1 low1)) ∧ Below w.heap.size w w' := by
  have HB0 : Hid (Below w.heap.size w (w.alloc (.cells #[.slice a1 ns1.length c1, .int .i64 low1, .bool neg1, .bool nn1] 27))) := (Below.refl _ _).alloc (Nat.le_refl _) _
  have M1 : Hid (IsMag w (.slice a1 ns1.length c1) ns1 low1) := m1
  have g1 := m1.lo
  have g2 := m1.low_le
  clear m1
  go_enter Tryd.func23, Tryd.ntmps23
  go_wp2_with fail
  refine (highest_any _ ns1 _ _ (M1.out.later HB0.out).ws (own_topped M1.out.own) (by omega) (by omega)).mono ?_
  rintro e w1 ⟨rfl, hb1⟩
  go_wp2
  go_ret
  exact ⟨rfl, thru HB0.out hb1⟩

set_option maxHeartbeats 1000000 in
theorem low_walk (a1 : Option Addr) (n1 c1 : Nat) (low1 : Int) (neg1 nn1 : Bool) (w : World) :
    Calls Tryd.prog 24 #[.agg #[.slice a1 n1 c1, .int .i64 low1, .bool neg1, .bool nn1]] w fun e w' => e = .returned (.int .i64 low1) ∧ Below w.heap.size w w' := by
  have HB0 : Hid (Below w.heap.size w (w.alloc (.cells #[.slice a1 n1 c1, .int .i64 low1, .bool neg1, .bool nn1] 27))) := (Below.refl _ _).alloc (Nat.le_refl _) _
  go_enter Tryd.func24, Tryd.ntmps24
  go_wp2_with fail
  refine (lowest_any _ _ _ _ _).mono ?_
  rintro e w1 ⟨rfl, hb1⟩
  go_wp2
  go_ret
  exact ⟨rfl, thru HB0.out hb1⟩

/-- Of a number its highest bit. -/
def HighOf (q : Rat) (h : Int) : Prop := (q = 0 ∧ h = 0) ∨ (q ≠ 0 ∧ ((p2 h ≤ q ∧ q < p2 (h + 1)) ∨ (p2 h ≤ -q ∧ -q < p2 (h + 1))))

/-- Of a number its lowest bit. -/
def LowOf (q : Rat) (l : Int) : Prop := (q = 0 ∧ l = 0) ∨ (∃ m : Int, q = ((2 * m + 1 : Int) : Rat) * p2 l)

theorem high_any (va : Value) (a : Option Rat) (w : World) (ha : IsNum w va a) :
    Calls Tryd.prog 23 #[va] w fun e w' => (∃ h, e = .returned (.int .i64 h) ∧ HighOf (a.getD 0) h) ∧ Below w.heap.size w w' := by
  obtain ⟨a1, ns1, c1, low1, neg1, nn1, rfl, q2, q3, q4, q5, q6, q7, q8⟩ := ha
  refine (high_walk a1 c1 ns1 low1 neg1 nn1 w ⟨q2, q3, q4, q5⟩).mono ?_
  rintro e w' ⟨rfl, hb⟩
  refine ⟨⟨_, rfl, ?_⟩, hb⟩
  by_cases hne : ns1 = []
  · have e0 : a.getD 0 = 0 := by
      cases nn1 with
      | true => rw [(q7 rfl).2]; rfl
      | false => rw [q8 rfl, hne, magR_nil]; simp
    exact Or.inl ⟨e0, by rw [hne]; simp [hiB]⟩
  · have hn : nn1 = false := by
      cases nn1 with
      | true => exact absurd (q7 rfl).1 hne
      | false => rfl
    obtain ⟨h1, h2⟩ := own_lo q3 hne
    have h3 := magR_pos q3 hne
    rw [q8 hn]
    refine Or.inr ⟨?_, ?_⟩
    · show sg neg1 * magR ns1 low1 ≠ 0
      cases neg1 <;> simp only [sg, Bool.false_eq_true, if_false, if_true] <;> grind
    · show (p2 (hiB ns1 low1) ≤ sg neg1 * magR ns1 low1 ∧ _) ∨ _
      cases neg1
      · left; simp only [sg, Bool.false_eq_true, if_false, Option.getD_some]; grind
      · right; simp only [sg, if_true, Option.getD_some]; grind

theorem low_any (va : Value) (a : Option Rat) (w : World) (ha : IsNum w va a) :
    Calls Tryd.prog 24 #[va] w fun e w' => (∃ l, e = .returned (.int .i64 l) ∧ LowOf (a.getD 0) l) ∧ Below w.heap.size w w' := by
  obtain ⟨a1, ns1, c1, low1, neg1, nn1, rfl, q2, q3, q4, q5, q6, q7, q8⟩ := ha
  refine (low_walk a1 _ c1 low1 neg1 nn1 w).mono ?_
  rintro e w' ⟨rfl, hb⟩
  refine ⟨⟨_, rfl, ?_⟩, hb⟩
  by_cases hne : ns1 = []
  · have e0 : a.getD 0 = 0 := by
      cases nn1 with
      | true => rw [(q7 rfl).2]; rfl
      | false => rw [q8 rfl, hne, magR_nil]; simp
    refine Or.inl ⟨e0, ?_⟩
    rcases q3 with ⟨_, h⟩ | ⟨h, _⟩
    · exact h
    · exact absurd hne h
  · have hn : nn1 = false := by
      cases nn1 with
      | true => exact absurd (q7 rfl).1 hne
      | false => rfl
    have hodd : val ns1 % 2 = 1 := by
      rcases q3 with ⟨h, _⟩ | ⟨_, h, _⟩
      · exact absurd h hne
      · exact h
    rw [q8 hn]
    have ev : ((val ns1 : Nat) : Rat) = ((2 * ((val ns1 / 2 : Nat) : Int) + 1 : Int) : Rat) := by
      have : ((val ns1 : Nat) : Int) = 2 * ((val ns1 / 2 : Nat) : Int) + 1 := by omega
      rw [← this]; rfl
    refine Or.inr ?_
    cases neg1
    · refine ⟨((val ns1 / 2 : Nat) : Int), ?_⟩
      show sg false * magR ns1 low1 = _
      rw [← ev]; simp [sg, magR]
    · refine ⟨-((val ns1 / 2 : Nat) : Int) - 1, ?_⟩
      show sg true * magR ns1 low1 = _
      have e2 : ((2 * (-((val ns1 / 2 : Nat) : Int) - 1) + 1 : Int) : Rat) = -((2 * ((val ns1 / 2 : Nat) : Int) + 1 : Int) : Rat) := by
        rw [← Rat.intCast_neg]; congr 1; omega
      rw [e2, ← ev]; simp only [sg, if_true, magR]; grind

end Go.Proofs.YtfnjlkhgjlihoaaDoor
