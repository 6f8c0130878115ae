/- Own texts, put together: Nh Fa Fe Ff Fg Fh Fi Fj La Lb Lc Ld Lp Lf. -/
import Derived.Test.YtfcgndgmbmkdgaaDoorQ1
import Derived.Test.YtfcgndgmbmkdgaaDoorQ2
import Derived.Test.YtfcgndgmbmkdgaaDoorQ4
/- Cmp, High and Low. -/
namespace Go.Proofs.YtfcgndgmbmkdgaaDoor
open Go.RowKit
attribute [local go_sem ↓] Go.wp_at_zero Go.wp_at_succ

theorem keep8 {w W W' : World} {p0 p1 p2 p3 p4 p5 p6 p7 : Addr} {x0 x1 x2 x3 x4 x5 x6 x7 : Value} (h : W.cell? p0 = some x0 ∧ W.cell? p1 = some x1 ∧ W.cell? p2 = some x2 ∧ W.cell? p3 = some x3 ∧ W.cell? p4 = some x4 ∧ W.cell? p5 = some x5 ∧ W.cell? p6 = some x6 ∧ W.cell? p7 = some x7 ∧ Below w.heap.size w W) (hb : Below W.heap.size W W') :
    W'.cell? p0 = some x0 ∧ W'.cell? p1 = some x1 ∧ W'.cell? p2 = some x2 ∧ W'.cell? p3 = some x3 ∧ W'.cell? p4 = some x4 ∧ W'.cell? p5 = some x5 ∧ W'.cell? p6 = some x6 ∧ W'.cell? p7 = some x7 ∧ Below w.heap.size w W' :=
  ⟨cell_later hb h.1, cell_later hb h.2.1, cell_later hb h.2.2.1, cell_later hb h.2.2.2.1, cell_later hb h.2.2.2.2.1, cell_later hb h.2.2.2.2.2.1, cell_later hb h.2.2.2.2.2.2.1, cell_later hb h.2.2.2.2.2.2.2.1, h.2.2.2.2.2.2.2.2.trans (hb.mono h.2.2.2.2.2.2.2.2.size)⟩

theorem bel8 {w W : World} {p0 p1 p2 p3 p4 p5 p6 p7 : Addr} {x0 x1 x2 x3 x4 x5 x6 x7 : Value} (h : W.cell? p0 = some x0 ∧ W.cell? p1 = some x1 ∧ W.cell? p2 = some x2 ∧ W.cell? p3 = some x3 ∧ W.cell? p4 = some x4 ∧ W.cell? p5 = some x5 ∧ W.cell? p6 = some x6 ∧ W.cell? p7 = some x7 ∧ Below w.heap.size w W) : Below w.heap.size w W := h.2.2.2.2.2.2.2.2

theorem sg_range (q : Rat) : -1 ≤ sgnR q ∧ sgnR q ≤ 1 := by unfold sgnR cmpR; split <;> (try split) <;> omega

theorem cmpR_range (p q : Rat) : -1 ≤ cmpR p q ∧ cmpR p q ≤ 1 := by unfold cmpR; split <;> (try split) <;> omega

theorem cmp_signs {p q : Rat} (h : sgnR p ≠ sgnR q) : cmpI (sgnR p) (sgnR q) = cmpR p q := by
  unfold sgnR cmpR at *
  unfold cmpI
  rcases Rat.le_total (a := p) (b := 0) with h1 | h1 <;> rcases Rat.le_total (a := q) (b := 0) with h2 | h2
  all_goals grind

theorem cmp_mags {p q : Rat} {neg1 neg2 : Bool} (hp : 0 ≤ p) (hq : 0 ≤ q) (h : sgnR (sg neg1 * p) = sgnR (sg neg2 * q)) : sgnR (sg neg1 * p) * cmpR p q = cmpR (sg neg1 * p) (sg neg2 * q) := by
  unfold sgnR cmpR sg at *
  cases neg1 <;> cases neg2 <;> simp only [Bool.false_eq_true, if_false, if_true] at h ⊢
  all_goals grind

set_option maxHeartbeats 1000000 in
theorem cmp_none1 (a1 a2 : Option Addr) (n1 n2 c1 c2 : Nat) (low1 low2 : Int) (neg1 neg2 nn2 : Bool) (w : World) :
    Calls Tryd.prog 17 #[.agg #[.slice a1 n1 c1, .int .i64 low1, .bool neg1, .bool true], .agg #[.slice a2 n2 c2, .int .i64 low2, .bool neg2, .bool nn2]] w fun e w' => e = .returned (.int .i64 0) ∧ Below w.heap.size w w' := by
  go_enter Tryd.func17, Tryd.ntmps17
  go_wp2
  go_ret
  exact ⟨rfl, ((Below.refl _ _).alloc (Nat.le_refl _) _).alloc (by simp) _⟩

set_option maxHeartbeats 1000000 in
theorem cmp_none2 (a1 a2 : Option Addr) (n1 n2 c1 c2 : Nat) (low1 low2 : Int) (neg1 neg2 : Bool) (w : World) :
    Calls Tryd.prog 17 #[.agg #[.slice a1 n1 c1, .int .i64 low1, .bool neg1, .bool false], .agg #[.slice a2 n2 c2, .int .i64 low2, .bool neg2, .bool true]] w fun e w' => e = .returned (.int .i64 0) ∧ Below w.heap.size w w' := by
  go_enter Tryd.func17, Tryd.ntmps17
  go_wp2
  go_ret
  exact ⟨rfl, ((Below.refl _ _).alloc (Nat.le_refl _) _).alloc (by simp) _⟩

set_option maxHeartbeats 2000000 in
theorem cmp_walk (a1 a2 : Option Addr) (c1 c2 : Nat) (ns1 ns2 : List Nat) (low1 low2 : Int) (neg1 neg2 : Bool) (w : World) (m1 : IsMag w (.slice a1 ns1.length c1) ns1 low1) (m2 : IsMag w (.slice a2 ns2.length c2) ns2 low2) :
    Calls Tryd.prog 17 #[.agg #[.slice a1 ns1.length c1, .int .i64 low1, .bool neg1, .bool false], .agg #[.slice a2 ns2.length c2, .int .i64 low2, .bool neg2, .bool false]] w fun e w' => e = .returned (.int .i64 (cmpR (sg neg1 * magR ns1 low1) (sg neg2 * magR ns2 low2))) ∧ Below w.heap.size w w' := by
  have HB0 : Hid (Below w.heap.size w ((w.alloc (.cells #[.slice a1 ns1.length c1, .int .i64 low1, .bool neg1, .bool false] 35)).alloc (.cells #[.slice a2 ns2.length c2, .int .i64 low2, .bool neg2, .bool false] 35))) := ((Below.refl _ _).alloc (Nat.le_refl _) _).alloc (by simp) _
  have M1 : Hid (IsMag w (.slice a1 ns1.length c1) ns1 low1) := m1
  have M2 : Hid (IsMag w (.slice a2 ns2.length c2) ns2 low2) := m2
  have hs1 := sgn_num (neg := neg1) m1.own
  have hs2 := sgn_num (neg := neg2) m2.own
  have r1 := sg_range (sg neg1 * magR ns1 low1)
  have r2 := cmpR_range (magR ns1 low1) (magR ns2 low2)
  have HF1 : Hid (sgnR (sg neg1 * magR ns1 low1) ≠ sgnR (sg neg2 * magR ns2 low2) → cmpI (sgnR (sg neg1 * magR ns1 low1)) (sgnR (sg neg2 * magR ns2 low2)) = cmpR (sg neg1 * magR ns1 low1) (sg neg2 * magR ns2 low2)) := cmp_signs
  have HF2 : Hid (sgnR (sg neg1 * magR ns1 low1) = sgnR (sg neg2 * magR ns2 low2) → sgnR (sg neg1 * magR ns1 low1) * cmpR (magR ns1 low1) (magR ns2 low2) = cmpR (sg neg1 * magR ns1 low1) (sg neg2 * magR ns2 low2)) := cmp_mags (magR_nonneg _ _) (magR_nonneg _ _)
  have HS1 : Hid _ := hs1
  have HS2 : Hid _ := hs2
  clear hs1 hs2 m1 m2
  generalize hg1 : sgnR (sg neg1 * magR ns1 low1) = g1 at *
  generalize hg2 : sgnR (sg neg2 * magR ns2 low2) = g2 at *
  generalize hg3 : cmpR (sg neg1 * magR ns1 low1) (sg neg2 * magR ns2 low2) = g3 at *
  clear hg1 hg2 hg3
  go_enter Tryd.func17, Tryd.ntmps17
  go_wp2
  go_region_held3 (fun W => W.cell? ⟨w.heap.size, 0, none⟩ = some (.slice a1 ns1.length c1) ∧ W.cell? ⟨w.heap.size, 1, none⟩ = some (.int .i64 low1) ∧ W.cell? ⟨w.heap.size, 2, none⟩ = some (.bool neg1) ∧ W.cell? ⟨w.heap.size, 3, none⟩ = some (.bool false) ∧ W.cell? ⟨w.heap.size + 1, 0, none⟩ = some (.slice a2 ns2.length c2) ∧ W.cell? ⟨w.heap.size + 1, 1, none⟩ = some (.int .i64 low2) ∧ W.cell? ⟨w.heap.size + 1, 2, none⟩ = some (.bool neg2) ∧ W.cell? ⟨w.heap.size + 1, 3, none⟩ = some (.bool false) ∧ Below w.heap.size w W)
    (first
      | assumption
      | exact ⟨by go_simp, by go_simp, by go_simp, by go_simp, by go_simp, by go_simp, by go_simp, by go_simp, HB0.out.drew⟩
      | exact keep8 (by assumption) (by assumption))
    (first
      | (go_at_call_of 15 low1; refine (sign_walk _ _ _ _ _ _ _).mono ?_; rw [HS1.out]; rintro e wx ⟨rfl, hbx⟩)
      | (go_at_call_of 15 low2; refine (sign_walk _ _ _ _ _ _ _).mono ?_; rw [HS2.out]; rintro e wx ⟨rfl, hbx⟩)
      | (go_at_call 39; refine (cmpInt_any _ _ _).mono ?_; rintro e wz ⟨rfl, rfl⟩))
  have hh := (by assumption : wz.cell? ⟨w.heap.size, 0, none⟩ = _ ∧ wz.cell? ⟨w.heap.size, 1, none⟩ = _ ∧ wz.cell? ⟨w.heap.size, 2, none⟩ = _ ∧ wz.cell? ⟨w.heap.size, 3, none⟩ = _ ∧ wz.cell? _ = _ ∧ wz.cell? _ = _ ∧ wz.cell? _ = _ ∧ wz.cell? _ = _ ∧ Below w.heap.size w wz)
  obtain ⟨q0, q1, q2, q3, q4, q5, q6, q7, q8⟩ := hh
  have Q8 : Hid (Below w.heap.size w wz) := q8
  clear q8
  by_cases hg : g1 = g2
  · have hz : (cmpI g1 g2 != 0) = false := by rw [hg]; simp [cmpI]
    have hf := HF2.out hg
    have hw : IntKind.i64.wrap (g1 * cmpR (magR ns1 low1) (magR ns2 low2)) = g3 := by
      rw [hf]
      refine wrapI _ ?_ ?_
      · rw [← hf]
        have : g1 = -1 ∨ g1 = 0 ∨ g1 = 1 := by omega
        rcases this with h | h | h <;> rw [h] <;> omega
      · rw [← hf]
        have : g1 = -1 ∨ g1 = 0 ∨ g1 = 1 := by omega
        rcases this with h | h | h <;> rw [h] <;> omega
    have HG : Hid (g1 = g2) := hg
    clear hf hg
    generalize cmpI g1 g2 = cc at *
    generalize h4 : cmpR (magR ns1 low1) (magR ns2 low2) = c4 at *
    have H4 : Hid (cmpR (magR ns1 low1) (magR ns2 low2) = c4) := h4
    clear h4
    go_wp2
    go_region_held3 (fun W => W.cell? ⟨w.heap.size, 0, none⟩ = some (.slice a1 ns1.length c1) ∧ W.cell? ⟨w.heap.size, 1, none⟩ = some (.int .i64 low1) ∧ W.cell? ⟨w.heap.size, 2, none⟩ = some (.bool neg1) ∧ W.cell? ⟨w.heap.size, 3, none⟩ = some (.bool false) ∧ W.cell? ⟨w.heap.size + 1, 0, none⟩ = some (.slice a2 ns2.length c2) ∧ W.cell? ⟨w.heap.size + 1, 1, none⟩ = some (.int .i64 low2) ∧ W.cell? ⟨w.heap.size + 1, 2, none⟩ = some (.bool neg2) ∧ W.cell? ⟨w.heap.size + 1, 3, none⟩ = some (.bool false) ∧ Below w.heap.size w W)
      (first
        | assumption
        | exact ⟨q0, q1, q2, q3, q4, q5, q6, q7, Q8.out.drew⟩
        | exact keep8 (by assumption) (by assumption))
      (first
        | (go_at_call 15; refine (sign_walk _ _ _ _ _ _ _).mono ?_; rw [HS1.out]; rintro e wx ⟨rfl, hbx⟩)
        | (go_at_call 40; refine (against_any _ _ ns1 ns2 _ _ _ (M1.out.later (bel8 (by assumption))) (M2.out.later (bel8 (by assumption)))).mono ?_; rw [H4.out]; rintro e wy ⟨rfl, hby⟩))
    have hBf := (by assumption : wy.cell? ⟨w.heap.size, 0, none⟩ = _ ∧ wy.cell? ⟨w.heap.size, 1, none⟩ = _ ∧ wy.cell? ⟨w.heap.size, 2, none⟩ = _ ∧ wy.cell? ⟨w.heap.size, 3, none⟩ = _ ∧ wy.cell? _ = _ ∧ wy.cell? _ = _ ∧ wy.cell? _ = _ ∧ wy.cell? _ = _ ∧ Below w.heap.size w wy).2.2.2.2.2.2.2.2
    have HBF : Hid _ := hBf
    clear hBf
    go_wp2
    go_ret
    exact ⟨rfl, HBF.out⟩
  · have hz : (cmpI g1 g2 != 0) = true := by
      rw [bne_iff_ne]; unfold cmpI; split
      · omega
      · split <;> omega
    have hf := HF1.out hg
    clear hg
    generalize cmpI g1 g2 = cc at *
    subst hf
    go_wp2
    go_ret
    exact ⟨rfl, Q8.out⟩

/-- Cmp: which is greater; 0 with none. -/
def CmpX (a b : Option Rat) : Int := match a, b with
  | some p, some q => cmpR p q
  | _, _ => 0

theorem cmp_any (va vb : Value) (a b : Option Rat) (w : World) (ha : IsNum w va a) (hb : IsNum w vb b) :
    Calls Tryd.prog 17 #[va, vb] w fun e w' => e = .returned (.int .i64 (CmpX a b)) ∧ Below w.heap.size w w' := by
  obtain ⟨a1, ns1, c1, low1, neg1, nn1, rfl, p2, p3, p4, p5, p6, p7, p8⟩ := ha
  obtain ⟨a2, ns2, c2, low2, neg2, nn2, rfl, r2, r3, r4, r5, r6, r7, r8⟩ := hb
  cases nn1 with
  | true =>
    rw [(p7 rfl).2]
    exact cmp_none1 a1 a2 _ _ c1 c2 low1 low2 neg1 neg2 nn2 w
  | false =>
    cases nn2 with
    | true =>
      rw [p8 rfl, (r7 rfl).2]
      exact cmp_none2 a1 a2 _ _ c1 c2 low1 low2 neg1 neg2 w
    | false =>
      rw [p8 rfl, r8 rfl]
      exact cmp_walk a1 a2 c1 c2 ns1 ns2 low1 low2 neg1 neg2 w ⟨p2, p3, p4, p5⟩ ⟨r2, r3, r4, r5⟩

/-- Of a number its highest bit. -/
def HighOf (q : Rat) (h : Int) : Prop := (q = 0 ∧ h = 0) ∨ (q ≠ 0 ∧ ((p2 h ≤ q ∧ q < p2 (h + 1)) ∨ (p2 h ≤ -q ∧ -q < p2 (h + 1))))

/-- Of a number its lowest bit. -/
def LowOf (q : Rat) (l : Int) : Prop := (q = 0 ∧ l = 0) ∨ (∃ m : Int, q = ((2 * m + 1 : Int) : Rat) * p2 l)

end Go.Proofs.YtfcgndgmbmkdgaaDoor

/- Floats: the small functions of package math, on words, lie in B0. -/

/- Of and Int: the numbers that a float and a whole number are. -/
namespace Go.Proofs.YtfcgndgmbmkdgaaDoor
open Go.RowKit

/-- A row of one word is words. -/
theorem row_one {w : World} {g x : Nat} (hc : w.cell? ⟨g, 0, none⟩ = some (.int .u64 (x : Nat))) (hg : g < w.heap.size) (hx : x < 18446744073709551616) : Ws w (.slice (some ⟨g, 0, none⟩) 1 1) [x] :=
  ⟨⟨_, _, rfl, Nat.le_refl _, Or.inr ⟨g, 0, rfl, hg, fun j hj => by
    have : j = 0 := by simpa using hj
    subst this
    simpa using hc⟩⟩, fun n hn => by simp at hn; omega, by simp⟩

theorem val_one (x : Nat) : val [x] = x := by simp [val]

end Go.Proofs.YtfcgndgmbmkdgaaDoor

/- Of: the number that a float denotes. -/
namespace Go.Proofs.YtfcgndgmbmkdgaaDoor
open Go.RowKit

set_option maxHeartbeats 2000000 in
theorem of_core (b r part fl M : Nat) (ex low : Int) (ng : Bool) (w : World) (hT : Tab w)
    (hnan : ∀ w, Calls Tryd.prog 23 #[.float .f64 b] w fun e w' => e = .returned (.bool false) ∧ w' = w)
    (hinf : ∀ w, Calls Tryd.prog 24 #[.float .f64 b, .int .i64 0] w fun e w' => e = .returned (.bool false) ∧ w' = w)
    (habs : ∀ w, Calls Tryd.prog 5 #[.float .f64 b] w fun e w' => e = .returned (.float .f64 r) ∧ w' = w)
    (hfr : ∀ w, Calls Tryd.prog 25 #[.float .f64 r] w fun e w' => e = .returned (.tuple #[.float .f64 part, .int .i64 ex]) ∧ w' = w)
    (hld : ∀ w, Calls Tryd.prog 26 #[.float .f64 part, .int .i64 53] w fun e w' => e = .returned (.float .f64 fl) ∧ w' = w)
    (hcv : floatToIntVal .f64 fl .u64 = some (M : Int)) (hM : M < 18446744073709551616) (hlow : ex - 52 - 1 = low) (he1 : -2000 ≤ ex) (he2 : ex ≤ 2000) (hng : (FloatKind.f64.format.order b 0 == some .lt) = ng) :
    Calls Tryd.prog 7 #[.float .f64 b] w fun e w' => NumR w w' (sg ng * ((M : Nat) * p2 low)) e := by
  have HT : Hid (Tab w) := hT
  have HM : Hid (M < 18446744073709551616) := hM
  have H1 : Hid _ := hnan
  have H2 : Hid _ := hinf
  have H3 : Hid _ := habs
  have H4 : Hid _ := hfr
  have H5 : Hid _ := hld
  have hconv : ∀ w, (convert 22 49 (.float .f64 fl)).run Tryd.prog w = .ok (.int .u64 (M : Nat)) w := fun w => run_convert_float_int w _ _ _ _ _ _ (by rw [Tryd.underlying22]; rfl) Tryd.underlying49 hcv
  have HB0 : Hid (Below w.heap.size w (((w.alloc (.cells #[.slice none 0 0, .int .i64 0, .bool false, .bool false] 35)).alloc (.cells #[.int .u64 (M : Nat)] 49)).alloc (.cells #[.slice (some ⟨w.heap.size + 1, 0, none⟩) 1 1, .int .i64 low] 33))) := (((Below.refl _ _).alloc (Nat.le_refl _) _).alloc (by simp) _).alloc (by simp; omega) _
  have HW : Hid (Ws (((w.alloc (.cells #[.slice none 0 0, .int .i64 0, .bool false, .bool false] 35)).alloc (.cells #[.int .u64 (M : Nat)] 49)).alloc (.cells #[.slice (some ⟨w.heap.size + 1, 0, none⟩) 1 1, .int .i64 low] 33)) (.slice (some ⟨w.heap.size + 1, 0, none⟩) 1 1) [M]) := row_one (by go_simp) (by simp) HM.out
  have hl1 : -3000 ≤ low := by omega
  have hl2 : low ≤ 3000 := by omega
  clear hT hM hnan hinf habs hfr hld hcv
  go_enter Tryd.func7, Tryd.ntmps7
  go_wp2_with (first
    | (go_at_call 23; refine (H1.out _).mono ?_; rintro e w' ⟨rfl, rfl⟩)
    | (go_at_call 24; refine (H2.out _).mono ?_; rintro e w' ⟨rfl, rfl⟩)
    | (go_at_call 5; refine (H3.out _).mono ?_; rintro e w' ⟨rfl, rfl⟩)
    | (go_at_call 25; refine (H4.out _).mono ?_; rintro e w' ⟨rfl, rfl⟩)
    | (go_at_call 26; refine (H5.out _).mono ?_; rintro e w' ⟨rfl, rfl⟩))
  refine (own_any _ [M] _ _ HW.out (HT.out.later HB0.out) (by omega) (by omega)).mono ?_
  rintro e w5 ⟨s5, ns5, low5, rfl, hws5, ho5, ht5, hlo5, hb5⟩
  have hq5 := tells_magR ht5
  rw [val_one] at hq5
  go_wp2_with fail
  refine (number_any _ ns5 _ _ _ hws5 ho5 hlo5.1 hlo5.2).mono ?_
  rintro e w6 ⟨v9, x9, rfl, ⟨a9, ns9, c9, low9, neg9, nn9, rfl, hws9, hrest⟩, hN9, hb6⟩
  have hB6 := thru hb5 hb6
  have t0 : w6.cell? ⟨w.heap.size, 0, none⟩ = some (.slice none 0 0) := cell_later hB6 (by go_simp)
  have t1 : w6.cell? ⟨w.heap.size, 1, none⟩ = some (.int .i64 0) := cell_later hB6 (by go_simp)
  have t2 : w6.cell? ⟨w.heap.size, 2, none⟩ = some (.bool false) := cell_later hB6 (by go_simp)
  have t3 : w6.cell? ⟨w.heap.size, 3, none⟩ = some (.bool false) := cell_later hB6 (by go_simp)
  have u0 : ∀ i, w6.frozen? ⟨w.heap.size, i, none⟩ = false := fun i => frozen_later hB6 (by go_simp) (by simp; omega)
  have HB6 : Hid (Below w.heap.size w w6) := thru HB0.out hB6
  rw [hq5] at hN9
  have HN9 : Hid _ := hN9
  clear hb5 hb6 hB6 hq5 hlo5 hws5 ho5 hN9 HB0 ht5
  have HRST : Hid _ := hrest
  clear hrest
  go_wp2
  refine bodyPost_ret (v := .agg #[.slice a9 ns9.length c9, .int .i64 low9, .bool neg9, .bool nn9]) (by simp [results, Tryd.results7, go_sem, t0, t1, t2, t3]) rfl ?_
  have hw9 := ws4 hws9 t0 t1 t2 t3 (.slice a9 ns9.length c9) (.int .i64 low9) (.bool neg9) (.bool nn9)
  refine ⟨_, x9, rfl, ⟨a9, ns9, c9, low9, neg9, nn9, rfl, hw9, HRST.out⟩, HN9.out, ?_⟩
  repeat (first | exact HB6.out | refine Below.drew ?_ | refine Below.setCell ?_ (by simp) _)

set_option maxHeartbeats 1000000 in
theorem of_nan (b : Nat) (w : World) (h : isnan b = true) :
    Calls Tryd.prog 7 #[.float .f64 b] w fun e w' => e = .returned (.agg #[.slice none 0 0, .int .i64 0, .bool false, .bool true]) ∧ Below w.heap.size w w' := by
  have H1 : Hid (∀ w, Calls Tryd.prog 23 #[.float .f64 b] w fun e w' => e = .returned (.bool true) ∧ w' = w) := fun w => by have := isNaN_any b w; rwa [h] at this
  clear h
  go_enter Tryd.func7, Tryd.ntmps7
  go_wp2_with (first
    | (go_at_call 23; refine (H1.out _).mono ?_; rintro e w' ⟨rfl, rfl⟩))
  refine bodyPost_ret (v := .agg #[.slice none 0 0, .int .i64 0, .bool false, .bool true]) (by simp [results, Tryd.results7, go_sem]) rfl ⟨rfl, ?_⟩
  exact (Below.refl _ _).alloc (Nat.le_refl _) _

set_option maxHeartbeats 1000000 in
theorem of_inf (b : Nat) (w : World) (hb : b < 18446744073709551616) (h0 : isnan b = false) (h : isinf b = true) :
    Calls Tryd.prog 7 #[.float .f64 b] w fun e w' => e = .returned (.agg #[.slice none 0 0, .int .i64 0, .bool false, .bool true]) ∧ Below w.heap.size w w' := by
  have H1 : Hid (∀ w, Calls Tryd.prog 23 #[.float .f64 b] w fun e w' => e = .returned (.bool false) ∧ w' = w) := fun w => by have := isNaN_any b w; rwa [h0] at this
  have H2 : Hid (∀ w, Calls Tryd.prog 24 #[.float .f64 b, .int .i64 0] w fun e w' => e = .returned (.bool true) ∧ w' = w) := fun w => by have := isInf0_any b w hb; rwa [h] at this
  clear h h0 hb
  go_enter Tryd.func7, Tryd.ntmps7
  go_wp2_with (first
    | (go_at_call 23; refine (H1.out _).mono ?_; rintro e w' ⟨rfl, rfl⟩)
    | (go_at_call 24; refine (H2.out _).mono ?_; rintro e w' ⟨rfl, rfl⟩))
  refine bodyPost_ret (v := .agg #[.slice none 0 0, .int .i64 0, .bool false, .bool true]) (by simp [results, Tryd.results7, go_sem]) rfl ⟨rfl, ?_⟩
  exact (Below.refl _ _).alloc (Nat.le_refl _) _

theorem neg_flag {b : Nat} (h : Fin64 b) : (FloatKind.f64.format.order b 0 == some .lt) = (fneg b && !(frung b == 0)) := by
  show (Ieee.double.order b 0 == some .lt) = _
  rw [order_fin h (by unfold Fin64 frung; decide), fval_zero_iff.2 (by rfl : frung 0 = 0)]
  by_cases hr : frung b = 0
  · have := fval_zero_iff.2 hr
    rw [this, if_neg (by exact Rat.lt_irrefl), if_pos rfl]; simp [hr]
  · have h2 : fval b ≠ 0 := fun h => hr (fval_zero_iff.1 h)
    have h3 : (0 : Rat) ≤ (fmag (frung b) : Nat) * p2 (fpl (frung b)) := Rat.mul_nonneg Rat.natCast_nonneg (Rat.le_of_lt (p2_pos _))
    have h4 : (frung b == 0) = false := by rw [beq_eq_false_iff_ne]; exact hr
    rw [h4]
    cases hn : fneg b
    · have : ¬ fval b < 0 := by unfold fval sgn1; rw [hn]; simp only [Bool.false_eq_true, if_false]; grind
      rw [if_neg this]; simp only [Bool.false_and]; split <;> rfl
    · have : fval b < 0 := by
        have hm0 : ((fmag (frung b) : Nat) : Rat) * p2 (fpl (frung b)) ≠ 0 := fun h => h2 (by unfold fval; rw [h, Rat.mul_zero])
        unfold fval sgn1
        rw [hn]
        simp only [if_true]
        generalize ((fmag (frung b) : Nat) : Rat) * p2 (fpl (frung b)) = m at *
        clear h2
        grind
      rw [if_pos this]; rfl

/-- Of. -/
theorem of_fin (b : Nat) (w : World) (hT : Tab w) (hb : b < 18446744073709551616) (h : Fin64 b) :
    Calls Tryd.prog 7 #[.float .f64 b] w fun e w' => OpR w w' (fun x => x = some (fval b)) e := by
  have hr : frung b < 9218868437227405312 := h
  have hnan : ∀ w, Calls Tryd.prog 23 #[.float .f64 b] w fun e w' => e = .returned (.bool false) ∧ w' = w := fun w => by
    have := isNaN_any b w
    rwa [show isnan b = false by unfold isnan; simp; omega] at this
  have hinf : ∀ w, Calls Tryd.prog 24 #[.float .f64 b, .int .i64 0] w fun e w' => e = .returned (.bool false) ∧ w' = w := fun w => by
    have := isInf0_any b w hb
    rwa [show isinf b = false by unfold isinf; rw [beq_eq_false_iff_ne]; omega] at this
  have habs : ∀ w, Calls Tryd.prog 5 #[.float .f64 b] w fun e w' => e = .returned (.float .f64 (frung b)) ∧ w' = w := fun w => abs_any b w hb
  have hm : May (fval b) := (fval_bd h).may (by omega) (by omega)
  have fin : ∀ e w', NumR w w' (fval b) e → OpR w w' (fun x => x = some (fval b)) e := by
    rintro e w' ⟨v, x, he, hn, hN, hb⟩
    refine ⟨v, x, he, hn, ?_, hb⟩
    rcases hN with ⟨_, h⟩ | ⟨h, _⟩
    · exact h
    · exact absurd hm h
  by_cases h0 : frung b = 0
  · rw [h0] at habs
    have hc := of_core b 0 0 0 0 0 (-53) _ w hT hnan hinf habs (fun w => Frexp_of 0 0 0 w (fun w => frexp_zero w)) (fun w => Ldexp_of 0 0 53 w (fun w => ldexp_zero 53 w)) (by decide) (by omega) (by omega) (by omega) (by omega) rfl
    have e : ∀ g : Bool, sg g * (((0 : Nat) : Rat) * p2 (-53)) = fval b := by intro g; rw [fval_zero_iff.2 h0]; simp
    rw [e] at hc
    exact hc.mono fin
  · have hbd := bits53_bounds (frung b) h0
    have hpl : -1200 ≤ place53 (frung b) ∧ place53 (frung b) ≤ 1000 := by
      unfold place53; split
      · rename_i hs; have : Nat.log2 (frung b) < 52 := (Nat.log2_lt h0).2 hs; omega
      · omega
    have hld : ∀ w, Calls Tryd.prog 26 #[.float .f64 (1022 * 4503599627370496 + (bits53 (frung b) - 4503599627370496)), .int .i64 53] w fun e w' => e = .returned (.float .f64 (1075 * 4503599627370496 + (bits53 (frung b) - 4503599627370496))) ∧ w' = w := fun w =>
      Ldexp_of _ _ 53 w (fun w => ldexp_norm 1022 _ 1075 _ _ _ 53 w rfl rfl rfl (by omega) (by omega) (by omega) (by omega) (by omega) (by omega))
    have hcv := conv_norm (bits53 (frung b) - 4503599627370496) (by omega)
    rw [show 4503599627370496 + (bits53 (frung b) - 4503599627370496) = bits53 (frung b) by omega] at hcv
    have hc := of_core b (frung b) _ _ (bits53 (frung b)) (place53 (frung b) + 53) (place53 (frung b)) _ w hT hnan hinf habs (fun w => Frexp_of _ _ _ w (fun w => frexp_any (frung b) w h0 hr)) hld hcv (by omega) (by omega) (by omega) (by omega) (neg_flag h)
    have e : sg (fneg b && !(frung b == 0)) * ((bits53 (frung b) : Nat) * p2 (place53 (frung b)) : Rat) = fval b := by
      have h4 : (frung b == 0) = false := by rw [beq_eq_false_iff_ne]; exact h0
      rw [bits53_val _ h0, h4]
      unfold fval sgn1 sg
      simp
    rw [e] at hc
    exact hc.mono fin

theorem of_not (b : Nat) (w : World) (hb : b < 18446744073709551616) (h : ¬ Fin64 b) :
    Calls Tryd.prog 7 #[.float .f64 b] w fun e w' => OpR w w' (fun x => x = none) e := by
  have fin : ∀ e w', e = .returned (.agg #[.slice none 0 0, .int .i64 0, .bool false, .bool true]) ∧ Below w.heap.size w w' → OpR w w' (fun x => x = none) e := by
    rintro e w' ⟨rfl, hb⟩
    exact ⟨_, none, rfl, isNum_none w', rfl, hb⟩
  by_cases h1 : 9218868437227405312 < frung b
  · exact (of_nan b w (by unfold isnan; simp [h1])).mono fin
  · have h2 : frung b = 9218868437227405312 := by unfold Fin64 at h; omega
    exact (of_inf b w hb (by unfold isnan; simp [h2]) (by unfold isinf; simp [h2])).mono fin

end Go.Proofs.YtfcgndgmbmkdgaaDoor

/- The float nearest to a number: plain facts. -/
namespace Go.Proofs.YtfcgndgmbmkdgaaDoor

/-- What lies in a window whose top is the number's. -/
theorem win_near (ns : List Nat) (low at' : Int) (ho : val ns % 2 = 1) (hlog : low + (Nat.log2 (val ns) : Nat) - at' ≤ 53) :
    win ns low at' < 18014398509481984 ∧ ((win ns low at' : Int) : Rat) * p2 at' ≤ magR ns low ∧ magR ns low < (((win ns low at' : Int) + 1 : Int) : Rat) * p2 at' ∧ (at' ≤ low → magR ns low = ((win ns low at' : Int) : Rat) * p2 at') ∧ (low < at' → magR ns low ≠ ((win ns low at' : Int) : Rat) * p2 at') := by
  have hV0 : val ns ≠ 0 := by omega
  have hl1 : val ns < 2 ^ (Nat.log2 (val ns) + 1) := Nat.lt_log2_self
  have hu := p2_pos at'
  by_cases hc : at' ≤ low
  · have hw : win ns low at' = val ns * 2 ^ (low - at').toNat ∧ val ns * 2 ^ (low - at').toNat < 18014398509481984 := by
      have hb : val ns * 2 ^ (low - at').toNat < 18014398509481984 := by
        have h1 : val ns * 2 ^ (low - at').toNat < 2 ^ (Nat.log2 (val ns) + 1) * 2 ^ (low - at').toNat := Nat.mul_lt_mul_of_pos_right hl1 (Nat.two_pow_pos _)
        rw [← Nat.pow_add] at h1
        exact Nat.lt_of_lt_of_le h1 (Nat.pow_le_pow_right (by omega) (by omega : Nat.log2 (val ns) + 1 + (low - at').toNat ≤ 54))
      refine ⟨?_, hb⟩
      unfold win
      by_cases h : at' < low
      · rw [if_pos h, Nat.mod_eq_of_lt (by omega)]
      · rw [if_neg h]
        have : at' = low := by omega
        subst this
        simp only [Int.sub_self, Int.toNat_zero, Nat.pow_zero, Nat.mul_one, Nat.div_one] at hb ⊢
        exact Nat.mod_eq_of_lt (by omega)
    have hm : magR ns low = ((win ns low at' : Int) : Rat) * p2 at' := by
      rw [hw.1]; exact magR_at ns low at' _ (by omega)
    refine ⟨by rw [hw.1]; exact hw.2, by rw [hm]; exact Rat.le_refl, by rw [hm]; exact lt_int hu (by omega), fun _ => hm, fun h => by omega⟩
  · have hj : 1 ≤ (at' - low).toNat := by omega
    have hpow : 0 < 2 ^ (at' - low).toNat := Nat.two_pow_pos _
    have hb : val ns / 2 ^ (at' - low).toNat < 18014398509481984 := by
      rw [Nat.div_lt_iff_lt_mul hpow]
      refine Nat.lt_of_lt_of_le hl1 ?_
      rw [show (18014398509481984 : Nat) = 2 ^ 54 from rfl, ← Nat.pow_add]
      exact Nat.pow_le_pow_right (by omega) (by omega)
    have hw : win ns low at' = val ns / 2 ^ (at' - low).toNat := by
      unfold win
      rw [if_neg (by omega), Nat.mod_eq_of_lt (by omega)]
    have e : p2 at' = ((2 ^ (at' - low).toNat : Nat) : Int) * p2 low := by
      have := p2_nat (at' - low).toNat
      rw [show (((2 ^ (at' - low).toNat : Nat) : Int) : Rat) = ((2 ^ (at' - low).toNat : Nat) : Rat) from rfl, ← this, ← p2_add]
      congr 1; omega
    have hm : magR ns low = ((val ns : Int) : Rat) * p2 low := rfl
    have hodd : 2 ^ (at' - low).toNat % 2 = 0 := by
      obtain ⟨j, hj2⟩ : ∃ j, (at' - low).toNat = j + 1 := ⟨(at' - low).toNat - 1, by omega⟩
      rw [hj2, Nat.pow_succ]; omega
    have hd := Nat.div_add_mod (val ns) (2 ^ (at' - low).toNat)
    have hml := Nat.mod_lt (val ns) hpow
    have hu0 := p2_pos low
    rw [hw, hm, e]
    generalize 2 ^ (at' - low).toNat = P at *
    generalize val ns / P = W at *
    generalize val ns % P = R at *
    generalize val ns = V at *
    have t1 : ∀ x : Int, ((x : Int) : Rat) * (((P : Nat) : Int) * p2 low) = ((x * (P : Int) : Int) : Rat) * p2 low := fun x => by rw [Rat.intCast_mul, Rat.mul_assoc]
    rw [t1, t1]
    have z : (W : Int) * (P : Int) + (R : Int) = (V : Int) := by rw [← hd, Int.natCast_add, Int.natCast_mul, Int.mul_comm]
    have z2 : ((W : Int) + 1) * (P : Int) = (W : Int) * (P : Int) + (P : Int) := by rw [Int.add_mul, Int.one_mul]
    refine ⟨hb, le_int hu0 (by omega), lt_int hu0 (by omega), fun h => by omega, fun _ h => ?_⟩
    have h1 := int_le hu0 (le_of_same h)
    have h2 := int_le hu0 (le_of_same h.symm)
    have h3 : V = P * W := by
      have : (V : Int) = (W : Int) * (P : Int) := by omega
      rw [Int.mul_comm] at this
      exact_mod_cast this
    have : V % 2 = 0 := by rw [h3, Nat.mul_mod, hodd]; simp
    omega

/-- The unit that is kept, of what the window shows. -/
theorem half_of {q u : Rat} {W : Nat} {exact : Prop} (hu : 0 < u) (h1 : ((W : Int) : Rat) * u ≤ q) (h2 : q < (((W : Int) + 1 : Int) : Rat) * u) (h3 : exact → q = ((W : Int) : Rat) * u) (h4 : ¬ exact → q ≠ ((W : Int) : Rat) * u) :
    (W % 2 = 0 → Half q u (W / 2)) ∧ (W % 2 = 1 → ¬ exact → Half q u (W / 2 + 1)) ∧ (W % 2 = 1 → exact → W / 2 % 2 = 1 → Half q u (W / 2 + 1)) ∧ (W % 2 = 1 → exact → W / 2 % 2 = 0 → Half q u (W / 2)) := by
  have ne1 : ∀ {x : Int}, (W : Int) < x → q = (x : Rat) * u → x = (W : Int) + 1 → False := fun {x} _ e hx => by
    rw [e, hx] at h2; exact Rat.lt_irrefl h2
  refine ⟨fun h => ?_, fun h hn => ?_, fun h he hk => ?_, fun h he hk => ?_⟩
  · refine ⟨Rat.le_trans (le_int hu (by omega)) h1, Rat.le_trans (Rat.le_of_lt h2) (le_int hu (by omega)), fun e => ?_, fun e => ?_⟩
    · have := int_le hu (e ▸ h1); omega
    · exact (ne1 (by omega) e (by omega)).elim
  · refine ⟨Rat.le_trans (le_int hu (by omega)) h1, Rat.le_trans (Rat.le_of_lt h2) (le_int hu (by omega)), fun e => ?_, fun e => ?_⟩
    · refine absurd ?_ (h4 hn); rw [e]; congr 2; omega
    · have := int_lt hu (e ▸ h2); omega
  · refine ⟨Rat.le_trans (le_int hu (by omega)) h1, Rat.le_trans (Rat.le_of_lt h2) (le_int hu (by omega)), fun e => ?_, fun e => ?_⟩
    · omega
    · have := int_lt hu (e ▸ h2); omega
  · refine ⟨Rat.le_trans (le_int hu (by omega)) h1, ?_, fun e => ?_, fun e => ?_⟩
    · rw [h3 he]; exact le_int hu (by omega)
    · exact hk
    · exact hk

end Go.Proofs.YtfcgndgmbmkdgaaDoor

/- The float nearest to a magnitude: what the code makes of the unit that it keeps. -/
namespace Go.Proofs.YtfcgndgmbmkdgaaDoor
open Go.RowKit
attribute [local go_sem ↓] Go.wp_at_zero Go.wp_at_succ

theorem float_of_nat (k : Nat) : floatOfInt .f64 (k : Int) = Ieee.double.nearest false k 0 := by
  unfold floatOfInt FloatKind.nearest
  have e : decide ((k : Int) < 0) = false := decide_eq_false (by omega)
  rw [e, Int.natAbs_natCast]
  rfl

theorem nearest_small (k L : Nat) (h0 : k ≠ 0) (h : k < 4503599627370496) (hL : Nat.log2 k = L) : Ieee.double.nearest false k 0 = (L + 1022) * 4503599627370496 + k * 2 ^ (52 - L) := by
  have h1 : L < 52 := by rw [← hL]; exact (Nat.log2_lt h0).2 h
  have h2 : k * 2 ^ (52 - L) < 9007199254740992 := by
    have a : k < 2 ^ (L + 1) := by rw [← hL]; exact Nat.lt_log2_self
    have b := Nat.mul_lt_mul_of_pos_right a (Nat.two_pow_pos (52 - L))
    rw [← Nat.pow_add, show L + 1 + (52 - L) = 53 by omega] at b
    exact b
  unfold Ieee.Format.nearest
  rw [if_neg h0]
  simp only [d_lp, d_bin, d_inf, hL]
  have e0 : (Ieee.double.fractionBits : Int) = 52 := rfl
  rw [e0, show max (0 + (L : Int) - 52) (-1074) = (L : Int) - 52 by omega, show (0 - ((L : Int) - 52)).toNat = 52 - L by omega, show ((L : Int) - 52 - 0).toNat = 0 by omega, show ((L : Int) - 52 - -1074).toNat = L + 1022 by omega, Nat.shiftLeft_eq]
  have e1 := cut_exact false (k * 2 ^ (52 - L)) 0
  rw [Nat.pow_zero, Nat.mul_one] at e1
  rw [e1, Nat.min_eq_left (by omega)]
  rfl

theorem shift_sum (L u z : Nat) (h : 4503599627370496 + u = z) : (L + 1023) * 4503599627370496 + u = (L + 1022) * 4503599627370496 + z := by
  rw [← h, show L + 1023 = (L + 1022) + 1 from rfl, Nat.add_mul (L + 1022), Nat.one_mul, Nat.add_assoc]

/-- Ldexp of the unit that is kept. -/
theorem ldexp_kept (T k : Nat) (w : World) (hk : k ≤ 9007199254740992) (hT : T = 0 ∨ 4503599627370496 ≤ k) (hT2 : T ≤ 100000) :
    Calls Tryd.prog 26 #[.float .f64 (floatOfInt .f64 (k : Int)), .int .i64 ((T : Int) - 1074)] w fun e w' => e = .returned (.float .f64 (min (T * 4503599627370496 + k) 9218868437227405312)) ∧ w' = w := by
  rw [float_of_nat]
  refine Ldexp_of _ _ _ w fun w => ?_
  by_cases h0 : k = 0
  · subst h0
    have : T = 0 := by omega
    subst this
    have e : Ieee.double.nearest false 0 0 = 0 := rfl
    rw [e]
    exact ldexp_zero _ w
  by_cases h1 : k < 4503599627370496
  · have : T = 0 := by omega
    subst this
    have hL := (Nat.log2_lt h0 (k := 52)).2 h1
    have a1 := Nat.log2_self_le h0
    have a2 : k < 2 ^ (Nat.log2 k + 1) := Nat.lt_log2_self
    rw [nearest_small k _ h0 h1 rfl, Nat.zero_mul, Nat.zero_add, Nat.min_eq_left (by omega)]
    generalize hLe : Nat.log2 k = L at *
    have b1 : 4503599627370496 ≤ k * 2 ^ (52 - L) := by
      have := Nat.mul_le_mul_right (2 ^ (52 - L)) a1
      rwa [← Nat.pow_add, show L + (52 - L) = 52 by omega] at this
    have b2 : k * 2 ^ (52 - L) < 9007199254740992 := by
      have := Nat.mul_lt_mul_of_pos_right a2 (Nat.two_pow_pos (52 - L))
      rwa [← Nat.pow_add, show L + 1 + (52 - L) = 53 by omega] at this
    obtain ⟨u, hu⟩ : ∃ u, 4503599627370496 + u = k * 2 ^ (52 - L) := ⟨k * 2 ^ (52 - L) - 4503599627370496, by omega⟩
    have hm := mul_norm (L + 2) u k L hL rfl hu h1 (by omega)
    have hx : (L + 1023) * 4503599627370496 + u = (L + 1022) * 4503599627370496 + k * 2 ^ (52 - L) := shift_sum L u _ hu
    exact ldexp_den (L + 1023) u (L + 2) _ _ _ k _ w hx rfl rfl (by omega) (by omega) (by omega) (by omega) (by omega) (by omega) hm
  by_cases h2 : k = 9007199254740992
  · subst h2
    have e : Ieee.double.nearest false 9007199254740992 0 = 1076 * 4503599627370496 + 0 := by
      have := nearest_norm 4503599627370496 1 0 (by omega) (by omega) (by omega) (by decide)
      exact this
    rw [e]
    by_cases h3 : T + 2 ≤ 2046
    · rw [Nat.min_eq_left (by omega)]
      exact ldexp_norm 1076 0 (T + 2) _ _ _ _ w rfl (by omega) rfl (by omega) (by omega) (by omega) (by omega) (by omega) h3
    · rw [Nat.min_eq_right (by omega)]
      exact ldexp_inf 1076 0 _ _ w rfl (by omega) (by omega) (by omega) (by omega) (by omega)
  · obtain ⟨u, rfl⟩ : ∃ u, k = 4503599627370496 + u := ⟨k - 4503599627370496, by omega⟩
    have e : Ieee.double.nearest false (4503599627370496 + u) 0 = 1075 * 4503599627370496 + u := by
      have := nearest_norm (4503599627370496 + u) 0 0 (by omega) (by omega) (by omega) (by omega)
      rw [Nat.pow_zero, Nat.mul_one] at this
      rw [this]; omega
    rw [e]
    by_cases h3 : T + 1 ≤ 2046
    · rw [Nat.min_eq_left (by omega)]
      exact ldexp_norm 1075 u (T + 1) _ _ _ _ w rfl (by omega) rfl (by omega) (by omega) (by omega) (by omega) (by omega) h3
    · rw [Nat.min_eq_right (by omega)]
      exact ldexp_inf 1075 u _ _ w rfl (by omega) (by omega) (by omega) (by omega) (by omega)

end Go.Proofs.YtfcgndgmbmkdgaaDoor

/- The float nearest to a magnitude. -/
namespace Go.Proofs.YtfcgndgmbmkdgaaDoor
open Go.RowKit
attribute [local go_sem ↓] Go.wp_at_zero Go.wp_at_succ

end Go.Proofs.YtfcgndgmbmkdgaaDoor

/- Float: the float nearest to a number. -/
namespace Go.Proofs.YtfcgndgmbmkdgaaDoor
open Go.RowKit
attribute [local go_sem ↓] Go.wp_at_zero Go.wp_at_succ

theorem and_one (n : Nat) (h : n < 18446744073709551616) : bits .and .u64 (n : Int) 1 = ((n % 2 : Nat) : Int) := by
  rw [show (1 : Int) = ((1 : Nat) : Int) from rfl, u64_and_nat n _ (by omega) (by omega), Nat.and_one_is_mod]

theorem eq_one (n : Nat) : ((((n % 2 : Nat) : Int)) == 1) = (n % 2 == 1) := by
  rcases Nat.mod_two_eq_zero_or_one n with h | h <;> rw [h] <;> rfl

theorem p2_units (n : Nat) (e : Int) : (((2 ^ n : Nat) : Int) : Rat) * p2 e = p2 ((n : Int) + e) := by
  rw [p2_add, p2_nat]; rfl

/-- Of a number (0 for none) the float. -/
def FloatOf (q : Rat) (f : Nat) : Prop := (0 ≤ q ∧ Near q f) ∨ (q < 0 ∧ ∃ r, Near (-q) r ∧ f = if r = 0 then 0 else 9223372036854775808 + r)

theorem gt_zero (r : Nat) (h : r ≤ 9218868437227405312) : (FloatKind.f64.format.order r 0 == some .gt) = (r != 0) := by
  show (Ieee.double.order r 0 == some .gt) = (r != 0)
  have z0 : Fin64 0 := by unfold Fin64 frung; decide
  have e0 : fval 0 = 0 := fval_zero_iff.2 rfl
  by_cases h1 : r = 9218868437227405312
  · subst h1
    rw [order_inf_fin (by unfold frung; rfl) z0]
    rfl
  · have hr : r < 9218868437227405312 := by omega
    have hf : Fin64 r := by unfold Fin64 frung; omega
    have hn := fval_nonneg hr
    rw [order_fin hf z0, e0]
    by_cases h0 : r = 0
    · subst h0; rw [e0]; rfl
    · have e1 : fval r ≠ 0 := by rw [Ne, fval_zero_iff]; unfold frung; omega
      rw [if_neg (by grind), if_neg e1]
      simp [h0]

theorem xor_top (r : Nat) (h : r < 9223372036854775808) : r ^^^ 2 ^ 63 = 9223372036854775808 + r := by
  have h' : r < 2 ^ 63 := h
  show r ^^^ 2 ^ 63 = 2 ^ 63 + r
  refine Nat.eq_of_testBit_eq fun i => ?_
  rw [Nat.testBit_xor, Nat.testBit_two_pow]
  rcases Nat.lt_trichotomy i 63 with hi | hi | hi
  · have hd : decide (63 = i) = false := decide_eq_false (by omega)
    rw [Nat.testBit_two_pow_add_gt hi, hd, Bool.xor_false]
  · subst hi; rw [Nat.testBit_two_pow_add_eq, Nat.testBit_lt_two_pow h']; rfl
  · have e1 : 2 ^ 64 ≤ 2 ^ i := Nat.pow_le_pow_right (by omega) hi
    have e2 : 2 ^ 63 + r < 2 ^ i := by omega
    have hd : decide (63 = i) = false := decide_eq_false (by omega)
    rw [Nat.testBit_lt_two_pow e2, Nat.testBit_lt_two_pow (by omega : r < 2 ^ i), hd]; rfl

theorem run_fneg (r : Nat) (h : r ≤ 9218868437227405312) (w : World) : (Op.unary .neg (.float .f64 r)).run Tryd.prog w = .ok (.float .f64 (9223372036854775808 + r)) w := by
  have e : Op.negFloat .f64 r = 9223372036854775808 + r := by
    exact xor_top r (by omega)
  show Result.ok (Value.float .f64 (Op.negFloat .f64 r)) w = _
  rw [e]

end Go.Proofs.YtfcgndgmbmkdgaaDoor

/- The laws' helper of: a number of three floats. -/
namespace Go.Proofs.YtfcgndgmbmkdgaaDoor
open Go.RowKit
attribute [local go_sem ↓] Go.wp_at_zero Go.wp_at_succ

theorem isNum_form {w : World} {v : Value} {x : Option Rat} (h : IsNum w v x) : ∃ a n c low neg nn, v = .agg #[.slice a n c, .int .i64 low, .bool neg, .bool nn] ∧ IsNum w (.agg #[.slice a n c, .int .i64 low, .bool neg, .bool nn]) x := by
  obtain ⟨a, ns, c, low, neg, nn, rfl, hr⟩ := h
  exact ⟨a, _, c, low, neg, nn, rfl, a, ns, c, low, neg, nn, rfl, hr⟩

theorem isNum_set4 {W : World} {v : Value} {x : Option Rat} {r : Nat} (h : IsNum W v x) (t0 : W.cell? ⟨r, 0, none⟩ = some (.slice none 0 0)) (t1 : W.cell? ⟨r, 1, none⟩ = some (.int .i64 0)) (t2 : W.cell? ⟨r, 2, none⟩ = some (.bool false)) (t3 : W.cell? ⟨r, 3, none⟩ = some (.bool false)) (v0 v1 v2 v3 : Value) :
    IsNum ((((W.setCell ⟨r, 0, none⟩ v0).setCell ⟨r, 1, none⟩ v1).setCell ⟨r, 2, none⟩ v2).setCell ⟨r, 3, none⟩ v3) v x := by
  obtain ⟨a, ns, c, low, neg, nn, rfl, hw, hr⟩ := h
  exact ⟨a, ns, c, low, neg, nn, rfl, ws4 hw t0 t1 t2 t3 v0 v1 v2 v3, hr⟩

theorem tab_set {W : World} (h : Tab W) (a : Addr) (v : Value) (ha : a.block ≠ 1) : Tab (W.setCell a v) := fun j hj => cell_other (h j hj) (fun e => ha e.symm) v

/-- What of makes of three numbers. -/
def OfX (x1 x2 x3 x : Option Rat) : Prop := ((x1.isSome && x2.isSome && x3.isSome) = false ∧ x = some 0) ∨ ∃ p q r, x1 = some p ∧ x2 = some q ∧ x3 = some r ∧ ∃ y, Norm (q * r) y ∧ Op2 (fun p q => p + q) x1 y x

theorem keep12 {w W W' : World} {p0 p1 p2 p3 p4 p5 p6 p7 p8 p9 p10 p11 : Addr} {x0 x1 x2 x3 x4 x5 x6 x7 x8 x9 x10 x11 : Value} (h : W.cell? p0 = some x0 ∧ W.cell? p1 = some x1 ∧ W.cell? p2 = some x2 ∧ W.cell? p3 = some x3 ∧ W.cell? p4 = some x4 ∧ W.cell? p5 = some x5 ∧ W.cell? p6 = some x6 ∧ W.cell? p7 = some x7 ∧ W.cell? p8 = some x8 ∧ W.cell? p9 = some x9 ∧ W.cell? p10 = some x10 ∧ W.cell? p11 = some x11 ∧ Below w.heap.size w W) (hb : Below W.heap.size W W') :
    W'.cell? p0 = some x0 ∧ W'.cell? p1 = some x1 ∧ W'.cell? p2 = some x2 ∧ W'.cell? p3 = some x3 ∧ W'.cell? p4 = some x4 ∧ W'.cell? p5 = some x5 ∧ W'.cell? p6 = some x6 ∧ W'.cell? p7 = some x7 ∧ W'.cell? p8 = some x8 ∧ W'.cell? p9 = some x9 ∧ W'.cell? p10 = some x10 ∧ W'.cell? p11 = some x11 ∧ Below w.heap.size w W' :=
  ⟨cell_later hb h.1, cell_later hb h.2.1, cell_later hb h.2.2.1, cell_later hb h.2.2.2.1, cell_later hb h.2.2.2.2.1, cell_later hb h.2.2.2.2.2.1, cell_later hb h.2.2.2.2.2.2.1, cell_later hb h.2.2.2.2.2.2.2.1, cell_later hb h.2.2.2.2.2.2.2.2.1, cell_later hb h.2.2.2.2.2.2.2.2.2.1, cell_later hb h.2.2.2.2.2.2.2.2.2.2.1, cell_later hb h.2.2.2.2.2.2.2.2.2.2.2.1, h.2.2.2.2.2.2.2.2.2.2.2.2.trans (hb.mono h.2.2.2.2.2.2.2.2.2.2.2.2.size)⟩

theorem keep12_set {w W : World} {p0 p1 p2 p3 p4 p5 p6 p7 p8 p9 p10 p11 : Addr} {x0 x1 x2 x3 x4 x5 x6 x7 x8 x9 x10 x11 : Value} (h : W.cell? p0 = some x0 ∧ W.cell? p1 = some x1 ∧ W.cell? p2 = some x2 ∧ W.cell? p3 = some x3 ∧ W.cell? p4 = some x4 ∧ W.cell? p5 = some x5 ∧ W.cell? p6 = some x6 ∧ W.cell? p7 = some x7 ∧ W.cell? p8 = some x8 ∧ W.cell? p9 = some x9 ∧ W.cell? p10 = some x10 ∧ W.cell? p11 = some x11 ∧ Below w.heap.size w W) (a : Addr) (v : Value) (hr : w.heap.size ≤ a.block) (h0 : p0.block ≠ a.block) (h1 : p1.block ≠ a.block) (h2 : p2.block ≠ a.block) (h3 : p3.block ≠ a.block) (h4 : p4.block ≠ a.block) (h5 : p5.block ≠ a.block) (h6 : p6.block ≠ a.block) (h7 : p7.block ≠ a.block) (h8 : p8.block ≠ a.block) (h9 : p9.block ≠ a.block) (h10 : p10.block ≠ a.block) (h11 : p11.block ≠ a.block) :
    (W.setCell a v).cell? p0 = some x0 ∧ (W.setCell a v).cell? p1 = some x1 ∧ (W.setCell a v).cell? p2 = some x2 ∧ (W.setCell a v).cell? p3 = some x3 ∧ (W.setCell a v).cell? p4 = some x4 ∧ (W.setCell a v).cell? p5 = some x5 ∧ (W.setCell a v).cell? p6 = some x6 ∧ (W.setCell a v).cell? p7 = some x7 ∧ (W.setCell a v).cell? p8 = some x8 ∧ (W.setCell a v).cell? p9 = some x9 ∧ (W.setCell a v).cell? p10 = some x10 ∧ (W.setCell a v).cell? p11 = some x11 ∧ Below w.heap.size w (W.setCell a v) :=
  ⟨cell_other h.1 h0 v, cell_other h.2.1 h1 v, cell_other h.2.2.1 h2 v, cell_other h.2.2.2.1 h3 v, cell_other h.2.2.2.2.1 h4 v, cell_other h.2.2.2.2.2.1 h5 v, cell_other h.2.2.2.2.2.2.1 h6 v, cell_other h.2.2.2.2.2.2.2.1 h7 v, cell_other h.2.2.2.2.2.2.2.2.1 h8 v, cell_other h.2.2.2.2.2.2.2.2.2.1 h9 v, cell_other h.2.2.2.2.2.2.2.2.2.2.1 h10 v, cell_other h.2.2.2.2.2.2.2.2.2.2.2.1 h11 v, h.2.2.2.2.2.2.2.2.2.2.2.2.setCell hr v⟩

theorem keep12_bel {w W : World} {p0 p1 p2 p3 p4 p5 p6 p7 p8 p9 p10 p11 : Addr} {x0 x1 x2 x3 x4 x5 x6 x7 x8 x9 x10 x11 : Value} (h : W.cell? p0 = some x0 ∧ W.cell? p1 = some x1 ∧ W.cell? p2 = some x2 ∧ W.cell? p3 = some x3 ∧ W.cell? p4 = some x4 ∧ W.cell? p5 = some x5 ∧ W.cell? p6 = some x6 ∧ W.cell? p7 = some x7 ∧ W.cell? p8 = some x8 ∧ W.cell? p9 = some x9 ∧ W.cell? p10 = some x10 ∧ W.cell? p11 = some x11 ∧ Below w.heap.size w W) : Below w.heap.size w W := h.2.2.2.2.2.2.2.2.2.2.2.2


/-- The number that of tells of three floats. -/
def ofR (b1 b2 b3 : Nat) : Rat := if frung b1 < 9218868437227405312 ∧ frung b2 < 9218868437227405312 ∧ frung b3 < 9218868437227405312 then fval b1 + fval b2 * fval b3 else 0

theorem ofR_bd (b1 b2 b3 : Nat) : Bd 2049 (-2148) (ofR b1 b2 b3) := by
  unfold ofR
  split
  · rename_i h
    have h1 := (fval_bd h.1).mono (h' := 2048) (l' := -2148) (by omega) (by omega)
    have h2 := (fval_bd h.2.1).mul (fval_bd h.2.2)
    exact h1.add (h2.mono (by omega) (by omega))
  · exact bd_zero _ _

theorem norm_may {q : Rat} {x : Option Rat} (h : Norm q x) (hm : May q) : x = some q := by
  rcases h with ⟨_, h⟩ | ⟨h, _⟩
  · exact h
  · exact absurd hm h

theorem op2_may {f : Rat → Rat → Rat} {p q : Rat} {x : Option Rat} (h : Op2 f (some p) (some q) x) (hm : May (f p q)) : x = some (f p q) := by
  rcases h with ⟨_, _, h1, h2, h⟩ | ⟨h, _⟩
  · cases h1; cases h2; exact norm_may h hm
  · rcases h with h | h <;> cases h

theorem ofW_any (b : Nat) (w : World) (hT : Tab w) (hb : b < 18446744073709551616) :
    Calls Tryd.prog 7 #[.float .f64 b] w fun e w' => OpR w w' (fun x => x = if frung b < 9218868437227405312 then some (fval b) else none) e := by
  by_cases h : frung b < 9218868437227405312
  · rw [if_pos h]; exact of_fin b w hT hb h
  · rw [if_neg h]; exact of_not b w hb h


end Go.Proofs.YtfcgndgmbmkdgaaDoor

/- Closed floats: what stands for what. -/
namespace Go.Proofs.YtfcgndgmbmkdgaaDoor

theorem p2_of (n : Nat) (e : Int) (h : e = (n : Int)) : p2 e = ((2 ^ n : Nat) : Rat) := by rw [h, p2_nat]

theorem p2_inv (e : Int) : p2 e = 1 / p2 (-e) := by
  have h := p2_neg e
  have h1 := p2_ne (-e)
  grind

/-- A float whose number is known. -/
theorem near_exact {q : Rat} {T k : Nat} (hq : 0 < q) (hl : Last q T) (he : q = ((2 * (k : Int) : Int) : Rat) * p2 ((T : Int) - 1075)) (hb : T * 4503599627370496 + k ≤ 9218868437227405312) : Near q (T * 4503599627370496 + k) := by
  refine Or.inr ⟨hq, T, k, hl, ?_, (Nat.min_eq_left hb).symm⟩
  have hu := p2_pos ((T : Int) - 1075)
  refine ⟨by rw [he]; exact le_int hu (by omega), by rw [he]; exact le_int hu (by omega), fun h => ?_, fun h => ?_⟩
  · rw [he] at h
    have := int_le hu (le_of_same h)
    omega
  · rw [he] at h
    have := int_le hu (le_of_same h.symm)
    omega

/-- The number m 2^e, where m has 53 bits. -/
theorem near_norm (T k : Nat) (q : Rat) (h1 : 4503599627370496 ≤ k) (h2 : k < 9007199254740992) (hb : T * 4503599627370496 + k ≤ 9218868437227405312) (he : q = ((k : Int) : Rat) * p2 ((T : Int) - 1074)) : Near q (T * 4503599627370496 + k) := by
  have hu := p2_pos ((T : Int) - 1075)
  have e1 : q = ((2 * (k : Int) : Int) : Rat) * p2 ((T : Int) - 1075) := by
    rw [he, show (T : Int) - 1074 = 1 + ((T : Int) - 1075) by omega, p2_add, p2_one, Rat.intCast_mul]
    have : ((2 : Int) : Rat) = 2 := rfl
    rw [this]; grind
  refine near_exact ?_ ⟨Or.inr ?_, ?_⟩ e1 hb
  · rw [e1]
    have := lt_int hu (show (0 : Int) < 2 * (k : Int) by omega)
    rwa [show ((0 : Int) : Rat) = 0 from rfl, Rat.zero_mul] at this
  · rw [e1]; exact le_int hu (by omega)
  · rw [e1]; exact lt_int hu (by omega)

end Go.Proofs.YtfcgndgmbmkdgaaDoor

/- The numbers of the first question: what is reckoned. -/
namespace Go.Proofs.YtfcgndgmbmkdgaaDoor

theorem floatOf_fun {q : Rat} {f g : Nat} (h1 : FloatOf q f) (h2 : FloatOf q g) : f = g := by
  rcases h1 with ⟨a, h1⟩ | ⟨a, r, h1, rfl⟩ <;> rcases h2 with ⟨b, h2⟩ | ⟨b, s, h2, rfl⟩
  · exact near_fun h1 h2
  · grind
  · grind
  · rw [near_fun h1 h2]

theorem highOf_fun {q : Rat} {h g : Int} (h1 : HighOf q h) (h2 : HighOf q g) : h = g := by
  have key : ∀ {x : Rat} {a b : Int}, p2 a ≤ x → x < p2 (b + 1) → a ≤ b := fun {x a b} h1 h2 => by
    have := p2_lt_iff.1 (lt_of_le_lt h1 h2); omega
  rcases h1 with ⟨a, h1⟩ | ⟨a, h1⟩ <;> rcases h2 with ⟨b, h2⟩ | ⟨b, h2⟩
  · rw [h1, h2]
  · exact absurd a b
  · exact absurd b a
  · have n1 := p2_pos h
    have n2 := p2_pos g
    rcases h1 with ⟨c, d⟩ | ⟨c, d⟩ <;> rcases h2 with ⟨c', d'⟩ | ⟨c', d'⟩
    · have := key c d'; have := key c' d; omega
    · grind
    · grind
    · have := key c d'; have := key c' d; omega

theorem low_le {m n : Int} {l g : Int} (h : ((2 * m + 1 : Int) : Rat) * p2 l = ((2 * n + 1 : Int) : Rat) * p2 g) : l ≤ g := by
  rcases Int.lt_or_le g l with h1 | h1
  · obtain ⟨j, hj⟩ : ∃ j : Nat, l = g + ((j + 1 : Nat) : Int) := ⟨(l - g - 1).toNat, by omega⟩
    rw [hj, p2_add, p2_nat] at h
    have hg := p2_ne g
    have e : ((2 * m + 1 : Int) : Rat) * ((2 ^ (j + 1) : Nat) : Rat) = ((2 * n + 1 : Int) : Rat) := by grind
    have e2 : (((2 * m + 1) * ((2 ^ (j + 1) : Nat) : Int) : Int) : Rat) = ((2 * n + 1 : Int) : Rat) := by rw [Rat.intCast_mul]; exact e
    have e3 := Rat.intCast_inj.1 e2
    rw [Nat.pow_succ, Int.natCast_mul] at e3
    generalize ((2 ^ j : Nat) : Int) = P at e3
    have e4 : (2 * m + 1) * (P * ((2 : Nat) : Int)) = 2 * ((2 * m + 1) * P) := by grind
    omega
  · exact h1

theorem lowOf_fun {q : Rat} {l g : Int} (h1 : LowOf q l) (h2 : LowOf q g) : l = g := by
  have nz : ∀ {m : Int} {l : Int}, ((2 * m + 1 : Int) : Rat) * p2 l ≠ 0 := fun {m l} h => by
    have hp := p2_ne l
    have e : ((2 * m + 1 : Int) : Rat) = ((0 : Int) : Rat) := by
      rw [show ((0 : Int) : Rat) = 0 from rfl]; grind
    have := Rat.intCast_inj.1 e
    omega
  rcases h1 with ⟨a, h1⟩ | ⟨m, h1⟩ <;> rcases h2 with ⟨b, h2⟩ | ⟨n, h2⟩
  · rw [h1, h2]
  · exact absurd (h2.symm.trans a) nz
  · exact absurd (h1.symm.trans b) nz
  · exact Int.le_antisymm (low_le (h1.symm.trans h2)) (low_le (h2.symm.trans h1))

def n05 : Rat := fval 4602678819172646912
def n025 : Rat := fval 4598175219545276416
def n075 : Rat := n05 + n025
def n100 : Rat := ((1 : Int) : Rat) * p2 100
def n101 : Rat := n100 + ((1 : Int) : Rat)
def n15 : Rat := ((3 : Int) : Rat) * ((-5 : Int) : Rat)

theorem p2m (e : Int) (n : Nat) (h : -e = (n : Int)) : p2 e = 1 / ((2 ^ n : Nat) : Rat) := by rw [p2_inv, h, p2_nat]

theorem n05_eq : n05 = 1 / 2 := by
  have h : n05 = ((fmag 4602678819172646912 : Nat) : Rat) * p2 (fpl 4602678819172646912) := (fval_pos_lt (by omega)).1
  rw [h, show fmag 4602678819172646912 = 4503599627370496 by decide, show fpl 4602678819172646912 = -53 by decide +kernel, p2m (-53) 53 rfl]
  decide +kernel

theorem n025_eq : n025 = 1 / 4 := by
  have h : n025 = ((fmag 4598175219545276416 : Nat) : Rat) * p2 (fpl 4598175219545276416) := (fval_pos_lt (by omega)).1
  rw [h, show fmag 4598175219545276416 = 4503599627370496 by decide, show fpl 4598175219545276416 = -54 by decide +kernel, p2m (-54) 54 rfl]
  decide +kernel

theorem n075_eq : n075 = 3 / 4 := by unfold n075; rw [n05_eq, n025_eq]; decide +kernel
theorem n100_eq : n100 = ((2 ^ 100 : Nat) : Rat) := by
  have h : p2 100 = ((2 ^ 100 : Nat) : Rat) := p2_nat 100
  unfold n100; rw [h]; decide +kernel
theorem n101_eq : n101 = ((2 ^ 100 + 1 : Nat) : Rat) := by unfold n101; rw [n100_eq]; decide +kernel
theorem n15_eq : n15 = -15 := by unfold n15; decide +kernel

theorem float075 {f : Nat} (h : FloatOf n075 f) : f = 4604930618986332160 := by
  refine floatOf_fun h (Or.inl ⟨by rw [n075_eq]; decide +kernel, ?_⟩)
  exact near_norm 1021 6755399441055744 _ (by omega) (by omega) (by omega) (by rw [n075_eq, p2m (((1021 : Nat) : Int) - 1074) 53 rfl]; decide +kernel)

theorem float15 {f : Nat} (h : FloatOf n15 f) : f = 13848005904210853888 := by
  refine floatOf_fun h (Or.inr ⟨by rw [n15_eq]; decide +kernel, 4624633867356078080, ?_, by decide +kernel⟩)
  exact near_norm 1025 8444249301319680 _ (by omega) (by omega) (by omega) (by rw [n15_eq, p2m (((1025 : Nat) : Int) - 1074) 49 rfl]; decide +kernel)

theorem float101 {f : Nat} (h : FloatOf n101 f) : f = 5057542381537067008 := by
  have e : p2 (((1122 : Nat) : Int) - 1075) = ((2 ^ 47 : Nat) : Rat) := p2_nat 47
  refine floatOf_fun h (Or.inl ⟨by rw [n101_eq]; decide +kernel, Or.inr ⟨by rw [n101_eq]; decide +kernel, 1122, 4503599627370496, ⟨Or.inr ?_, ?_⟩, ⟨?_, ?_, fun h => ?_, fun h => ?_⟩, by decide +kernel⟩⟩)
  all_goals (try rw [n101_eq, e] at h)
  all_goals (try rw [n101_eq, e])
  all_goals decide +kernel

theorem high075 {h : Int} (hh : HighOf n075 h) : h = -1 := by
  refine highOf_fun hh (Or.inr ⟨by rw [n075_eq]; decide +kernel, Or.inl ?_⟩)
  rw [n075_eq, p2m (-1) 1 rfl, show (-1 + 1 : Int) = 0 from rfl, p2_zero]
  decide +kernel

theorem low075 {h : Int} (hh : LowOf n075 h) : h = -2 := by
  refine lowOf_fun hh (Or.inr ⟨1, ?_⟩)
  rw [n075_eq, p2m (-2) 2 rfl]
  decide +kernel

theorem low101 {h : Int} (hh : LowOf n101 h) : h = 0 := by
  refine lowOf_fun hh (Or.inr ⟨2 ^ 99, ?_⟩)
  rw [n101_eq, p2_zero]
  decide +kernel

theorem sgn15 : sgnR n15 = -1 := by rw [n15_eq]; decide +kernel
theorem cmp101 : CmpX (some n101) (some n100) = 1 := by
  show cmpR n101 n100 = 1
  rw [n101_eq, n100_eq]; decide +kernel

end Go.Proofs.YtfcgndgmbmkdgaaDoor

/- The first question of each law: is something reckoned? -/
namespace Go.Proofs.YtfcgndgmbmkdgaaDoor
open Go.RowKit
attribute [local go_sem ↓] Go.wp_at_zero Go.wp_at_succ

theorem shiftX_may {k : Int} {p : Rat} {x : Option Rat} (h : ShiftX k (some p) x) (hm : May (p * p2 k)) : x = some (p * p2 k) := by
  rcases h with ⟨_, h1, h⟩ | ⟨h, _⟩
  · cases h1; exact norm_may h hm
  · cases h

theorem fin05 : Fin64 4602678819172646912 := by unfold Fin64 frung; decide
theorem fin025 : Fin64 4598175219545276416 := by unfold Fin64 frung; decide
theorem one_bd : Bd 64 0 ((1 : Int) : Rat) := int_bd 1 (by omega) (by omega)
theorem may100 : May n100 := (one_bd.shift 100).may (by omega) (by omega)
theorem may075 : May n075 := ((fval_bd fin05).add (fval_bd fin025)).may (by omega) (by omega)
theorem may15 : May n15 := ((int_bd 3 (by omega) (by omega)).mul (int_bd (-5) (by omega) (by omega))).may (by omega) (by omega)
theorem may101 : May n101 := (((one_bd.shift 100).mono (h' := 164) (l' := 0) (by omega) (by omega)).add (one_bd.mono (by omega) (by omega))).may (by omega) (by omega)

theorem same075 : (FloatKind.f64.format.order 4604930618986332160 4604930618986332160 == some .eq) = true := by decide
theorem same15 : (FloatKind.f64.format.order 13848005904210853888 13848005904210853888 == some .eq) = true := by decide
theorem same101 : (FloatKind.f64.format.order 5057542381537067008 5057542381537067008 == some .eq) = true := by decide

end Go.Proofs.YtfcgndgmbmkdgaaDoor

/- A box that is written anew. -/
namespace Go.Proofs.YtfcgndgmbmkdgaaDoor
open Go

/-- A number is what it was where a box that holds another is written anew. -/
theorem isNum_set4g {W : World} {v : Value} {x : Option Rat} {r n c : Nat} {a : Option Addr} {low : Int} {neg nn : Bool} (h : IsNum W v x) (t0 : W.cell? ⟨r, 0, none⟩ = some (.slice a n c)) (t1 : W.cell? ⟨r, 1, none⟩ = some (.int .i64 low)) (t2 : W.cell? ⟨r, 2, none⟩ = some (.bool neg)) (t3 : W.cell? ⟨r, 3, none⟩ = some (.bool nn)) (v0 v1 v2 v3 : Value) :
    IsNum ((((W.setCell ⟨r, 0, none⟩ v0).setCell ⟨r, 1, none⟩ v1).setCell ⟨r, 2, none⟩ v2).setCell ⟨r, 3, none⟩ v3) v x := by
  obtain ⟨a', ns, c', low', neg', nn', rfl, hw, hr⟩ := h
  refine ⟨a', ns, c', low', neg', nn', rfl, ?_, hr⟩
  have o : ∀ (W : World) (i j : Nat) (x : Value) (v : Value), i ≠ j → W.cell? ⟨r, i, none⟩ = some x → (W.setCell ⟨r, j, none⟩ v).cell? ⟨r, i, none⟩ = some x := fun W i j x v hij hx => by
    rw [World.cell?_setCell_other W _ _ v (by intro e; cases e; exact hij rfl)]; exact hx
  have a1 := hw.set t0 (by intro n; simp) v0
  have a2 := a1.set (o _ 1 0 _ v0 (by omega) t1) (by intro n; simp) v1
  have a3 := a2.set (o _ 2 1 _ v1 (by omega) (o _ 2 0 _ v0 (by omega) t2)) (by intro n; simp) v2
  exact a3.set (o _ 3 2 _ v2 (by omega) (o _ 3 1 _ v1 (by omega) (o _ 3 0 _ v0 (by omega) t3))) (by intro n; simp) v3

/-- Four cells of a box, written anew. -/
theorem set4_cells {W : World} {r : Nat} {x0 x1 x2 x3 : Value} (t0 : W.cell? ⟨r, 0, none⟩ = some x0) (t1 : W.cell? ⟨r, 1, none⟩ = some x1) (t2 : W.cell? ⟨r, 2, none⟩ = some x2) (t3 : W.cell? ⟨r, 3, none⟩ = some x3) (v0 v1 v2 v3 : Value) :
    let W' := (((W.setCell ⟨r, 0, none⟩ v0).setCell ⟨r, 1, none⟩ v1).setCell ⟨r, 2, none⟩ v2).setCell ⟨r, 3, none⟩ v3
    W'.cell? ⟨r, 0, none⟩ = some v0 ∧ W'.cell? ⟨r, 1, none⟩ = some v1 ∧ W'.cell? ⟨r, 2, none⟩ = some v2 ∧ W'.cell? ⟨r, 3, none⟩ = some v3 := by
  have s : ∀ (W : World) (p : Addr) (x v : Value), W.cell? p = some x → (W.setCell p v).cell? p = some v := fun W p x v h => World.cell?_setCell_same W p v (by rw [h])
  have o : ∀ (W : World) (i j : Nat) (x : Value) (v : Value), i ≠ j → W.cell? ⟨r, i, none⟩ = some x → (W.setCell ⟨r, j, none⟩ v).cell? ⟨r, i, none⟩ = some x := fun W i j x v hij hx => by
    rw [World.cell?_setCell_other W _ _ v (by intro e; cases e; exact hij rfl)]; exact hx
  refine ⟨?_, ?_, ?_, ?_⟩
  · exact o _ 0 3 _ _ (by omega) (o _ 0 2 _ _ (by omega) (o _ 0 1 _ _ (by omega) (s _ _ _ _ t0)))
  · exact o _ 1 3 _ _ (by omega) (o _ 1 2 _ _ (by omega) (s _ _ _ _ (o _ 1 0 _ _ (by omega) t1)))
  · exact o _ 2 3 _ _ (by omega) (s _ _ _ _ (o _ 2 1 _ _ (by omega) (o _ 2 0 _ _ (by omega) t2)))
  · exact s _ _ _ _ (o _ 3 2 _ _ (by omega) (o _ 3 1 _ _ (by omega) (o _ 3 0 _ _ (by omega) t3)))

end Go.Proofs.YtfcgndgmbmkdgaaDoor

/- What the laws of order and of the ring ask, in plain numbers. -/
namespace Go.Proofs.YtfcgndgmbmkdgaaDoor

theorem cmpR_self (p : Rat) : cmpR p p = 0 := by unfold cmpR; rw [if_neg Rat.lt_irrefl, if_neg Rat.lt_irrefl]
theorem cmpR_neg (p q : Rat) : cmpR q p = -cmpR p q := by
  unfold cmpR
  rcases Rat.le_total (a := p) (b := q) with h | h
  all_goals grind
theorem cmpR_sub (p q : Rat) : sgnR (p - q) = cmpR p q := by unfold sgnR cmpR; grind
theorem cmpR_add (p q r : Rat) : cmpR (p + r) (q + r) = cmpR p q := by unfold cmpR; grind
theorem sgnR_neg (p : Rat) : sgnR (-p) = -sgnR p := by
  unfold sgnR cmpR
  rcases Rat.le_total (a := p) (b := 0) with h | h
  all_goals grind
theorem sgnR_zero : sgnR 0 = 0 := by unfold sgnR; exact cmpR_self 0
theorem sgnR_mul (p q : Rat) : sgnR (p * q) = sgnR p * sgnR q := by
  have key : ∀ x : Rat, (0 < x ∧ sgnR x = 1) ∨ (x = 0 ∧ sgnR x = 0) ∨ (x < 0 ∧ sgnR x = -1) := fun x => by
    unfold sgnR cmpR
    rcases Rat.le_total (a := x) (b := 0) with h | h
    all_goals grind
  have pos : ∀ {x : Rat}, 0 < x → sgnR x = 1 := fun {x} h => by rcases key x with ⟨_, e⟩ | ⟨e, _⟩ | ⟨e, _⟩ <;> grind
  have neg : ∀ {x : Rat}, x < 0 → sgnR x = -1 := fun {x} h => by rcases key x with ⟨e, _⟩ | ⟨e, _⟩ | ⟨_, e⟩ <;> grind
  rcases key p with ⟨hp, ep⟩ | ⟨hp, ep⟩ | ⟨hp, ep⟩ <;> rcases key q with ⟨hq, eq⟩ | ⟨hq, eq⟩ | ⟨hq, eq⟩ <;> rw [ep, eq]
  · exact pos (Rat.mul_pos hp hq)
  · rw [hq, Rat.mul_zero, sgnR_zero]; rfl
  · have := Rat.mul_pos hp (by grind : 0 < -q); exact neg (by grind)
  · rw [hp, Rat.zero_mul, sgnR_zero]; rfl
  · rw [hp, Rat.zero_mul, sgnR_zero]; rfl
  · rw [hp, Rat.zero_mul, sgnR_zero]; rfl
  · have := Rat.mul_pos (by grind : 0 < -p) hq; exact neg (by grind)
  · rw [hq, Rat.mul_zero, sgnR_zero]; rfl
  · have := Rat.mul_pos (by grind : 0 < -p) (by grind : 0 < -q); exact pos (by grind)

theorem cmpR_trans {p q r : Rat} (h1 : 0 ≤ cmpR p q) (h2 : 0 ≤ cmpR q r) : 0 ≤ cmpR p r := by
  unfold cmpR at *
  grind
theorem cmpR_pos {p q : Rat} (h : 0 < cmpR p q) : q < p := by unfold cmpR at h; grind

/-- A shift and back. -/
theorem shift_back (p : Rat) (k : Int) : p * p2 k * p2 (-k) = p := by
  have h := p2_neg k
  grind

end Go.Proofs.YtfcgndgmbmkdgaaDoor
