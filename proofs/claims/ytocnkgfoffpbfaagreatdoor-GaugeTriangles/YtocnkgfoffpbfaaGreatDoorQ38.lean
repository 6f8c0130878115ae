/- Own texts, put together: Nh Fa Fe Ff Fg Fh Fi Fj La Lb Lc Ld Gg. -/
import Derived.Test.YtocnkgfoffpbfaaGreatDoorQ2
import Derived.Test.YtocnkgfoffpbfaaGreatDoorQ3
import Derived.Test.YtocnkgfoffpbfaaGreatDoorQ7
import Derived.Test.YtocnkgfoffpbfaaGreatDoorQ13
import Derived.Test.YtocnkgfoffpbfaaGreatDoorQ33
import Derived.Test.YtocnkgfoffpbfaaGreatDoorQ34
/- Cmp, High and Low. -/
namespace Go.Proofs.YtocnkgfoffpbfaaGreatDoor
open Go.RowKit
attribute [local go_sem ↓] Go.wp_at_zero Go.wp_at_succ

theorem keep8 {w W W' : World} {p0 p1 p2 p3 p4 p5 p6 p7 : Addr} {x0 x1 x2 x3 x4 x5 x6 x7 : Value} (h : W.cell? p0 = some x0 ∧ W.cell? p1 = some x1 ∧ W.cell? p2 = some x2 ∧ W.cell? p3 = some x3 ∧ W.cell? p4 = some x4 ∧ W.cell? p5 = some x5 ∧ W.cell? p6 = some x6 ∧ W.cell? p7 = some x7 ∧ Below w.heap.size w W) (hb : Below W.heap.size W W') :
   W'.cell? p0 = some x0 ∧ W'.cell? p1 = some x1 ∧ W'.cell? p2 = some x2 ∧ W'.cell? p3 = some x3 ∧ W'.cell? p4 = some x4 ∧ W'.cell? p5 = some x5 ∧ W'.cell? p6 = some x6 ∧ W'.cell? p7 = some x7 ∧ Below w.heap.size w W' :=
 ⟨cell_later hb h.1, cell_later hb h.2.1, cell_later hb h.2.2.1, cell_later hb h.2.2.2.1, cell_later hb h.2.2.2.2.1, cell_later hb h.2.2.2.2.2.1, cell_later hb h.2.2.2.2.2.2.1, cell_later hb h.2.2.2.2.2.2.2.1, h.2.2.2.2.2.2.2.2.trans (hb.mono h.2.2.2.2.2.2.2.2.size)⟩

theorem bel8 {w W : World} {p0 p1 p2 p3 p4 p5 p6 p7 : Addr} {x0 x1 x2 x3 x4 x5 x6 x7 : Value} (h : W.cell? p0 = some x0 ∧ W.cell? p1 = some x1 ∧ W.cell? p2 = some x2 ∧ W.cell? p3 = some x3 ∧ W.cell? p4 = some x4 ∧ W.cell? p5 = some x5 ∧ W.cell? p6 = some x6 ∧ W.cell? p7 = some x7 ∧ Below w.heap.size w W) : Below w.heap.size w W := h.2.2.2.2.2.2.2.2

theorem sg_range (q : Rat) : -1 ≤ sgnR q ∧ sgnR q ≤ 1 := by unfold sgnR cmpR; split <;> (try split) <;> omega

theorem cmpR_range (p q : Rat) : -1 ≤ cmpR p q ∧ cmpR p q ≤ 1 := by unfold cmpR; split <;> (try split) <;> omega

theorem cmp_signs {p q : Rat} (h : sgnR p ≠ sgnR q) : cmpI (sgnR p) (sgnR q) = cmpR p q := by
 unfold sgnR cmpR at *
 unfold cmpI
 rcases Rat.le_total (a := p) (b := 0) with h1 | h1 <;> rcases Rat.le_total (a := q) (b := 0) with h2 | h2
 all_goals grind

theorem cmp_mags {p q : Rat} {neg1 neg2 : Bool} (hp : 0 ≤ p) (hq : 0 ≤ q) (h : sgnR (sg neg1 * p) = sgnR (sg neg2 * q)) : sgnR (sg neg1 * p) * cmpR p q = cmpR (sg neg1 * p) (sg neg2 * q) := by
 unfold sgnR cmpR sg at *
 cases neg1 <;> cases neg2 <;> simp only [Bool.false_eq_true, if_false, if_true] at h ⊢
 all_goals grind

set_option maxHeartbeats 1000000 in
theorem cmp_none1 (a1 a2 : Option Addr) (n1 n2 c1 c2 : Nat) (low1 low2 : Int) (neg1 neg2 nn2 : Bool) (w : World) :
   Calls Tryz.prog 30 #[.agg #[.slice a1 n1 c1, .int .i64 low1, .bool neg1, .bool true], .agg #[.slice a2 n2 c2, .int .i64 low2, .bool neg2, .bool nn2]] w fun e w' => e = .returned (.int .i64 0) ∧ Below w.heap.size w w' := by
 go_enter Tryz.func30, Tryz.ntmps30
 go_wp2
 go_ret
 exact ⟨rfl, ((Below.refl _ _).alloc (Nat.le_refl _) _).alloc (by simp) _⟩

set_option maxHeartbeats 1000000 in
theorem cmp_none2 (a1 a2 : Option Addr) (n1 n2 c1 c2 : Nat) (low1 low2 : Int) (neg1 neg2 : Bool) (w : World) :
   Calls Tryz.prog 30 #[.agg #[.slice a1 n1 c1, .int .i64 low1, .bool neg1, .bool false], .agg #[.slice a2 n2 c2, .int .i64 low2, .bool neg2, .bool true]] w fun e w' => e = .returned (.int .i64 0) ∧ Below w.heap.size w w' := by
 go_enter Tryz.func30, Tryz.ntmps30
 go_wp2
 go_ret
 exact ⟨rfl, ((Below.refl _ _).alloc (Nat.le_refl _) _).alloc (by simp) _⟩

set_option maxHeartbeats 2000000 in
theorem cmp_walk (a1 a2 : Option Addr) (c1 c2 : Nat) (ns1 ns2 : List Nat) (low1 low2 : Int) (neg1 neg2 : Bool) (w : World) (m1 : IsMag w (.slice a1 ns1.length c1) ns1 low1) (m2 : IsMag w (.slice a2 ns2.length c2) ns2 low2) :
   Calls Tryz.prog 30 #[.agg #[.slice a1 ns1.length c1, .int .i64 low1, .bool neg1, .bool false], .agg #[.slice a2 ns2.length c2, .int .i64 low2, .bool neg2, .bool false]] w fun e w' => e = .returned (.int .i64 (cmpR (sg neg1 * magR ns1 low1) (sg neg2 * magR ns2 low2))) ∧ Below w.heap.size w w' := by
 have HB0 : Hid (Below w.heap.size w ((w.alloc (.cells #[.slice a1 ns1.length c1, .int .i64 low1, .bool neg1, .bool false] 49)).alloc (.cells #[.slice a2 ns2.length c2, .int .i64 low2, .bool neg2, .bool false] 49))) := ((Below.refl _ _).alloc (Nat.le_refl _) _).alloc (by simp) _
 have M1 : Hid (IsMag w (.slice a1 ns1.length c1) ns1 low1) := m1
 have M2 : Hid (IsMag w (.slice a2 ns2.length c2) ns2 low2) := m2
 have hs1 := sgn_num (neg := neg1) m1.own
 have hs2 := sgn_num (neg := neg2) m2.own
 have r1 := sg_range (sg neg1 * magR ns1 low1)
 have r2 := cmpR_range (magR ns1 low1) (magR ns2 low2)
 have HF1 : Hid (sgnR (sg neg1 * magR ns1 low1) ≠ sgnR (sg neg2 * magR ns2 low2) → cmpI (sgnR (sg neg1 * magR ns1 low1)) (sgnR (sg neg2 * magR ns2 low2)) = cmpR (sg neg1 * magR ns1 low1) (sg neg2 * magR ns2 low2)) := cmp_signs
 have HF2 : Hid (sgnR (sg neg1 * magR ns1 low1) = sgnR (sg neg2 * magR ns2 low2) → sgnR (sg neg1 * magR ns1 low1) * cmpR (magR ns1 low1) (magR ns2 low2) = cmpR (sg neg1 * magR ns1 low1) (sg neg2 * magR ns2 low2)) := cmp_mags (magR_nonneg _ _) (magR_nonneg _ _)
 have HS1 : Hid _ := hs1
 have HS2 : Hid _ := hs2
 clear hs1 hs2 m1 m2
 generalize hg1 : sgnR (sg neg1 * magR ns1 low1) = g1 at *
 generalize hg2 : sgnR (sg neg2 * magR ns2 low2) = g2 at *
 generalize hg3 : cmpR (sg neg1 * magR ns1 low1) (sg neg2 * magR ns2 low2) = g3 at *
 clear hg1 hg2 hg3
 go_enter Tryz.func30, Tryz.ntmps30
 go_wp2
 go_region_held3 (fun W => W.cell? ⟨w.heap.size, 0, none⟩ = some (.slice a1 ns1.length c1) ∧ W.cell? ⟨w.heap.size, 1, none⟩ = some (.int .i64 low1) ∧ W.cell? ⟨w.heap.size, 2, none⟩ = some (.bool neg1) ∧ W.cell? ⟨w.heap.size, 3, none⟩ = some (.bool false) ∧ W.cell? ⟨w.heap.size + 1, 0, none⟩ = some (.slice a2 ns2.length c2) ∧ W.cell? ⟨w.heap.size + 1, 1, none⟩ = some (.int .i64 low2) ∧ W.cell? ⟨w.heap.size + 1, 2, none⟩ = some (.bool neg2) ∧ W.cell? ⟨w.heap.size + 1, 3, none⟩ = some (.bool false) ∧ Below w.heap.size w W)
   (first
     | assumption
     | exact ⟨by go_simp, by go_simp, by go_simp, by go_simp, by go_simp, by go_simp, by go_simp, by go_simp, HB0.out.drew⟩
     | exact keep8 (by assumption) (by assumption))
   (first
     | (go_at_call_of 37 low1; refine (sign_walk _ _ _ _ _ _ _).mono ?_; rw [HS1.out]; rintro e wx ⟨rfl, hbx⟩)
     | (go_at_call_of 37 low2; refine (sign_walk _ _ _ _ _ _ _).mono ?_; rw [HS2.out]; rintro e wx ⟨rfl, hbx⟩)
     | (go_at_call 70; refine (cmpInt_any _ _ _).mono ?_; rintro e wz ⟨rfl, rfl⟩))
 have hh := (by assumption : wz.cell? ⟨w.heap.size, 0, none⟩ = _ ∧ wz.cell? ⟨w.heap.size, 1, none⟩ = _ ∧ wz.cell? ⟨w.heap.size, 2, none⟩ = _ ∧ wz.cell? ⟨w.heap.size, 3, none⟩ = _ ∧ wz.cell? _ = _ ∧ wz.cell? _ = _ ∧ wz.cell? _ = _ ∧ wz.cell? _ = _ ∧ Below w.heap.size w wz)
 obtain ⟨q0, q1, q2, q3, q4, q5, q6, q7, q8⟩ := hh
 have Q8 : Hid (Below w.heap.size w wz) := q8
 clear q8
 by_cases hg : g1 = g2
 · have hz : (cmpI g1 g2 != 0) = false := by rw [hg]; simp [cmpI]
   have hf := HF2.out hg
   have hw : IntKind.i64.wrap (g1 * cmpR (magR ns1 low1) (magR ns2 low2)) = g3 := by
     rw [hf]
     refine wrapI _ ?_ ?_
     · rw [← hf]
       have : g1 = -1 ∨ g1 = 0 ∨ g1 = 1 := by omega
       rcases this with h | h | h <;> rw [h] <;> omega
     · rw [← hf]
       have : g1 = -1 ∨ g1 = 0 ∨ g1 = 1 := by omega
       rcases this with h | h | h <;> rw [h] <;> omega
   have HG : Hid (g1 = g2) := hg
   clear hf hg
   generalize cmpI g1 g2 = cc at *
   generalize h4 : cmpR (magR ns1 low1) (magR ns2 low2) = c4 at *
   have H4 : Hid (cmpR (magR ns1 low1) (magR ns2 low2) = c4) := h4
   clear h4
   go_wp2
   go_region_held3 (fun W => W.cell? ⟨w.heap.size, 0, none⟩ = some (.slice a1 ns1.length c1) ∧ W.cell? ⟨w.heap.size, 1, none⟩ = some (.int .i64 low1) ∧ W.cell? ⟨w.heap.size, 2, none⟩ = some (.bool neg1) ∧ W.cell? ⟨w.heap.size, 3, none⟩ = some (.bool false) ∧ W.cell? ⟨w.heap.size + 1, 0, none⟩ = some (.slice a2 ns2.length c2) ∧ W.cell? ⟨w.heap.size + 1, 1, none⟩ = some (.int .i64 low2) ∧ W.cell? ⟨w.heap.size + 1, 2, none⟩ = some (.bool neg2) ∧ W.cell? ⟨w.heap.size + 1, 3, none⟩ = some (.bool false) ∧ Below w.heap.size w W)
     (first
       | assumption
       | exact ⟨q0, q1, q2, q3, q4, q5, q6, q7, Q8.out.drew⟩
       | exact keep8 (by assumption) (by assumption))
     (first
       | (go_at_call 37; refine (sign_walk _ _ _ _ _ _ _).mono ?_; rw [HS1.out]; rintro e wx ⟨rfl, hbx⟩)
       | (go_at_call 71; refine (against_any _ _ ns1 ns2 _ _ _ (M1.out.later (bel8 (by assumption))) (M2.out.later (bel8 (by assumption)))).mono ?_; rw [H4.out]; rintro e wy ⟨rfl, hby⟩))
   have hBf := (by assumption : wy.cell? ⟨w.heap.size, 0, none⟩ = _ ∧ wy.cell? ⟨w.heap.size, 1, none⟩ = _ ∧ wy.cell? ⟨w.heap.size, 2, none⟩ = _ ∧ wy.cell? ⟨w.heap.size, 3, none⟩ = _ ∧ wy.cell? _ = _ ∧ wy.cell? _ = _ ∧ wy.cell? _ = _ ∧ wy.cell? _ = _ ∧ Below w.heap.size w wy).2.2.2.2.2.2.2.2
   have HBF : Hid _ := hBf
   clear hBf
   go_wp2
   go_ret
   exact ⟨rfl, HBF.out⟩
 · have hz : (cmpI g1 g2 != 0) = true := by
     rw [bne_iff_ne]; unfold cmpI; split
     · omega
     · split <;> omega
   have hf := HF1.out hg
   clear hg
   generalize cmpI g1 g2 = cc at *
   subst hf
   go_wp2
   go_ret
   exact ⟨rfl, Q8.out⟩

def CmpX (a b : Option Rat) : Int := match a, b with
 | some p, some q => cmpR p q
 | _, _ => 0

theorem cmp_any (va vb : Value) (a b : Option Rat) (w : World) (ha : IsNum w va a) (hb : IsNum w vb b) :
   Calls Tryz.prog 30 #[va, vb] w fun e w' => e = .returned (.int .i64 (CmpX a b)) ∧ Below w.heap.size w w' := by
 obtain ⟨a1, ns1, c1, low1, neg1, nn1, rfl, p2, p3, p4, p5, p6, p7, p8⟩ := ha
 obtain ⟨a2, ns2, c2, low2, neg2, nn2, rfl, r2, r3, r4, r5, r6, r7, r8⟩ := hb
 cases nn1 with
 | true =>
   rw [(p7 rfl).2]
   exact cmp_none1 a1 a2 _ _ c1 c2 low1 low2 neg1 neg2 nn2 w
 | false =>
   cases nn2 with
   | true =>
     rw [p8 rfl, (r7 rfl).2]
     exact cmp_none2 a1 a2 _ _ c1 c2 low1 low2 neg1 neg2 w
   | false =>
     rw [p8 rfl, r8 rfl]
     exact cmp_walk a1 a2 c1 c2 ns1 ns2 low1 low2 neg1 neg2 w ⟨p2, p3, p4, p5⟩ ⟨r2, r3, r4, r5⟩

end Go.Proofs.YtocnkgfoffpbfaaGreatDoor

/- Floats: the small functions of package math, on words, lie in B0. -/

/- Of and Int: the numbers that a float and a whole number are. -/
namespace Go.Proofs.YtocnkgfoffpbfaaGreatDoor
open Go.RowKit

theorem row_one {w : World} {g x : Nat} (hc : w.cell? ⟨g, 0, none⟩ = some (.int .u64 (x : Nat))) (hg : g < w.heap.size) (hx : x < 18446744073709551616) : Ws w (.slice (some ⟨g, 0, none⟩) 1 1) [x] :=
 ⟨⟨_, _, rfl, Nat.le_refl _, Or.inr ⟨g, 0, rfl, hg, fun j hj => by
   have : j = 0 := by simpa using hj
   subst this
   simpa using hc⟩⟩, fun n hn => by simp at hn; omega, by simp⟩

theorem val_one (x : Nat) : val [x] = x := by simp [val]

end Go.Proofs.YtocnkgfoffpbfaaGreatDoor

/- Of: the number that a float denotes. -/
namespace Go.Proofs.YtocnkgfoffpbfaaGreatDoor
open Go.RowKit

set_option maxHeartbeats 2000000 in
theorem of_core (b r part fl M : Nat) (ex low : Int) (ng : Bool) (w : World) (hT : Tab w)
   (hnan : ∀ w, Calls Tryz.prog 78 #[.float .f64 b] w fun e w' => e = .returned (.bool false) ∧ w' = w)
   (hinf : ∀ w, Calls Tryz.prog 79 #[.float .f64 b, .int .i64 0] w fun e w' => e = .returned (.bool false) ∧ w' = w)
   (habs : ∀ w, Calls Tryz.prog 42 #[.float .f64 b] w fun e w' => e = .returned (.float .f64 r) ∧ w' = w)
   (hfr : ∀ w, Calls Tryz.prog 80 #[.float .f64 r] w fun e w' => e = .returned (.tuple #[.float .f64 part, .int .i64 ex]) ∧ w' = w)
   (hld : ∀ w, Calls Tryz.prog 81 #[.float .f64 part, .int .i64 53] w fun e w' => e = .returned (.float .f64 fl) ∧ w' = w)
   (hcv : floatToIntVal .f64 fl .u64 = some (M : Int)) (hM : M < 18446744073709551616) (hlow : ex - 52 - 1 = low) (he1 : -2000 ≤ ex) (he2 : ex ≤ 2000) (hng : (FloatKind.f64.format.order b 0 == some .lt) = ng) :
   Calls Tryz.prog 45 #[.float .f64 b] w fun e w' => NumR w w' (sg ng * ((M : Nat) * p2 low)) e := by
 have HT : Hid (Tab w) := hT
 have HM : Hid (M < 18446744073709551616) := hM
 have H1 : Hid _ := hnan
 have H2 : Hid _ := hinf
 have H3 : Hid _ := habs
 have H4 : Hid _ := hfr
 have H5 : Hid _ := hld
 have hconv : ∀ w, (convert 22 86 (.float .f64 fl)).run Tryz.prog w = .ok (.int .u64 (M : Nat)) w := fun w => run_convert_float_int w _ _ _ _ _ _ (by rw [Tryz.underlying22]; rfl) Tryz.underlying86 hcv
 have HB0 : Hid (Below w.heap.size w (((w.alloc (.cells #[.slice none 0 0, .int .i64 0, .bool false, .bool false] 49)).alloc (.cells #[.int .u64 (M : Nat)] 86)).alloc (.cells #[.slice (some ⟨w.heap.size + 1, 0, none⟩) 1 1, .int .i64 low] 47))) := (((Below.refl _ _).alloc (Nat.le_refl _) _).alloc (by simp) _).alloc (by simp; omega) _
 have HW : Hid (Ws (((w.alloc (.cells #[.slice none 0 0, .int .i64 0, .bool false, .bool false] 49)).alloc (.cells #[.int .u64 (M : Nat)] 86)).alloc (.cells #[.slice (some ⟨w.heap.size + 1, 0, none⟩) 1 1, .int .i64 low] 47)) (.slice (some ⟨w.heap.size + 1, 0, none⟩) 1 1) [M]) := row_one (by go_simp) (by simp) HM.out
 have hl1 : -3000 ≤ low := by omega
 have hl2 : low ≤ 3000 := by omega
 clear hT hM hnan hinf habs hfr hld hcv
 go_enter Tryz.func45, Tryz.ntmps45
 go_wp2_with (first
   | (go_at_call 78; refine (H1.out _).mono ?_; rintro e w' ⟨rfl, rfl⟩)
   | (go_at_call 79; refine (H2.out _).mono ?_; rintro e w' ⟨rfl, rfl⟩)
   | (go_at_call 42; refine (H3.out _).mono ?_; rintro e w' ⟨rfl, rfl⟩)
   | (go_at_call 80; refine (H4.out _).mono ?_; rintro e w' ⟨rfl, rfl⟩)
   | (go_at_call 81; refine (H5.out _).mono ?_; rintro e w' ⟨rfl, rfl⟩))
 refine (own_any _ [M] _ _ HW.out (HT.out.later HB0.out) (by omega) (by omega)).mono ?_
 rintro e w5 ⟨s5, ns5, low5, rfl, hws5, ho5, ht5, hlo5, hb5⟩
 have hq5 := tells_magR ht5
 rw [val_one] at hq5
 go_wp2_with fail
 refine (number_any _ ns5 _ _ _ hws5 ho5 hlo5.1 hlo5.2).mono ?_
 rintro e w6 ⟨v9, x9, rfl, ⟨a9, ns9, c9, low9, neg9, nn9, rfl, hws9, hrest⟩, hN9, hb6⟩
 have hB6 := thru hb5 hb6
 have t0 : w6.cell? ⟨w.heap.size, 0, none⟩ = some (.slice none 0 0) := cell_later hB6 (by go_simp)
 have t1 : w6.cell? ⟨w.heap.size, 1, none⟩ = some (.int .i64 0) := cell_later hB6 (by go_simp)
 have t2 : w6.cell? ⟨w.heap.size, 2, none⟩ = some (.bool false) := cell_later hB6 (by go_simp)
 have t3 : w6.cell? ⟨w.heap.size, 3, none⟩ = some (.bool false) := cell_later hB6 (by go_simp)
 have u0 : ∀ i, w6.frozen? ⟨w.heap.size, i, none⟩ = false := fun i => frozen_later hB6 (by go_simp) (by simp; omega)
 have HB6 : Hid (Below w.heap.size w w6) := thru HB0.out hB6
 rw [hq5] at hN9
 have HN9 : Hid _ := hN9
 clear hb5 hb6 hB6 hq5 hlo5 hws5 ho5 hN9 HB0 ht5
 have HRST : Hid _ := hrest
 clear hrest
 go_wp2
 refine bodyPost_ret (v := .agg #[.slice a9 ns9.length c9, .int .i64 low9, .bool neg9, .bool nn9]) (by simp [results, Tryz.results45, go_sem, t0, t1, t2, t3]) rfl ?_
 have hw9 := ws4 hws9 t0 t1 t2 t3 (.slice a9 ns9.length c9) (.int .i64 low9) (.bool neg9) (.bool nn9)
 refine ⟨_, x9, rfl, ⟨a9, ns9, c9, low9, neg9, nn9, rfl, hw9, HRST.out⟩, HN9.out, ?_⟩
 repeat (first | exact HB6.out | refine Below.drew ?_ | refine Below.setCell ?_ (by simp) _)

set_option maxHeartbeats 1000000 in
theorem of_nan (b : Nat) (w : World) (h : isnan b = true) :
   Calls Tryz.prog 45 #[.float .f64 b] w fun e w' => e = .returned (.agg #[.slice none 0 0, .int .i64 0, .bool false, .bool true]) ∧ Below w.heap.size w w' := by
 have H1 : Hid (∀ w, Calls Tryz.prog 78 #[.float .f64 b] w fun e w' => e = .returned (.bool true) ∧ w' = w) := fun w => by have := isNaN_any b w; rwa [h] at this
 clear h
 go_enter Tryz.func45, Tryz.ntmps45
 go_wp2_with (first
   | (go_at_call 78; refine (H1.out _).mono ?_; rintro e w' ⟨rfl, rfl⟩))
 refine bodyPost_ret (v := .agg #[.slice none 0 0, .int .i64 0, .bool false, .bool true]) (by simp [results, Tryz.results45, go_sem]) rfl ⟨rfl, ?_⟩
 exact (Below.refl _ _).alloc (Nat.le_refl _) _

set_option maxHeartbeats 1000000 in
theorem of_inf (b : Nat) (w : World) (hb : b < 18446744073709551616) (h0 : isnan b = false) (h : isinf b = true) :
   Calls Tryz.prog 45 #[.float .f64 b] w fun e w' => e = .returned (.agg #[.slice none 0 0, .int .i64 0, .bool false, .bool true]) ∧ Below w.heap.size w w' := by
 have H1 : Hid (∀ w, Calls Tryz.prog 78 #[.float .f64 b] w fun e w' => e = .returned (.bool false) ∧ w' = w) := fun w => by have := isNaN_any b w; rwa [h0] at this
 have H2 : Hid (∀ w, Calls Tryz.prog 79 #[.float .f64 b, .int .i64 0] w fun e w' => e = .returned (.bool true) ∧ w' = w) := fun w => by have := isInf0_any b w hb; rwa [h] at this
 clear h h0 hb
 go_enter Tryz.func45, Tryz.ntmps45
 go_wp2_with (first
   | (go_at_call 78; refine (H1.out _).mono ?_; rintro e w' ⟨rfl, rfl⟩)
   | (go_at_call 79; refine (H2.out _).mono ?_; rintro e w' ⟨rfl, rfl⟩))
 refine bodyPost_ret (v := .agg #[.slice none 0 0, .int .i64 0, .bool false, .bool true]) (by simp [results, Tryz.results45, go_sem]) rfl ⟨rfl, ?_⟩
 exact (Below.refl _ _).alloc (Nat.le_refl _) _

theorem neg_flag {b : Nat} (h : Fin64 b) : (FloatKind.f64.format.order b 0 == some .lt) = (fneg b && !(frung b == 0)) := by
 show (Ieee.double.order b 0 == some .lt) = _
 rw [order_fin h (by unfold Fin64 frung; decide), fval_zero_iff.2 (by rfl : frung 0 = 0)]
 by_cases hr : frung b = 0
 · have := fval_zero_iff.2 hr
   rw [this, if_neg (by exact Rat.lt_irrefl), if_pos rfl]; simp [hr]
 · have h2 : fval b ≠ 0 := fun h => hr (fval_zero_iff.1 h)
   have h3 : (0 : Rat) ≤ (fmag (frung b) : Nat) * p2 (fpl (frung b)) := Rat.mul_nonneg Rat.natCast_nonneg (Rat.le_of_lt (p2_pos _))
   have h4 : (frung b == 0) = false := by rw [beq_eq_false_iff_ne]; exact hr
   rw [h4]
   cases hn : fneg b
   · have : ¬ fval b < 0 := by unfold fval sgn1; rw [hn]; simp only [Bool.false_eq_true, if_false]; grind
     rw [if_neg this]; simp only [Bool.false_and]; split <;> rfl
   · have : fval b < 0 := by
       have hm0 : ((fmag (frung b) : Nat) : Rat) * p2 (fpl (frung b)) ≠ 0 := fun h => h2 (by unfold fval; rw [h, Rat.mul_zero])
       unfold fval sgn1
       rw [hn]
       simp only [if_true]
       generalize ((fmag (frung b) : Nat) : Rat) * p2 (fpl (frung b)) = m at *
       clear h2
       grind
     rw [if_pos this]; rfl

theorem of_fin (b : Nat) (w : World) (hT : Tab w) (hb : b < 18446744073709551616) (h : Fin64 b) :
   Calls Tryz.prog 45 #[.float .f64 b] w fun e w' => OpR w w' (fun x => x = some (fval b)) e := by
 have hr : frung b < 9218868437227405312 := h
 have hnan : ∀ w, Calls Tryz.prog 78 #[.float .f64 b] w fun e w' => e = .returned (.bool false) ∧ w' = w := fun w => by
   have := isNaN_any b w
   rwa [show isnan b = false by unfold isnan; simp; omega] at this
 have hinf : ∀ w, Calls Tryz.prog 79 #[.float .f64 b, .int .i64 0] w fun e w' => e = .returned (.bool false) ∧ w' = w := fun w => by
   have := isInf0_any b w hb
   rwa [show isinf b = false by unfold isinf; rw [beq_eq_false_iff_ne]; omega] at this
 have habs : ∀ w, Calls Tryz.prog 42 #[.float .f64 b] w fun e w' => e = .returned (.float .f64 (frung b)) ∧ w' = w := fun w => abs_any b w hb
 have hm : May (fval b) := (fval_bd h).may (by omega) (by omega)
 have fin : ∀ e w', NumR w w' (fval b) e → OpR w w' (fun x => x = some (fval b)) e := by
   rintro e w' ⟨v, x, he, hn, hN, hb⟩
   refine ⟨v, x, he, hn, ?_, hb⟩
   rcases hN with ⟨_, h⟩ | ⟨h, _⟩
   · exact h
   · exact absurd hm h
 by_cases h0 : frung b = 0
 · rw [h0] at habs
   have hc := of_core b 0 0 0 0 0 (-53) _ w hT hnan hinf habs (fun w => Frexp_of 0 0 0 w (fun w => frexp_zero w)) (fun w => Ldexp_of 0 0 53 w (fun w => ldexp_zero 53 w)) (by decide) (by omega) (by omega) (by omega) (by omega) rfl
   have e : ∀ g : Bool, sg g * (((0 : Nat) : Rat) * p2 (-53)) = fval b := by intro g; rw [fval_zero_iff.2 h0]; simp
   rw [e] at hc
   exact hc.mono fin
 · have hbd := bits53_bounds (frung b) h0
   have hpl : -1200 ≤ place53 (frung b) ∧ place53 (frung b) ≤ 1000 := by
     unfold place53; split
     · rename_i hs; have : Nat.log2 (frung b) < 52 := (Nat.log2_lt h0).2 hs; omega
     · omega
   have hld : ∀ w, Calls Tryz.prog 81 #[.float .f64 (1022 * 4503599627370496 + (bits53 (frung b) - 4503599627370496)), .int .i64 53] w fun e w' => e = .returned (.float .f64 (1075 * 4503599627370496 + (bits53 (frung b) - 4503599627370496))) ∧ w' = w := fun w =>
     Ldexp_of _ _ 53 w (fun w => ldexp_norm 1022 _ 1075 _ _ _ 53 w rfl rfl rfl (by omega) (by omega) (by omega) (by omega) (by omega) (by omega))
   have hcv := conv_norm (bits53 (frung b) - 4503599627370496) (by omega)
   rw [show 4503599627370496 + (bits53 (frung b) - 4503599627370496) = bits53 (frung b) by omega] at hcv
   have hc := of_core b (frung b) _ _ (bits53 (frung b)) (place53 (frung b) + 53) (place53 (frung b)) _ w hT hnan hinf habs (fun w => Frexp_of _ _ _ w (fun w => frexp_any (frung b) w h0 hr)) hld hcv (by omega) (by omega) (by omega) (by omega) (neg_flag h)
   have e : sg (fneg b && !(frung b == 0)) * ((bits53 (frung b) : Nat) * p2 (place53 (frung b)) : Rat) = fval b := by
     have h4 : (frung b == 0) = false := by rw [beq_eq_false_iff_ne]; exact h0
     rw [bits53_val _ h0, h4]
     unfold fval sgn1 sg
     simp
   rw [e] at hc
   exact hc.mono fin

theorem of_not (b : Nat) (w : World) (hb : b < 18446744073709551616) (h : ¬ Fin64 b) :
   Calls Tryz.prog 45 #[.float .f64 b] w fun e w' => OpR w w' (fun x => x = none) e := by
 have fin : ∀ e w', e = .returned (.agg #[.slice none 0 0, .int .i64 0, .bool false, .bool true]) ∧ Below w.heap.size w w' → OpR w w' (fun x => x = none) e := by
   rintro e w' ⟨rfl, hb⟩
   exact ⟨_, none, rfl, isNum_none w', rfl, hb⟩
 by_cases h1 : 9218868437227405312 < frung b
 · exact (of_nan b w (by unfold isnan; simp [h1])).mono fin
 · have h2 : frung b = 9218868437227405312 := by unfold Fin64 at h; omega
   exact (of_inf b w hb (by unfold isnan; simp [h2]) (by unfold isinf; simp [h2])).mono fin

end Go.Proofs.YtocnkgfoffpbfaaGreatDoor

/- The float nearest to a number: plain facts. -/
namespace Go.Proofs.YtocnkgfoffpbfaaGreatDoor

theorem win_near (ns : List Nat) (low at' : Int) (ho : val ns % 2 = 1) (hlog : low + (Nat.log2 (val ns) : Nat) - at' ≤ 53) :
   win ns low at' < 18014398509481984 ∧ ((win ns low at' : Int) : Rat) * p2 at' ≤ magR ns low ∧ magR ns low < (((win ns low at' : Int) + 1 : Int) : Rat) * p2 at' ∧ (at' ≤ low → magR ns low = ((win ns low at' : Int) : Rat) * p2 at') ∧ (low < at' → magR ns low ≠ ((win ns low at' : Int) : Rat) * p2 at') := by
 have hV0 : val ns ≠ 0 := by omega
 have hl1 : val ns < 2 ^ (Nat.log2 (val ns) + 1) := Nat.lt_log2_self
 have hu := p2_pos at'
 by_cases hc : at' ≤ low
 · have hw : win ns low at' = val ns * 2 ^ (low - at').toNat ∧ val ns * 2 ^ (low - at').toNat < 18014398509481984 := by
     have hb : val ns * 2 ^ (low - at').toNat < 18014398509481984 := by
       have h1 : val ns * 2 ^ (low - at').toNat < 2 ^ (Nat.log2 (val ns) + 1) * 2 ^ (low - at').toNat := Nat.mul_lt_mul_of_pos_right hl1 (Nat.two_pow_pos _)
       rw [← Nat.pow_add] at h1
       exact Nat.lt_of_lt_of_le h1 (Nat.pow_le_pow_right (by omega) (by omega : Nat.log2 (val ns) + 1 + (low - at').toNat ≤ 54))
     refine ⟨?_, hb⟩
     unfold win
     by_cases h : at' < low
     · rw [if_pos h, Nat.mod_eq_of_lt (by omega)]
     · rw [if_neg h]
       have : at' = low := by omega
       subst this
       simp only [Int.sub_self, Int.toNat_zero, Nat.pow_zero, Nat.mul_one, Nat.div_one] at hb ⊢
       exact Nat.mod_eq_of_lt (by omega)
   have hm : magR ns low = ((win ns low at' : Int) : Rat) * p2 at' := by
     rw [hw.1]; exact magR_at ns low at' _ (by omega)
   refine ⟨by rw [hw.1]; exact hw.2, by rw [hm]; exact Rat.le_refl, by rw [hm]; exact lt_int hu (by omega), fun _ => hm, fun h => by omega⟩
 · have hj : 1 ≤ (at' - low).toNat := by omega
   have hpow : 0 < 2 ^ (at' - low).toNat := Nat.two_pow_pos _
   have hb : val ns / 2 ^ (at' - low).toNat < 18014398509481984 := by
     rw [Nat.div_lt_iff_lt_mul hpow]
     refine Nat.lt_of_lt_of_le hl1 ?_
     rw [show (18014398509481984 : Nat) = 2 ^ 54 from rfl, ← Nat.pow_add]
     exact Nat.pow_le_pow_right (by omega) (by omega)
   have hw : win ns low at' = val ns / 2 ^ (at' - low).toNat := by
     unfold win
     rw [if_neg (by omega), Nat.mod_eq_of_lt (by omega)]
   have e : p2 at' = ((2 ^ (at' - low).toNat : Nat) : Int) * p2 low := by
     have := p2_nat (at' - low).toNat
     rw [show (((2 ^ (at' - low).toNat : Nat) : Int) : Rat) = ((2 ^ (at' - low).toNat : Nat) : Rat) from rfl, ← this, ← p2_add]
     congr 1; omega
   have hm : magR ns low = ((val ns : Int) : Rat) * p2 low := rfl
   have hodd : 2 ^ (at' - low).toNat % 2 = 0 := by
     obtain ⟨j, hj2⟩ : ∃ j, (at' - low).toNat = j + 1 := ⟨(at' - low).toNat - 1, by omega⟩
     rw [hj2, Nat.pow_succ]; omega
   have hd := Nat.div_add_mod (val ns) (2 ^ (at' - low).toNat)
   have hml := Nat.mod_lt (val ns) hpow
   have hu0 := p2_pos low
   rw [hw, hm, e]
   generalize 2 ^ (at' - low).toNat = P at *
   generalize val ns / P = W at *
   generalize val ns % P = R at *
   generalize val ns = V at *
   have t1 : ∀ x : Int, ((x : Int) : Rat) * (((P : Nat) : Int) * p2 low) = ((x * (P : Int) : Int) : Rat) * p2 low := fun x => by rw [Rat.intCast_mul, Rat.mul_assoc]
   rw [t1, t1]
   have z : (W : Int) * (P : Int) + (R : Int) = (V : Int) := by rw [← hd, Int.natCast_add, Int.natCast_mul, Int.mul_comm]
   have z2 : ((W : Int) + 1) * (P : Int) = (W : Int) * (P : Int) + (P : Int) := by rw [Int.add_mul, Int.one_mul]
   refine ⟨hb, le_int hu0 (by omega), lt_int hu0 (by omega), fun h => by omega, fun _ h => ?_⟩
   have h1 := int_le hu0 (le_of_same h)
   have h2 := int_le hu0 (le_of_same h.symm)
   have h3 : V = P * W := by
     have : (V : Int) = (W : Int) * (P : Int) := by omega
     rw [Int.mul_comm] at this
     exact_mod_cast this
   have : V % 2 = 0 := by rw [h3, Nat.mul_mod, hodd]; simp
   omega

theorem half_of {q u : Rat} {W : Nat} {exact : Prop} (hu : 0 < u) (h1 : ((W : Int) : Rat) * u ≤ q) (h2 : q < (((W : Int) + 1 : Int) : Rat) * u) (h3 : exact → q = ((W : Int) : Rat) * u) (h4 : ¬ exact → q ≠ ((W : Int) : Rat) * u) :
   (W % 2 = 0 → Half q u (W / 2)) ∧ (W % 2 = 1 → ¬ exact → Half q u (W / 2 + 1)) ∧ (W % 2 = 1 → exact → W / 2 % 2 = 1 → Half q u (W / 2 + 1)) ∧ (W % 2 = 1 → exact → W / 2 % 2 = 0 → Half q u (W / 2)) := by
 have ne1 : ∀ {x : Int}, (W : Int) < x → q = (x : Rat) * u → x = (W : Int) + 1 → False := fun {x} _ e hx => by
   rw [e, hx] at h2; exact Rat.lt_irrefl h2
 refine ⟨fun h => ?_, fun h hn => ?_, fun h he hk => ?_, fun h he hk => ?_⟩
 · refine ⟨Rat.le_trans (le_int hu (by omega)) h1, Rat.le_trans (Rat.le_of_lt h2) (le_int hu (by omega)), fun e => ?_, fun e => ?_⟩
   · have := int_le hu (e ▸ h1); omega
   · exact (ne1 (by omega) e (by omega)).elim
 · refine ⟨Rat.le_trans (le_int hu (by omega)) h1, Rat.le_trans (Rat.le_of_lt h2) (le_int hu (by omega)), fun e => ?_, fun e => ?_⟩
   · refine absurd ?_ (h4 hn); rw [e]; congr 2; omega
   · have := int_lt hu (e ▸ h2); omega
 · refine ⟨Rat.le_trans (le_int hu (by omega)) h1, Rat.le_trans (Rat.le_of_lt h2) (le_int hu (by omega)), fun e => ?_, fun e => ?_⟩
   · omega
   · have := int_lt hu (e ▸ h2); omega
 · refine ⟨Rat.le_trans (le_int hu (by omega)) h1, ?_, fun e => ?_, fun e => ?_⟩
   · rw [h3 he]; exact le_int hu (by omega)
   · exact hk
   · exact hk

end Go.Proofs.YtocnkgfoffpbfaaGreatDoor

/- The float nearest to a magnitude: what the code makes of the unit that it keeps. -/
namespace Go.Proofs.YtocnkgfoffpbfaaGreatDoor
open Go.RowKit
attribute [local go_sem ↓] Go.wp_at_zero Go.wp_at_succ

theorem float_of_nat (k : Nat) : floatOfInt .f64 (k : Int) = Ieee.double.nearest false k 0 := by
 unfold floatOfInt FloatKind.nearest
 have e : decide ((k : Int) < 0) = false := decide_eq_false (by omega)
 rw [e, Int.natAbs_natCast]
 rfl

theorem nearest_small (k L : Nat) (h0 : k ≠ 0) (h : k < 4503599627370496) (hL : Nat.log2 k = L) : Ieee.double.nearest false k 0 = (L + 1022) * 4503599627370496 + k * 2 ^ (52 - L) := by
 have h1 : L < 52 := by rw [← hL]; exact (Nat.log2_lt h0).2 h
 have h2 : k * 2 ^ (52 - L) < 9007199254740992 := by
   have a : k < 2 ^ (L + 1) := by rw [← hL]; exact Nat.lt_log2_self
   have b := Nat.mul_lt_mul_of_pos_right a (Nat.two_pow_pos (52 - L))
   rw [← Nat.pow_add, show L + 1 + (52 - L) = 53 by omega] at b
   exact b
 unfold Ieee.Format.nearest
 rw [if_neg h0]
 simp only [d_lp, d_bin, d_inf, hL]
 have e0 : (Ieee.double.fractionBits : Int) = 52 := rfl
 rw [e0, show max (0 + (L : Int) - 52) (-1074) = (L : Int) - 52 by omega, show (0 - ((L : Int) - 52)).toNat = 52 - L by omega, show ((L : Int) - 52 - 0).toNat = 0 by omega, show ((L : Int) - 52 - -1074).toNat = L + 1022 by omega, Nat.shiftLeft_eq]
 have e1 := cut_exact false (k * 2 ^ (52 - L)) 0
 rw [Nat.pow_zero, Nat.mul_one] at e1
 rw [e1, Nat.min_eq_left (by omega)]
 rfl

theorem shift_sum (L u z : Nat) (h : 4503599627370496 + u = z) : (L + 1023) * 4503599627370496 + u = (L + 1022) * 4503599627370496 + z := by
 rw [← h, show L + 1023 = (L + 1022) + 1 from rfl, Nat.add_mul (L + 1022), Nat.one_mul, Nat.add_assoc]

theorem ldexp_kept (T k : Nat) (w : World) (hk : k ≤ 9007199254740992) (hT : T = 0 ∨ 4503599627370496 ≤ k) (hT2 : T ≤ 100000) :
   Calls Tryz.prog 81 #[.float .f64 (floatOfInt .f64 (k : Int)), .int .i64 ((T : Int) - 1074)] w fun e w' => e = .returned (.float .f64 (min (T * 4503599627370496 + k) 9218868437227405312)) ∧ w' = w := by
 rw [float_of_nat]
 refine Ldexp_of _ _ _ w fun w => ?_
 by_cases h0 : k = 0
 · subst h0
   have : T = 0 := by omega
   subst this
   have e : Ieee.double.nearest false 0 0 = 0 := rfl
   rw [e]
   exact ldexp_zero _ w
 by_cases h1 : k < 4503599627370496
 · have : T = 0 := by omega
   subst this
   have hL := (Nat.log2_lt h0 (k := 52)).2 h1
   have a1 := Nat.log2_self_le h0
   have a2 : k < 2 ^ (Nat.log2 k + 1) := Nat.lt_log2_self
   rw [nearest_small k _ h0 h1 rfl, Nat.zero_mul, Nat.zero_add, Nat.min_eq_left (by omega)]
   generalize hLe : Nat.log2 k = L at *
   have b1 : 4503599627370496 ≤ k * 2 ^ (52 - L) := by
     have := Nat.mul_le_mul_right (2 ^ (52 - L)) a1
     rwa [← Nat.pow_add, show L + (52 - L) = 52 by omega] at this
   have b2 : k * 2 ^ (52 - L) < 9007199254740992 := by
     have := Nat.mul_lt_mul_of_pos_right a2 (Nat.two_pow_pos (52 - L))
     rwa [← Nat.pow_add, show L + 1 + (52 - L) = 53 by omega] at this
   obtain ⟨u, hu⟩ : ∃ u, 4503599627370496 + u = k * 2 ^ (52 - L) := ⟨k * 2 ^ (52 - L) - 4503599627370496, by omega⟩
   have hm := mul_norm (L + 2) u k L hL rfl hu h1 (by omega)
   have hx : (L + 1023) * 4503599627370496 + u = (L + 1022) * 4503599627370496 + k * 2 ^ (52 - L) := shift_sum L u _ hu
   exact ldexp_den (L + 1023) u (L + 2) _ _ _ k _ w hx rfl rfl (by omega) (by omega) (by omega) (by omega) (by omega) (by omega) hm
 by_cases h2 : k = 9007199254740992
 · subst h2
   have e : Ieee.double.nearest false 9007199254740992 0 = 1076 * 4503599627370496 + 0 := by
     have := nearest_norm 4503599627370496 1 0 (by omega) (by omega) (by omega) (by decide)
     exact this
   rw [e]
   by_cases h3 : T + 2 ≤ 2046
   · rw [Nat.min_eq_left (by omega)]
     exact ldexp_norm 1076 0 (T + 2) _ _ _ _ w rfl (by omega) rfl (by omega) (by omega) (by omega) (by omega) (by omega) h3
   · rw [Nat.min_eq_right (by omega)]
     exact ldexp_inf 1076 0 _ _ w rfl (by omega) (by omega) (by omega) (by omega) (by omega)
 · obtain ⟨u, rfl⟩ : ∃ u, k = 4503599627370496 + u := ⟨k - 4503599627370496, by omega⟩
   have e : Ieee.double.nearest false (4503599627370496 + u) 0 = 1075 * 4503599627370496 + u := by
     have := nearest_norm (4503599627370496 + u) 0 0 (by omega) (by omega) (by omega) (by omega)
     rw [Nat.pow_zero, Nat.mul_one] at this
     rw [this]; omega
   rw [e]
   by_cases h3 : T + 1 ≤ 2046
   · rw [Nat.min_eq_left (by omega)]
     exact ldexp_norm 1075 u (T + 1) _ _ _ _ w rfl (by omega) rfl (by omega) (by omega) (by omega) (by omega) (by omega) h3
   · rw [Nat.min_eq_right (by omega)]
     exact ldexp_inf 1075 u _ _ w rfl (by omega) (by omega) (by omega) (by omega) (by omega)

end Go.Proofs.YtocnkgfoffpbfaaGreatDoor

/- The float nearest to a magnitude. -/
namespace Go.Proofs.YtocnkgfoffpbfaaGreatDoor
open Go.RowKit
attribute [local go_sem ↓] Go.wp_at_zero Go.wp_at_succ

set_option maxHeartbeats 2000000 in
theorem nearest_walk (s : Value) (ns : List Nat) (low hi last : Int) (W kept : Nat) (A B : Int) (half lt odd : Bool) (r : Nat) (w : World) (hws : Ws w s ns) (ht : Topped ns) (l1 : -65536 ≤ low) (l2 : low ≤ 65536) (hhi : hiB ns low = hi) (h1 : -65536 ≤ hi) (h2 : hi ≤ 65536)
   (hlast : max (hi - 52) (-1074) = last) (hW : win ns low (last - 1) = W) (hWb : W < 18014398509481984) (hA : bits .and .u64 (W : Int) 1 = A) (hA2 : (A == 1) = half) (hB : bits .and .u64 ((W : Int) / 2) 1 = B) (hB2 : (B == 1) = odd) (hlt : decide (low < last - 1) = lt) (hk : (W : Int) / 2 + (if half && (lt || odd) then 1 else 0) = (kept : Int))
   (hl : ∀ w, Calls Tryz.prog 81 #[.float .f64 (floatOfInt .f64 (kept : Int)), .int .i64 last] w fun e w' => e = .returned (.float .f64 r) ∧ w' = w) :
   Calls Tryz.prog 118 #[.agg #[s, .int .i64 low]] w fun e w' => e = .returned (.float .f64 r) ∧ Below w.heap.size w w' := by
 have HL : Hid _ := hl
 have HW0 : Hid (Ws w s ns) := hws
 have HB0 : Hid (Below w.heap.size w (w.alloc (.cells #[s, .int .i64 low] 47))) := (Below.refl _ _).alloc (Nat.le_refl _) _
 clear hl hws
 go_enter Tryz.func118, Tryz.ntmps118
 go_wp2_with fail
 refine (highest_any _ ns _ _ (HW0.out.later HB0.out (Nat.le_refl _)) ht (by omega) (by omega)).mono ?_
 rintro e w1 ⟨rfl, hb1⟩
 rw [hhi]
 have c0 : w1.cell? ⟨w.heap.size, 0, none⟩ = some s := cell_later hb1 (by go_simp)
 have c1 : w1.cell? ⟨w.heap.size, 1, none⟩ = some (.int .i64 low) := cell_later hb1 (by go_simp)
 have HB1 : Hid (Below w.heap.size w w1) := thru HB0.out hb1
 clear hb1
 go_wp2_with fail
 refine (window_any _ ns _ _ _ (HW0.out.later HB1.out (Nat.le_refl _)) (by omega) (by omega) (by omega) (by omega)).mono ?_
 rintro e w2 ⟨rfl, hb2⟩
 rw [hW]
 have d0 : w2.cell? ⟨w.heap.size, 0, none⟩ = some s := cell_later hb2 c0
 have d1 : w2.cell? ⟨w.heap.size, 1, none⟩ = some (.int .i64 low) := cell_later hb2 c1
 have HB2 : Hid (Below w.heap.size w w2) := thru HB1.out hb2
 clear hb2 c0 c1
 go_wp2_with fail
 refine (window_any _ ns _ _ _ (HW0.out.later HB2.out (Nat.le_refl _)) (by omega) (by omega) (by omega) (by omega)).mono ?_
 rintro e w3 ⟨rfl, hb3⟩
 rw [hW]
 have f0 : w3.cell? ⟨w.heap.size, 0, none⟩ = some s := cell_later hb3 d0
 have f1 : w3.cell? ⟨w.heap.size, 1, none⟩ = some (.int .i64 low) := cell_later hb3 d1
 have HB3 : Hid (Below w.heap.size w w3) := thru HB2.out hb3
 clear hb3 d0 d1
 have hdiv : (0 : Int) ≤ (W : Int) / 2 ∧ (W : Int) / 2 < 9007199254740992 := by omega
 have hwr : IntKind.u64.wrap ((W : Int) / 2 + 1) = (W : Int) / 2 + 1 := by rw [IntKind.wrap_u64]; omega
 cases half
 · rw [Bool.false_and, if_neg (by decide), Int.add_zero] at hk
   have HK : Hid _ := hk
   clear hk
   go_wp2_with (first
     | (go_at_call 81; rw [HK.out]; refine (HL.out _).mono ?_; rintro e w' ⟨rfl, rfl⟩))
   go_ret
   exact ⟨rfl, HB3.out⟩
 · cases lt
   · cases odd
     · rw [Bool.true_and, Bool.or_self, if_neg (by decide), Int.add_zero] at hk
       have HK : Hid _ := hk
       clear hk
       go_wp2_with (first
         | (go_at_call 81; rw [HK.out]; refine (HL.out _).mono ?_; rintro e w' ⟨rfl, rfl⟩))
       go_ret
       exact ⟨rfl, HB3.out⟩
     · rw [Bool.true_and, Bool.or_true, if_pos rfl] at hk
       have HK : Hid _ := hk
       clear hk
       go_wp2_with (first
         | (go_at_call 81; rw [HK.out]; refine (HL.out _).mono ?_; rintro e w' ⟨rfl, rfl⟩))
       go_ret
       exact ⟨rfl, HB3.out⟩
   · rw [Bool.true_and, Bool.true_or, if_pos rfl] at hk
     have HK : Hid _ := hk
     clear hk
     go_wp2_with (first
       | (go_at_call 81; rw [HK.out]; refine (HL.out _).mono ?_; rintro e w' ⟨rfl, rfl⟩))
     go_ret
     exact ⟨rfl, HB3.out⟩

end Go.Proofs.YtocnkgfoffpbfaaGreatDoor

/- Float: the float nearest to a number. -/
namespace Go.Proofs.YtocnkgfoffpbfaaGreatDoor
open Go.RowKit
attribute [local go_sem ↓] Go.wp_at_zero Go.wp_at_succ

theorem and_one (n : Nat) (h : n < 18446744073709551616) : bits .and .u64 (n : Int) 1 = ((n % 2 : Nat) : Int) := by
 rw [show (1 : Int) = ((1 : Nat) : Int) from rfl, u64_and_nat n _ (by omega) (by omega), Nat.and_one_is_mod]

theorem eq_one (n : Nat) : ((((n % 2 : Nat) : Int)) == 1) = (n % 2 == 1) := by
 rcases Nat.mod_two_eq_zero_or_one n with h | h <;> rw [h] <;> rfl

theorem p2_units (n : Nat) (e : Int) : (((2 ^ n : Nat) : Int) : Rat) * p2 e = p2 ((n : Int) + e) := by
 rw [p2_add, p2_nat]; rfl

theorem nearest_any (s : Value) (ns : List Nat) (low : Int) (w : World) (hm : IsMag w s ns low) :
   Calls Tryz.prog 118 #[.agg #[s, .int .i64 low]] w fun e w' => (∃ r, e = .returned (.float .f64 r) ∧ Near (magR ns low) r) ∧ Below w.heap.size w w' := by
 have l1 := hm.lo
 have l2 := hm.low_le
 by_cases hne : ns = []
 · have h0 : low = 0 := by
     rcases hm.own with ⟨_, h⟩ | ⟨h, _⟩
     · exact h
     · exact absurd hne h
   subst hne
   subst h0
   have e0 : hiB [] 0 = 0 := by simp [hiB]
   refine (nearest_walk s [] 0 0 (-52) 0 0 0 0 false false false 0 w hm.ws (fun h => absurd rfl h) (by omega) (by omega) e0 (by omega) (by omega) (by decide) (by decide) (by omega) (by decide) (by decide) (by decide) (by decide) (by decide) (by decide) ?_).mono ?_
   · intro w
     rw [float_of_nat]
     have e : Ieee.double.nearest false 0 0 = 0 := rfl
     rw [e]
     exact Ldexp_of _ _ _ w fun w => ldexp_zero _ w
   · rintro e w' ⟨rfl, hb⟩
     exact ⟨⟨0, rfl, Or.inl ⟨magR_nil 0, rfl⟩⟩, hb⟩
 · have ho : val ns % 2 = 1 ∧ Topped ns := by
     rcases hm.own with ⟨h, _⟩ | ⟨_, h⟩
     · exact absurd h hne
     · exact h
   have hhi : hiB ns low = low + (Nat.log2 (val ns) : Nat) := by unfold hiB; rw [if_neg hne]
   have hhb := hm.hi
   obtain ⟨b1, b2⟩ := own_lo hm.own hne
   generalize hh : hiB ns low = hi at *
   obtain ⟨T, hT⟩ : ∃ T : Nat, max (hi - 52) (-1074) = (T : Int) - 1074 := ⟨(max (hi - 52) (-1074) + 1074).toNat, by omega⟩
   have hw := win_near ns low ((T : Int) - 1074 - 1) ho.1 (by omega)
   obtain ⟨w1, w2, w3, w4, w5⟩ := hw
   have eu : (T : Int) - 1074 - 1 = (T : Int) - 1075 := by omega
   generalize hW : win ns low ((T : Int) - 1074 - 1) = W at *
   rw [eu] at w2 w3 w4 w5
   have hu := p2_pos ((T : Int) - 1075)
   have hq : Last (magR ns low) T := by
     refine ⟨?_, ?_⟩
     · by_cases h0 : T = 0
       · exact Or.inl h0
       · right
         rw [show (9007199254740992 : Int) = ((2 ^ 53 : Nat) : Int) from rfl, p2_units]
         refine Rat.le_trans (p2_mono ?_) b1
         omega
     · rw [show (18014398509481984 : Int) = ((2 ^ 54 : Nat) : Int) from rfl, p2_units]
       exact lt_of_lt_le b2 (p2_mono (by omega))
   obtain ⟨k1, k2, k3, k4⟩ := half_of (exact := (T : Int) - 1075 ≤ low) hu w2 w3 w4 (fun h => w5 (by omega))
   have hpos : 0 < magR ns low := magR_pos hm.own hne
   have key : ∃ kept, Half (magR ns low) (p2 ((T : Int) - 1075)) kept ∧ (W : Int) / 2 + (if (W % 2 == 1) && (decide (low < (T : Int) - 1074 - 1) || (W / 2 % 2 == 1)) then 1 else 0) = (kept : Int) := by
     rcases Nat.mod_two_eq_zero_or_one W with h | h
     · refine ⟨W / 2, k1 h, ?_⟩
       rw [h]; simp
     · by_cases h2 : (T : Int) - 1075 ≤ low
       · have e2 : decide (low < (T : Int) - 1074 - 1) = false := decide_eq_false (by omega)
         rcases Nat.mod_two_eq_zero_or_one (W / 2) with h3 | h3
         · refine ⟨W / 2, k4 h h2 h3, ?_⟩
           rw [h, h3, e2]; simp
         · refine ⟨W / 2 + 1, k3 h h2 h3, ?_⟩
           rw [h, h3, e2]; simp
       · have e2 : decide (low < (T : Int) - 1074 - 1) = true := decide_eq_true (by omega)
         refine ⟨W / 2 + 1, k2 h h2, ?_⟩
         rw [h, e2]; simp
   obtain ⟨kept, hk1, hk2⟩ := key
   have kb := kept_bounds hq hk1
   refine (nearest_walk s ns low hi ((T : Int) - 1074) W kept _ _ _ _ _ _ w hm.ws ho.2 l1 l2 hh (by omega) hhb hT hW w1 (and_one W (by omega)) (eq_one W) (and_one (W / 2) (by omega)) (eq_one (W / 2)) rfl hk2 (fun w => ldexp_kept T kept w kb.1 kb.2 (by omega))).mono ?_
   rintro e w' ⟨rfl, hb⟩
   exact ⟨⟨_, rfl, Or.inr ⟨hpos, T, kept, hq, hk1, rfl⟩⟩, hb⟩

def FloatOf (q : Rat) (f : Nat) : Prop := (0 ≤ q ∧ Near q f) ∨ (q < 0 ∧ ∃ r, Near (-q) r ∧ f = if r = 0 then 0 else 9223372036854775808 + r)

theorem gt_zero (r : Nat) (h : r ≤ 9218868437227405312) : (FloatKind.f64.format.order r 0 == some .gt) = (r != 0) := by
 show (Ieee.double.order r 0 == some .gt) = (r != 0)
 have z0 : Fin64 0 := by unfold Fin64 frung; decide
 have e0 : fval 0 = 0 := fval_zero_iff.2 rfl
 by_cases h1 : r = 9218868437227405312
 · subst h1
   rw [order_inf_fin (by unfold frung; rfl) z0]
   rfl
 · have hr : r < 9218868437227405312 := by omega
   have hf : Fin64 r := by unfold Fin64 frung; omega
   have hn := fval_nonneg hr
   rw [order_fin hf z0, e0]
   by_cases h0 : r = 0
   · subst h0; rw [e0]; rfl
   · have e1 : fval r ≠ 0 := by rw [Ne, fval_zero_iff]; unfold frung; omega
     rw [if_neg (by grind), if_neg e1]
     simp [h0]

theorem xor_top (r : Nat) (h : r < 9223372036854775808) : r ^^^ 2 ^ 63 = 9223372036854775808 + r := by
 have h' : r < 2 ^ 63 := h
 show r ^^^ 2 ^ 63 = 2 ^ 63 + r
 refine Nat.eq_of_testBit_eq fun i => ?_
 rw [Nat.testBit_xor, Nat.testBit_two_pow]
 rcases Nat.lt_trichotomy i 63 with hi | hi | hi
 · have hd : decide (63 = i) = false := decide_eq_false (by omega)
   rw [Nat.testBit_two_pow_add_gt hi, hd, Bool.xor_false]
 · subst hi; rw [Nat.testBit_two_pow_add_eq, Nat.testBit_lt_two_pow h']; rfl
 · have e1 : 2 ^ 64 ≤ 2 ^ i := Nat.pow_le_pow_right (by omega) hi
   have e2 : 2 ^ 63 + r < 2 ^ i := by omega
   have hd : decide (63 = i) = false := decide_eq_false (by omega)
   rw [Nat.testBit_lt_two_pow e2, Nat.testBit_lt_two_pow (by omega : r < 2 ^ i), hd]; rfl

theorem run_fneg (r : Nat) (h : r ≤ 9218868437227405312) (w : World) : (Op.unary .neg (.float .f64 r)).run Tryz.prog w = .ok (.float .f64 (9223372036854775808 + r)) w := by
 have e : Op.negFloat .f64 r = 9223372036854775808 + r := by
   exact xor_top r (by omega)
 show Result.ok (Value.float .f64 (Op.negFloat .f64 r)) w = _
 rw [e]

set_option maxHeartbeats 1000000 in
theorem float_walk (a1 : Option Addr) (c1 : Nat) (ns1 : List Nat) (low1 : Int) (neg1 nn1 : Bool) (w : World) (m1 : IsMag w (.slice a1 ns1.length c1) ns1 low1) :
   Calls Tryz.prog 88 #[.agg #[.slice a1 ns1.length c1, .int .i64 low1, .bool neg1, .bool nn1]] w fun e w' => (∃ r, e = .returned (.float .f64 (if neg1 && r != 0 then 9223372036854775808 + r else r)) ∧ Near (magR ns1 low1) r) ∧ Below w.heap.size w w' := by
 have M1 : Hid (IsMag w (.slice a1 ns1.length c1) ns1 low1) := m1
 have HB0 : Hid (Below w.heap.size w (w.alloc (.cells #[.slice a1 ns1.length c1, .int .i64 low1, .bool neg1, .bool nn1] 49))) := (Below.refl _ _).alloc (Nat.le_refl _) _
 clear m1
 go_enter Tryz.func88, Tryz.ntmps88
 go_wp2_with fail
 refine (nearest_any _ ns1 _ _ (M1.out.later HB0.out)).mono ?_
 rintro e w1 ⟨⟨r, rfl, hr⟩, hb1⟩
 have hz := gt_zero r (near_nonneg hr).2
 have hrb := (near_nonneg hr).2
 have c2 : w1.cell? ⟨w.heap.size, 2, none⟩ = some (.bool neg1) := cell_later hb1 (by go_simp)
 have HB1 : Hid (Below w.heap.size w w1) := thru HB0.out hb1
 have HR : Hid (Near (magR ns1 low1) r) := hr
 clear hb1 hr
 cases neg1
 · go_wp2
   go_ret
   exact ⟨⟨r, rfl, HR.out⟩, HB1.out⟩
 · by_cases h0 : r = 0
   · subst h0
     go_wp2
     go_ret
     exact ⟨⟨0, rfl, HR.out⟩, HB1.out⟩
   · have e : (r != 0) = true := by simp [h0]
     rw [e] at hz
     have hng := run_fneg r hrb
     go_wp2
     go_ret
     exact ⟨⟨r, by rw [e]; rfl, HR.out⟩, HB1.out⟩

theorem float_any (va : Value) (a : Option Rat) (w : World) (ha : IsNum w va a) :
   Calls Tryz.prog 88 #[va] w fun e w' => (∃ f, e = .returned (.float .f64 f) ∧ FloatOf (a.getD 0) f) ∧ Below w.heap.size w w' := by
 obtain ⟨a1, ns1, c1, low1, neg1, nn1, rfl, q2, q3, q4, q5, q6, q7, q8⟩ := ha
 refine (float_walk a1 c1 ns1 low1 neg1 nn1 w ⟨q2, q3, q4, q5⟩).mono ?_
 rintro e w' ⟨⟨r, rfl, hr⟩, hb⟩
 refine ⟨⟨_, rfl, ?_⟩, hb⟩
 by_cases hne : ns1 = []
 · have e0 : a.getD 0 = 0 := by
     cases nn1 with
     | true => rw [(q7 rfl).2]; rfl
     | false => rw [q8 rfl, hne, magR_nil]; simp
   rw [hne, magR_nil] at hr
   have := near_zero hr
   subst this
   rw [e0, q6 hne]
   exact Or.inl ⟨Rat.le_refl, hr⟩
 · have hn : nn1 = false := by
     cases nn1 with
     | true => exact absurd (q7 rfl).1 hne
     | false => rfl
   have h3 := magR_pos q3 hne
   rw [q8 hn]
   cases neg1
   · left
     simp only [sg, Bool.false_eq_true, if_false, Option.getD_some, Bool.false_and, Rat.one_mul]
     exact ⟨Rat.le_of_lt h3, hr⟩
   · right
     simp only [sg, if_true, Option.getD_some, Bool.true_and]
     have e1 : -(-1 * magR ns1 low1) = magR ns1 low1 := by grind
     refine ⟨by grind, r, by rw [e1]; exact hr, ?_⟩
     by_cases h0 : r = 0 <;> simp [h0]

end Go.Proofs.YtocnkgfoffpbfaaGreatDoor

/- The laws' helper of: a number of three floats. -/
namespace Go.Proofs.YtocnkgfoffpbfaaGreatDoor
open Go.RowKit
attribute [local go_sem ↓] Go.wp_at_zero Go.wp_at_succ

theorem isNum_form {w : World} {v : Value} {x : Option Rat} (h : IsNum w v x) : ∃ a n c low neg nn, v = .agg #[.slice a n c, .int .i64 low, .bool neg, .bool nn] ∧ IsNum w (.agg #[.slice a n c, .int .i64 low, .bool neg, .bool nn]) x := by
 obtain ⟨a, ns, c, low, neg, nn, rfl, hr⟩ := h
 exact ⟨a, _, c, low, neg, nn, rfl, a, ns, c, low, neg, nn, rfl, hr⟩

theorem tab_set {W : World} (h : Tab W) (a : Addr) (v : Value) (ha : a.block ≠ 1) : Tab (W.setCell a v) := fun j hj => cell_other (h j hj) (fun e => ha e.symm) v

theorem norm_may {q : Rat} {x : Option Rat} (h : Norm q x) (hm : May q) : x = some q := by
 rcases h with ⟨_, h⟩ | ⟨h, _⟩
 · exact h
 · exact absurd hm h

theorem op2_may {f : Rat → Rat → Rat} {p q : Rat} {x : Option Rat} (h : Op2 f (some p) (some q) x) (hm : May (f p q)) : x = some (f p q) := by
 rcases h with ⟨_, _, h1, h2, h⟩ | ⟨h, _⟩
 · cases h1; cases h2; exact norm_may h hm
 · rcases h with h | h <;> cases h

theorem ofW_any (b : Nat) (w : World) (hT : Tab w) (hb : b < 18446744073709551616) :
   Calls Tryz.prog 45 #[.float .f64 b] w fun e w' => OpR w w' (fun x => x = if frung b < 9218868437227405312 then some (fval b) else none) e := by
 by_cases h : frung b < 9218868437227405312
 · rw [if_pos h]; exact of_fin b w hT hb h
 · rw [if_neg h]; exact of_not b w hb h


end Go.Proofs.YtocnkgfoffpbfaaGreatDoor

/- Closed floats: what stands for what. -/
namespace Go.Proofs.YtocnkgfoffpbfaaGreatDoor

end Go.Proofs.YtocnkgfoffpbfaaGreatDoor

/- The numbers of the first question: what is reckoned. -/
namespace Go.Proofs.YtocnkgfoffpbfaaGreatDoor

theorem low_le {m n : Int} {l g : Int} (h : ((2 * m + 1 : Int) : Rat) * p2 l = ((2 * n + 1 : Int) : Rat) * p2 g) : l ≤ g := by
 rcases Int.lt_or_le g l with h1 | h1
 · obtain ⟨j, hj⟩ : ∃ j : Nat, l = g + ((j + 1 : Nat) : Int) := ⟨(l - g - 1).toNat, by omega⟩
   rw [hj, p2_add, p2_nat] at h
   have hg := p2_ne g
   have e : ((2 * m + 1 : Int) : Rat) * ((2 ^ (j + 1) : Nat) : Rat) = ((2 * n + 1 : Int) : Rat) := by grind
   have e2 : (((2 * m + 1) * ((2 ^ (j + 1) : Nat) : Int) : Int) : Rat) = ((2 * n + 1 : Int) : Rat) := by rw [Rat.intCast_mul]; exact e
   have e3 := Rat.intCast_inj.1 e2
   rw [Nat.pow_succ, Int.natCast_mul] at e3
   generalize ((2 ^ j : Nat) : Int) = P at e3
   have e4 : (2 * m + 1) * (P * ((2 : Nat) : Int)) = 2 * ((2 * m + 1) * P) := by grind
   omega
 · exact h1

end Go.Proofs.YtocnkgfoffpbfaaGreatDoor

/- The first question of each law: is something reckoned? -/
namespace Go.Proofs.YtocnkgfoffpbfaaGreatDoor
open Go.RowKit
attribute [local go_sem ↓] Go.wp_at_zero Go.wp_at_succ

theorem shiftX_may {k : Int} {p : Rat} {x : Option Rat} (h : ShiftX k (some p) x) (hm : May (p * p2 k)) : x = some (p * p2 k) := by
 rcases h with ⟨_, h1, h⟩ | ⟨h, _⟩
 · cases h1; exact norm_may h hm
 · cases h

end Go.Proofs.YtocnkgfoffpbfaaGreatDoor

/- Numbers of any size with their cells; boxes that are written anew. -/
namespace Go.Proofs.YtocnkgfoffpbfaaGreatDoor
open Go.RowKit Go.Shelf

def NumO (w w' : World) (q : Rat) (e : Ending) : Prop := ∃ a n c l g o, e = .returned (.agg #[.slice a n c, .int .i64 l, .bool g, .bool o]) ∧ IsNum w' (.agg #[.slice a n c, .int .i64 l, .bool g, .bool o]) (some q) ∧ Below w.heap.size w w'
def PlO (w w' : World) (x y : Rat) (e : Ending) : Prop := ∃ a n c l g o a' n' c' l' g' o', e = .returned (.agg #[.slice a n c, .int .i64 l, .bool g, .bool o, .slice a' n' c', .int .i64 l', .bool g', .bool o']) ∧ IsNum w' (.agg #[.slice a n c, .int .i64 l, .bool g, .bool o]) (some x) ∧ IsNum w' (.agg #[.slice a' n' c', .int .i64 l', .bool g', .bool o']) (some y) ∧ Below w.heap.size w w'

theorem opr_num {w w' : World} {R : Option Rat → Prop} {e : Ending} {q : Rat} (h : OpR w w' R e) (hR : ∀ x, R x → x = some q) : NumO w w' q e := by
 obtain ⟨v, x, rfl, hn, hr, hb⟩ := h
 obtain ⟨a, n, c, l, g, o, rfl, hn⟩ := isNum_form hn
 have := hR x hr
 subst this
 exact ⟨a, n, c, l, g, o, rfl, hn, hb⟩

theorem addQ {w : World} {va vb : Value} {p q : Rat} (ha : IsNum w va (some p)) (hb : IsNum w vb (some q)) (hT : Tab w) (hm : May (p + q)) : Calls Tryz.prog 108 #[va, vb] w fun e w' => NumO w w' (p + q) e :=
 (add_any va vb _ _ w ha hb hT).mono fun _ _ h => opr_num h fun _ hx => op2_may hx hm
theorem subQ {w : World} {va vb : Value} {p q : Rat} (ha : IsNum w va (some p)) (hb : IsNum w vb (some q)) (hT : Tab w) (hm : May (p - q)) : Calls Tryz.prog 101 #[va, vb] w fun e w' => NumO w w' (p - q) e :=
 (sub_any va vb _ _ w ha hb hT).mono fun _ _ h => opr_num h fun _ hx => op2_may hx hm
theorem mulQ {w : World} {va vb : Value} {p q : Rat} (ha : IsNum w va (some p)) (hb : IsNum w vb (some q)) (hT : Tab w) (hm : May (p * q)) : Calls Tryz.prog 86 #[va, vb] w fun e w' => NumO w w' (p * q) e :=
 (mul_any va vb _ _ w ha hb hT).mono fun _ _ h => opr_num h fun _ hx => op2_may hx hm
theorem negQ {w : World} {va : Value} {p : Rat} (ha : IsNum w va (some p)) : Calls Tryz.prog 44 #[va] w fun e w' => NumO w w' (-p) e :=
 (neg_any va _ w ha).mono fun _ _ h => opr_num h fun _ hx => hx
theorem shiftQ {w : World} {va : Value} {p : Rat} (ha : IsNum w va (some p)) (hm : May (2 * p)) : Calls Tryz.prog 46 #[va, .int .i64 1] w fun e w' => NumO w w' (2 * p) e := by
 have e : p * p2 1 = 2 * p := by rw [p2_one]; grind
 exact (shift_any va _ 1 w ha).mono fun _ _ h => opr_num h fun _ hx => by rw [← e]; exact shiftX_may hx (by rw [e]; exact hm)
theorem ofQ {w : World} {b : Nat} (hb : b < 18446744073709551616) (hf : Fin64 b) (hT : Tab w) : Calls Tryz.prog 45 #[.float .f64 b] w fun e w' => NumO w w' (fval b) e :=
 (ofW_any b w hT hb).mono fun _ _ h => opr_num h fun _ hx => by rw [hx]; exact if_pos hf

theorem cmpR_sgq (p q : Rat) : cmpR p q = sgq (p - q) := by
 unfold cmpR sgq
 by_cases h : p < q
 · rw [if_pos h, if_pos (by grind : p - q < 0)]
 · rw [if_neg h, if_neg (by grind : ¬ p - q < 0)]
   by_cases h2 : q < p
   · rw [if_pos h2, if_neg (by grind : ¬ p - q = 0)]
   · rw [if_neg h2, if_pos (by grind : p - q = 0)]
theorem cmpQ {w : World} {va vb : Value} {p q : Rat} (ha : IsNum w va (some p)) (hb : IsNum w vb (some q)) : Calls Tryz.prog 30 #[va, vb] w fun e w' => e = .returned (.int .i64 (sgq (p - q))) ∧ Below w.heap.size w w' := by
 have := cmp_any va vb _ _ w ha hb
 rwa [show CmpX (some p) (some q) = sgq (p - q) from cmpR_sgq p q] at this
theorem signQ {w : World} {va : Value} {p : Rat} (ha : IsNum w va (some p)) : Calls Tryz.prog 37 #[va] w fun e w' => e = .returned (.int .i64 (sgq p)) ∧ Below w.heap.size w w' := by
 have := sign_any va _ w ha
 rwa [show sgnR ((some p).getD 0) = sgq p by
   show cmpR p 0 = sgq p
   rw [cmpR_sgq]; congr 1; grind] at this

def NoU (v : Value) : Prop := ∀ n : Nat, v ≠ .int .u64 (n : Nat)
theorem noU_sl (a : Option Addr) (n c : Nat) : NoU (.slice a n c) := fun _ h => by cases h
theorem noU_int (l : Int) : NoU (.int .i64 l) := fun _ h => by cases h
theorem noU_b (b : Bool) : NoU (.bool b) := fun _ h => by cases h
def Sets (W : World) (b : Nat) (l : List (Nat × Value)) : World := l.foldl (fun W p => W.setCell ⟨b, p.1, none⟩ p.2) W
theorem Sets.cb_other {b g t : Nat} {cs : Array Value} (hn : g ≠ b) : ∀ (l : List (Nat × Value)) {W : World}, CB W g cs t → CB (Sets W b l) g cs t
 | [], _, h => h
 | p :: l, W, h => Sets.cb_other hn l (W := W.setCell ⟨b, p.1, none⟩ p.2) (h.other hn p.2)
theorem Sets.cb {b t : Nat} : ∀ (l : List (Nat × Value)) {W : World} {cs : Array Value}, CB W b cs t → CB (Sets W b l) b (l.foldl (fun cs p => cs.set! p.1 p.2) cs) t
 | [], _, _, h => h
 | p :: l, W, _, h => Sets.cb l (W := W.setCell ⟨b, p.1, none⟩ p.2) (h.set p.1 p.2)
theorem Sets.below {N b : Nat} {w : World} (hn : N ≤ b) : ∀ (l : List (Nat × Value)) {W : World}, Below N w W → Below N w (Sets W b l)
 | [], _, h => h
 | p :: l, W, h => Sets.below hn l (W := W.setCell ⟨b, p.1, none⟩ p.2) (h.setCell hn p.2)
theorem Sets.tab {b : Nat} (hn : b ≠ 1) : ∀ (l : List (Nat × Value)) {W : World}, Tab W → Tab (Sets W b l)
 | [], _, h => h
 | p :: l, W, h => Sets.tab hn l (W := W.setCell ⟨b, p.1, none⟩ p.2) (tab_set h _ _ hn)
theorem Sets.num {b t : Nat} {v : Value} {x : Option Rat} : ∀ (l : List (Nat × Value)) {W : World} {cs : Array Value}, CB W b cs t → (∀ (i : Nat) (u : Value), cs[i]? = some u → NoU u) → (∀ p ∈ l, p.1 < cs.size ∧ NoU p.2) → IsNum W v x → IsNum (Sets W b l) v x
 | [], _, _, _, _, _, h => h
 | p :: l, W, cs, hc, hn, hl, h => by
   have hp := hl p (by simp)
   refine Sets.num l (W := W.setCell ⟨b, p.1, none⟩ p.2) (hc.set p.1 p.2) ?_ ?_ ?_
   · intro i u hu
     simp only [Array.set!_eq_setIfInBounds, Array.getElem?_setIfInBounds] at hu
     split at hu
     · split at hu
       · cases hu; exact hp.2
       · cases hu
     · exact hn i u hu
   · intro q hq
     have := hl q (by simp [hq])
     simpa using this
   · obtain ⟨a', ns, c', low', neg', nn', rfl, hw, hr⟩ := h
     refine ⟨a', ns, c', low', neg', nn', rfl, ?_, hr⟩
     exact hw.set (hc.cell p.1 hp.1) (hn p.1 _ (by simp [hp.1])) p.2
theorem Sets.cell {b g i : Nat} {x : Value} (hn : g ≠ b) : ∀ (l : List (Nat × Value)) {W : World}, W.cell? ⟨g, i, none⟩ = some x → (Sets W b l).cell? ⟨g, i, none⟩ = some x
 | [], _, h => h
 | p :: l, W, h => Sets.cell hn l (W := W.setCell ⟨b, p.1, none⟩ p.2) (by rw [World.cell?_setCell_other _ _ _ p.2 (by intro e; cases e; exact hn rfl)]; exact h)
theorem Sets.size {b : Nat} : ∀ (l : List (Nat × Value)) (W : World), (Sets W b l).heap.size = W.heap.size
 | [], _ => rfl
 | p :: l, W => by
   have := Sets.size l (W.setCell ⟨b, p.1, none⟩ p.2) (b := b)
   rw [show Sets W b (p :: l) = Sets (W.setCell ⟨b, p.1, none⟩ p.2) b l from rfl, this]
   simp

structure NB (W : World) (b : Nat) (q : Rat) : Prop where
 box : ∃ a n c l g o, CB W b #[.slice a n c, .int .i64 l, .bool g, .bool o] 49 ∧ IsNum W (.agg #[.slice a n c, .int .i64 l, .bool g, .bool o]) (some q)
theorem NB.later {W W' : World} {b : Nat} {q : Rat} (h : NB W b q) (hb : Below W.heap.size W W') : NB W' b q := by
 obtain ⟨⟨a, n, c, l, g, o, h1, h2⟩⟩ := h
 exact ⟨⟨a, n, c, l, g, o, h1.later hb, h2.later hb⟩⟩

structure Kept (w w' : World) (g : Nat) : Prop where
 num : ∀ v x, IsNum w v x → IsNum w' v x
 cb : ∀ b cs t, b ≠ g → CB w b cs t → CB w' b cs t
 cell : ∀ b i x, b ≠ g → w.cell? ⟨b, i, none⟩ = some x → w'.cell? ⟨b, i, none⟩ = some x
 bel : ∀ N v, N ≤ g → N ≤ w.heap.size → Below N v w → Below N v w'
 tab : g ≠ 1 → Tab w → Tab w'
theorem Kept.nb {w w' : World} {g b : Nat} {q : Rat} (k : Kept w w' g) (h : NB w b q) (hn : b ≠ g) : NB w' b q := by
 obtain ⟨⟨a, n, c, l, g, o, h1, h2⟩⟩ := h
 exact ⟨⟨a, n, c, l, g, o, k.cb _ _ _ hn h1, k.num _ _ h2⟩⟩
theorem Kept.later {w w1 w' : World} {g : Nat} (k : Kept w w1 g) (hb : Below w1.heap.size w1 w') (hs : w.heap.size ≤ w1.heap.size) : Kept w w' g :=
 ⟨fun _ _ h => (k.num _ _ h).later hb, fun _ _ _ hn h => (k.cb _ _ _ hn h).later hb, fun _ _ _ hn h => box_cell hb (k.cell _ _ _ hn h), fun _ _ h1 h2 h => (k.bel _ _ h1 h2 h).trans (hb.mono (Nat.le_trans h2 hs)), fun h1 h2 => (k.tab h1 h2).later hb⟩
theorem Kept.of_below {w w1 : World} {g : Nat} (hb : Below w.heap.size w w1) : Kept w w1 g :=
 ⟨fun _ _ h => h.later hb, fun _ _ _ _ h => h.later hb, fun _ _ _ _ h => box_cell hb h, fun _ _ _ h2 h => h.trans (hb.mono h2), fun _ h2 => h2.later hb⟩
theorem Kept.trans {w w1 w2 : World} {g : Nat} (k : Kept w w1 g) (k2 : Kept w1 w2 g) (hs : w.heap.size ≤ w1.heap.size) : Kept w w2 g :=
 ⟨fun _ _ h => k2.num _ _ (k.num _ _ h), fun _ _ _ hn h => k2.cb _ _ _ hn (k.cb _ _ _ hn h), fun _ _ _ hn h => k2.cell _ _ _ hn (k.cell _ _ _ hn h), fun _ _ h1 h2 h => k2.bel _ _ h1 (Nat.le_trans h2 hs) (k.bel _ _ h1 h2 h), fun h1 h2 => k2.tab h1 (k.tab h1 h2)⟩
theorem Sets.kept {W : World} {b t : Nat} {cs : Array Value} (l : List (Nat × Value)) (hc : CB W b cs t) (hn : ∀ (i : Nat) (u : Value), cs[i]? = some u → NoU u) (hl : ∀ p ∈ l, p.1 < cs.size ∧ NoU p.2) : Kept W (Sets W b l) b :=
 ⟨fun _ _ h => Sets.num l hc hn hl h, fun _ _ _ hn h => Sets.cb_other hn l h, fun _ _ _ hn h => Sets.cell hn l h, fun _ _ h1 _ h => Sets.below h1 l h, fun h1 h2 => Sets.tab h1 l h2⟩

theorem noU4 (a : Option Addr) (n c : Nat) (l : Int) (g o : Bool) : ∀ (i : Nat) (u : Value), (#[Value.slice a n c, .int .i64 l, .bool g, .bool o])[i]? = some u → NoU u := by
 intro i u h
 rcases i with _ | _ | _ | _ | i
 · cases h; exact noU_sl _ _ _
 · cases h; exact noU_int _
 · cases h; exact noU_b _
 · cases h; exact noU_b _
 · simp at h
theorem noU8 (a : Option Addr) (n c : Nat) (l : Int) (g o : Bool) (a' : Option Addr) (n' c' : Nat) (l' : Int) (g' o' : Bool) : ∀ (i : Nat) (u : Value), (#[Value.slice a n c, .int .i64 l, .bool g, .bool o, .slice a' n' c', .int .i64 l', .bool g', .bool o'])[i]? = some u → NoU u := by
 intro i u h
 rcases i with _ | _ | _ | _ | _ | _ | _ | _ | i
 · cases h; exact noU_sl _ _ _
 · cases h; exact noU_int _
 · cases h; exact noU_b _
 · cases h; exact noU_b _
 · cases h; exact noU_sl _ _ _
 · cases h; exact noU_int _
 · cases h; exact noU_b _
 · cases h; exact noU_b _
 · simp at h
def put4 (k : Nat) (a : Option Addr) (n c : Nat) (l : Int) (g o : Bool) : List (Nat × Value) := [(k, .slice a n c), (k + 1, .int .i64 l), (k + 2, .bool g), (k + 3, .bool o)]
theorem put4_ok {k m : Nat} {a : Option Addr} {n c : Nat} {l : Int} {g o : Bool} (hk : k + 4 ≤ m) : ∀ p ∈ put4 k a n c l g o, p.1 < m ∧ NoU p.2 := by
 intro p hp
 simp only [put4, List.mem_cons, List.mem_nil_iff, or_false] at hp
 rcases hp with rfl | rfl | rfl | rfl
 · exact ⟨by show k < m; omega, noU_sl _ _ _⟩
 · exact ⟨by show k + 1 < m; omega, noU_int _⟩
 · exact ⟨by show k + 2 < m; omega, noU_b _⟩
 · exact ⟨by show k + 3 < m; omega, noU_b _⟩
theorem NB.put {W : World} {b : Nat} {q p : Rat} {a : Option Addr} {n c : Nat} {l : Int} {g o : Bool} (h : NB W b q) (hn : IsNum W (.agg #[.slice a n c, .int .i64 l, .bool g, .bool o]) (some p)) : NB (Sets W b (put4 0 a n c l g o)) b p ∧ Kept W (Sets W b (put4 0 a n c l g o)) b := by
 obtain ⟨⟨a', n', c', l', g', o', h1, h2⟩⟩ := h
 have k := Sets.kept (put4 0 a n c l g o) h1 (noU4 _ _ _ _ _ _) (put4_ok (by simp))
 refine ⟨⟨⟨a, n, c, l, g, o, ?_, k.num _ _ hn⟩⟩, k⟩
 have := Sets.cb (put4 0 a n c l g o) h1
 simpa [put4] using this
theorem NB.cells {W : World} {b : Nat} {q : Rat} (h : NB W b q) : ∃ a n c l g o, (W.cell? ⟨b, 0, none⟩ = some (.slice a n c) ∧ W.cell? ⟨b, 1, none⟩ = some (.int .i64 l) ∧ W.cell? ⟨b, 2, none⟩ = some (.bool g) ∧ W.cell? ⟨b, 3, none⟩ = some (.bool o)) ∧ IsNum W (.agg #[.slice a n c, .int .i64 l, .bool g, .bool o]) (some q) ∧ ∀ i, W.frozen? ⟨b, i, none⟩ = false := by
 obtain ⟨⟨a, n, c, l, g, o, h1, h2⟩⟩ := h
 exact ⟨a, n, c, l, g, o, ⟨h1.cell 0 (by simp), h1.cell 1 (by simp), h1.cell 2 (by simp), h1.cell 3 (by simp)⟩, h2, h1.frozen⟩
theorem NB.lt {W : World} {b : Nat} {q : Rat} (h : NB W b q) : b < W.heap.size := by
 obtain ⟨⟨a, n, c, l, g, o, h1, h2⟩⟩ := h
 exact h1.lt
theorem NB.zero (W : World) : NB (W.alloc (.cells #[.slice none 0 0, .int .i64 0, .bool false, .bool false] 49)) W.heap.size 0 :=
 ⟨⟨none, 0, 0, 0, false, false, CB.new W _ _, isNum_zero _⟩⟩
theorem NB.drew {W : World} {b : Nat} {q : Rat} (h : NB W b q) : NB W.drew b q := h.later (Below.refl _ W).drew

structure PB (W : World) (b : Nat) (x y : Rat) : Prop where
 box : ∃ a n c l g o a' n' c' l' g' o', CB W b #[.slice a n c, .int .i64 l, .bool g, .bool o, .slice a' n' c', .int .i64 l', .bool g', .bool o'] 52 ∧ IsNum W (.agg #[.slice a n c, .int .i64 l, .bool g, .bool o]) (some x) ∧ IsNum W (.agg #[.slice a' n' c', .int .i64 l', .bool g', .bool o']) (some y)
theorem PB.later {W W' : World} {b : Nat} {x y : Rat} (h : PB W b x y) (hb : Below W.heap.size W W') : PB W' b x y := by
 obtain ⟨⟨a, n, c, l, g, o, a', n', c', l', g', o', h1, h2, h3⟩⟩ := h
 exact ⟨⟨a, n, c, l, g, o, a', n', c', l', g', o', h1.later hb, h2.later hb, h3.later hb⟩⟩
theorem PB.drew {W : World} {b : Nat} {x y : Rat} (h : PB W b x y) : PB W.drew b x y := h.later (Below.refl _ W).drew
theorem PB.lt {W : World} {b : Nat} {x y : Rat} (h : PB W b x y) : b < W.heap.size := by
 obtain ⟨⟨a, n, c, l, g, o, a', n', c', l', g', o', h1, h2, h3⟩⟩ := h
 exact h1.lt
theorem Kept.pb {w w' : World} {g b : Nat} {x y : Rat} (k : Kept w w' g) (h : PB w b x y) (hn : b ≠ g) : PB w' b x y := by
 obtain ⟨⟨a, n, c, l, g, o, a', n', c', l', g', o', h1, h2, h3⟩⟩ := h
 exact ⟨⟨a, n, c, l, g, o, a', n', c', l', g', o', k.cb _ _ _ hn h1, k.num _ _ h2, k.num _ _ h3⟩⟩
theorem PB.put0 {W : World} {b : Nat} {x y p : Rat} {a : Option Addr} {n c : Nat} {l : Int} {g o : Bool} (h : PB W b x y) (hn : IsNum W (.agg #[.slice a n c, .int .i64 l, .bool g, .bool o]) (some p)) : PB (Sets W b (put4 0 a n c l g o)) b p y ∧ Kept W (Sets W b (put4 0 a n c l g o)) b := by
 obtain ⟨⟨a1, n1, c1, l1, g1, o1, a', n', c', l', g', o', h1, h2, h3⟩⟩ := h
 have k := Sets.kept (put4 0 a n c l g o) h1 (noU8 _ _ _ _ _ _ _ _ _ _ _ _) (put4_ok (by simp))
 refine ⟨⟨⟨a, n, c, l, g, o, a', n', c', l', g', o', ?_, k.num _ _ hn, k.num _ _ h3⟩⟩, k⟩
 have := Sets.cb (put4 0 a n c l g o) h1
 simpa [put4] using this
theorem PB.put1 {W : World} {b : Nat} {x y p : Rat} {a : Option Addr} {n c : Nat} {l : Int} {g o : Bool} (h : PB W b x y) (hn : IsNum W (.agg #[.slice a n c, .int .i64 l, .bool g, .bool o]) (some p)) : PB (Sets W b (put4 4 a n c l g o)) b x p ∧ Kept W (Sets W b (put4 4 a n c l g o)) b := by
 obtain ⟨⟨a1, n1, c1, l1, g1, o1, a', n', c', l', g', o', h1, h2, h3⟩⟩ := h
 have k := Sets.kept (put4 4 a n c l g o) h1 (noU8 _ _ _ _ _ _ _ _ _ _ _ _) (put4_ok (by simp))
 refine ⟨⟨⟨a1, n1, c1, l1, g1, o1, a, n, c, l, g, o, ?_, k.num _ _ h2, k.num _ _ hn⟩⟩, k⟩
 have := Sets.cb (put4 4 a n c l g o) h1
 simpa [put4] using this
theorem PB.put {W : World} {b : Nat} {x y p q : Rat} {a : Option Addr} {n c : Nat} {l : Int} {g o : Bool} {a' : Option Addr} {n' c' : Nat} {l' : Int} {g' o' : Bool} (h : PB W b x y) (hn : IsNum W (.agg #[.slice a n c, .int .i64 l, .bool g, .bool o]) (some p)) (hm : IsNum W (.agg #[.slice a' n' c', .int .i64 l', .bool g', .bool o']) (some q)) :
   PB (Sets (Sets W b (put4 0 a n c l g o)) b (put4 4 a' n' c' l' g' o')) b p q ∧ Kept W (Sets (Sets W b (put4 0 a n c l g o)) b (put4 4 a' n' c' l' g' o')) b ∧ IsNum (Sets (Sets W b (put4 0 a n c l g o)) b (put4 4 a' n' c' l' g' o')) (.agg #[.slice a n c, .int .i64 l, .bool g, .bool o]) (some p) ∧ IsNum (Sets (Sets W b (put4 0 a n c l g o)) b (put4 4 a' n' c' l' g' o')) (.agg #[.slice a' n' c', .int .i64 l', .bool g', .bool o']) (some q) ∧
     CB (Sets (Sets W b (put4 0 a n c l g o)) b (put4 4 a' n' c' l' g' o')) b #[.slice a n c, .int .i64 l, .bool g, .bool o, .slice a' n' c', .int .i64 l', .bool g', .bool o'] 52 := by
 obtain ⟨h1, k1⟩ := h.put0 hn
 obtain ⟨h2, k2⟩ := h1.put1 (k1.num _ _ hm)
 have k := k1.trans k2 (by rw [Sets.size]; exact Nat.le_refl _)
 refine ⟨h2, k, k.num _ _ hn, k.num _ _ hm, ?_⟩
 obtain ⟨⟨a1, n1, c1, l1, g1, o1, a2, n2, c2, l2, g2, o2, e1, _, _⟩⟩ := h
 have := Sets.cb (put4 4 a' n' c' l' g' o') (Sets.cb (put4 0 a n c l g o) e1)
 simpa [put4] using this
theorem PB.cells {W : World} {b : Nat} {x y : Rat} (h : PB W b x y) : ∃ a n c l g o a' n' c' l' g' o', (W.cell? ⟨b, 0, none⟩ = some (.slice a n c) ∧ W.cell? ⟨b, 1, none⟩ = some (.int .i64 l) ∧ W.cell? ⟨b, 2, none⟩ = some (.bool g) ∧ W.cell? ⟨b, 3, none⟩ = some (.bool o) ∧ W.cell? ⟨b, 4, none⟩ = some (.slice a' n' c') ∧ W.cell? ⟨b, 5, none⟩ = some (.int .i64 l') ∧ W.cell? ⟨b, 6, none⟩ = some (.bool g') ∧ W.cell? ⟨b, 7, none⟩ = some (.bool o')) ∧ IsNum W (.agg #[.slice a n c, .int .i64 l, .bool g, .bool o]) (some x) ∧ IsNum W (.agg #[.slice a' n' c', .int .i64 l', .bool g', .bool o']) (some y) ∧ ∀ i, W.frozen? ⟨b, i, none⟩ = false := by
 obtain ⟨⟨a, n, c, l, g, o, a', n', c', l', g', o', h1, h2, h3⟩⟩ := h
 exact ⟨a, n, c, l, g, o, a', n', c', l', g', o', ⟨h1.cell 0 (by simp), h1.cell 1 (by simp), h1.cell 2 (by simp), h1.cell 3 (by simp), h1.cell 4 (by simp), h1.cell 5 (by simp), h1.cell 6 (by simp), h1.cell 7 (by simp)⟩, h2, h3, h1.frozen⟩
theorem PB.zero (W : World) : PB (W.alloc (.cells #[.slice none 0 0, .int .i64 0, .bool false, .bool false, .slice none 0 0, .int .i64 0, .bool false, .bool false] 52)) W.heap.size 0 0 :=
 ⟨⟨none, 0, 0, 0, false, false, none, 0, 0, 0, false, false, CB.new W _ _, isNum_zero _, isNum_zero _⟩⟩

def NF (W : World) (v : Value) (q : Rat) : Prop := ∃ a n c l g o, v = .agg #[.slice a n c, .int .i64 l, .bool g, .bool o] ∧ IsNum W (.agg #[.slice a n c, .int .i64 l, .bool g, .bool o]) (some q)
theorem NF.later {W W' : World} {v : Value} {q : Rat} (h : NF W v q) (hb : Below W.heap.size W W') : NF W' v q := by
 obtain ⟨a, n, c, l, g, o, h1, h2⟩ := h
 exact ⟨a, n, c, l, g, o, h1, h2.later hb⟩
def PF (W : World) (v : Value) (x y : Rat) : Prop := ∃ a n c l g o a' n' c' l' g' o', v = .agg #[.slice a n c, .int .i64 l, .bool g, .bool o, .slice a' n' c', .int .i64 l', .bool g', .bool o'] ∧ IsNum W (.agg #[.slice a n c, .int .i64 l, .bool g, .bool o]) (some x) ∧ IsNum W (.agg #[.slice a' n' c', .int .i64 l', .bool g', .bool o']) (some y)
theorem PF.later {W W' : World} {v : Value} {x y : Rat} (h : PF W v x y) (hb : Below W.heap.size W W') : PF W' v x y := by
 obtain ⟨a, n, c, l, g, o, a', n', c', l', g', o', h1, h2, h3⟩ := h
 exact ⟨a, n, c, l, g, o, a', n', c', l', g', o', h1, h2.later hb, h3.later hb⟩

theorem NB.put' {W : World} {b : Nat} {q p : Rat} {a : Option Addr} {n c : Nat} {l : Int} {g o : Bool} (h : NB W b q) (hn : IsNum W (.agg #[.slice a n c, .int .i64 l, .bool g, .bool o]) (some p)) : NB (Sets W b (put4 0 a n c l g o)) b p ∧ Kept W (Sets W b (put4 0 a n c l g o)) b ∧ IsNum (Sets W b (put4 0 a n c l g o)) (.agg #[.slice a n c, .int .i64 l, .bool g, .bool o]) (some p) ∧ CB (Sets W b (put4 0 a n c l g o)) b #[.slice a n c, .int .i64 l, .bool g, .bool o] 49 := by
 obtain ⟨h1, k⟩ := h.put hn
 refine ⟨h1, k, k.num _ _ hn, ?_⟩
 obtain ⟨⟨a', n', c', l', g', o', e1, _⟩⟩ := h
 have := Sets.cb (put4 0 a n c l g o) e1
 simpa [put4] using this
theorem Tab.lt {w : World} (h : Tab w) : 1 < w.heap.size := World.block_lt_of_cell? _ _ (h 0 (by decide))
theorem Kept.fresh {w w1 w2 : World} {g r : Nat} (k : Kept w w1 g) (k2 : Kept w1 w2 r) (hr : w.heap.size ≤ r) (hs : w.heap.size ≤ w1.heap.size) : Kept w w2 g :=
 ⟨fun _ _ h => k2.num _ _ (k.num _ _ h), fun _ _ _ hn h => k2.cb _ _ _ (by have := h.lt; omega) (k.cb _ _ _ hn h), fun _ _ _ hn h => k2.cell _ _ _ (by have := World.block_lt_of_cell? _ _ h; simp at this; omega) (k.cell _ _ _ hn h), fun _ _ h1 h2 h => k2.bel _ _ (Nat.le_trans h2 hr) (Nat.le_trans h2 hs) (k.bel _ _ h1 h2 h), fun h1 h2 => k2.tab (by have := h2.lt; omega) (k.tab h1 h2)⟩

end Go.Proofs.YtocnkgfoffpbfaaGreatDoor
