/- Own texts, put together: Nh Fa Fe Ff. -/
import Derived.Test.YtlpnobcapdbfkaaDoorQ2
import Derived.Test.YtlpnobcapdbfkaaDoorQ4
import Derived.Test.YtlpnobcapdbfkaaDoorQ15
/- Cmp, High and Low. -/
namespace Go.Proofs.YtlpnobcapdbfkaaDoor
open Go.RowKit
attribute [local go_sem ↓] Go.wp_at_zero Go.wp_at_succ
theorem keep8 {w W W' : World} {p0 p1 p2 p3 p4 p5 p6 p7 : Addr} {x0 x1 x2 x3 x4 x5 x6 x7 : Value} (h : W.cell? p0 = some x0 ∧ W.cell? p1 = some x1 ∧ W.cell? p2 = some x2 ∧ W.cell? p3 = some x3 ∧ W.cell? p4 = some x4 ∧ W.cell? p5 = some x5 ∧ W.cell? p6 = some x6 ∧ W.cell? p7 = some x7 ∧ Below w.heap.size w W) (hb : Below W.heap.size W W') :
   W'.cell? p0 = some x0 ∧ W'.cell? p1 = some x1 ∧ W'.cell? p2 = some x2 ∧ W'.cell? p3 = some x3 ∧ W'.cell? p4 = some x4 ∧ W'.cell? p5 = some x5 ∧ W'.cell? p6 = some x6 ∧ W'.cell? p7 = some x7 ∧ Below w.heap.size w W' :=
 ⟨cell_later hb h.1, cell_later hb h.2.1, cell_later hb h.2.2.1, cell_later hb h.2.2.2.1, cell_later hb h.2.2.2.2.1, cell_later hb h.2.2.2.2.2.1, cell_later hb h.2.2.2.2.2.2.1, cell_later hb h.2.2.2.2.2.2.2.1, h.2.2.2.2.2.2.2.2.trans (hb.mono h.2.2.2.2.2.2.2.2.size)⟩
theorem bel8 {w W : World} {p0 p1 p2 p3 p4 p5 p6 p7 : Addr} {x0 x1 x2 x3 x4 x5 x6 x7 : Value} (h : W.cell? p0 = some x0 ∧ W.cell? p1 = some x1 ∧ W.cell? p2 = some x2 ∧ W.cell? p3 = some x3 ∧ W.cell? p4 = some x4 ∧ W.cell? p5 = some x5 ∧ W.cell? p6 = some x6 ∧ W.cell? p7 = some x7 ∧ Below w.heap.size w W) : Below w.heap.size w W := h.2.2.2.2.2.2.2.2
theorem sg_range (q : Rat) : -1 ≤ sgnR q ∧ sgnR q ≤ 1 := by unfold sgnR cmpR; split <;> (try split) <;> omega
theorem cmpR_range (p q : Rat) : -1 ≤ cmpR p q ∧ cmpR p q ≤ 1 := by unfold cmpR; split <;> (try split) <;> omega
theorem cmp_signs {p q : Rat} (h : sgnR p ≠ sgnR q) : cmpI (sgnR p) (sgnR q) = cmpR p q := by
 unfold sgnR cmpR at *
 unfold cmpI
 rcases Rat.le_total (a := p) (b := 0) with h1 | h1 <;> rcases Rat.le_total (a := q) (b := 0) with h2 | h2
 all_goals grind
theorem cmp_mags {p q : Rat} {neg1 neg2 : Bool} (hp : 0 ≤ p) (hq : 0 ≤ q) (h : sgnR (sg neg1 * p) = sgnR (sg neg2 * q)) : sgnR (sg neg1 * p) * cmpR p q = cmpR (sg neg1 * p) (sg neg2 * q) := by
 unfold sgnR cmpR sg at *
 cases neg1 <;> cases neg2 <;> simp only [Bool.false_eq_true, if_false, if_true] at h ⊢
 all_goals grind
set_option maxHeartbeats 1000000 in
theorem cmp_none1 (a1 a2 : Option Addr) (n1 n2 c1 c2 : Nat) (low1 low2 : Int) (neg1 neg2 nn2 : Bool) (w : World) :
   Calls Tryd.prog 12 #[.agg #[.slice a1 n1 c1, .int .i64 low1, .bool neg1, .bool true], .agg #[.slice a2 n2 c2, .int .i64 low2, .bool neg2, .bool nn2]] w fun e w' => e = .returned (.int .i64 0) ∧ Below w.heap.size w w' := by
 go_enter Tryd.func12, Tryd.ntmps12
 go_wp2
 go_ret
 exact ⟨rfl, ((Below.refl _ _).alloc (Nat.le_refl _) _).alloc (by simp) _⟩
set_option maxHeartbeats 1000000 in
theorem cmp_none2 (a1 a2 : Option Addr) (n1 n2 c1 c2 : Nat) (low1 low2 : Int) (neg1 neg2 : Bool) (w : World) :
   Calls Tryd.prog 12 #[.agg #[.slice a1 n1 c1, .int .i64 low1, .bool neg1, .bool false], .agg #[.slice a2 n2 c2, .int .i64 low2, .bool neg2, .bool true]] w fun e w' => e = .returned (.int .i64 0) ∧ Below w.heap.size w w' := by
 go_enter Tryd.func12, Tryd.ntmps12
 go_wp2
 go_ret
 exact ⟨rfl, ((Below.refl _ _).alloc (Nat.le_refl _) _).alloc (by simp) _⟩
set_option maxHeartbeats 2000000 in
theorem cmp_walk (a1 a2 : Option Addr) (c1 c2 : Nat) (ns1 ns2 : List Nat) (low1 low2 : Int) (neg1 neg2 : Bool) (w : World) (m1 : IsMag w (.slice a1 ns1.length c1) ns1 low1) (m2 : IsMag w (.slice a2 ns2.length c2) ns2 low2) :
   Calls Tryd.prog 12 #[.agg #[.slice a1 ns1.length c1, .int .i64 low1, .bool neg1, .bool false], .agg #[.slice a2 ns2.length c2, .int .i64 low2, .bool neg2, .bool false]] w fun e w' => e = .returned (.int .i64 (cmpR (sg neg1 * magR ns1 low1) (sg neg2 * magR ns2 low2))) ∧ Below w.heap.size w w' := by
 have HB0 : Hid (Below w.heap.size w ((w.alloc (.cells #[.slice a1 ns1.length c1, .int .i64 low1, .bool neg1, .bool false] 27)).alloc (.cells #[.slice a2 ns2.length c2, .int .i64 low2, .bool neg2, .bool false] 27))) := ((Below.refl _ _).alloc (Nat.le_refl _) _).alloc (by simp) _
 have M1 : Hid (IsMag w (.slice a1 ns1.length c1) ns1 low1) := m1
 have M2 : Hid (IsMag w (.slice a2 ns2.length c2) ns2 low2) := m2
 have hs1 := sgn_num (neg := neg1) m1.own
 have hs2 := sgn_num (neg := neg2) m2.own
 have r1 := sg_range (sg neg1 * magR ns1 low1)
 have r2 := cmpR_range (magR ns1 low1) (magR ns2 low2)
 have HF1 : Hid (sgnR (sg neg1 * magR ns1 low1) ≠ sgnR (sg neg2 * magR ns2 low2) → cmpI (sgnR (sg neg1 * magR ns1 low1)) (sgnR (sg neg2 * magR ns2 low2)) = cmpR (sg neg1 * magR ns1 low1) (sg neg2 * magR ns2 low2)) := cmp_signs
 have HF2 : Hid (sgnR (sg neg1 * magR ns1 low1) = sgnR (sg neg2 * magR ns2 low2) → sgnR (sg neg1 * magR ns1 low1) * cmpR (magR ns1 low1) (magR ns2 low2) = cmpR (sg neg1 * magR ns1 low1) (sg neg2 * magR ns2 low2)) := cmp_mags (magR_nonneg _ _) (magR_nonneg _ _)
 have HS1 : Hid _ := hs1
 have HS2 : Hid _ := hs2
 clear hs1 hs2 m1 m2
 generalize hg1 : sgnR (sg neg1 * magR ns1 low1) = g1 at *
 generalize hg2 : sgnR (sg neg2 * magR ns2 low2) = g2 at *
 generalize hg3 : cmpR (sg neg1 * magR ns1 low1) (sg neg2 * magR ns2 low2) = g3 at *
 clear hg1 hg2 hg3
 go_enter Tryd.func12, Tryd.ntmps12
 go_wp2
 go_region_held3 (fun W => W.cell? ⟨w.heap.size, 0, none⟩ = some (.slice a1 ns1.length c1) ∧ W.cell? ⟨w.heap.size, 1, none⟩ = some (.int .i64 low1) ∧ W.cell? ⟨w.heap.size, 2, none⟩ = some (.bool neg1) ∧ W.cell? ⟨w.heap.size, 3, none⟩ = some (.bool false) ∧ W.cell? ⟨w.heap.size + 1, 0, none⟩ = some (.slice a2 ns2.length c2) ∧ W.cell? ⟨w.heap.size + 1, 1, none⟩ = some (.int .i64 low2) ∧ W.cell? ⟨w.heap.size + 1, 2, none⟩ = some (.bool neg2) ∧ W.cell? ⟨w.heap.size + 1, 3, none⟩ = some (.bool false) ∧ Below w.heap.size w W)
   (first
     | assumption
     | exact ⟨by go_simp, by go_simp, by go_simp, by go_simp, by go_simp, by go_simp, by go_simp, by go_simp, HB0.out.drew⟩
     | exact keep8 (by assumption) (by assumption))
   (first
     | (go_at_call_of 8 low1; refine (sign_walk _ _ _ _ _ _ _).mono ?_; rw [HS1.out]; rintro e wx ⟨rfl, hbx⟩)
     | (go_at_call_of 8 low2; refine (sign_walk _ _ _ _ _ _ _).mono ?_; rw [HS2.out]; rintro e wx ⟨rfl, hbx⟩)
     | (go_at_call 27; refine (cmpInt_any _ _ _).mono ?_; rintro e wz ⟨rfl, rfl⟩))
 have hh := (by assumption : wz.cell? ⟨w.heap.size, 0, none⟩ = _ ∧ wz.cell? ⟨w.heap.size, 1, none⟩ = _ ∧ wz.cell? ⟨w.heap.size, 2, none⟩ = _ ∧ wz.cell? ⟨w.heap.size, 3, none⟩ = _ ∧ wz.cell? _ = _ ∧ wz.cell? _ = _ ∧ wz.cell? _ = _ ∧ wz.cell? _ = _ ∧ Below w.heap.size w wz)
 obtain ⟨q0, q1, q2, q3, q4, q5, q6, q7, q8⟩ := hh
 have Q8 : Hid (Below w.heap.size w wz) := q8
 clear q8
 by_cases hg : g1 = g2
 · have hz : (cmpI g1 g2 != 0) = false := by rw [hg]; simp [cmpI]
   have hf := HF2.out hg
   have hw : IntKind.i64.wrap (g1 * cmpR (magR ns1 low1) (magR ns2 low2)) = g3 := by
     rw [hf]
     refine wrapI _ ?_ ?_
     · rw [← hf]
       have : g1 = -1 ∨ g1 = 0 ∨ g1 = 1 := by omega
       rcases this with h | h | h <;> rw [h] <;> omega
     · rw [← hf]
       have : g1 = -1 ∨ g1 = 0 ∨ g1 = 1 := by omega
       rcases this with h | h | h <;> rw [h] <;> omega
   have HG : Hid (g1 = g2) := hg
   clear hf hg
   generalize cmpI g1 g2 = cc at *
   generalize h4 : cmpR (magR ns1 low1) (magR ns2 low2) = c4 at *
   have H4 : Hid (cmpR (magR ns1 low1) (magR ns2 low2) = c4) := h4
   clear h4
   go_wp2
   go_region_held3 (fun W => W.cell? ⟨w.heap.size, 0, none⟩ = some (.slice a1 ns1.length c1) ∧ W.cell? ⟨w.heap.size, 1, none⟩ = some (.int .i64 low1) ∧ W.cell? ⟨w.heap.size, 2, none⟩ = some (.bool neg1) ∧ W.cell? ⟨w.heap.size, 3, none⟩ = some (.bool false) ∧ W.cell? ⟨w.heap.size + 1, 0, none⟩ = some (.slice a2 ns2.length c2) ∧ W.cell? ⟨w.heap.size + 1, 1, none⟩ = some (.int .i64 low2) ∧ W.cell? ⟨w.heap.size + 1, 2, none⟩ = some (.bool neg2) ∧ W.cell? ⟨w.heap.size + 1, 3, none⟩ = some (.bool false) ∧ Below w.heap.size w W)
     (first
       | assumption
       | exact ⟨q0, q1, q2, q3, q4, q5, q6, q7, Q8.out.drew⟩
       | exact keep8 (by assumption) (by assumption))
     (first
       | (go_at_call 8; refine (sign_walk _ _ _ _ _ _ _).mono ?_; rw [HS1.out]; rintro e wx ⟨rfl, hbx⟩)
       | (go_at_call 28; refine (against_any _ _ ns1 ns2 _ _ _ (M1.out.later (bel8 (by assumption))) (M2.out.later (bel8 (by assumption)))).mono ?_; rw [H4.out]; rintro e wy ⟨rfl, hby⟩))
   have hBf := (by assumption : wy.cell? ⟨w.heap.size, 0, none⟩ = _ ∧ wy.cell? ⟨w.heap.size, 1, none⟩ = _ ∧ wy.cell? ⟨w.heap.size, 2, none⟩ = _ ∧ wy.cell? ⟨w.heap.size, 3, none⟩ = _ ∧ wy.cell? _ = _ ∧ wy.cell? _ = _ ∧ wy.cell? _ = _ ∧ wy.cell? _ = _ ∧ Below w.heap.size w wy).2.2.2.2.2.2.2.2
   have HBF : Hid _ := hBf
   clear hBf
   go_wp2
   go_ret
   exact ⟨rfl, HBF.out⟩
 · have hz : (cmpI g1 g2 != 0) = true := by
     rw [bne_iff_ne]; unfold cmpI; split
     · omega
     · split <;> omega
   have hf := HF1.out hg
   clear hg
   generalize cmpI g1 g2 = cc at *
   subst hf
   go_wp2
   go_ret
   exact ⟨rfl, Q8.out⟩
def CmpX (a b : Option Rat) : Int := match a, b with
 | some p, some q => cmpR p q
 | _, _ => 0
theorem cmp_any (va vb : Value) (a b : Option Rat) (w : World) (ha : IsNum w va a) (hb : IsNum w vb b) :
   Calls Tryd.prog 12 #[va, vb] w fun e w' => e = .returned (.int .i64 (CmpX a b)) ∧ Below w.heap.size w w' := by
 obtain ⟨a1, ns1, c1, low1, neg1, nn1, rfl, p2, p3, p4, p5, p6, p7, p8⟩ := ha
 obtain ⟨a2, ns2, c2, low2, neg2, nn2, rfl, r2, r3, r4, r5, r6, r7, r8⟩ := hb
 cases nn1 with
 | true =>
   rw [(p7 rfl).2]
   exact cmp_none1 a1 a2 _ _ c1 c2 low1 low2 neg1 neg2 nn2 w
 | false =>
   cases nn2 with
   | true =>
     rw [p8 rfl, (r7 rfl).2]
     exact cmp_none2 a1 a2 _ _ c1 c2 low1 low2 neg1 neg2 w
   | false =>
     rw [p8 rfl, r8 rfl]
     exact cmp_walk a1 a2 c1 c2 ns1 ns2 low1 low2 neg1 neg2 w ⟨p2, p3, p4, p5⟩ ⟨r2, r3, r4, r5⟩
set_option maxHeartbeats 1000000 in
theorem high_walk (a1 : Option Addr) (c1 : Nat) (ns1 : List Nat) (low1 : Int) (neg1 nn1 : Bool) (w : World) (m1 : IsMag w (.slice a1 ns1.length c1) ns1 low1) :
   Calls Tryd.prog 19 #[.agg #[.slice a1 ns1.length c1, .int .i64 low1, .bool neg1, .bool nn1]] w fun e w' => e = .returned (.int .i64 (hiB ns1 low1)) ∧ Below w.heap.size w w' := by
 have HB0 : Hid (Below w.heap.size w (w.alloc (.cells #[.slice a1 ns1.length c1, .int .i64 low1, .bool neg1, .bool nn1] 27))) := (Below.refl _ _).alloc (Nat.le_refl _) _
 have M1 : Hid (IsMag w (.slice a1 ns1.length c1) ns1 low1) := m1
 have g1 := m1.lo
 have g2 := m1.low_le
 clear m1
 go_enter Tryd.func19, Tryd.ntmps19
 go_wp2_with fail
 refine (highest_any _ ns1 _ _ (M1.out.later HB0.out).ws (own_topped M1.out.own) (by omega) (by omega)).mono ?_
 rintro e w1 ⟨rfl, hb1⟩
 go_wp2
 go_ret
 exact ⟨rfl, thru HB0.out hb1⟩
set_option maxHeartbeats 1000000 in
theorem low_walk (a1 : Option Addr) (n1 c1 : Nat) (low1 : Int) (neg1 nn1 : Bool) (w : World) :
   Calls Tryd.prog 20 #[.agg #[.slice a1 n1 c1, .int .i64 low1, .bool neg1, .bool nn1]] w fun e w' => e = .returned (.int .i64 low1) ∧ Below w.heap.size w w' := by
 have HB0 : Hid (Below w.heap.size w (w.alloc (.cells #[.slice a1 n1 c1, .int .i64 low1, .bool neg1, .bool nn1] 27))) := (Below.refl _ _).alloc (Nat.le_refl _) _
 go_enter Tryd.func20, Tryd.ntmps20
 go_wp2_with fail
 refine (lowest_any _ _ _ _ _).mono ?_
 rintro e w1 ⟨rfl, hb1⟩
 go_wp2
 go_ret
 exact ⟨rfl, thru HB0.out hb1⟩
def HighOf (q : Rat) (h : Int) : Prop := (q = 0 ∧ h = 0) ∨ (q ≠ 0 ∧ ((p2 h ≤ q ∧ q < p2 (h + 1)) ∨ (p2 h ≤ -q ∧ -q < p2 (h + 1))))
def LowOf (q : Rat) (l : Int) : Prop := (q = 0 ∧ l = 0) ∨ (∃ m : Int, q = ((2 * m + 1 : Int) : Rat) * p2 l)
theorem high_any (va : Value) (a : Option Rat) (w : World) (ha : IsNum w va a) :
   Calls Tryd.prog 19 #[va] w fun e w' => (∃ h, e = .returned (.int .i64 h) ∧ HighOf (a.getD 0) h) ∧ Below w.heap.size w w' := by
 obtain ⟨a1, ns1, c1, low1, neg1, nn1, rfl, q2, q3, q4, q5, q6, q7, q8⟩ := ha
 refine (high_walk a1 c1 ns1 low1 neg1 nn1 w ⟨q2, q3, q4, q5⟩).mono ?_
 rintro e w' ⟨rfl, hb⟩
 refine ⟨⟨_, rfl, ?_⟩, hb⟩
 by_cases hne : ns1 = []
 · have e0 : a.getD 0 = 0 := by
     cases nn1 with
     | true => rw [(q7 rfl).2]; rfl
     | false => rw [q8 rfl, hne, magR_nil]; simp
   exact Or.inl ⟨e0, by rw [hne]; simp [hiB]⟩
 · have hn : nn1 = false := by
     cases nn1 with
     | true => exact absurd (q7 rfl).1 hne
     | false => rfl
   obtain ⟨h1, h2⟩ := own_lo q3 hne
   have h3 := magR_pos q3 hne
   rw [q8 hn]
   refine Or.inr ⟨?_, ?_⟩
   · show sg neg1 * magR ns1 low1 ≠ 0
     cases neg1 <;> simp only [sg, Bool.false_eq_true, if_false, if_true] <;> grind
   · show (p2 (hiB ns1 low1) ≤ sg neg1 * magR ns1 low1 ∧ _) ∨ _
     cases neg1
     · left; simp only [sg, Bool.false_eq_true, if_false, Option.getD_some]; grind
     · right; simp only [sg, if_true, Option.getD_some]; grind
theorem low_any (va : Value) (a : Option Rat) (w : World) (ha : IsNum w va a) :
   Calls Tryd.prog 20 #[va] w fun e w' => (∃ l, e = .returned (.int .i64 l) ∧ LowOf (a.getD 0) l) ∧ Below w.heap.size w w' := by
 obtain ⟨a1, ns1, c1, low1, neg1, nn1, rfl, q2, q3, q4, q5, q6, q7, q8⟩ := ha
 refine (low_walk a1 _ c1 low1 neg1 nn1 w).mono ?_
 rintro e w' ⟨rfl, hb⟩
 refine ⟨⟨_, rfl, ?_⟩, hb⟩
 by_cases hne : ns1 = []
 · have e0 : a.getD 0 = 0 := by
     cases nn1 with
     | true => rw [(q7 rfl).2]; rfl
     | false => rw [q8 rfl, hne, magR_nil]; simp
   refine Or.inl ⟨e0, ?_⟩
   rcases q3 with ⟨_, h⟩ | ⟨h, _⟩
   · exact h
   · exact absurd hne h
 · have hn : nn1 = false := by
     cases nn1 with
     | true => exact absurd (q7 rfl).1 hne
     | false => rfl
   have hodd : val ns1 % 2 = 1 := by
     rcases q3 with ⟨h, _⟩ | ⟨_, h, _⟩
     · exact absurd h hne
     · exact h
   rw [q8 hn]
   have ev : ((val ns1 : Nat) : Rat) = ((2 * ((val ns1 / 2 : Nat) : Int) + 1 : Int) : Rat) := by
     have : ((val ns1 : Nat) : Int) = 2 * ((val ns1 / 2 : Nat) : Int) + 1 := by omega
     rw [← this]; rfl
   refine Or.inr ?_
   cases neg1
   · refine ⟨((val ns1 / 2 : Nat) : Int), ?_⟩
     show sg false * magR ns1 low1 = _
     rw [← ev]; simp [sg, magR]
   · refine ⟨-((val ns1 / 2 : Nat) : Int) - 1, ?_⟩
     show sg true * magR ns1 low1 = _
     have e2 : ((2 * (-((val ns1 / 2 : Nat) : Int) - 1) + 1 : Int) : Rat) = -((2 * ((val ns1 / 2 : Nat) : Int) + 1 : Int) : Rat) := by
       rw [← Rat.intCast_neg]; congr 1; omega
     rw [e2, ← ev]; simp only [sg, if_true, magR]; grind
end Go.Proofs.YtlpnobcapdbfkaaDoor

/- Floats: the small functions of package math, on words, lie in B0. -/

/- Of and Int: the numbers that a float and a whole number are. -/
namespace Go.Proofs.YtlpnobcapdbfkaaDoor
open Go.RowKit
theorem row_one {w : World} {g x : Nat} (hc : w.cell? ⟨g, 0, none⟩ = some (.int .u64 (x : Nat))) (hg : g < w.heap.size) (hx : x < 18446744073709551616) : Ws w (.slice (some ⟨g, 0, none⟩) 1 1) [x] :=
 ⟨⟨_, _, rfl, Nat.le_refl _, Or.inr ⟨g, 0, rfl, hg, fun j hj => by
   have : j = 0 := by simpa using hj
   subst this
   simpa using hc⟩⟩, fun n hn => by simp at hn; omega, by simp⟩
theorem val_one (x : Nat) : val [x] = x := by simp [val]
set_option maxHeartbeats 2000000 in
theorem int_walk (n : Int) (m : Nat) (ng : Bool) (w : World) (hT : Tab w) (hn : decide (n < 0) = ng) (h1 : IntKind.u64.wrap n = (m : Int) ∧ ng = false ∨ (∃ p : Nat, IntKind.u64.wrap n = (p : Int) ∧ IntKind.u64.wrap (-(p : Int)) = (m : Int)) ∧ ng = true) (hm : m < 18446744073709551616) :
   Calls Tryd.prog 5 #[.int .i64 n] w fun e w' => NumR w w' (sg ng * ((m : Nat) * p2 0)) e := by
 have HT : Hid (Tab w) := hT
 have HM : Hid (m < 18446744073709551616) := hm
 clear hT hm
 rcases h1 with ⟨h1, rfl⟩ | ⟨⟨p, h1, h2⟩, rfl⟩
 · have hn' : ¬ n < 0 := by simpa using hn
   have HD : Hid (decide (n < 0) = false) := hn
   clear hn
   have HB0 : Hid (Below w.heap.size w ((w.alloc (.cells #[.slice none 0 0, .int .i64 0, .bool false, .bool false] 27)).alloc (.cells #[.int .u64 (m : Nat)] 39))) := ((Below.refl _ _).alloc (Nat.le_refl _) _).alloc (by simp) _
   have HW : Hid (Ws ((w.alloc (.cells #[.slice none 0 0, .int .i64 0, .bool false, .bool false] 27)).alloc (.cells #[.int .u64 (m : Nat)] 39)) (.slice (some ⟨w.heap.size + 1, 0, none⟩) 1 1) [m]) := row_one (by go_simp) (by simp) HM.out
   go_enter Tryd.func5, Tryd.ntmps5
   go_wp2_with fail
   refine (own_any _ [m] _ _ HW.out (HT.out.later HB0.out) (by omega) (by omega)).mono ?_
   rintro e w5 ⟨s5, ns5, low5, rfl, hws5, ho5, ht5, hlo5, hb5⟩
   have hq5 := tells_magR ht5
   rw [val_one] at hq5
   go_wp2_with fail
   refine (number_any _ ns5 _ _ _ hws5 ho5 hlo5.1 hlo5.2).mono ?_
   rintro e w6 ⟨v9, x9, rfl, ⟨a9, ns9, c9, low9, neg9, nn9, rfl, hws9, hrest⟩, hN9, hb6⟩
   have hB6 := thru hb5 hb6
   have t0 : w6.cell? ⟨w.heap.size, 0, none⟩ = some (.slice none 0 0) := cell_later hB6 (by go_simp)
   have t1 : w6.cell? ⟨w.heap.size, 1, none⟩ = some (.int .i64 0) := cell_later hB6 (by go_simp)
   have t2 : w6.cell? ⟨w.heap.size, 2, none⟩ = some (.bool false) := cell_later hB6 (by go_simp)
   have t3 : w6.cell? ⟨w.heap.size, 3, none⟩ = some (.bool false) := cell_later hB6 (by go_simp)
   have u0 : ∀ i, w6.frozen? ⟨w.heap.size, i, none⟩ = false := fun i => frozen_later hB6 (by go_simp) (by simp; omega)
   have HB6 : Hid (Below w.heap.size w w6) := thru HB0.out hB6
   rw [hq5] at hN9
   rw [HD.out] at hN9
   have HN9 : Hid _ := hN9
   clear hb5 hb6 hB6 hq5 hlo5 hws5 ho5 hN9 HB0 ht5
   have HRST : Hid _ := hrest
   clear hrest
   go_wp2
   refine bodyPost_ret (v := .agg #[.slice a9 ns9.length c9, .int .i64 low9, .bool neg9, .bool nn9]) (by simp [results, Tryd.results5, go_sem, t0, t1, t2, t3]) rfl ?_
   have hw9 := ws4 hws9 t0 t1 t2 t3 (.slice a9 ns9.length c9) (.int .i64 low9) (.bool neg9) (.bool nn9)
   refine ⟨_, x9, rfl, ⟨a9, ns9, c9, low9, neg9, nn9, rfl, hw9, HRST.out⟩, HN9.out, ?_⟩
   repeat (first | exact HB6.out | refine Below.drew ?_ | refine Below.setCell ?_ (by simp) _)
 · have hn' : n < 0 := by simpa using hn
   clear hn
   have HB0 : Hid (Below w.heap.size w ((w.alloc (.cells #[.slice none 0 0, .int .i64 0, .bool false, .bool false] 27)).alloc (.cells #[.int .u64 (m : Nat)] 39))) := ((Below.refl _ _).alloc (Nat.le_refl _) _).alloc (by simp) _
   have HW : Hid (Ws ((w.alloc (.cells #[.slice none 0 0, .int .i64 0, .bool false, .bool false] 27)).alloc (.cells #[.int .u64 (m : Nat)] 39)) (.slice (some ⟨w.heap.size + 1, 0, none⟩) 1 1) [m]) := row_one (by go_simp) (by simp) HM.out
   go_enter Tryd.func5, Tryd.ntmps5
   go_wp2_with fail
   refine (own_any _ [m] _ _ HW.out (HT.out.later HB0.out) (by omega) (by omega)).mono ?_
   rintro e w5 ⟨s5, ns5, low5, rfl, hws5, ho5, ht5, hlo5, hb5⟩
   have hq5 := tells_magR ht5
   rw [val_one] at hq5
   go_wp2_with fail
   refine (number_any _ ns5 _ _ _ hws5 ho5 hlo5.1 hlo5.2).mono ?_
   rintro e w6 ⟨v9, x9, rfl, ⟨a9, ns9, c9, low9, neg9, nn9, rfl, hws9, hrest⟩, hN9, hb6⟩
   have hB6 := thru hb5 hb6
   have t0 : w6.cell? ⟨w.heap.size, 0, none⟩ = some (.slice none 0 0) := cell_later hB6 (by go_simp)
   have t1 : w6.cell? ⟨w.heap.size, 1, none⟩ = some (.int .i64 0) := cell_later hB6 (by go_simp)
   have t2 : w6.cell? ⟨w.heap.size, 2, none⟩ = some (.bool false) := cell_later hB6 (by go_simp)
   have t3 : w6.cell? ⟨w.heap.size, 3, none⟩ = some (.bool false) := cell_later hB6 (by go_simp)
   have u0 : ∀ i, w6.frozen? ⟨w.heap.size, i, none⟩ = false := fun i => frozen_later hB6 (by go_simp) (by simp; omega)
   have HB6 : Hid (Below w.heap.size w w6) := thru HB0.out hB6
   rw [hq5] at hN9
   have HN9 : Hid _ := hN9
   clear hb5 hb6 hB6 hq5 hlo5 hws5 ho5 hN9 HB0 ht5
   have HRST : Hid _ := hrest
   clear hrest
   go_wp2
   refine bodyPost_ret (v := .agg #[.slice a9 ns9.length c9, .int .i64 low9, .bool neg9, .bool nn9]) (by simp [results, Tryd.results5, go_sem, t0, t1, t2, t3]) rfl ?_
   have hw9 := ws4 hws9 t0 t1 t2 t3 (.slice a9 ns9.length c9) (.int .i64 low9) (.bool neg9) (.bool nn9)
   refine ⟨_, x9, rfl, ⟨a9, ns9, c9, low9, neg9, nn9, rfl, hw9, HRST.out⟩, HN9.out, ?_⟩
   repeat (first | exact HB6.out | refine Below.drew ?_ | refine Below.setCell ?_ (by simp) _)
theorem int_any (n : Int) (w : World) (hT : Tab w) (h1 : -9223372036854775808 ≤ n) (h2 : n ≤ 9223372036854775807) :
   Calls Tryd.prog 5 #[.int .i64 n] w fun e w' => OpR w w' (fun x => x = some (n : Rat)) e := by
 have hm : May (n : Rat) := (int_bd n h1 h2).may (by omega) (by omega)
 have fin : ∀ e w', NumR w w' (n : Rat) e → OpR w w' (fun x => x = some (n : Rat)) e := by
   rintro e w' ⟨v, x, he, hn, hN, hb⟩
   refine ⟨v, x, he, hn, ?_, hb⟩
   rcases hN with ⟨_, h⟩ | ⟨h, _⟩
   · exact h
   · exact absurd hm h
 rcases Int.lt_or_le n 0 with h | h
 · have hw := int_walk n (-n).toNat true w hT (by simp; omega) (Or.inr ⟨⟨(n + 18446744073709551616).toNat, by rw [IntKind.wrap_u64]; omega, by rw [IntKind.wrap_u64]; omega⟩, rfl⟩) (by omega)
   have e : sg true * (((-n).toNat : Nat) * p2 0 : Rat) = (n : Rat) := by
     rw [p2_zero, Rat.mul_one]
     have : (((-n).toNat : Nat) : Rat) = ((-n : Int) : Rat) := by
       have : (((-n).toNat : Nat) : Int) = -n := by omega
       rw [← this]; rfl
     rw [this, Rat.intCast_neg]; simp only [sg, if_true]; grind
   rw [e] at hw
   exact hw.mono fin
 · have hw := int_walk n n.toNat false w hT (by simp; omega) (Or.inl ⟨by rw [IntKind.wrap_u64]; omega, rfl⟩) (by omega)
   have e : sg false * ((n.toNat : Nat) * p2 0 : Rat) = (n : Rat) := by
     rw [p2_zero, Rat.mul_one]
     have : ((n.toNat : Nat) : Rat) = ((n : Int) : Rat) := by
       have : ((n.toNat : Nat) : Int) = n := by omega
       rw [← this]; rfl
     rw [this]; simp only [sg, Bool.false_eq_true, if_false]; grind
   rw [e] at hw
   exact hw.mono fin
end Go.Proofs.YtlpnobcapdbfkaaDoor

/- Of: the number that a float denotes. -/
namespace Go.Proofs.YtlpnobcapdbfkaaDoor
open Go.RowKit
set_option maxHeartbeats 2000000 in
theorem of_core (b r part fl M : Nat) (ex low : Int) (ng : Bool) (w : World) (hT : Tab w)
   (hnan : ∀ w, Calls Tryd.prog 30 #[.float .f64 b] w fun e w' => e = .returned (.bool false) ∧ w' = w)
   (hinf : ∀ w, Calls Tryd.prog 17 #[.float .f64 b, .int .i64 0] w fun e w' => e = .returned (.bool false) ∧ w' = w)
   (habs : ∀ w, Calls Tryd.prog 32 #[.float .f64 b] w fun e w' => e = .returned (.float .f64 r) ∧ w' = w)
   (hfr : ∀ w, Calls Tryd.prog 31 #[.float .f64 r] w fun e w' => e = .returned (.tuple #[.float .f64 part, .int .i64 ex]) ∧ w' = w)
   (hld : ∀ w, Calls Tryd.prog 33 #[.float .f64 part, .int .i64 53] w fun e w' => e = .returned (.float .f64 fl) ∧ w' = w)
   (hcv : floatToIntVal .f64 fl .u64 = some (M : Int)) (hM : M < 18446744073709551616) (hlow : ex - 52 - 1 = low) (he1 : -2000 ≤ ex) (he2 : ex ≤ 2000) (hng : (FloatKind.f64.format.order b 0 == some .lt) = ng) :
   Calls Tryd.prog 14 #[.float .f64 b] w fun e w' => NumR w w' (sg ng * ((M : Nat) * p2 low)) e := by
 have HT : Hid (Tab w) := hT
 have HM : Hid (M < 18446744073709551616) := hM
 have H1 : Hid _ := hnan
 have H2 : Hid _ := hinf
 have H3 : Hid _ := habs
 have H4 : Hid _ := hfr
 have H5 : Hid _ := hld
 have hconv : ∀ w, (convert 31 39 (.float .f64 fl)).run Tryd.prog w = .ok (.int .u64 (M : Nat)) w := fun w => run_convert_float_int w _ _ _ _ _ _ (by rw [Tryd.underlying31]; rfl) Tryd.underlying39 hcv
 have HB0 : Hid (Below w.heap.size w (((w.alloc (.cells #[.slice none 0 0, .int .i64 0, .bool false, .bool false] 27)).alloc (.cells #[.int .u64 (M : Nat)] 39)).alloc (.cells #[.slice (some ⟨w.heap.size + 1, 0, none⟩) 1 1, .int .i64 low] 25))) := (((Below.refl _ _).alloc (Nat.le_refl _) _).alloc (by simp) _).alloc (by simp; omega) _
 have HW : Hid (Ws (((w.alloc (.cells #[.slice none 0 0, .int .i64 0, .bool false, .bool false] 27)).alloc (.cells #[.int .u64 (M : Nat)] 39)).alloc (.cells #[.slice (some ⟨w.heap.size + 1, 0, none⟩) 1 1, .int .i64 low] 25)) (.slice (some ⟨w.heap.size + 1, 0, none⟩) 1 1) [M]) := row_one (by go_simp) (by simp) HM.out
 have hl1 : -3000 ≤ low := by omega
 have hl2 : low ≤ 3000 := by omega
 clear hT hM hnan hinf habs hfr hld hcv
 go_enter Tryd.func14, Tryd.ntmps14
 go_wp2_with (first
   | (go_at_call 30; refine (H1.out _).mono ?_; rintro e w' ⟨rfl, rfl⟩)
   | (go_at_call 17; refine (H2.out _).mono ?_; rintro e w' ⟨rfl, rfl⟩)
   | (go_at_call 32; refine (H3.out _).mono ?_; rintro e w' ⟨rfl, rfl⟩)
   | (go_at_call 31; refine (H4.out _).mono ?_; rintro e w' ⟨rfl, rfl⟩)
   | (go_at_call 33; refine (H5.out _).mono ?_; rintro e w' ⟨rfl, rfl⟩))
 refine (own_any _ [M] _ _ HW.out (HT.out.later HB0.out) (by omega) (by omega)).mono ?_
 rintro e w5 ⟨s5, ns5, low5, rfl, hws5, ho5, ht5, hlo5, hb5⟩
 have hq5 := tells_magR ht5
 rw [val_one] at hq5
 go_wp2_with fail
 refine (number_any _ ns5 _ _ _ hws5 ho5 hlo5.1 hlo5.2).mono ?_
 rintro e w6 ⟨v9, x9, rfl, ⟨a9, ns9, c9, low9, neg9, nn9, rfl, hws9, hrest⟩, hN9, hb6⟩
 have hB6 := thru hb5 hb6
 have t0 : w6.cell? ⟨w.heap.size, 0, none⟩ = some (.slice none 0 0) := cell_later hB6 (by go_simp)
 have t1 : w6.cell? ⟨w.heap.size, 1, none⟩ = some (.int .i64 0) := cell_later hB6 (by go_simp)
 have t2 : w6.cell? ⟨w.heap.size, 2, none⟩ = some (.bool false) := cell_later hB6 (by go_simp)
 have t3 : w6.cell? ⟨w.heap.size, 3, none⟩ = some (.bool false) := cell_later hB6 (by go_simp)
 have u0 : ∀ i, w6.frozen? ⟨w.heap.size, i, none⟩ = false := fun i => frozen_later hB6 (by go_simp) (by simp; omega)
 have HB6 : Hid (Below w.heap.size w w6) := thru HB0.out hB6
 rw [hq5] at hN9
 have HN9 : Hid _ := hN9
 clear hb5 hb6 hB6 hq5 hlo5 hws5 ho5 hN9 HB0 ht5
 have HRST : Hid _ := hrest
 clear hrest
 go_wp2
 refine bodyPost_ret (v := .agg #[.slice a9 ns9.length c9, .int .i64 low9, .bool neg9, .bool nn9]) (by simp [results, Tryd.results14, go_sem, t0, t1, t2, t3]) rfl ?_
 have hw9 := ws4 hws9 t0 t1 t2 t3 (.slice a9 ns9.length c9) (.int .i64 low9) (.bool neg9) (.bool nn9)
 refine ⟨_, x9, rfl, ⟨a9, ns9, c9, low9, neg9, nn9, rfl, hw9, HRST.out⟩, HN9.out, ?_⟩
 repeat (first | exact HB6.out | refine Below.drew ?_ | refine Below.setCell ?_ (by simp) _)
set_option maxHeartbeats 1000000 in
theorem of_nan (b : Nat) (w : World) (h : isnan b = true) :
   Calls Tryd.prog 14 #[.float .f64 b] w fun e w' => e = .returned (.agg #[.slice none 0 0, .int .i64 0, .bool false, .bool true]) ∧ Below w.heap.size w w' := by
 have H1 : Hid (∀ w, Calls Tryd.prog 30 #[.float .f64 b] w fun e w' => e = .returned (.bool true) ∧ w' = w) := fun w => by have := isNaN_any b w; rwa [h] at this
 clear h
 go_enter Tryd.func14, Tryd.ntmps14
 go_wp2_with (first
   | (go_at_call 30; refine (H1.out _).mono ?_; rintro e w' ⟨rfl, rfl⟩))
 refine bodyPost_ret (v := .agg #[.slice none 0 0, .int .i64 0, .bool false, .bool true]) (by simp [results, Tryd.results14, go_sem]) rfl ⟨rfl, ?_⟩
 exact (Below.refl _ _).alloc (Nat.le_refl _) _
set_option maxHeartbeats 1000000 in
theorem of_inf (b : Nat) (w : World) (hb : b < 18446744073709551616) (h0 : isnan b = false) (h : isinf b = true) :
   Calls Tryd.prog 14 #[.float .f64 b] w fun e w' => e = .returned (.agg #[.slice none 0 0, .int .i64 0, .bool false, .bool true]) ∧ Below w.heap.size w w' := by
 have H1 : Hid (∀ w, Calls Tryd.prog 30 #[.float .f64 b] w fun e w' => e = .returned (.bool false) ∧ w' = w) := fun w => by have := isNaN_any b w; rwa [h0] at this
 have H2 : Hid (∀ w, Calls Tryd.prog 17 #[.float .f64 b, .int .i64 0] w fun e w' => e = .returned (.bool true) ∧ w' = w) := fun w => by have := isInf0_any b w hb; rwa [h] at this
 clear h h0 hb
 go_enter Tryd.func14, Tryd.ntmps14
 go_wp2_with (first
   | (go_at_call 30; refine (H1.out _).mono ?_; rintro e w' ⟨rfl, rfl⟩)
   | (go_at_call 17; refine (H2.out _).mono ?_; rintro e w' ⟨rfl, rfl⟩))
 refine bodyPost_ret (v := .agg #[.slice none 0 0, .int .i64 0, .bool false, .bool true]) (by simp [results, Tryd.results14, go_sem]) rfl ⟨rfl, ?_⟩
 exact (Below.refl _ _).alloc (Nat.le_refl _) _
theorem neg_flag {b : Nat} (h : Fin64 b) : (FloatKind.f64.format.order b 0 == some .lt) = (fneg b && !(frung b == 0)) := by
 show (Ieee.double.order b 0 == some .lt) = _
 rw [order_fin h (by unfold Fin64 frung; decide), fval_zero_iff.2 (by rfl : frung 0 = 0)]
 by_cases hr : frung b = 0
 · have := fval_zero_iff.2 hr
   rw [this, if_neg (by exact Rat.lt_irrefl), if_pos rfl]; simp [hr]
 · have h2 : fval b ≠ 0 := fun h => hr (fval_zero_iff.1 h)
   have h3 : (0 : Rat) ≤ (fmag (frung b) : Nat) * p2 (fpl (frung b)) := Rat.mul_nonneg Rat.natCast_nonneg (Rat.le_of_lt (p2_pos _))
   have h4 : (frung b == 0) = false := by rw [beq_eq_false_iff_ne]; exact hr
   rw [h4]
   cases hn : fneg b
   · have : ¬ fval b < 0 := by unfold fval sgn1; rw [hn]; simp only [Bool.false_eq_true, if_false]; grind
     rw [if_neg this]; simp only [Bool.false_and]; split <;> rfl
   · have : fval b < 0 := by
       have hm0 : ((fmag (frung b) : Nat) : Rat) * p2 (fpl (frung b)) ≠ 0 := fun h => h2 (by unfold fval; rw [h, Rat.mul_zero])
       unfold fval sgn1
       rw [hn]
       simp only [if_true]
       generalize ((fmag (frung b) : Nat) : Rat) * p2 (fpl (frung b)) = m at *
       clear h2
       grind
     rw [if_pos this]; rfl
theorem of_fin (b : Nat) (w : World) (hT : Tab w) (hb : b < 18446744073709551616) (h : Fin64 b) :
   Calls Tryd.prog 14 #[.float .f64 b] w fun e w' => OpR w w' (fun x => x = some (fval b)) e := by
 have hr : frung b < 9218868437227405312 := h
 have hnan : ∀ w, Calls Tryd.prog 30 #[.float .f64 b] w fun e w' => e = .returned (.bool false) ∧ w' = w := fun w => by
   have := isNaN_any b w
   rwa [show isnan b = false by unfold isnan; simp; omega] at this
 have hinf : ∀ w, Calls Tryd.prog 17 #[.float .f64 b, .int .i64 0] w fun e w' => e = .returned (.bool false) ∧ w' = w := fun w => by
   have := isInf0_any b w hb
   rwa [show isinf b = false by unfold isinf; rw [beq_eq_false_iff_ne]; omega] at this
 have habs : ∀ w, Calls Tryd.prog 32 #[.float .f64 b] w fun e w' => e = .returned (.float .f64 (frung b)) ∧ w' = w := fun w => abs_any b w hb
 have hm : May (fval b) := (fval_bd h).may (by omega) (by omega)
 have fin : ∀ e w', NumR w w' (fval b) e → OpR w w' (fun x => x = some (fval b)) e := by
   rintro e w' ⟨v, x, he, hn, hN, hb⟩
   refine ⟨v, x, he, hn, ?_, hb⟩
   rcases hN with ⟨_, h⟩ | ⟨h, _⟩
   · exact h
   · exact absurd hm h
 by_cases h0 : frung b = 0
 · rw [h0] at habs
   have hc := of_core b 0 0 0 0 0 (-53) _ w hT hnan hinf habs (fun w => Frexp_of 0 0 0 w (fun w => frexp_zero w)) (fun w => Ldexp_of 0 0 53 w (fun w => ldexp_zero 53 w)) (by decide) (by omega) (by omega) (by omega) (by omega) rfl
   have e : ∀ g : Bool, sg g * (((0 : Nat) : Rat) * p2 (-53)) = fval b := by intro g; rw [fval_zero_iff.2 h0]; simp
   rw [e] at hc
   exact hc.mono fin
 · have hbd := bits53_bounds (frung b) h0
   have hpl : -1200 ≤ place53 (frung b) ∧ place53 (frung b) ≤ 1000 := by
     unfold place53; split
     · rename_i hs; have : Nat.log2 (frung b) < 52 := (Nat.log2_lt h0).2 hs; omega
     · omega
   have hld : ∀ w, Calls Tryd.prog 33 #[.float .f64 (1022 * 4503599627370496 + (bits53 (frung b) - 4503599627370496)), .int .i64 53] w fun e w' => e = .returned (.float .f64 (1075 * 4503599627370496 + (bits53 (frung b) - 4503599627370496))) ∧ w' = w := fun w =>
     Ldexp_of _ _ 53 w (fun w => ldexp_norm 1022 _ 1075 _ _ _ 53 w rfl rfl rfl (by omega) (by omega) (by omega) (by omega) (by omega) (by omega))
   have hcv := conv_norm (bits53 (frung b) - 4503599627370496) (by omega)
   rw [show 4503599627370496 + (bits53 (frung b) - 4503599627370496) = bits53 (frung b) by omega] at hcv
   have hc := of_core b (frung b) _ _ (bits53 (frung b)) (place53 (frung b) + 53) (place53 (frung b)) _ w hT hnan hinf habs (fun w => Frexp_of _ _ _ w (fun w => frexp_any (frung b) w h0 hr)) hld hcv (by omega) (by omega) (by omega) (by omega) (neg_flag h)
   have e : sg (fneg b && !(frung b == 0)) * ((bits53 (frung b) : Nat) * p2 (place53 (frung b)) : Rat) = fval b := by
     have h4 : (frung b == 0) = false := by rw [beq_eq_false_iff_ne]; exact h0
     rw [bits53_val _ h0, h4]
     unfold fval sgn1 sg
     simp
   rw [e] at hc
   exact hc.mono fin
theorem of_not (b : Nat) (w : World) (hb : b < 18446744073709551616) (h : ¬ Fin64 b) :
   Calls Tryd.prog 14 #[.float .f64 b] w fun e w' => OpR w w' (fun x => x = none) e := by
 have fin : ∀ e w', e = .returned (.agg #[.slice none 0 0, .int .i64 0, .bool false, .bool true]) ∧ Below w.heap.size w w' → OpR w w' (fun x => x = none) e := by
   rintro e w' ⟨rfl, hb⟩
   exact ⟨_, none, rfl, isNum_none w', rfl, hb⟩
 by_cases h1 : 9218868437227405312 < frung b
 · exact (of_nan b w (by unfold isnan; simp [h1])).mono fin
 · have h2 : frung b = 9218868437227405312 := by unfold Fin64 at h; omega
   exact (of_inf b w hb (by unfold isnan; simp [h2]) (by unfold isinf; simp [h2])).mono fin
end Go.Proofs.YtlpnobcapdbfkaaDoor
