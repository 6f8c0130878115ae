/- The reference's Add of whatever numbers; Sub, Cmp, Abs. -/
import Derived.Test.YtfocdhapjljooaaZl
namespace Go.Proofs.Ytfocdhapjljooaa
open Go.RowKit

set_option maxHeartbeats 2000000 in
theorem add_swap (a1 a2 : Option Addr) (c1 c2 : Nat) (S1 S2 E1 E2 : Int) (ds1 ds2 : List Nat) (q : Rat) (w : World) (hd1 : Dig w (.agg #[.int .i64 S1, .slice a1 ds1.length c1, .int .i64 E1]) S1 ds1 E1) (hd2 : Dig w (.agg #[.int .i64 S2, .slice a2 ds2.length c2, .int .i64 E2]) S2 ds2 E2)
    (hS : (S1 == 0) = false) (hS2 : (S2 == 0) = false) (hne : (S1 == S2) = false) (hsz : ∀ r, SizeOf ds1 E1 ds2 E2 r → r < 0)
    (hX : ∀ W, Below w.heap.size w W → Calls Try.prog 19 #[.agg #[.int .i64 S2, .slice a2 ds2.length c2, .int .i64 E2], .agg #[.int .i64 S1, .slice a1 ds1.length c1, .int .i64 E1]] W fun e w' => RfR W w' q e) :
    Calls Try.prog 19 #[.agg #[.int .i64 S1, .slice a1 ds1.length c1, .int .i64 E1], .agg #[.int .i64 S2, .slice a2 ds2.length c2, .int .i64 E2]] w fun e w' => RfR w w' q e := by
  have D1 : Hid (Dig w (.agg #[.int .i64 S1, .slice a1 ds1.length c1, .int .i64 E1]) S1 ds1 E1) := hd1
  have D2 : Hid (Dig w (.agg #[.int .i64 S2, .slice a2 ds2.length c2, .int .i64 E2]) S2 ds2 E2) := hd2
  have hSS : (S1 != S2) = true := by unfold bne; rw [hne]; rfl
  have HB0 : Hid (Below w.heap.size w (((w.alloc (.cells #[.int .i64 S1, .slice a1 ds1.length c1, .int .i64 E1] 33)).alloc (.cells #[.int .i64 S2, .slice a2 ds2.length c2, .int .i64 E2] 33)).alloc (.cells #[.int .i64 0, .slice none 0 0, .int .i64 0] 33))) := below3 _ _ _ _
  have HSZ : Hid (∀ r, SizeOf ds1 E1 ds2 E2 r → r < 0) := hsz
  have HX : Hid _ := hX
  clear hsz hd1 hd2 hne hX
  go_enter Try.func19, Try.ntmps19
  go_wp2_with fail
  refine (size_walk a1 a2 c1 c2 S1 S2 E1 E2 ds1 ds2 _ (D1.out.later HB0.out) (D2.out.later HB0.out)).mono ?_
  rintro e w1 ⟨⟨r, rfl, hsz'⟩, hb1⟩
  have hr : decide (r < 0) = true := decide_eq_true (HSZ.out r hsz')
  have hs3 : w.heap.size + 3 ≤ w1.heap.size := by have := hb1.size; simp at this; omega
  have HA : Hid (BoxN w1 w.heap.size S1 (.slice a1 ds1.length c1) E1) := BoxN.block (boxes3 w _ _ _).1 (hb1.block _ (by simp; omega))
  have HBb : Hid (BoxN w1 (w.heap.size + 1) S2 (.slice a2 ds2.length c2) E2) := BoxN.block (boxes3 w _ _ _).2.1 (hb1.block _ (by simp))
  have HRr : Hid (BoxN w1 (w.heap.size + 2) 0 (.slice none 0 0) 0) := BoxN.block (boxes3 w _ _ _).2.2 (hb1.block _ (by simp))
  have HBL : Hid (Below w.heap.size w w1) := HB0.out.trans (hb1.mono (by simp; omega))
  obtain ⟨b0, b1', b2', _, _⟩ := HA.out.cells
  obtain ⟨d0, d1', d2', _, _⟩ := HBb.out.cells
  clear hb1 hsz' HSZ
  go_wp2_with fail
  refine (HX.out _ HBL.out).mono ?_
  rintro e w2 ⟨v9, rfl, hrf, hb9⟩
  have hB : BoxN w2 (w.heap.size + 2) 0 (.slice none 0 0) 0 := HRr.out.block (hb9.block _ (by omega))
  have hO : Hid (OtherRow w2 (w.heap.size + 2)) := other_box hB
  obtain ⟨t0, t1', t2', tf, tl⟩ := hB.cells
  have HB : Hid (Below w.heap.size w w2) := HBL.out.trans (hb9.mono (by omega))
  have HV : Hid (Rf w2 v9 q) := hrf
  obtain ⟨S9, ds9, E9, hd9, _⟩ := HV.out
  obtain ⟨a9, c9, rfl, _⟩ := hd9.form
  clear hb9 hrf hB hd9 b0 b1' b2' d0 d1' d2' HA HBb HRr
  go_wp2
  refine bodyPost_ret (v := .agg #[.int .i64 S9, .slice a9 ds9.length c9, .int .i64 E9]) (by simp [results, Try.results19, go_sem, t0, t1', t2']) rfl ?_
  refine ⟨_, rfl, HV.out.boxed hO.out _ _ _, ?_⟩
  repeat (first | exact HB.out | refine Below.drew ?_ | refine Below.setCell ?_ (by show w.heap.size ≤ w.heap.size + 2; omega) _)

/-- Small enough for all that follows. -/
def Fit (q : Rat) : Prop := Bd 100000 (-100000) q

theorem sz_total {ds1 ds2 : List Nat} {E1 E2 : Int} (s1 : ∀ d ∈ ds1, d < 16777216) (s2 : ∀ d ∈ ds2, d < 16777216) : (mag ds2 E2 ≤ mag ds1 E1 → ∀ r, SizeOf ds1 E1 ds2 E2 r → ¬ r < 0) ∧ (¬ mag ds2 E2 ≤ mag ds1 E1 → ∀ r, SizeOf ds1 E1 ds2 E2 r → r < 0) := by
  refine ⟨fun h r hr hlt => ?_, fun h r hr => ?_⟩
  · have := (size_sign hr s1 s2).1 hlt
    grind
  · rcases Int.lt_or_le r 0 with h' | h'
    · exact h'
    · exact absurd ((size_sign hr s1 s2).2 (by omega)) h

theorem span_of (E1 E2 C D : Int) (h1 : -10000 ≤ E1) (h2 : -10000 ≤ E2) (h3 : C ≤ 10000) (h4 : D ≤ 10000) (h5 : E1 ≤ C) (h6 : E2 ≤ D) : ∃ L to, (if E2 < E1 then E2 else E1) = L ∧ (if C < D then D else C) = to ∧ L ≤ E1 ∧ L ≤ E2 ∧ C ≤ to ∧ D ≤ to ∧ -10000 ≤ L ∧ to ≤ 10000 ∧ L ≤ to := by
  refine ⟨_, _, rfl, rfl, ?_, ?_, ?_, ?_, ?_, ?_, ?_⟩ <;> (repeat' split) <;> omega
theorem refAdd_any (v1 v2 : Value) (q1 q2 : Rat) (w : World) (h1 : Rf w v1 q1) (h2 : Rf w v2 q2) (b1 : Fit q1) (b2 : Fit q2) :
    Calls Try.prog 19 #[v1, v2] w fun e w' => RfR w w' (q1 + q2) e := by
  obtain ⟨S1, ds1, E1, d1, k1, rfl⟩ := h1
  obtain ⟨S2, ds2, E2, d2, k2, rfl⟩ := h2
  obtain ⟨a1, c1, rfl, _⟩ := d1.form
  obtain ⟨a2, c2, rfl, _⟩ := d2.form
  by_cases z1 : S1 = 0
  · subst z1
    refine (add_zero1 a1 a2 ds1.length ds2.length c1 c2 S2 E1 E2 w).mono ?_
    rintro e w' ⟨rfl, hb⟩
    refine ⟨_, rfl, ⟨S2, ds2, E2, d2.later hb, k2, ?_⟩, hb⟩
    rw [show ((0 : Int) : Rat) = 0 from rfl]; grind
  by_cases z2 : S2 = 0
  · subst z2
    refine (add_zero2 a1 a2 ds1.length ds2.length c1 c2 S1 E1 E2 w (by simpa using z1)).mono ?_
    rintro e w' ⟨rfl, hb⟩
    refine ⟨_, rfl, ⟨S1, ds1, E1, d1.later hb, k1, ?_⟩, hb⟩
    rw [show ((0 : Int) : Rat) = 0 from rfl]; grind
  have n1 : ds1 ≠ [] := by rintro rfl; rcases k1 with ⟨_, h, _⟩ | ⟨h, _⟩ <;> contradiction
  have n2 : ds2 ≠ [] := by rintro rfl; rcases k2 with ⟨_, h, _⟩ | ⟨h, _⟩ <;> contradiction
  have s1 := (canon_sign k1).resolve_left z1
  have s2 := (canon_sign k2).resolve_left z2
  obtain ⟨p1, p1'⟩ := canon_place k1 d1.small b1 n1
  obtain ⟨p2, p2'⟩ := canon_place k2 d2.small b2 n2
  have y1 : (S1 == 0) = false := by simpa using z1
  have y2 : (S2 == 0) = false := by simpa using z2
  have lo1 := List.length_pos_iff.2 n1
  have lo2 := List.length_pos_iff.2 n2
  obtain ⟨L, to, hL, hto, i1, i2, i3, i4, i5, i6, i7⟩ := span_of E1 E2 (E1 + (ds1.length : Int)) (E2 + (ds2.length : Int)) (by omega) (by omega) (by omega) (by omega) (by omega) (by omega)
  by_cases hs : S1 = S2
  · subst hs
    refine (add_same a1 a2 c1 c2 S1 E1 E2 _ _ ds1 ds2 w d1 d2 y1 s1 hL hto i5 i6).mono ?_
    rintro e w' ⟨zs, c, hD, hR⟩
    rw [add_val hD (to := to) (by omega) d1.small d2.small i1 i2 i3 i4 (Or.inl rfl)] at hR
    have e : (S1 : Rat) * (mag ds1 E1 + ((1 : Int) : Rat) * mag ds2 E2) = (S1 : Rat) * mag ds1 E1 + (S1 : Rat) * mag ds2 E2 := by rw [show ((1 : Int) : Rat) = 1 from rfl]; grind
    rwa [e] at hR
  · have hss : S2 = -S1 := by omega
    have yn : (S1 == S2) = false := by simpa using hs
    have yn' : (S2 == S1) = false := by simpa using Ne.symm hs
    have sz := sz_total (E1 := E1) (E2 := E2) d1.small d2.small
    have ez : (S2 : Rat) = -(S1 : Rat) := by rw [hss, Rat.intCast_neg]
    have em : ((-1 : Int) : Rat) = -1 := rfl
    by_cases hm : mag ds2 E2 ≤ mag ds1 E1
    · refine (add_other a1 a2 c1 c2 S1 S2 E1 E2 _ _ ds1 ds2 w d1 d2 y1 s1 y2 yn (sz.1 hm) hL hto i5 i6).mono ?_
      rintro e w' ⟨zs, c, hD, hR⟩
      rw [add_val hD (to := to) (by omega) d1.small d2.small i1 i2 i3 i4 (Or.inr ⟨rfl, hm⟩)] at hR
      have e : (S1 : Rat) * (mag ds1 E1 + ((-1 : Int) : Rat) * mag ds2 E2) = (S1 : Rat) * mag ds1 E1 + (S2 : Rat) * mag ds2 E2 := by rw [em, ez]; grind
      rwa [e] at hR
    · refine add_swap a1 a2 c1 c2 S1 S2 E1 E2 ds1 ds2 _ w d1 d2 y1 y2 yn (sz.2 hm) ?_
      intro W hb
      have sz' := sz_total (E1 := E2) (E2 := E1) d2.small d1.small
      have hm' : mag ds1 E1 ≤ mag ds2 E2 := by grind
      obtain ⟨L, to, hL, hto, i1, i2, i3, i4, i5, i6, i7⟩ := span_of E2 E1 (E2 + (ds2.length : Int)) (E1 + (ds1.length : Int)) (by omega) (by omega) (by omega) (by omega) (by omega) (by omega)
      refine (add_other a2 a1 c2 c1 S2 S1 E2 E1 _ _ ds2 ds1 W (d2.later hb) (d1.later hb) y2 s2 y1 yn' (sz'.1 hm') hL hto i5 i6).mono ?_
      rintro e w' ⟨zs, c, hD, hR⟩
      rw [add_val hD (to := to) (by omega) d2.small d1.small i1 i2 i3 i4 (Or.inr ⟨rfl, hm'⟩)] at hR
      have e : (S2 : Rat) * (mag ds2 E2 + ((-1 : Int) : Rat) * mag ds1 E1) = (S1 : Rat) * mag ds1 E1 + (S2 : Rat) * mag ds2 E2 := by rw [em, ez]; grind
      rwa [e] at hR

end Go.Proofs.Ytfocdhapjljooaa
