/- Own texts, put together: Zl Zm Zn Zo Zp. -/
import Derived.Test.YtgfloegaoofbbaaDoorQ5
import Derived.Test.YtgfloegaoofbbaaDoorQ13
import Derived.Deep.DrawnRows
import Derived.BigRegion
namespace Go.Proofs.YtgfloegaoofbbaaDoor
/- The reference's Add, Sub, Cmp, Abs, of whatever numbers. -/
section
open Go.RowKit
theorem add_val {ds1 ds2 zs : List Nat} {E1 E2 L to s c : Int} {n : Nat} (h : AddD (fun i => ms (dgt ds1 E1) L i) (fun i => ms (dgt ds2 E2) L i) s n zs c) (hn : (n : Int) = to - L + 1) (s1 : ∀ d ∈ ds1, d < 16777216) (s2 : ∀ d ∈ ds2, d < 16777216)
   (f1 : L ≤ E1) (f2 : L ≤ E2) (t1 : E1 + (ds1.length : Int) ≤ to) (t2 : E2 + (ds2.length : Int) ≤ to) (hs : s = 1 ∨ (s = -1 ∧ mag ds2 E2 ≤ mag ds1 E1)) : mag zs L = mag ds1 E1 + (s : Rat) * mag ds2 E2 := by
 have g1 : ∀ j, dgt ds1 E1 j < 16777216 := fun j => by rw [dgt_dg]; exact dg_small s1 _ _
 have g2 : ∀ j, dgt ds2 E2 j < 16777216 := fun j => by rw [dgt_dg]; exact dg_small s2 _ _
 obtain ⟨m, rfl⟩ : ∃ m, n = m + 1 := ⟨n - 1, by omega⟩
 have e1 : ms (dgt ds1 E1) L (m + 1) < 2 ^ (24 * m) := by
   rw [ms, dgt_above (by omega)]
   have := ms_lt g1 L m
   omega
 have e2 : ms (dgt ds2 E2) L (m + 1) < 2 ^ (24 * m) := by
   rw [ms, dgt_above (by omega)]
   have := ms_lt g2 L m
   omega
 have m1 : mag ds1 E1 = (ms (dgt ds1 E1) L (m + 1) : Nat) * p2 (24 * L) := by
   rw [mag_ms f1 (n := m + 1) (by omega), ms_congr (fun j => dgt_dg ds1 E1 j)]
 have m2 : mag ds2 E2 = (ms (dgt ds2 E2) L (m + 1) : Nat) * p2 (24 * L) := by
   rw [mag_ms f2 (n := m + 1) (by omega), ms_congr (fun j => dgt_dg ds2 E2 j)]
 have hv := h.val
 have hz := v24_lt h.small
 rw [h.len, p24] at hz
 rw [p24] at hv
 have hp := p2_pos (24 * L)
 have hc : (v24 zs : Int) = (ms (dgt ds1 E1) L (m + 1) : Int) + s * (ms (dgt ds2 E2) L (m + 1) : Int) := by
   have hge : 0 ≤ (ms (dgt ds1 E1) L (m + 1) : Int) + s * (ms (dgt ds2 E2) L (m + 1) : Int) := by
     rcases hs with rfl | ⟨rfl, hle⟩
     · omega
     · rw [m1, m2] at hle
       have := int_le (a := (ms (dgt ds2 E2) L (m + 1) : Int)) (b := (ms (dgt ds1 E1) L (m + 1) : Int)) hp hle
       omega
   have hle : (ms (dgt ds1 E1) L (m + 1) : Int) + s * (ms (dgt ds2 E2) L (m + 1) : Int) < 2 * ((2 ^ (24 * m) : Nat) : Int) := by
     rcases hs with rfl | ⟨rfl, _⟩ <;> omega
   have hv' : (v24 zs : Int) + 16777216 * (((2 ^ (24 * m) : Nat) : Int) * c) = (ms (dgt ds1 E1) L (m + 1) : Int) + s * (ms (dgt ds2 E2) L (m + 1) : Int) := by
     rw [← hv]; simp only [Int.natCast_mul]; grind
   have h1 := h.c1
   have h2 := h.c2
   generalize (ms (dgt ds1 E1) L (m + 1) : Int) + s * (ms (dgt ds2 E2) L (m + 1) : Int) = X at *
   have hP : 0 < ((2 ^ (24 * m) : Nat) : Int) := by have := Nat.two_pow_pos (24 * m); omega
   have hzz : (v24 zs : Int) < 16777216 * ((2 ^ (24 * m) : Nat) : Int) := by omega
   generalize ((2 ^ (24 * m) : Nat) : Int) = P at *
   have : c = -1 ∨ c = 0 ∨ c = 1 := by omega
   rcases this with rfl | rfl | rfl
   · exfalso; omega
   · omega
   · exfalso; omega
 have hr : ((v24 zs : Nat) : Rat) = ((ms (dgt ds1 E1) L (m + 1) : Nat) : Rat) + (s : Rat) * ((ms (dgt ds2 E2) L (m + 1) : Nat) : Rat) := by
   exact_mod_cast congrArg (fun x : Int => (x : Rat)) hc
 rw [m1, m2]
 unfold mag
 rw [hr]
 grind
theorem size_sign {ds1 ds2 : List Nat} {E1 E2 r : Int} (h : SizeOf ds1 E1 ds2 E2 r) (s1 : ∀ d ∈ ds1, d < 16777216) (s2 : ∀ d ∈ ds2, d < 16777216) : (r < 0 → mag ds1 E1 < mag ds2 E2) ∧ (¬ r < 0 → mag ds2 E2 ≤ mag ds1 E1) := by
 have g1 : ∀ j, dg ds1 E1 j < 16777216 := fun j => dg_small s1 _ _
 have g2 : ∀ j, dg ds2 E2 j < 16777216 := fun j => dg_small s2 _ _
 rcases h with ⟨rfl, h⟩ | ⟨i, heq, h⟩
 · have := mag_congr (ds := ds1) (E := E1) (ds' := ds2) (E' := E2) (fun j => by rw [← dgt_dg, ← dgt_dg]; exact (h j).symm)
   exact ⟨by omega, fun _ => by rw [this]; exact Rat.le_refl⟩
 · have key : ∀ (a b : List Nat) (Ea Eb : Int), (∀ j, dg b Eb j < 16777216) → (∀ j, i < j → dg a Ea j = dg b Eb j) → dg b Eb i < dg a Ea i → mag b Eb < mag a Ea := by
     intro a b Ea Eb gb hq hl
     have a1 : min (min Ea Eb) i ≤ Ea := by omega
     have a2 : min (min Ea Eb) i ≤ Eb := by omega
     have a3 : min (min Ea Eb) i ≤ i := by omega
     obtain ⟨n, hn1, hn2, hn3⟩ : ∃ n : Nat, Ea + (a.length : Int) ≤ min (min Ea Eb) i + (n : Int) ∧ Eb + (b.length : Int) ≤ min (min Ea Eb) i + (n : Int) ∧ i < min (min Ea Eb) i + (n : Int) :=
       ⟨((Ea - min (min Ea Eb) i) + (Eb - min (min Ea Eb) i) + (i - min (min Ea Eb) i) + a.length + b.length + 1).toNat, by omega, by omega, by omega⟩
     rw [mag_ms a1 hn1, mag_ms a2 hn2]
     have := ms_less gb a3 hn3 hq hl
     exact Rat.mul_lt_mul_of_pos_right (Rat.natCast_lt_natCast.2 this) (p2_pos _)
   have heq' : ∀ j, i < j → dg ds1 E1 j = dg ds2 E2 j := fun j hj => by rw [← dgt_dg, ← dgt_dg]; exact heq j hj
   rw [dgt_dg, dgt_dg] at h
   rcases h with ⟨h, rfl⟩ | ⟨h, rfl⟩
   · have := key ds1 ds2 E1 E2 g2 heq' h
     exact ⟨by omega, fun _ => Rat.le_of_lt this⟩
   · have := key ds2 ds1 E2 E1 g1 (fun j hj => (heq' j hj).symm) h
     exact ⟨fun _ => this, by omega⟩
set_option maxHeartbeats 1000000 in
theorem add_zero1 (a1 a2 : Option Addr) (n1 n2 c1 c2 : Nat) (S2 E1 E2 : Int) (w : World) :
   Calls Tryd.prog 35 #[.agg #[.int .i64 0, .slice a1 n1 c1, .int .i64 E1], .agg #[.int .i64 S2, .slice a2 n2 c2, .int .i64 E2]] w fun e w' => e = .returned (.agg #[.int .i64 S2, .slice a2 n2 c2, .int .i64 E2]) ∧ Below w.heap.size w w' := by
 go_enter Tryd.func35, Tryd.ntmps35
 go_wp2
 refine bodyPost_ret (v := .agg #[.int .i64 S2, .slice a2 n2 c2, .int .i64 E2]) (by simp [results, Tryd.results35, go_sem]) rfl ?_
 refine ⟨rfl, ?_⟩
 exact below3 _ _ _ _
set_option maxHeartbeats 1000000 in
theorem add_zero2 (a1 a2 : Option Addr) (n1 n2 c1 c2 : Nat) (S1 E1 E2 : Int) (w : World) (hS : (S1 == 0) = false) :
   Calls Tryd.prog 35 #[.agg #[.int .i64 S1, .slice a1 n1 c1, .int .i64 E1], .agg #[.int .i64 0, .slice a2 n2 c2, .int .i64 E2]] w fun e w' => e = .returned (.agg #[.int .i64 S1, .slice a1 n1 c1, .int .i64 E1]) ∧ Below w.heap.size w w' := by
 go_enter Tryd.func35, Tryd.ntmps35
 go_wp2
 refine bodyPost_ret (v := .agg #[.int .i64 S1, .slice a1 n1 c1, .int .i64 E1]) (by simp [results, Tryd.results35, go_sem]) rfl ?_
 refine ⟨rfl, ?_⟩
 exact below3 _ _ _ _
end

/- The reference's Add of whatever numbers; Sub, Cmp, Abs. -/
section
open Go.RowKit
set_option maxHeartbeats 2000000 in
theorem add_swap (a1 a2 : Option Addr) (c1 c2 : Nat) (S1 S2 E1 E2 : Int) (ds1 ds2 : List Nat) (q : Rat) (w : World) (hd1 : Dig w (.agg #[.int .i64 S1, .slice a1 ds1.length c1, .int .i64 E1]) S1 ds1 E1) (hd2 : Dig w (.agg #[.int .i64 S2, .slice a2 ds2.length c2, .int .i64 E2]) S2 ds2 E2)
   (hS : (S1 == 0) = false) (hS2 : (S2 == 0) = false) (hne : (S1 == S2) = false) (hsz : ∀ r, SizeOf ds1 E1 ds2 E2 r → r < 0)
   (hX : ∀ W, Below w.heap.size w W → Calls Tryd.prog 35 #[.agg #[.int .i64 S2, .slice a2 ds2.length c2, .int .i64 E2], .agg #[.int .i64 S1, .slice a1 ds1.length c1, .int .i64 E1]] W fun e w' => RfR W w' q e) :
   Calls Tryd.prog 35 #[.agg #[.int .i64 S1, .slice a1 ds1.length c1, .int .i64 E1], .agg #[.int .i64 S2, .slice a2 ds2.length c2, .int .i64 E2]] w fun e w' => RfR w w' q e := by
 have D1 : Hid (Dig w (.agg #[.int .i64 S1, .slice a1 ds1.length c1, .int .i64 E1]) S1 ds1 E1) := hd1
 have D2 : Hid (Dig w (.agg #[.int .i64 S2, .slice a2 ds2.length c2, .int .i64 E2]) S2 ds2 E2) := hd2
 have hSS : (S1 != S2) = true := by unfold bne; rw [hne]; rfl
 have HB0 : Hid (Below w.heap.size w (((w.alloc (.cells #[.int .i64 S1, .slice a1 ds1.length c1, .int .i64 E1] 67)).alloc (.cells #[.int .i64 S2, .slice a2 ds2.length c2, .int .i64 E2] 67)).alloc (.cells #[.int .i64 0, .slice none 0 0, .int .i64 0] 67))) := below3 _ _ _ _
 have HSZ : Hid (∀ r, SizeOf ds1 E1 ds2 E2 r → r < 0) := hsz
 have HX : Hid _ := hX
 clear hsz hd1 hd2 hne hX
 go_enter Tryd.func35, Tryd.ntmps35
 go_wp2_with fail
 refine (size_walk a1 a2 c1 c2 S1 S2 E1 E2 ds1 ds2 _ (D1.out.later HB0.out) (D2.out.later HB0.out)).mono ?_
 rintro e w1 ⟨⟨r, rfl, hsz'⟩, hb1⟩
 have hr : decide (r < 0) = true := decide_eq_true (HSZ.out r hsz')
 have hs3 : w.heap.size + 3 ≤ w1.heap.size := by have := hb1.size; simp at this; omega
 have HA : Hid (BoxN w1 w.heap.size S1 (.slice a1 ds1.length c1) E1) := BoxN.block (boxes3 w _ _ _).1 (hb1.block _ (by simp; omega))
 have HBb : Hid (BoxN w1 (w.heap.size + 1) S2 (.slice a2 ds2.length c2) E2) := BoxN.block (boxes3 w _ _ _).2.1 (hb1.block _ (by simp))
 have HRr : Hid (BoxN w1 (w.heap.size + 2) 0 (.slice none 0 0) 0) := BoxN.block (boxes3 w _ _ _).2.2 (hb1.block _ (by simp))
 have HBL : Hid (Below w.heap.size w w1) := HB0.out.trans (hb1.mono (by simp; omega))
 obtain ⟨b0, b1', b2', _, _⟩ := HA.out.cells
 obtain ⟨d0, d1', d2', _, _⟩ := HBb.out.cells
 clear hb1 hsz' HSZ
 go_wp2_with fail
 refine (HX.out _ HBL.out).mono ?_
 rintro e w2 ⟨v9, rfl, hrf, hb9⟩
 have hB : BoxN w2 (w.heap.size + 2) 0 (.slice none 0 0) 0 := HRr.out.block (hb9.block _ (by omega))
 have hO : Hid (OtherRow w2 (w.heap.size + 2)) := other_box hB
 obtain ⟨t0, t1', t2', tf, tl⟩ := hB.cells
 have HB : Hid (Below w.heap.size w w2) := HBL.out.trans (hb9.mono (by omega))
 have HV : Hid (Rf w2 v9 q) := hrf
 obtain ⟨S9, ds9, E9, hd9, _⟩ := HV.out
 obtain ⟨a9, c9, rfl, _⟩ := hd9.form
 clear hb9 hrf hB hd9 b0 b1' b2' d0 d1' d2' HA HBb HRr
 go_wp2
 refine bodyPost_ret (v := .agg #[.int .i64 S9, .slice a9 ds9.length c9, .int .i64 E9]) (by simp [results, Tryd.results35, go_sem, t0, t1', t2']) rfl ?_
 refine ⟨_, rfl, HV.out.boxed hO.out _ _ _, ?_⟩
 repeat (first | exact HB.out | refine Below.drew ?_ | refine Below.setCell ?_ (by show w.heap.size ≤ w.heap.size + 2; omega) _)
def Fit (q : Rat) : Prop := Bd 100000 (-100000) q
theorem sz_total {ds1 ds2 : List Nat} {E1 E2 : Int} (s1 : ∀ d ∈ ds1, d < 16777216) (s2 : ∀ d ∈ ds2, d < 16777216) : (mag ds2 E2 ≤ mag ds1 E1 → ∀ r, SizeOf ds1 E1 ds2 E2 r → ¬ r < 0) ∧ (¬ mag ds2 E2 ≤ mag ds1 E1 → ∀ r, SizeOf ds1 E1 ds2 E2 r → r < 0) := by
 refine ⟨fun h r hr hlt => ?_, fun h r hr => ?_⟩
 · have := (size_sign hr s1 s2).1 hlt
   grind
 · rcases Int.lt_or_le r 0 with h' | h'
   · exact h'
   · exact absurd ((size_sign hr s1 s2).2 (by omega)) h
theorem span_of (E1 E2 C D : Int) (h1 : -10000 ≤ E1) (h2 : -10000 ≤ E2) (h3 : C ≤ 10000) (h4 : D ≤ 10000) (h5 : E1 ≤ C) (h6 : E2 ≤ D) : ∃ L to, (if E2 < E1 then E2 else E1) = L ∧ (if C < D then D else C) = to ∧ L ≤ E1 ∧ L ≤ E2 ∧ C ≤ to ∧ D ≤ to ∧ -10000 ≤ L ∧ to ≤ 10000 ∧ L ≤ to := by
 refine ⟨_, _, rfl, rfl, ?_, ?_, ?_, ?_, ?_, ?_, ?_⟩ <;> (repeat' split) <;> omega
theorem refAdd_any (v1 v2 : Value) (q1 q2 : Rat) (w : World) (h1 : Rf w v1 q1) (h2 : Rf w v2 q2) (b1 : Fit q1) (b2 : Fit q2) :
   Calls Tryd.prog 35 #[v1, v2] w fun e w' => RfR w w' (q1 + q2) e := by
 obtain ⟨S1, ds1, E1, d1, k1, rfl⟩ := h1
 obtain ⟨S2, ds2, E2, d2, k2, rfl⟩ := h2
 obtain ⟨a1, c1, rfl, _⟩ := d1.form
 obtain ⟨a2, c2, rfl, _⟩ := d2.form
 by_cases z1 : S1 = 0
 · subst z1
   refine (add_zero1 a1 a2 ds1.length ds2.length c1 c2 S2 E1 E2 w).mono ?_
   rintro e w' ⟨rfl, hb⟩
   refine ⟨_, rfl, ⟨S2, ds2, E2, d2.later hb, k2, ?_⟩, hb⟩
   rw [show ((0 : Int) : Rat) = 0 from rfl]; grind
 by_cases z2 : S2 = 0
 · subst z2
   refine (add_zero2 a1 a2 ds1.length ds2.length c1 c2 S1 E1 E2 w (by simpa using z1)).mono ?_
   rintro e w' ⟨rfl, hb⟩
   refine ⟨_, rfl, ⟨S1, ds1, E1, d1.later hb, k1, ?_⟩, hb⟩
   rw [show ((0 : Int) : Rat) = 0 from rfl]; grind
 have n1 : ds1 ≠ [] := by rintro rfl; rcases k1 with ⟨_, h, _⟩ | ⟨h, _⟩ <;> contradiction
 have n2 : ds2 ≠ [] := by rintro rfl; rcases k2 with ⟨_, h, _⟩ | ⟨h, _⟩ <;> contradiction
 have s1 := (canon_sign k1).resolve_left z1
 have s2 := (canon_sign k2).resolve_left z2
 obtain ⟨p1, p1'⟩ := canon_place k1 d1.small b1 n1
 obtain ⟨p2, p2'⟩ := canon_place k2 d2.small b2 n2
 have y1 : (S1 == 0) = false := by simpa using z1
 have y2 : (S2 == 0) = false := by simpa using z2
 have lo1 := List.length_pos_iff.2 n1
 have lo2 := List.length_pos_iff.2 n2
 obtain ⟨L, to, hL, hto, i1, i2, i3, i4, i5, i6, i7⟩ := span_of E1 E2 (E1 + (ds1.length : Int)) (E2 + (ds2.length : Int)) (by omega) (by omega) (by omega) (by omega) (by omega) (by omega)
 by_cases hs : S1 = S2
 · subst hs
   refine (add_same a1 a2 c1 c2 S1 E1 E2 _ _ ds1 ds2 w d1 d2 y1 s1 hL hto i5 i6).mono ?_
   rintro e w' ⟨zs, c, hD, hR⟩
   rw [add_val hD (to := to) (by omega) d1.small d2.small i1 i2 i3 i4 (Or.inl rfl)] at hR
   have e : (S1 : Rat) * (mag ds1 E1 + ((1 : Int) : Rat) * mag ds2 E2) = (S1 : Rat) * mag ds1 E1 + (S1 : Rat) * mag ds2 E2 := by rw [show ((1 : Int) : Rat) = 1 from rfl]; grind
   rwa [e] at hR
 · have hss : S2 = -S1 := by omega
   have yn : (S1 == S2) = false := by simpa using hs
   have yn' : (S2 == S1) = false := by simpa using Ne.symm hs
   have sz := sz_total (E1 := E1) (E2 := E2) d1.small d2.small
   have ez : (S2 : Rat) = -(S1 : Rat) := by rw [hss, Rat.intCast_neg]
   have em : ((-1 : Int) : Rat) = -1 := rfl
   by_cases hm : mag ds2 E2 ≤ mag ds1 E1
   · refine (add_other a1 a2 c1 c2 S1 S2 E1 E2 _ _ ds1 ds2 w d1 d2 y1 s1 y2 yn (sz.1 hm) hL hto i5 i6).mono ?_
     rintro e w' ⟨zs, c, hD, hR⟩
     rw [add_val hD (to := to) (by omega) d1.small d2.small i1 i2 i3 i4 (Or.inr ⟨rfl, hm⟩)] at hR
     have e : (S1 : Rat) * (mag ds1 E1 + ((-1 : Int) : Rat) * mag ds2 E2) = (S1 : Rat) * mag ds1 E1 + (S2 : Rat) * mag ds2 E2 := by rw [em, ez]; grind
     rwa [e] at hR
   · refine add_swap a1 a2 c1 c2 S1 S2 E1 E2 ds1 ds2 _ w d1 d2 y1 y2 yn (sz.2 hm) ?_
     intro W hb
     have sz' := sz_total (E1 := E2) (E2 := E1) d2.small d1.small
     have hm' : mag ds1 E1 ≤ mag ds2 E2 := by grind
     obtain ⟨L, to, hL, hto, i1, i2, i3, i4, i5, i6, i7⟩ := span_of E2 E1 (E2 + (ds2.length : Int)) (E1 + (ds1.length : Int)) (by omega) (by omega) (by omega) (by omega) (by omega) (by omega)
     refine (add_other a2 a1 c2 c1 S2 S1 E2 E1 _ _ ds2 ds1 W (d2.later hb) (d1.later hb) y2 s2 y1 yn' (sz'.1 hm') hL hto i5 i6).mono ?_
     rintro e w' ⟨zs, c, hD, hR⟩
     rw [add_val hD (to := to) (by omega) d2.small d1.small i1 i2 i3 i4 (Or.inr ⟨rfl, hm'⟩)] at hR
     have e : (S2 : Rat) * (mag ds2 E2 + ((-1 : Int) : Rat) * mag ds1 E1) = (S1 : Rat) * mag ds1 E1 + (S2 : Rat) * mag ds2 E2 := by rw [em, ez]; grind
     rwa [e] at hR
end

/- The reference's Mul: what stands while it goes. -/
section
open Go.RowKit
theorem v24_set {zs : List Nat} {j : Nat} (h : j < zs.length) (x : Nat) : v24 (zs.set j x) + 2 ^ (24 * j) * zs.getD j 0 = v24 zs + 2 ^ (24 * j) * x := by
 induction zs generalizing j with
 | nil => simp at h
 | cons a r ih =>
   cases j with
   | zero => simp [v24]; omega
   | succ j =>
     simp only [List.set_cons_succ, v24, List.getD_cons_succ]
     have := ih (j := j) (by simp at h; omega)
     rw [p24]
     grind
theorem v24_rep (n : Nat) : v24 (List.replicate n 0) = 0 := by
 induction n with
 | zero => rfl
 | succ n ih => rw [List.replicate_succ, v24, ih]
theorem set_small {zs : List Nat} {j x : Nat} (h : ∀ d ∈ zs, d < 16777216) (hx : x < 16777216) : ∀ d ∈ zs.set j x, d < 16777216 := by
 intro d hd
 rcases List.mem_or_eq_of_mem_set hd with hd | rfl
 · exact h d hd
 · exact hx
theorem getD_small {zs : List Nat} (h : ∀ d ∈ zs, d < 16777216) (j : Nat) : zs.getD j 0 < 16777216 := by
 by_cases hj : j < zs.length
 · rw [show zs.getD j 0 = zs[j] by simp [List.getD, hj]]
   exact h _ (List.getElem_mem hj)
 · simp [List.getD, List.getElem?_eq_none (Nat.le_of_not_lt hj)]
theorem set_getD {zs : List Nat} {j k x : Nat} (h : j ≠ k) : (zs.set j x).getD k 0 = zs.getD k 0 := by
 simp only [List.getD, List.getElem?_set]; rw [if_neg h]
structure MulO (ds1 ds2 zs : List Nat) (i : Nat) : Prop where
 len : zs.length = ds1.length + ds2.length
 small : ∀ d ∈ zs, d < 16777216
 val : v24 zs = v24 (ds1.take i) * v24 ds2
 top : ∀ j, i + ds2.length ≤ j → zs.getD j 0 = 0
structure MulI (ds1 ds2 zs0 zs : List Nat) (i k c : Nat) : Prop where
 len : zs.length = ds1.length + ds2.length
 small : ∀ d ∈ zs, d < 16777216
 val : v24 zs + 2 ^ (24 * (i + k)) * c = v24 zs0 + 2 ^ (24 * i) * (ds1.getD i 0 * v24 (ds2.take k))
 rest : ∀ j, i + k ≤ j → zs.getD j 0 = zs0.getD j 0
 carry : c < 16777216
theorem MulO.start (ds1 ds2 : List Nat) : MulO ds1 ds2 (List.replicate (ds1.length + ds2.length) 0) 0 :=
 ⟨by simp, fun d hd => by have := List.eq_of_mem_replicate hd; omega, by simp [v24_rep, v24], fun j _ => by rw [List.getD, List.getElem?_replicate]; split <;> rfl⟩
theorem MulO.begin {ds1 ds2 zs : List Nat} {i : Nat} (h : MulO ds1 ds2 zs i) : MulI ds1 ds2 zs zs i 0 0 :=
 ⟨h.len, h.small, by simp [v24], fun j _ => rfl, by omega⟩
theorem MulI.step {ds1 ds2 zs0 zs : List Nat} {i k c v : Nat} (h : MulI ds1 ds2 zs0 zs i k c) (hi : i < ds1.length) (hk : k < ds2.length) (s1 : ∀ d ∈ ds1, d < 16777216) (s2 : ∀ d ∈ ds2, d < 16777216) (hv : v = zs.getD (i + k) 0 + ds1.getD i 0 * ds2.getD k 0 + c) :
   MulI ds1 ds2 zs0 (zs.set (i + k) (v % 16777216)) i (k + 1) (v / 16777216) := by
 have hl : i + k < zs.length := by rw [h.len]; omega
 have hx := getD_small h.small (i + k)
 have ha := getD_small s1 i
 have hb := getD_small s2 k
 have hc := h.carry
 refine ⟨by simp [h.len], set_small h.small (Nat.mod_lt _ (by omega)), ?_, fun j hj => ?_, ?_⟩
 · have e1 := v24_set hl (v % 16777216)
   have e2 := h.val
   have e3 := Nat.mod_add_div v 16777216
   rw [v24_take_succ, show i + (k + 1) = i + k + 1 by omega, p24]
   have e4 : 2 ^ (24 * (i + k)) = 2 ^ (24 * i) * 2 ^ (24 * k) := by rw [← Nat.pow_add]; congr 1; omega
   generalize v % 16777216 = r at *
   generalize v / 16777216 = q at *
   generalize zs.getD (i + k) 0 = x at *
   generalize ds1.getD i 0 = a at *
   generalize ds2.getD k 0 = b at *
   generalize v24 (zs.set (i + k) r) = V at *
   rw [e4] at e1 e2 ⊢
   generalize 2 ^ (24 * i) = P at *
   generalize 2 ^ (24 * k) = R at *
   subst hv
   grind
 · rw [set_getD (by omega)]; exact h.rest j (by omega)
 · rw [Nat.div_lt_iff_lt_mul (by omega), hv]
   have : ds1.getD i 0 * ds2.getD k 0 ≤ 16777215 * 16777215 := Nat.mul_le_mul (by omega) (by omega)
   omega
theorem MulI.done {ds1 ds2 zs0 zs : List Nat} {i c : Nat} (h : MulI ds1 ds2 zs0 zs i ds2.length c) (h0 : MulO ds1 ds2 zs0 i) (hi : i < ds1.length) : zs.getD (i + ds2.length) 0 = 0 ∧ MulO ds1 ds2 (zs.set (i + ds2.length) c) (i + 1) := by
 have hl : i + ds2.length < zs.length := by rw [h.len]; omega
 have hz : zs.getD (i + ds2.length) 0 = 0 := by rw [h.rest _ (Nat.le_refl _)]; exact h0.top _ (Nat.le_refl _)
 refine ⟨hz, by simp [h.len], set_small h.small h.carry, ?_, fun j hj => ?_⟩
 · have e1 := v24_set hl c
   rw [hz] at e1
   have e2 := h.val
   rw [List.take_of_length_le (Nat.le_refl _)] at e2
   rw [v24_take_succ, h0.val] at *
   grind
 · rw [set_getD (by omega), h.rest j (by omega)]; exact h0.top j (by omega)
structure MulW (w : World) (O R : Nat) (S1 S2 SS E1 E2 : Int) (sv1 sv2 : Value) (zs : List Nat) (W : World) : Prop where
 a : BoxN W w.heap.size S1 sv1 E1
 b : BoxN W (w.heap.size + 1) S2 sv2 E2
 r : BoxN W (w.heap.size + 2) 0 (.slice none 0 0) 0
 o : BoxN W O SS (.slice (some ⟨R, 0, none⟩) zs.length zs.length) (E1 + E2)
 row : W.ownsRow R 2 1 (.slice (some ⟨R, 0, none⟩) zs.length zs.length) zs.length (i64s zs)
 bel : Below w.heap.size w W
 o1 : w.heap.size + 3 ≤ O
 o2 : w.heap.size + 3 ≤ R
 o3 : O ≠ R
theorem MulW.wrote {w W : World} {O R k d : Nat} {S1 S2 SS E1 E2 x : Int} {sv1 sv2 : Value} {zs : List Nat} (h : MulW w O R S1 S2 SS E1 E2 sv1 sv2 zs W) (hk : k < zs.length) (hx : x = (d : Nat)) : MulW w O R S1 S2 SS E1 E2 sv1 sv2 (zs.set k d) (W.setCell ⟨R, k, none⟩ (.int .i64 x)) := by
 subst hx
 have h1 := h.o1
 have h2 := h.o2
 refine ⟨h.a.other (by simp; omega) _, h.b.other (by simp; omega) _, h.r.other (by simp; omega) _, ?_, ?_, h.bel.setCell (by simp; omega) _, h1, h2, h.o3⟩
 · have := h.o.other (a := ⟨R, k, none⟩) h.o3 (.int .i64 (d : Nat))
   simpa using this
 · have := own_set h.row k d hk
   simpa using this
theorem MulW.drew {w W : World} {O R : Nat} {S1 S2 SS E1 E2 : Int} {sv1 sv2 : Value} {zs : List Nat} (h : MulW w O R S1 S2 SS E1 E2 sv1 sv2 zs W) : MulW w O R S1 S2 SS E1 E2 sv1 sv2 zs W.drew := ⟨h.a, h.b, h.r, h.o, h.row, h.bel.drew, h.o1, h.o2, h.o3⟩
set_option maxRecDepth 100000 in
theorem make64 (n : Nat) (hn : n ≤ 100000) (W : World) : (Instr.makeSlice 65 (.int .i64 (n : Int)) (.int .i64 (n : Int))).run Tryd.prog W = .ok (.slice (some ⟨W.heap.size, 0, none⟩) n n) (W.alloc (.cells (i64s (List.replicate n 0)).toArray 2)) := by
 obtain ⟨i0, hi0, hz0, hz1, hz2⟩ := info_parts info64
 have h := run_make (P := Tryd.prog) W 65 2 i0 _ Tryd.underlying65 hi0 hz0 .i64 .i64 n n (by omega) (Int.le_refl _) (by rw [hz2]; omega) (by omega)
 rw [h]
 simp only [Int.toNat_natCast]
 congr 3
 apply Array.toList_inj.1
 rw [hz1, Nat.mul_one, show (Value.int IntKind.i64 0).cells = #[Value.int IntKind.i64 0] from rfl, toList_madeCells_one]
 simp [i64s]
theorem own_made {W : World} {R n : Nat} (h : W.heap[R]? = some (.cells (i64s (List.replicate n 0)).toArray 2 (0, 0))) (hn : n ≤ 100000) : W.ownsRow R 2 1 (.slice (some ⟨R, 0, none⟩) (List.replicate n 0).length (List.replicate n 0).length) (List.replicate n 0).length (i64s (List.replicate n 0)) := by
 refine ⟨by simp [i64s], Or.inr ⟨R, _, _, rfl, Nat.le_refl _, h, Nat.le_refl _, by unfold maxLen; simp; omega, by simp [i64s], ?_⟩⟩
 simp only [Nat.mul_one]
 rw [List.take_of_length_le (by simp [i64s])]
end

/- The reference's Mul: the walk. -/
section
open Go.RowKit
attribute [local go_sem ↓] Go.wp_at_zero Go.wp_at_succ
theorem boxes5 (w : World) (a b c d e : Obj) : let W := ((((w.alloc a).alloc b).alloc c).alloc d).alloc e
   W.heap[w.heap.size]? = some a ∧ W.heap[w.heap.size + 1]? = some b ∧ W.heap[w.heap.size + 2]? = some c ∧ W.heap[w.heap.size + 3]? = some d ∧ W.heap[w.heap.size + 4]? = some e ∧ Below w.heap.size w W := by
 have h3 := boxes3 w a b c
 have s3 : (((w.alloc a).alloc b).alloc c).heap.size = w.heap.size + 3 := by simp
 have h4 := old_box (((w.alloc a).alloc b).alloc c) d e
 have h5 := new_box (((w.alloc a).alloc b).alloc c) d e
 rw [s3] at h4 h5
 have hk : ∀ k, k < w.heap.size + 3 → (((((w.alloc a).alloc b).alloc c).alloc d).alloc e).heap[k]? = (((w.alloc a).alloc b).alloc c).heap[k]? := fun k hk => by
   rw [Below.heap_alloc _ _ _ (by simp; omega), Below.heap_alloc _ _ _ (by simp; omega)]
 refine ⟨?_, ?_, ?_, h4, h5, ?_⟩
 · rw [hk _ (by omega)]; exact h3.1
 · rw [hk _ (by omega)]; exact h3.2.1
 · rw [hk _ (by omega)]; exact h3.2.2
 · exact ((below3 w a b c).alloc (by simp; omega) _).alloc (by simp; omega) _
set_option maxRecDepth 100000 in
set_option maxHeartbeats 8000000 in
theorem refMul_walk (g1 o1 g2 o2 c1 c2 : Nat) (S1 S2 E1 E2 : Int) (ds1 ds2 : List Nat) (w : World) (hd1 : Dig w (.agg #[.int .i64 S1, .slice (some ⟨g1, o1, none⟩) ds1.length c1, .int .i64 E1]) S1 ds1 E1) (hd2 : Dig w (.agg #[.int .i64 S2, .slice (some ⟨g2, o2, none⟩) ds2.length c2, .int .i64 E2]) S2 ds2 E2)
   (hS1 : S1 = 1 ∨ S1 = -1) (hS2 : S2 = 1 ∨ S2 = -1) (hp : -10000 ≤ E1) (hq : E1 + (ds1.length : Int) ≤ 10000) (hp' : -10000 ≤ E2) (hq' : E2 + (ds2.length : Int) ≤ 10000)
   (k1 : ∀ k, k < ds1.length → w.cell? ⟨g1, o1 + k, none⟩ = some (.int .i64 (ds1.getD k 0 : Nat))) (k2 : ∀ k, k < ds2.length → w.cell? ⟨g2, o2 + k, none⟩ = some (.int .i64 (ds2.getD k 0 : Nat))) :
   Calls Tryd.prog 21 #[.agg #[.int .i64 S1, .slice (some ⟨g1, o1, none⟩) ds1.length c1, .int .i64 E1], .agg #[.int .i64 S2, .slice (some ⟨g2, o2, none⟩) ds2.length c2, .int .i64 E2]] w fun e w' => RfR w w' ((S1 : Rat) * mag ds1 E1 * ((S2 : Rat) * mag ds2 E2)) e := by
 have K1 : Hid (∀ k, k < ds1.length → w.cell? ⟨g1, o1 + k, none⟩ = some (.int .i64 (ds1.getD k 0 : Nat))) := k1
 have K2 : Hid (∀ k, k < ds2.length → w.cell? ⟨g2, o2 + k, none⟩ = some (.int .i64 (ds2.getD k 0 : Nat))) := k2
 have M1 : Hid (∀ d ∈ ds1, d < 16777216) := hd1.small
 have M2 : Hid (∀ d ∈ ds2, d < 16777216) := hd2.small
 have y1 : (S1 == 0) = false := by simp; omega
 have y2 : (S2 == 0) = false := by simp; omega
 have l1 : (ds1.length : Int) ≤ 20000 := by omega
 have l2 : (ds2.length : Int) ≤ 20000 := by omega
 obtain ⟨SS, hSS⟩ : ∃ s, Hid (S1 * S2 = s) := ⟨_, rfl⟩
 have hSe : S1 * S2 = SS := hSS.out
 have hSb : SS = 1 ∨ SS = -1 := by rw [← hSe]; rcases hS1 with rfl | rfl <;> rcases hS2 with rfl | rfl <;> simp
 have hsw : IntKind.i64.wrap SS = SS := wrapE _ (by omega) (by omega)
 have HSB : Hid (SS = 1 ∨ SS = -1) := hSb
 have hlw : IntKind.i64.wrap ((ds1.length : Int) + (ds2.length : Int)) = (ds1.length : Int) + (ds2.length : Int) := wrapE _ (by omega) (by omega)
 have hEw : IntKind.i64.wrap (E1 + E2) = E1 + E2 := wrapE _ (by omega) (by omega)
 obtain ⟨ZS, hZS⟩ : ∃ zs, Hid ((i64s (List.replicate (ds1.length + ds2.length) 0)).toArray = zs) := ⟨_, rfl⟩
 have hmake : ∀ W, (Instr.makeSlice 65 (.int .i64 ((ds1.length : Int) + (ds2.length : Int))) (.int .i64 ((ds1.length : Int) + (ds2.length : Int)))).run Tryd.prog W = .ok (.slice (some ⟨W.heap.size, 0, none⟩) (ds1.length + ds2.length) (ds1.length + ds2.length)) (W.alloc (.cells ZS 2)) := by
   intro W
   have := make64 (ds1.length + ds2.length) (by omega) W
   rw [hZS.out] at this
   simpa using this
 have HB0 : Hid (Below w.heap.size w (((w.alloc (.cells #[.int .i64 S1, .slice (some ⟨g1, o1, none⟩) ds1.length c1, .int .i64 E1] 67)).alloc (.cells #[.int .i64 S2, .slice (some ⟨g2, o2, none⟩) ds2.length c2, .int .i64 E2] 67)).alloc (.cells #[.int .i64 0, .slice none 0 0, .int .i64 0] 67))) := below3 _ _ _ _
 clear hd1 hd2 hS1 hS2 hSb k1 k2
 go_enter Tryd.func21, Tryd.ntmps21
 go_wp2
 go_region_held3 (fun W => W.cell? ⟨w.heap.size, 0, none⟩ = some (.int .i64 S1) ∧ W.cell? ⟨w.heap.size, 1, none⟩ = some (.slice (some ⟨g1, o1, none⟩) ds1.length c1) ∧ W.cell? ⟨w.heap.size, 2, none⟩ = some (.int .i64 E1) ∧ W.cell? ⟨w.heap.size + 1, 0, none⟩ = some (.int .i64 S2) ∧ W.cell? ⟨w.heap.size + 1, 1, none⟩ = some (.slice (some ⟨g2, o2, none⟩) ds2.length c2) ∧ W.cell? ⟨w.heap.size + 1, 2, none⟩ = some (.int .i64 E2))
   (first
     | assumption
     | exact ⟨by go_simp, by go_simp, by go_simp, by go_simp, by go_simp, by go_simp⟩)
   (fail)
 · go_wp2
   go_loopw [6] (fun i wr => ∃ (k : Nat) (zs : List Nat), i = .int .i64 (k : Nat) ∧ k ≤ ds1.length ∧ Hid (MulO ds1 ds2 zs k) ∧ Hid (MulW w (w.heap.size + 4) (w.heap.size + 3) S1 S2 SS E1 E2 (.slice (some ⟨g1, o1, none⟩) ds1.length c1) (.slice (some ⟨g2, o2, none⟩) ds2.length c2) zs wr)) (fun i _ => ds1.length - (intOf i).toNat)
   case atStart =>
     refine ⟨0, List.replicate (ds1.length + ds2.length) 0, rfl, by omega, MulO.start _ _, MulW.drew ⟨(boxes5 _ _ _ _ _ _).1, (boxes5 _ _ _ _ _ _).2.1, (boxes5 _ _ _ _ _ _).2.2.1, ?_, own_made ?_ (by omega), (boxes5 _ _ _ _ _ _).2.2.2.2.2, by omega, by omega, by omega⟩⟩
     · have := (boxes5 w (.cells #[.int .i64 S1, .slice (some ⟨g1, o1, none⟩) ds1.length c1, .int .i64 E1] 67) (.cells #[.int .i64 S2, .slice (some ⟨g2, o2, none⟩) ds2.length c2, .int .i64 E2] 67) (.cells #[.int .i64 0, .slice none 0 0, .int .i64 0] 67) (.cells ZS 2) (.cells #[.int .i64 SS, .slice (some ⟨w.heap.size + 1 + 1 + 1, 0, none⟩) (ds1.length + ds2.length) (ds1.length + ds2.length), .int .i64 (E1 + E2)] 67)).2.2.2.2.1
       simpa [BoxN] using this
     · rw [hZS.out]; exact (boxes5 _ _ _ _ _ _).2.2.2.1
   case round =>
     obtain ⟨k, zs, rfl, hk, hM, hW⟩ := hrel
     obtain ⟨x0, x1, x2, _, _⟩ := hW.out.a.cells
     obtain ⟨y0, y1', y2', _, _⟩ := hW.out.b.cells
     obtain ⟨z0, z1, z2, _, _⟩ := hW.out.o.cells
     have hzl := hM.out.len
     rw [hzl] at z1
     clear hzl
     by_cases hlt : k < ds1.length
     · have hlt' : (k : Int) < (ds1.length : Int) := by omega
       have hk0 : (0 : Int) ≤ (k : Int) := by omega
       go_wp2
       clear x0 x1 x2 y0 y1' y2' z0 z1 z2
       go_loopw [7, 8] (fun c j wr' => ∃ (cc jj : Nat) (zs' : List Nat), c = .int .i64 (cc : Nat) ∧ j = .int .i64 (jj : Nat) ∧ jj ≤ ds2.length ∧ cc < 16777216 ∧ Hid (MulI ds1 ds2 zs zs' k jj cc) ∧ Hid (MulW w (w.heap.size + 4) (w.heap.size + 3) S1 S2 SS E1 E2 (.slice (some ⟨g1, o1, none⟩) ds1.length c1) (.slice (some ⟨g2, o2, none⟩) ds2.length c2) zs' wr')) (fun _ j _ => ds2.length - (intOf j).toNat)
       case atStart => exact ⟨0, 0, zs, rfl, rfl, by omega, by omega, hM.out.begin, hW.out⟩
       case round =>
         clear hW
         obtain ⟨cc, jj, zs', rfl, rfl, hj, hcc, hI, hW⟩ := hrel
         obtain ⟨_, x1, _, _, _⟩ := hW.out.a.cells
         obtain ⟨_, y1', _, _, _⟩ := hW.out.b.cells
         obtain ⟨_, z1, _, _, _⟩ := hW.out.o.cells
         have hzl : zs'.length = ds1.length + ds2.length := hI.out.len
         have HZL : Hid (zs'.length = ds1.length + ds2.length) := hzl
         rw [hzl] at z1
         clear hzl
         by_cases hlt2 : jj < ds2.length
         · have hlt2' : (jj : Int) < (ds2.length : Int) := by omega
           have hj0 : (0 : Int) ≤ (jj : Int) := by omega
           have hkj0 : (0 : Int) ≤ (k : Int) + (jj : Int) := by omega
           have hkj : (k : Int) + (jj : Int) < (ds1.length : Int) + (ds2.length : Int) := by omega
           have hwkj : IntKind.i64.wrap ((k : Int) + (jj : Int)) = (k : Int) + (jj : Int) := wrapE _ (by omega) (by omega)
           have htn : ((k : Int) + (jj : Int)).toNat = k + jj := by omega
           have r1 : wr.cell? ⟨g1, o1 + k, none⟩ = some (.int .i64 (ds1.getD k 0 : Nat)) := box_cell hW.out.bel (K1.out k hlt)
           have r2 : wr.cell? ⟨g2, o2 + jj, none⟩ = some (.int .i64 (ds2.getD jj 0 : Nat)) := box_cell hW.out.bel (K2.out jj hlt2)
           have r3 : wr.cell? ⟨(w.heap.size + 3), k + jj, none⟩ = some (.int .i64 (zs'.getD (k + jj) 0 : Nat)) := own_cell hW.out.row (k + jj) (by have := HZL.out; omega)
           have rf := own_frozen hW.out.row (k + jj)
           obtain ⟨d, hd⟩ : ∃ d : Nat, Hid (ds1.getD k 0 = d) := ⟨_, rfl⟩
           obtain ⟨b, hb⟩ : ∃ b : Nat, Hid (ds2.getD jj 0 = b) := ⟨_, rfl⟩
           obtain ⟨x, hx⟩ : ∃ x : Nat, Hid (zs'.getD (k + jj) 0 = x) := ⟨_, rfl⟩
           rw [hd.out] at r1
           rw [hb.out] at r2
           rw [hx.out] at r3
           have hdl : d < 16777216 := by rw [← hd.out]; exact getD_small M1.out _
           have hbl : b < 16777216 := by rw [← hb.out]; exact getD_small M2.out _
           have hxl : x < 16777216 := by rw [← hx.out]; exact getD_small hI.out.small _
           obtain ⟨p, hpp⟩ : ∃ p : Nat, Hid (d * b = p) := ⟨_, rfl⟩
           have hpI : (d : Int) * (b : Int) = (p : Int) := by rw [← hpp.out]; simp
           have hpl : (p : Int) ≤ 281474943156225 := by
             have : d * b ≤ 16777215 * 16777215 := Nat.mul_le_mul (by omega) (by omega)
             rw [hpp.out] at this
             omega
           have wp1 : IntKind.i64.wrap (p : Int) = (p : Int) := wrapE _ (by omega) (by omega)
           have wp2' : IntKind.i64.wrap ((x : Int) + (p : Int)) = (x : Int) + (p : Int) := wrapE _ (by omega) (by omega)
           have wp3 : IntKind.i64.wrap ((x : Int) + (p : Int) + (cc : Int)) = (x : Int) + (p : Int) + (cc : Int) := wrapE _ (by omega) (by omega)
           go_wp2
           go_region_held3 (fun W => W.cell? ⟨w.heap.size, 1, none⟩ = some (.slice (some ⟨g1, o1, none⟩) ds1.length c1) ∧ W.cell? ⟨w.heap.size + 1, 1, none⟩ = some (.slice (some ⟨g2, o2, none⟩) ds2.length c2) ∧ W.cell? ⟨(w.heap.size + 3), k + jj, none⟩ = some (.int .i64 (x : Nat)) ∧ W.cell? ⟨(w.heap.size + 4), 1, none⟩ = some (.slice (some ⟨(w.heap.size + 3), 0, none⟩) (ds1.length + ds2.length) (ds1.length + ds2.length)) ∧ W.cell? ⟨g1, o1 + k, none⟩ = some (.int .i64 (d : Nat)) ∧ W.cell? ⟨g2, o2 + jj, none⟩ = some (.int .i64 (b : Nat)))
             (first
               | assumption
               | exact ⟨by go_simp, by go_simp, by go_simp, by go_simp, by go_simp, by go_simp⟩)
             (fail)
           go_wp2
           have hst := hI.out.step hlt hlt2 M1.out M2.out (v := x + p + cc) (by rw [hx.out, hd.out, hb.out, hpp.out])
           have hwr := hW.out.drew.wrote (k := k + jj) (d := (x + p + cc) % 16777216) (x := ((x : Int) + (p : Int) + (cc : Int)) % 16777216) (by have := HZL.out; omega) (by omega)
           exact ⟨⟨(x + p + cc) / 16777216, jj + 1, _, by go_num, by go_num, by omega, hst.carry, hst, hwr⟩, by simp [intOf]; omega⟩
         · obtain rfl : jj = ds2.length := by omega
           have hltb : decide ((ds2.length : Int) < (ds2.length : Int)) = false := decide_eq_false (by omega)
           obtain ⟨hz0', hMO⟩ := hI.out.done hM.out hlt
           have r3 : wr.cell? ⟨(w.heap.size + 3), k + ds2.length, none⟩ = some (.int .i64 0) := by
             have := own_cell hW.out.row (k + ds2.length) (by have := HZL.out; omega)
             rw [hz0'] at this; exact this
           have rf := own_frozen hW.out.row (k + ds2.length)
           have hkj0 : (0 : Int) ≤ (k : Int) + (ds2.length : Int) := by omega
           have hkj : (k : Int) + (ds2.length : Int) < (ds1.length : Int) + (ds2.length : Int) := by omega
           have hwkj : IntKind.i64.wrap ((k : Int) + (ds2.length : Int)) = (k : Int) + (ds2.length : Int) := wrapE _ (by omega) (by omega)
           have htn : ((k : Int) + (ds2.length : Int)).toNat = k + ds2.length := by omega
           have wcc : IntKind.i64.wrap (cc : Int) = (cc : Int) := wrapE _ (by omega) (by omega)
           have HMO : Hid _ := hMO
           clear hz0' hMO
           go_wp2
           go_region
           go_wp2
           have hwr := hW.out.drew.wrote (k := k + ds2.length) (d := cc) (x := (cc : Int)) (by have := HZL.out; omega) rfl
           exact ⟨⟨k + 1, _, by go_num, by omega, HMO.out, hwr⟩, by simp [intOf]; omega⟩
     · obtain rfl : k = ds1.length := by omega
       have hltb : decide ((ds1.length : Int) < (ds1.length : Int)) = false := decide_eq_false (by omega)
       have HZL : Hid (zs.length = ds1.length + ds2.length) := hM.out.len
       have HR := hW.out.row
       rw [HZL.out] at HR
       go_wp2_with fail
       refine (trim_any _ SS (E1 + E2) zs _ (by have := own_dig (S := SS) (E := E1 + E2) hW.out.row hM.out.small (by have := HZL.out; omega) (by omega) (by omega); rw [HZL.out] at this; exact this) (by have := HZL.out; omega)).mono ?_
       rintro e w2 hT
       obtain ⟨v9, rfl, hrf, hb9⟩ := trim_rf HSB.out hT
       have hB : BoxN w2 (w.heap.size + 2) 0 (.slice none 0 0) 0 := hW.out.r.block (hb9.block _ hW.out.r.cells.2.2.2.2)
       have hO : Hid (OtherRow w2 (w.heap.size + 2)) := other_box hB
       obtain ⟨t0, t1', t2', tf, tl⟩ := hB.cells
       have HB : Hid (Below w.heap.size w w2) := hW.out.bel.trans (hb9.mono hW.out.bel.size)
       have HV : Hid (Rf w2 v9 ((S1 : Rat) * mag ds1 E1 * ((S2 : Rat) * mag ds2 E2))) := by
         have hv := hM.out.val
         rw [List.take_of_length_le (Nat.le_refl _)] at hv
         have e : (SS : Rat) * mag zs (E1 + E2) = (S1 : Rat) * mag ds1 E1 * ((S2 : Rat) * mag ds2 E2) := by
           unfold mag
           rw [hv, ← hSS.out, show 24 * (E1 + E2) = 24 * E1 + 24 * E2 by omega, p2_add, Rat.natCast_mul, Rat.intCast_mul]
           grind
         rw [e] at hrf
         exact hrf
       obtain ⟨S9, ds9, E9, hd9, _⟩ := HV.out
       obtain ⟨a9, c9, rfl, _⟩ := hd9.form
       clear hb9 hT hrf hB hW hd9 HR x0 x1 x2 y0 y1' y2' z0 z1 z2
       go_wp2
       refine bodyPost_ret (v := .agg #[.int .i64 S9, .slice a9 ds9.length c9, .int .i64 E9]) (by simp [results, Tryd.results21, go_sem, t0, t1', t2']) rfl ?_
       refine ⟨_, rfl, HV.out.boxed hO.out _ _ _, ?_⟩
       repeat (first | exact HB.out | refine Below.drew ?_ | refine Below.setCell ?_ (by show w.heap.size ≤ w.heap.size + 2; omega) _)
 · go_wp2
   go_loopw [6] (fun i wr => ∃ (k : Nat) (zs : List Nat), i = .int .i64 (k : Nat) ∧ k ≤ ds1.length ∧ Hid (MulO ds1 ds2 zs k) ∧ Hid (MulW w (w.heap.size + 3) (w.heap.size + 4) S1 S2 SS E1 E2 (.slice (some ⟨g1, o1, none⟩) ds1.length c1) (.slice (some ⟨g2, o2, none⟩) ds2.length c2) zs wr)) (fun i _ => ds1.length - (intOf i).toNat)
   case atStart =>
     refine ⟨0, List.replicate (ds1.length + ds2.length) 0, rfl, by omega, MulO.start _ _, MulW.drew ⟨(boxes5 _ _ _ _ _ _).1, (boxes5 _ _ _ _ _ _).2.1, (boxes5 _ _ _ _ _ _).2.2.1, ?_, own_made ?_ (by omega), (boxes5 _ _ _ _ _ _).2.2.2.2.2, by omega, by omega, by omega⟩⟩
     · have := (boxes5 w (.cells #[.int .i64 S1, .slice (some ⟨g1, o1, none⟩) ds1.length c1, .int .i64 E1] 67) (.cells #[.int .i64 S2, .slice (some ⟨g2, o2, none⟩) ds2.length c2, .int .i64 E2] 67) (.cells #[.int .i64 0, .slice none 0 0, .int .i64 0] 67) (.cells #[.int .i64 SS, .slice (some ⟨w.heap.size + 1 + 1 + 1 + 1, 0, none⟩) (ds1.length + ds2.length) (ds1.length + ds2.length), .int .i64 (E1 + E2)] 67) (.cells ZS 2)).2.2.2.1
       simpa [BoxN] using this
     · rw [hZS.out]; exact (boxes5 _ _ _ _ _ _).2.2.2.2.1
   case round =>
     obtain ⟨k, zs, rfl, hk, hM, hW⟩ := hrel
     obtain ⟨x0, x1, x2, _, _⟩ := hW.out.a.cells
     obtain ⟨y0, y1', y2', _, _⟩ := hW.out.b.cells
     obtain ⟨z0, z1, z2, _, _⟩ := hW.out.o.cells
     have hzl := hM.out.len
     rw [hzl] at z1
     clear hzl
     by_cases hlt : k < ds1.length
     · have hlt' : (k : Int) < (ds1.length : Int) := by omega
       have hk0 : (0 : Int) ≤ (k : Int) := by omega
       go_wp2
       clear x0 x1 x2 y0 y1' y2' z0 z1 z2
       go_loopw [7, 8] (fun c j wr' => ∃ (cc jj : Nat) (zs' : List Nat), c = .int .i64 (cc : Nat) ∧ j = .int .i64 (jj : Nat) ∧ jj ≤ ds2.length ∧ cc < 16777216 ∧ Hid (MulI ds1 ds2 zs zs' k jj cc) ∧ Hid (MulW w (w.heap.size + 3) (w.heap.size + 4) S1 S2 SS E1 E2 (.slice (some ⟨g1, o1, none⟩) ds1.length c1) (.slice (some ⟨g2, o2, none⟩) ds2.length c2) zs' wr')) (fun _ j _ => ds2.length - (intOf j).toNat)
       case atStart => exact ⟨0, 0, zs, rfl, rfl, by omega, by omega, hM.out.begin, hW.out⟩
       case round =>
         clear hW
         obtain ⟨cc, jj, zs', rfl, rfl, hj, hcc, hI, hW⟩ := hrel
         obtain ⟨_, x1, _, _, _⟩ := hW.out.a.cells
         obtain ⟨_, y1', _, _, _⟩ := hW.out.b.cells
         obtain ⟨_, z1, _, _, _⟩ := hW.out.o.cells
         have hzl : zs'.length = ds1.length + ds2.length := hI.out.len
         have HZL : Hid (zs'.length = ds1.length + ds2.length) := hzl
         rw [hzl] at z1
         clear hzl
         by_cases hlt2 : jj < ds2.length
         · have hlt2' : (jj : Int) < (ds2.length : Int) := by omega
           have hj0 : (0 : Int) ≤ (jj : Int) := by omega
           have hkj0 : (0 : Int) ≤ (k : Int) + (jj : Int) := by omega
           have hkj : (k : Int) + (jj : Int) < (ds1.length : Int) + (ds2.length : Int) := by omega
           have hwkj : IntKind.i64.wrap ((k : Int) + (jj : Int)) = (k : Int) + (jj : Int) := wrapE _ (by omega) (by omega)
           have htn : ((k : Int) + (jj : Int)).toNat = k + jj := by omega
           have r1 : wr.cell? ⟨g1, o1 + k, none⟩ = some (.int .i64 (ds1.getD k 0 : Nat)) := box_cell hW.out.bel (K1.out k hlt)
           have r2 : wr.cell? ⟨g2, o2 + jj, none⟩ = some (.int .i64 (ds2.getD jj 0 : Nat)) := box_cell hW.out.bel (K2.out jj hlt2)
           have r3 : wr.cell? ⟨(w.heap.size + 4), k + jj, none⟩ = some (.int .i64 (zs'.getD (k + jj) 0 : Nat)) := own_cell hW.out.row (k + jj) (by have := HZL.out; omega)
           have rf := own_frozen hW.out.row (k + jj)
           obtain ⟨d, hd⟩ : ∃ d : Nat, Hid (ds1.getD k 0 = d) := ⟨_, rfl⟩
           obtain ⟨b, hb⟩ : ∃ b : Nat, Hid (ds2.getD jj 0 = b) := ⟨_, rfl⟩
           obtain ⟨x, hx⟩ : ∃ x : Nat, Hid (zs'.getD (k + jj) 0 = x) := ⟨_, rfl⟩
           rw [hd.out] at r1
           rw [hb.out] at r2
           rw [hx.out] at r3
           have hdl : d < 16777216 := by rw [← hd.out]; exact getD_small M1.out _
           have hbl : b < 16777216 := by rw [← hb.out]; exact getD_small M2.out _
           have hxl : x < 16777216 := by rw [← hx.out]; exact getD_small hI.out.small _
           obtain ⟨p, hpp⟩ : ∃ p : Nat, Hid (d * b = p) := ⟨_, rfl⟩
           have hpI : (d : Int) * (b : Int) = (p : Int) := by rw [← hpp.out]; simp
           have hpl : (p : Int) ≤ 281474943156225 := by
             have : d * b ≤ 16777215 * 16777215 := Nat.mul_le_mul (by omega) (by omega)
             rw [hpp.out] at this
             omega
           have wp1 : IntKind.i64.wrap (p : Int) = (p : Int) := wrapE _ (by omega) (by omega)
           have wp2' : IntKind.i64.wrap ((x : Int) + (p : Int)) = (x : Int) + (p : Int) := wrapE _ (by omega) (by omega)
           have wp3 : IntKind.i64.wrap ((x : Int) + (p : Int) + (cc : Int)) = (x : Int) + (p : Int) + (cc : Int) := wrapE _ (by omega) (by omega)
           go_wp2
           go_region_held3 (fun W => W.cell? ⟨w.heap.size, 1, none⟩ = some (.slice (some ⟨g1, o1, none⟩) ds1.length c1) ∧ W.cell? ⟨w.heap.size + 1, 1, none⟩ = some (.slice (some ⟨g2, o2, none⟩) ds2.length c2) ∧ W.cell? ⟨(w.heap.size + 4), k + jj, none⟩ = some (.int .i64 (x : Nat)) ∧ W.cell? ⟨(w.heap.size + 3), 1, none⟩ = some (.slice (some ⟨(w.heap.size + 4), 0, none⟩) (ds1.length + ds2.length) (ds1.length + ds2.length)) ∧ W.cell? ⟨g1, o1 + k, none⟩ = some (.int .i64 (d : Nat)) ∧ W.cell? ⟨g2, o2 + jj, none⟩ = some (.int .i64 (b : Nat)))
             (first
               | assumption
               | exact ⟨by go_simp, by go_simp, by go_simp, by go_simp, by go_simp, by go_simp⟩)
             (fail)
           go_wp2
           have hst := hI.out.step hlt hlt2 M1.out M2.out (v := x + p + cc) (by rw [hx.out, hd.out, hb.out, hpp.out])
           have hwr := hW.out.drew.wrote (k := k + jj) (d := (x + p + cc) % 16777216) (x := ((x : Int) + (p : Int) + (cc : Int)) % 16777216) (by have := HZL.out; omega) (by omega)
           exact ⟨⟨(x + p + cc) / 16777216, jj + 1, _, by go_num, by go_num, by omega, hst.carry, hst, hwr⟩, by simp [intOf]; omega⟩
         · obtain rfl : jj = ds2.length := by omega
           have hltb : decide ((ds2.length : Int) < (ds2.length : Int)) = false := decide_eq_false (by omega)
           obtain ⟨hz0', hMO⟩ := hI.out.done hM.out hlt
           have r3 : wr.cell? ⟨(w.heap.size + 4), k + ds2.length, none⟩ = some (.int .i64 0) := by
             have := own_cell hW.out.row (k + ds2.length) (by have := HZL.out; omega)
             rw [hz0'] at this; exact this
           have rf := own_frozen hW.out.row (k + ds2.length)
           have hkj0 : (0 : Int) ≤ (k : Int) + (ds2.length : Int) := by omega
           have hkj : (k : Int) + (ds2.length : Int) < (ds1.length : Int) + (ds2.length : Int) := by omega
           have hwkj : IntKind.i64.wrap ((k : Int) + (ds2.length : Int)) = (k : Int) + (ds2.length : Int) := wrapE _ (by omega) (by omega)
           have htn : ((k : Int) + (ds2.length : Int)).toNat = k + ds2.length := by omega
           have wcc : IntKind.i64.wrap (cc : Int) = (cc : Int) := wrapE _ (by omega) (by omega)
           have HMO : Hid _ := hMO
           clear hz0' hMO
           go_wp2
           go_region
           go_wp2
           have hwr := hW.out.drew.wrote (k := k + ds2.length) (d := cc) (x := (cc : Int)) (by have := HZL.out; omega) rfl
           exact ⟨⟨k + 1, _, by go_num, by omega, HMO.out, hwr⟩, by simp [intOf]; omega⟩
     · obtain rfl : k = ds1.length := by omega
       have hltb : decide ((ds1.length : Int) < (ds1.length : Int)) = false := decide_eq_false (by omega)
       have HZL : Hid (zs.length = ds1.length + ds2.length) := hM.out.len
       have HR := hW.out.row
       rw [HZL.out] at HR
       go_wp2_with fail
       refine (trim_any _ SS (E1 + E2) zs _ (by have := own_dig (S := SS) (E := E1 + E2) hW.out.row hM.out.small (by have := HZL.out; omega) (by omega) (by omega); rw [HZL.out] at this; exact this) (by have := HZL.out; omega)).mono ?_
       rintro e w2 hT
       obtain ⟨v9, rfl, hrf, hb9⟩ := trim_rf HSB.out hT
       have hB : BoxN w2 (w.heap.size + 2) 0 (.slice none 0 0) 0 := hW.out.r.block (hb9.block _ hW.out.r.cells.2.2.2.2)
       have hO : Hid (OtherRow w2 (w.heap.size + 2)) := other_box hB
       obtain ⟨t0, t1', t2', tf, tl⟩ := hB.cells
       have HB : Hid (Below w.heap.size w w2) := hW.out.bel.trans (hb9.mono hW.out.bel.size)
       have HV : Hid (Rf w2 v9 ((S1 : Rat) * mag ds1 E1 * ((S2 : Rat) * mag ds2 E2))) := by
         have hv := hM.out.val
         rw [List.take_of_length_le (Nat.le_refl _)] at hv
         have e : (SS : Rat) * mag zs (E1 + E2) = (S1 : Rat) * mag ds1 E1 * ((S2 : Rat) * mag ds2 E2) := by
           unfold mag
           rw [hv, ← hSS.out, show 24 * (E1 + E2) = 24 * E1 + 24 * E2 by omega, p2_add, Rat.natCast_mul, Rat.intCast_mul]
           grind
         rw [e] at hrf
         exact hrf
       obtain ⟨S9, ds9, E9, hd9, _⟩ := HV.out
       obtain ⟨a9, c9, rfl, _⟩ := hd9.form
       clear hb9 hT hrf hB hW hd9 HR x0 x1 x2 y0 y1' y2' z0 z1 z2
       go_wp2
       refine bodyPost_ret (v := .agg #[.int .i64 S9, .slice a9 ds9.length c9, .int .i64 E9]) (by simp [results, Tryd.results21, go_sem, t0, t1', t2']) rfl ?_
       refine ⟨_, rfl, HV.out.boxed hO.out _ _ _, ?_⟩
       repeat (first | exact HB.out | refine Below.drew ?_ | refine Below.setCell ?_ (by show w.heap.size ≤ w.heap.size + 2; omega) _)
end

/- The reference's Neg, Sub, Cmp, Abs of whatever numbers. -/
section
open Go.RowKit
attribute [local go_sem ↓] Go.wp_at_zero Go.wp_at_succ
theorem keepN6_set {w W : World} {o1 o2 o3 o4 o5 o6 : Nat} {x1 x2 x3 x4 x5 x6 : Value} (h : W.cell? ⟨w.heap.size, o1, none⟩ = some x1 ∧ W.cell? ⟨w.heap.size, o2, none⟩ = some x2 ∧ W.cell? ⟨w.heap.size, o3, none⟩ = some x3 ∧ W.cell? ⟨w.heap.size + 1, o4, none⟩ = some x4 ∧ W.cell? ⟨w.heap.size + 1, o5, none⟩ = some x5 ∧ W.cell? ⟨w.heap.size + 1, o6, none⟩ = some x6 ∧ Below w.heap.size w W) (u0 u1 u2 : Value) :
   (fun W' : World => W'.cell? ⟨w.heap.size, o1, none⟩ = some x1 ∧ W'.cell? ⟨w.heap.size, o2, none⟩ = some x2 ∧ W'.cell? ⟨w.heap.size, o3, none⟩ = some x3 ∧ W'.cell? ⟨w.heap.size + 1, o4, none⟩ = some x4 ∧ W'.cell? ⟨w.heap.size + 1, o5, none⟩ = some x5 ∧ W'.cell? ⟨w.heap.size + 1, o6, none⟩ = some x6 ∧ Below w.heap.size w W') (((W.setCell ⟨w.heap.size + 1 + 1, 0, none⟩ u0).setCell ⟨w.heap.size + 1 + 1, 1, none⟩ u1).setCell ⟨w.heap.size + 1 + 1, 2, none⟩ u2) := by
 have o : ∀ (W : World) (b i j : Nat) (x v : Value), b ≠ w.heap.size + 1 + 1 → W.cell? ⟨b, i, none⟩ = some x → (W.setCell ⟨w.heap.size + 1 + 1, j, none⟩ v).cell? ⟨b, i, none⟩ = some x := fun W b i j x v hb hx => by
   rw [World.cell?_setCell_other W _ _ v (by intro e; cases e; exact hb rfl)]; exact hx
 have o3 : ∀ (b i : Nat) (x : Value), b ≠ w.heap.size + 1 + 1 → W.cell? ⟨b, i, none⟩ = some x → (((W.setCell ⟨w.heap.size + 1 + 1, 0, none⟩ u0).setCell ⟨w.heap.size + 1 + 1, 1, none⟩ u1).setCell ⟨w.heap.size + 1 + 1, 2, none⟩ u2).cell? ⟨b, i, none⟩ = some x := fun b i x hb hx => o _ b i 2 x u2 hb (o _ b i 1 x u1 hb (o _ b i 0 x u0 hb hx))
 refine ⟨o3 _ _ _ (by omega) h.1, o3 _ _ _ (by omega) h.2.1, o3 _ _ _ (by omega) h.2.2.1, o3 _ _ _ (by omega) h.2.2.2.1, o3 _ _ _ (by omega) h.2.2.2.2.1, o3 _ _ _ (by omega) h.2.2.2.2.2.1, ?_⟩
 exact ((h.2.2.2.2.2.2.setCell (by show w.heap.size ≤ w.heap.size + 1 + 1; omega) _).setCell (by show w.heap.size ≤ w.heap.size + 1 + 1; omega) _).setCell (by show w.heap.size ≤ w.heap.size + 1 + 1; omega) _
set_option maxRecDepth 100000 in
theorem run_fieldS (s E : Int) (a : Option Addr) (n c : Nat) (W : World) : (Instr.field 67 (.agg #[.int .i64 s, .slice a n c, .int .i64 E]) 0).run Tryd.prog W = .ok (.int .i64 s) W := by
 rfl
theorem Canon.neg {S E : Int} {ds : List Nat} (h : Canon S ds E) : Canon (-S) ds E := by
 rcases h with ⟨a, b, c⟩ | ⟨a, b, c, d⟩
 · exact Or.inl ⟨a, by omega, c⟩
 · exact Or.inr ⟨a, by omega, c, d⟩
theorem Rf.sgn {w : World} {v : Value} {q : Rat} (h : Rf w v q) : ∃ S a n c E, v = .agg #[.int .i64 S, .slice a n c, .int .i64 E] ∧ ((S = 0 ∧ q = 0) ∨ (S = 1 ∧ 0 < q) ∨ (S = -1 ∧ q < 0)) := by
 obtain ⟨S, ds, E, h1, h2, rfl⟩ := h
 obtain ⟨a, c, rfl, _⟩ := h1.form
 exact ⟨S, a, _, c, E, rfl, canon_sgn h2⟩
theorem neg_rf (v : Value) (q : Rat) (w : World) (h : Rf w v q) : Calls Tryd.prog 34 #[v] w fun e w' => RfR w w' (-q) e := by
 obtain ⟨S, ds, E, h1, h2, rfl⟩ := h
 refine (refNeg_any v S E ds w h1 (by have := canon_sign h2; omega)).mono ?_
 rintro e w' ⟨⟨v', rfl, hd⟩, hb⟩
 refine ⟨v', rfl, ⟨-S, ds, E, hd, h2.neg, ?_⟩, hb⟩
 rw [Rat.intCast_neg]; grind
set_option maxHeartbeats 2000000 in
theorem sub_rf (v1 v2 : Value) (q1 q2 : Rat) (w : World) (h1 : Rf w v1 q1) (h2 : Rf w v2 q2) (b1 : Fit q1) (b2 : Fit q2) : Calls Tryd.prog 37 #[v1, v2] w fun e w' => RfR w w' (q1 - q2) e := by
 have R1 : Hid (Rf w v1 q1) := h1
 have R2 : Hid (Rf w v2 q2) := h2
 have F1 : Hid (Fit q1) := b1
 have F2 : Hid (Fit (-q2)) := Bd.neg b2
 obtain ⟨S1, ds1, E1, d1, _⟩ := h1
 obtain ⟨S2, ds2, E2, d2, _⟩ := h2
 obtain ⟨a1, c1, rfl, _⟩ := d1.form
 obtain ⟨a2, c2, rfl, _⟩ := d2.form
 have HB0 : Hid (Below w.heap.size w (((w.alloc (.cells #[.int .i64 S1, .slice a1 ds1.length c1, .int .i64 E1] 67)).alloc (.cells #[.int .i64 S2, .slice a2 ds2.length c2, .int .i64 E2] 67)).alloc (.cells #[.int .i64 0, .slice none 0 0, .int .i64 0] 67))) := below3 _ _ _ _
 have HR0 : Hid (BoxN (((w.alloc (.cells #[.int .i64 S1, .slice a1 ds1.length c1, .int .i64 E1] 67)).alloc (.cells #[.int .i64 S2, .slice a2 ds2.length c2, .int .i64 E2] 67)).alloc (.cells #[.int .i64 0, .slice none 0 0, .int .i64 0] 67)) (w.heap.size + 2) 0 (.slice none 0 0) 0) := (boxes3 w _ _ _).2.2
 clear d1 d2 b1 b2
 go_enter Tryd.func37, Tryd.ntmps37
 go_wp2
 go_region_held3 (fun W => W.cell? ⟨w.heap.size, 0, none⟩ = some (.int .i64 S1) ∧ W.cell? ⟨w.heap.size, 1, none⟩ = some (.slice a1 ds1.length c1) ∧ W.cell? ⟨w.heap.size, 2, none⟩ = some (.int .i64 E1) ∧ W.cell? ⟨w.heap.size + 1, 0, none⟩ = some (.int .i64 S2) ∧ W.cell? ⟨w.heap.size + 1, 1, none⟩ = some (.slice a2 ds2.length c2) ∧ W.cell? ⟨w.heap.size + 1, 2, none⟩ = some (.int .i64 E2) ∧ Below w.heap.size w W)
   (first
     | assumption
     | exact ⟨by go_simp, by go_simp, by go_simp, by go_simp, by go_simp, by go_simp, HB0.out.drew⟩
     | exact keepN6 (by assumption) (by assumption)
     | exact keepN6_set (by assumption) _ _ _)
   (first
     | (go_at_call 34; refine (neg_rf _ q2 _ (R2.out.later HB0.out.drew)).mono ?_; rintro e w5 ⟨v5, rfl, hr5, hb5⟩; obtain ⟨S5, ds5, E5, d5, x5⟩ := id hr5; obtain ⟨a5, c5, rfl, _⟩ := d5.form)
     | (go_at_call 35; refine (refAdd_any _ _ q1 (-q2) _ (R1.out.later (by exact (by assumption : _ ∧ _ ∧ _ ∧ _ ∧ _ ∧ _ ∧ Below w.heap.size w _).2.2.2.2.2.2)) hr5 F1.out F2.out).mono ?_; rintro e w6 ⟨v6, rfl, hr6, hb6⟩; obtain ⟨S6, ds6, E6, d6, x6⟩ := id hr6; obtain ⟨a6, c6, rfl, _⟩ := d6.form; have hB6 : BoxN w6 (w.heap.size + 2) 0 (.slice none 0 0) 0 := ((BoxN.block HR0.out rfl : BoxN (World.drew _) _ _ _ _).block (hb5.block _ (by simp))).block (hb6.block _ (by have := hb5.size; simp at this; omega)); obtain ⟨t0, t1, t2, tf, tl⟩ := hB6.cells))
 have hBf := (by assumption : _ ∧ _ ∧ _ ∧ _ ∧ _ ∧ _ ∧ Below w.heap.size w _).2.2.2.2.2.2
 have HBf : Hid _ := hBf
 have HV : Hid (Rf w6 (.agg #[.int .i64 S6, .slice a6 ds6.length c6, .int .i64 E6]) (q1 - q2)) := by rw [show q1 + -q2 = q1 - q2 by grind] at hr6; exact hr6
 have hO : Hid (OtherRow w6 (w.heap.size + 2)) := other_box hB6
 clear hr6 hr5 d5 x5 d6 x6 hb5 hb6 hB6 hBf
 go_wp2
 refine bodyPost_ret (v := .agg #[.int .i64 S6, .slice a6 ds6.length c6, .int .i64 E6]) (by simp [results, Tryd.results37, go_sem, t0, t1, t2]) rfl ?_
 exact ⟨_, rfl, HV.out.boxed hO.out _ _ _, HBf.out⟩
def sgq (q : Rat) : Int := if q < 0 then -1 else if q = 0 then 0 else 1
theorem sgq_of {S : Int} {q : Rat} (h : (S = 0 ∧ q = 0) ∨ (S = 1 ∧ 0 < q) ∨ (S = -1 ∧ q < 0)) : S = sgq q := by
 unfold sgq
 rcases h with ⟨rfl, rfl⟩ | ⟨rfl, h⟩ | ⟨rfl, h⟩
 · rw [if_neg (by grind), if_pos rfl]
 · rw [if_neg (by grind), if_neg (by grind)]
 · rw [if_pos h]
set_option maxHeartbeats 1000000 in
theorem cmp_rf (v1 v2 : Value) (q1 q2 : Rat) (w : World) (h1 : Rf w v1 q1) (h2 : Rf w v2 q2) (b1 : Fit q1) (b2 : Fit q2) : Calls Tryd.prog 24 #[v1, v2] w fun e w' => e = .returned (.int .i64 (sgq (q1 - q2))) ∧ Below w.heap.size w w' := by
 have R1 : Hid (Rf w v1 q1) := h1
 have R2 : Hid (Rf w v2 q2) := h2
 have F1 : Hid (Fit q1) := b1
 have F2 : Hid (Fit q2) := b2
 obtain ⟨S1, ds1, E1, d1, _⟩ := h1
 obtain ⟨S2, ds2, E2, d2, _⟩ := h2
 obtain ⟨a1, c1, rfl, _⟩ := d1.form
 obtain ⟨a2, c2, rfl, _⟩ := d2.form
 have HB0 : Hid (Below w.heap.size w ((w.alloc (.cells #[.int .i64 S1, .slice a1 ds1.length c1, .int .i64 E1] 67)).alloc (.cells #[.int .i64 S2, .slice a2 ds2.length c2, .int .i64 E2] 67))) := ((Below.refl _ _).alloc (Nat.le_refl _) _).alloc (by simp) _
 clear d1 d2 b1 b2
 go_enter Tryd.func24, Tryd.ntmps24
 go_wp2_with fail
 refine (sub_rf _ _ q1 q2 _ (R1.out.later HB0.out) (R2.out.later HB0.out) F1.out F2.out).mono ?_
 rintro e w5 ⟨v5, rfl, hr5, hb5⟩
 obtain ⟨S5, a5, n5, c5, E5, rfl, hs5⟩ := hr5.sgn
 have hS := sgq_of hs5
 have HB : Hid (Below w.heap.size w w5) := HB0.out.trans (hb5.mono HB0.out.size)
 clear hr5 hb5 hs5
 subst hS
 obtain ⟨s, hs⟩ : ∃ s, Hid (sgq (q1 - q2) = s) := ⟨_, rfl⟩
 rw [hs.out]
 have hfield := run_fieldS s E5 a5 n5 c5
 go_wp2
 go_ret
 exact ⟨by rw [hs.out]; rfl, HB.out⟩
set_option maxHeartbeats 1000000 in
theorem abs_rf (v : Value) (q : Rat) (w : World) (h : Rf w v q) : Calls Tryd.prog 19 #[v] w fun e w' => RfR w w' (if q < 0 then -q else q) e := by
 have R1 : Hid (Rf w v q) := h
 obtain ⟨S, a, n, c, E, rfl, hs⟩ := h.sgn
 have HB0 : Hid (Below w.heap.size w ((w.alloc (.cells #[.int .i64 S, .slice a n c, .int .i64 E] 67)).alloc (.cells #[.int .i64 0, .slice none 0 0, .int .i64 0] 67))) := ((Below.refl _ _).alloc (Nat.le_refl _) _).alloc (by simp) _
 have HX0 : Hid (BoxN ((w.alloc (.cells #[.int .i64 S, .slice a n c, .int .i64 E] 67)).alloc (.cells #[.int .i64 0, .slice none 0 0, .int .i64 0] 67)) (w.heap.size + 1) 0 (.slice none 0 0) 0) := new_box _ _ _
 by_cases hn : q < 0
 · obtain rfl : S = -1 := by rcases hs with ⟨_, h⟩ | ⟨_, h⟩ | ⟨h, _⟩ <;> first | exact h | (exfalso; grind)
   rw [if_pos hn]
   clear hs hn h
   go_enter Tryd.func19, Tryd.ntmps19
   go_wp2_with fail
   refine (neg_rf _ q _ (R1.out.later HB0.out)).mono ?_
   rintro e w5 ⟨v5, rfl, hr5, hb5⟩
   have hB : BoxN w5 (w.heap.size + 1) 0 (.slice none 0 0) 0 := HX0.out.block (hb5.block _ (by simp))
   have hO : Hid (OtherRow w5 (w.heap.size + 1)) := other_box hB
   obtain ⟨t0, t1, t2, tf, tl⟩ := hB.cells
   have HB : Hid (Below w.heap.size w w5) := HB0.out.trans (hb5.mono HB0.out.size)
   have HV : Hid (Rf w5 v5 (-q)) := hr5
   obtain ⟨S5, ds5, E5, d5, _⟩ := HV.out
   obtain ⟨a5, c5, rfl, _⟩ := d5.form
   clear hr5 hb5 hB d5
   go_wp2
   refine bodyPost_ret (v := .agg #[.int .i64 S5, .slice a5 ds5.length c5, .int .i64 E5]) (by simp [results, Tryd.results19, go_sem, t0, t1, t2]) rfl ?_
   refine ⟨_, rfl, HV.out.boxed hO.out _ _ _, ?_⟩
   repeat (first | exact HB.out | refine Below.drew ?_ | refine Below.setCell ?_ (by show w.heap.size ≤ w.heap.size + 1; omega) _)
 · have hS : decide (S < 0) = false := decide_eq_false (by rcases hs with ⟨h, _⟩ | ⟨h, _⟩ | ⟨_, h⟩ <;> first | omega | (exfalso; grind))
   rw [if_neg hn]
   clear hs hn h
   go_enter Tryd.func19, Tryd.ntmps19
   go_wp2
   refine bodyPost_ret (v := .agg #[.int .i64 S, .slice a n c, .int .i64 E]) (by simp [results, Tryd.results19, go_sem]) rfl ?_
   have hb : Below w.heap.size w ((w.alloc (.cells #[.int .i64 S, .slice a n c, .int .i64 E] 67)).alloc (.cells #[.int .i64 S, .slice a n c, .int .i64 E] 67)) := ((Below.refl _ _).alloc (Nat.le_refl _) _).alloc (by simp) _
   exact ⟨_, rfl, R1.out.later hb, hb⟩
end
end Go.Proofs.YtgfloegaoofbbaaDoor
