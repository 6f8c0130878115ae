/- Own texts, put together: Ib. -/
import Derived.Test.YtifjfgafpfefpaaDoorV20
import Derived.Test.YtifjfgafpfefpaaDoorV22
/- The document's side of layer 8: Text. -/
namespace Go.Proofs.YtifjfgafpfefpaaDoor
open Go.RowKit Go.Shelf Go.Lib
theorem itoa_minusI {n : Int} (h : 0 < n) : itoa (-n) = 45 :: itoa n := by
 obtain ⟨u, rfl⟩ : ∃ u : Nat, n = (u : Int) := ⟨n.toNat, by omega⟩
 rw [itoa_neg u (by omega), itoa_nonneg]
theorem eq_flipI {x : Nat} (hx : Fin64 x) (lx : x < 18446744073709551616) : Fin64 (fflip x) ∧ fflip x < 18446744073709551616 ∧ fval (fflip x) = -fval x :=
 ⟨by unfold Fin64; rw [frung_flip lx]; exact hx, flip_lt lx, fval_flip lx hx⟩
theorem whole_digits {S E n : Int} {ds : List Nat} (hc : Canon S ds E) (hs : ∀ d ∈ ds, d < 16777216) (h : (n : Rat) = (S : Rat) * mag ds E) (ho : n % 2 = 1) (hp : 0 < n) (hb : n < 9007199254740992) : S = 1 ∧ E = 0 ∧ ((v24 ds : Nat) : Int) = n ∧ ds.length ≤ 3 := by
 have hn0 : (0 : Rat) < (n : Rat) := Rat.intCast_pos.2 hp
 have hS : S = 1 := by
   rcases canon_sgn hc with ⟨_, h1⟩ | ⟨h1, _⟩ | ⟨_, h1⟩
   · rw [← h] at h1; grind
   · exact h1
   · rw [← h] at h1; grind
 subst hS
 have hne : ds ≠ [] := by
   rintro rfl
   rw [mag_nil] at h
   grind
 have hbd : Bd 53 0 (n : Rat) := by
   have c : p2 53 = ((9007199254740992 : Int) : Rat) := by rw [show (53 : Int) = ((53 : Nat) : Int) from rfl, p2_nat]; rfl
   have b1 : (n : Rat) < ((9007199254740992 : Int) : Rat) := Rat.intCast_lt_intCast.2 hb
   refine ⟨by rw [c]; exact b1, by rw [c]; grind, n, by rw [p2_zero, Rat.mul_one]⟩
 obtain ⟨c1, c2⟩ := canon_place hc hs (by rw [← h]; exact hbd) hne
 have hE : 0 ≤ E := by omega
 have hlen := List.length_pos_iff.2 hne
 obtain ⟨k, rfl⟩ : ∃ k : Nat, E = (k : Int) := ⟨E.toNat, by omega⟩
 have hv : ((v24 ds * 2 ^ (24 * k) : Nat) : Int) = n := by
   apply Rat.intCast_inj.1
   rw [h]
   unfold mag
   show ((v24 ds * 2 ^ (24 * k) : Nat) : Rat) = _
   rw [nat_mul_p2, show ((24 * k : Nat) : Int) = 24 * (k : Int) by omega, show ((1 : Int) : Rat) = 1 from rfl, Rat.one_mul]
 cases k with
 | zero => exact ⟨rfl, rfl, by rw [Nat.mul_zero, Nat.pow_zero, Nat.mul_one] at hv; exact hv, by omega⟩
 | succ k =>
   exfalso
   rw [show 24 * (k + 1) = (24 * k + 23) + 1 by omega, Nat.pow_succ, ← Nat.mul_assoc] at hv
   omega
theorem conv_trunc {x : Nat} (hx : Fin64 x) (h0 : 0 ≤ fval x) (h : fval x < 9007199254740992) : ∃ k : Int, floatToIntVal .f64 x .i64 = some k ∧ 0 ≤ k ∧ k ≤ 9007199254740992 ∧ ((∃ z : Int, fval x = (z : Rat)) → fval x = (k : Rat)) := by
 by_cases hz : ∃ z : Int, fval x = (z : Rat)
 · obtain ⟨z, ez⟩ := hz
   have z0 : 0 ≤ z := Rat.intCast_nonneg.1 (by rw [← ez]; exact h0)
   have z1 : z < 9007199254740992 := Rat.intCast_lt_intCast.1 (by rw [← ez]; exact h)
   exact ⟨z, conv_int hx ez (by omega) (by omega), z0, by omega, fun _ => ez⟩
 · have e : FloatKind.f64.decode x = .number (fneg x) (fmag (frung x)) (fpl (frung x)) := read_fin hx
   obtain ⟨n, hn, h1, h2, h3⟩ := cut_val (fmag (frung x)) (fpl (frung x)) (Nat.le_of_lt (fmag_lt _))
   have hv := fval_eq x
   have hX0 : (0 : Rat) ≤ ((fmag (frung x) : Nat) : Rat) * p2 (fpl (frung x)) := Rat.mul_nonneg Rat.natCast_nonneg (Rat.le_of_lt (p2_pos _))
   have hneg : fneg x = false := by
     cases hf : fneg x
     · rfl
     · exfalso
       rw [hf] at hv
       simp [sgn1] at hv
       exact hz ⟨0, by show fval x = 0; grind⟩
   have hX : fval x = ((fmag (frung x) : Nat) : Rat) * p2 (fpl (frung x)) := by rw [hv, hneg]; simp [sgn1]
   have ht : Ieee.Datum.toInt .zero (FloatKind.f64.decode x) = some (n : Int) := by
     rw [e]
     show some (Ieee.signed (fneg x) (Ieee.Toward.zero.cut (fneg x) (fmag (frung x) <<< (fpl (frung x)).toNat) (-fpl (frung x)).toNat) 0) = _
     rw [cut_shift, hn, hneg]
     unfold Ieee.signed
     rw [Nat.shiftLeft_zero, if_neg (by decide)]
   have hn2 : n ≤ 9007199254740992 := by
     have : ((n : Nat) : Rat) < ((9007199254740992 : Nat) : Rat) := by
       rw [← hX] at h1
       show ((n : Nat) : Rat) < 9007199254740992
       grind
     have := Rat.natCast_lt_natCast.1 this
     omega
   refine ⟨n, ?_, by omega, by omega, fun hc => absurd hc hz⟩
   unfold floatToIntVal
   rw [ht]
   have h3 : IntKind.i64.min = -9223372036854775808 := by decide
   have h4 : IntKind.i64.max = 9223372036854775807 := by decide
   simp only [h3, h4]
   rw [if_pos ⟨by omega, by omega⟩]
theorem v24_drop {ds : List Nat} {i : Nat} (h : i < ds.length) : v24 (ds.drop i) = ds.getD i 0 + 16777216 * v24 (ds.drop (i + 1)) := by
 rw [List.drop_eq_getElem_cons h, v24]
 simp [List.getD, h]
theorem v24_drop_le (ds : List Nat) : ∀ i, v24 (ds.drop i) ≤ v24 ds := by
 induction ds with
 | nil => intro i; simp [v24]
 | cons d r ih =>
   intro i
   cases i with
   | zero => exact Nat.le_refl _
   | succ i => rw [List.drop_succ_cons]; have := ih i; rw [v24]; omega
theorem fit_p2 (k : Int) (h1 : -4000 ≤ k) (h2 : k ≤ 4000) : Fit (p2 k) := by
 refine Bd.mono (h := k + 1) (l := k) ⟨p2_lt (by omega), ?_, 1, by rw [show ((1 : Int) : Rat) = 1 from rfl, Rat.one_mul]⟩ (by omega) (by omega)
 have a := p2_pos k
 have b := p2_pos (k + 1)
 grind
set_option maxHeartbeats 4000000 in
set_option maxRecDepth 100000 in
theorem refText_odd (x q : Nat) (n e : Int) (w : World) (lx : x < 18446744073709551616) (fx : Fin64 x)
   (o1 : FloatKind.f64.format.order x x = some .eq) (rq : ∀ w, (binOp .sub 22 (.float .f64 x) (.float .f64 x)).run Tryd.prog w = .ok (.float .f64 q) w) (s2 : FloatKind.f64.format.order q 0 = some .eq)
   (o2 : FloatKind.f64.format.order x 0 = some .gt)
   (hk : (FloatKind.f64.format.order x 4845873199050653696 == some .lt) = false ∨ (∃ k, (FloatKind.f64.format.order x 4845873199050653696 == some .lt) = true ∧ (∀ w, (convert 22 3 (.float .f64 x)).run Tryd.prog w = .ok (.int .i64 k) w) ∧ (FloatKind.f64.format.order (floatOfInt .f64 k) x == some .eq) = false))
   (ho : n % 2 = 1) (hp : 0 < n) (hb : n < 9007199254740992) (he1 : -3000 ≤ e) (he2 : e ≤ 3000) (hv : fval x = (n : Rat) * p2 e) :
   Calls Tryd.prog 17 #[.float .f64 x] w fun r w' => r = .returned (sv (itoa n ++ 98 :: itoa e)) ∧ Below w.heap.size w w' := by
 have hx0 : fval x ≠ 0 := by
   rw [hv]
   have a : (0 : Rat) < (n : Rat) := Rat.intCast_pos.2 hp
   have := Rat.mul_pos a (p2_pos e)
   grind
 have hden : den x = fval x := by unfold den; exact if_pos (show frung x < 9218868437227405312 from fx)
 have fitx : Fit (fval x) := (fval_bd fx).mono (by omega) (by omega)
 have HO : Hid (∀ w, Calls Tryd.prog 38 #[.float .f64 x] w fun r w' => RfR w w' (fval x) r) := fun w => by
   have := refOf_any x w lx
   rwa [hden] at this
 have HL : Hid (∀ v w, Rf w v (fval x) → Calls Tryd.prog 37 #[v] w fun r w' => r = .returned (.int .i64 e) ∧ Below w.heap.size w w') := fun v w hr => by
   refine (low_rf v (fval x) w hr hx0 fitx).mono ?_
   rintro r w' ⟨⟨l, m, rfl, hq, hm⟩, hb⟩
   rw [hv] at hq
   obtain ⟨_, rfl⟩ := odd_uniq ho hm hq
   exact ⟨rfl, hb⟩
 have HP : Hid (∀ w, Calls Tryd.prog 40 #[.int .u64 1, .int .i64 (-e)] w fun r w' => RfR w w' (p2 (-e)) r) := fun w => by
   have := power_walk 1 (-e) w (by omega) (by omega) (by omega)
   rwa [show ((1 : Nat) : Rat) * p2 (-e) = p2 (-e) by show (1 : Rat) * _ = _; rw [Rat.one_mul]] at this
 have HM : Hid (∀ v1 v2 w, Rf w v1 (fval x) → Rf w v2 (p2 (-e)) → Calls Tryd.prog 39 #[v1, v2] w fun r w' => RfR w w' (n : Rat) r) := fun v1 v2 w h1 h2 => by
   have := mul_rf v1 v2 (fval x) (p2 (-e)) w h1 h2 fitx (fit_p2 (-e) (by omega) (by omega))
   rwa [show fval x * p2 (-e) = (n : Rat) by rw [hv, Rat.mul_assoc, Rat.mul_comm (p2 e), p2_neg, Rat.mul_one]] at this
 have HS1 : Hid (∀ w, Calls Tryd.prog 18 #[.int .i64 n] w fun r w' => r = .returned (sv (itoa n)) ∧ Below w.heap.size w w') := fun w => refShow_any n ⟨by omega, by omega⟩ w
 have HS2 : Hid (∀ w, Calls Tryd.prog 18 #[.int .i64 e] w fun r w' => r = .returned (sv (itoa e)) ∧ Below w.heap.size w w') := fun w => refShow_any e ⟨by omega, by omega⟩ w
 have hl1 : (itoa n).length ≤ 21 := itoa_length_le n (by omega) (by omega)
 have hl2 : (itoa e).length ≤ 21 := itoa_length_le e (by omega) (by omega)
 have HN : Hid (n % 2 = 1 ∧ 0 < n ∧ n < 9007199254740992) := ⟨ho, hp, hb⟩
 clear ho hp hb hv hx0 hden fitx fx lx
 rcases hk with hk | ⟨k, hk, hcv, hk2⟩
 all_goals
   go_enter Tryd.func17, Tryd.ntmps17
   go_wp2_with fail
   refine (HO.out _).mono ?_
   rintro r w1 ⟨v1, rfl, hr1, hb1⟩
   have HB1 := Lib.hid hb1
   have HR1 := Lib.hid hr1
   clear hb1 hr1
   go_wp2_with fail
   refine (HL.out _ _ HR1.out).mono ?_
   rintro r w2 ⟨rfl, hb2⟩
   have HB2 : Hid (Below w.heap.size w w2) := HB1.out.trans (hb2.mono HB1.out.size)
   clear hb2 HR1 HB1
   go_wp2_with fail
   refine (HO.out _).mono ?_
   rintro r w3 ⟨v3, rfl, hr3, hb3⟩
   have HB3 : Hid (Below w.heap.size w w3) := HB2.out.trans (hb3.mono HB2.out.size)
   have HR3 := Lib.hid hr3
   clear hb3 hr3 HB2
   go_wp2_with fail
   refine (HP.out _).mono ?_
   rintro r w4 ⟨v4, rfl, hr4, hb4⟩
   have HB4 : Hid (Below w.heap.size w w4) := HB3.out.trans (hb4.mono HB3.out.size)
   have HR4 := Lib.hid hr4
   have HR3' := Lib.hid (HR3.out.later hb4)
   clear hb4 hr4 HB3 HR3
   go_wp2_with fail
   refine (HM.out _ _ _ HR3'.out HR4.out).mono ?_
   rintro r w5 ⟨v5, rfl, hr5, hb5⟩
   have HB5 : Hid (Below w.heap.size w w5) := HB4.out.trans (hb5.mono HB4.out.size)
   clear HR3' HR4 HB4 hb5
   obtain ⟨S, ds, E, hd, hc, hq⟩ := hr5
   obtain ⟨rfl, rfl, hvv, hlen⟩ := whole_digits hc hd.small hq HN.out.1 HN.out.2.1 HN.out.2.2
   obtain ⟨a, c, rfl, hcap, hcells⟩ := hd.form
   have hne : ds ≠ [] := by
     rintro rfl
     have := HN.out.2.1
     rw [← hvv] at this
     simp [v24] at this
   obtain ⟨g, off, rfl, hcl, _⟩ := hcells.resolve_left hne
   have hsm : (v24 ds : Int) < 9007199254740992 := by rw [hvv]; exact HN.out.2.2
   have hdl : ∀ j, j < ds.length → (((v24 (ds.drop (j + 1)) : Nat) : Int) * 16777216 + ((ds.getD j 0 : Nat) : Int) = ((v24 (ds.drop j) : Nat) : Int)) ∧ ((v24 (ds.drop j) : Nat) : Int) < 9007199254740992 ∧ ((ds.getD j 0 : Nat) : Int) < 16777216 := by
     intro j hj
     have e1 := v24_drop hj
     have e2 := v24_drop_le ds j
     have e3 : ds.getD j 0 < 16777216 := by
       have : ds.getD j 0 = ds[j] := by simp [List.getD, hj]
       rw [this]; exact hd.small _ (List.getElem_mem hj)
     refine ⟨?_, ?_, ?_⟩ <;> omega
   have HDL := Lib.hid hdl
   have hbA : Below w5.heap.size w5 (w5.alloc (.cells #[.int .i64 1, .slice (some ⟨g, off, none⟩) ds.length c, .int .i64 0] 76)) := (Below.refl _ _).alloc (Nat.le_refl _) _
   have HCL := Lib.hid (fun k hk => box_cell hbA (hcl k hk))
   have HB6 := Lib.hid (HB5.out.trans (hbA.mono HB5.out.size))
   have hbx : BoxN (w5.alloc (.cells #[.int .i64 1, .slice (some ⟨g, off, none⟩) ds.length c, .int .i64 0] 76)) w5.heap.size 1 (.slice (some ⟨g, off, none⟩) ds.length c) 0 := heap_alloc_new w5 _
   obtain ⟨_, y1, y2, y4, _⟩ := hbx.cells
   have hln1 : 0 < ds.length := List.length_pos_iff.2 hne
   have hln2 : (ds.length : Int) ≤ 3 := by omega
   have HVV := Lib.hid hvv
   clear hbA hbx hcl hdl hd hq hc hcells HB5 hne hvv hsm
   have HY := Lib.hid (And.intro y1 y2)
   clear y1 y2 y4
   go_wp2_with fail
   generalize w5.alloc (.cells #[.int .i64 1, .slice (some ⟨g, off, none⟩) ds.length c, .int .i64 0] 76) = WX at *
   generalize w5.heap.size = g0 at *
   obtain ⟨y1, y2⟩ := HY.out
   go_loop [5, 6] (fun v i => ∃ k : Nat, k ≤ ds.length ∧ i = .int .i64 ((k : Int) - 1) ∧ v = .int .i64 ((v24 (ds.drop k) : Nat) : Int)) (fun _ i => (RowKit.intOf i + 1).toNat)
   case atStart => exact ⟨ds.length, Nat.le_refl _, rfl, by rw [List.drop_length]; rfl⟩
   case round =>
     obtain ⟨k, hk, rfl, rfl⟩ := hrel
     cases k with
     | zero =>
       rw [List.drop_zero, HVV.out]
       have e0 : ((0 : Nat) : Int) - 1 = -1 := by omega
       rw [e0]
       clear e0
       go_wp2_with fail
       go_loop [5, 7] (fun v i => v = .int .i64 n ∧ i = .int .i64 0) (fun _ _ => 0)
       case atStart => exact ⟨rfl, rfl⟩
       case round =>
         obtain ⟨rfl, rfl⟩ := hrel
         go_wp2_with fail
         refine (HS1.out _).mono ?_
         rintro r w6 ⟨rfl, hb6⟩
         have HB7 := Lib.hid (HB6.out.trans (hb6.mono HB6.out.size))
         clear hb6
         go_wp2_with fail
         refine (HS2.out _).mono ?_
         rintro r w7 ⟨rfl, hb7⟩
         have HB8 := Lib.hid (HB7.out.trans (hb7.mono HB7.out.size))
         clear hb7
         go_wp2
         go_ret
         exact ⟨ret_s (cat_b _ _), HB8.out⟩
     | succ j =>
       obtain ⟨f1, f2, f3⟩ := HDL.out j (by omega)
       have e0 : ((j + 1 : Nat) : Int) - 1 = (j : Int) := by omega
       rw [e0]
       clear e0
       have cj := HCL.out j (by omega)
       have hj1 : (j : Int) < (ds.length : Int) := by omega
       have f4 : (0 : Int) ≤ ((v24 (ds.drop (j + 1)) : Nat) : Int) := by omega
       have f5 : (0 : Int) ≤ ((ds.getD j 0 : Nat) : Int) := by omega
       have HF1 := Lib.hid f1
       have HF2 : Hid (((v24 (ds.drop j) : Nat) : Int) < 9007199254740992) := f2
       have f6 : ((v24 (ds.drop (j + 1)) : Nat) : Int) ≤ 536870912 := by omega
       clear f1 f2
       generalize hA : ((v24 (ds.drop (j + 1)) : Nat) : Int) = A at *
       generalize hD : ((ds.getD j 0 : Nat) : Int) = D at *
       clear hA hD
       go_wp2
       refine ⟨⟨j, by omega, rfl, by rw [HF1.out]⟩, ?_⟩
       show ((j : Int) - 1 + 1).toNat < ((j : Int) + 1).toNat
       omega
theorem lt53p {x : Nat} (hx : Fin64 x) : (FloatKind.f64.format.order x 4845873199050653696 == some .lt) = decide (fval x < 9007199254740992) := by
 show (Ieee.double.order x 4845873199050653696 == some .lt) = _
 rw [order_fin hx (by unfold Fin64 frung; decide), p53_val]
 by_cases h : fval x < 9007199254740992
 · rw [if_pos h, decide_eq_true h]; rfl
 · rw [if_neg h, decide_eq_false h]; split <;> rfl
set_option maxHeartbeats 4000000 in
set_option maxRecDepth 100000 in
theorem refText_pos (x : Nat) (l : List UInt8) (w : World) (fx : Fin64 x) (lx : x < 18446744073709551616) (h0 : 0 < fval x) (hl : TextR x l) :
   Calls Tryd.prog 17 #[.float .f64 x] w fun r w' => r = .returned (sv l) ∧ Below w.heap.size w w' := by
 obtain ⟨q, s1, s2⟩ := self_sub fx
 have rq : ∀ w, (binOp .sub 22 (.float .f64 x) (.float .f64 x)).run Tryd.prog w = .ok (.float .f64 q) w := fun w => run_float_arith w .sub _ .f64 x x _ s1
 clear s1
 have o1 := ord_is fx fx rfl
 have o2 : FloatKind.f64.format.order x 0 = some .gt := by rw [order_val fx fin0, fval0, if_neg (by grind), if_neg (by grind)]
 rcases hl with ⟨h, _⟩ | ⟨_, ⟨k, e, h1, h2, rfl⟩ | ⟨hn, n, e, ho, h1, h2, h3, h4, hv, rfl⟩⟩
 · exact absurd fx h
 · have hcv := conv_run fx e (by omega) (by omega)
   obtain ⟨a1, a2, a3⟩ := fwJ_val (n := k) (by omega) (by omega)
   have o3 : FloatKind.f64.format.order (floatOfInt .f64 k) x = some .eq := ord_is a1 fx (a3.trans e.symm)
   have o4 := lt53p fx
   rw [decide_eq_true (by
     rw [e]
     have := Rat.intCast_lt_intCast.2 h2
     exact this)] at o4
   have HS1 : Hid (∀ w, Calls Tryd.prog 18 #[.int .i64 k] w fun r w' => r = .returned (sv (itoa k)) ∧ Below w.heap.size w w') := fun w => refShow_any k ⟨by omega, by omega⟩ w
   clear a1 a2 a3 e fx lx h0
   go_enter Tryd.func17, Tryd.ntmps17
   go_wp2_with fail
   refine (HS1.out _).mono ?_
   rintro r w6 ⟨rfl, hb6⟩
   go_wp2
   go_ret
   exact ⟨rfl, hb6⟩
 · have hp : 0 < n := by
     apply Rat.intCast_pos.1
     apply Classical.byContradiction
     intro hc
     have hp2 := p2_pos e
     rw [hv] at h0
     have : (n : Rat) * p2 e ≤ 0 * p2 e := Rat.mul_le_mul_of_nonneg_right (by grind) (Rat.le_of_lt hp2)
     grind
   refine refText_odd x q n e w lx fx o1 rq s2 o2 ?_ ho hp h2 h3 h4 hv
   have o4 := lt53p fx
   by_cases hlt : fval x < 9007199254740992
   · right
     rw [decide_eq_true hlt] at o4
     obtain ⟨k, c1, c2, c3, c4⟩ := conv_trunc fx (Rat.le_of_lt h0) hlt
     obtain ⟨a1, a2, a3⟩ := fwJ_val (n := k) (by omega) (by omega)
     refine ⟨k, o4, fun w => run_convert_float_int w _ _ _ _ _ _ (by rw [Tryd.underlying22]; rfl) Tryd.underlying3 c1, ?_⟩
     have hoe : (FloatKind.f64.format.order (floatOfInt .f64 k) x == some .eq) = decide (fval (fwJ k) = fval x) := ord_eq a1 fx
     rw [hoe, a3, decide_eq_false_iff_not]
     intro ek
     have k1 : k < 9007199254740992 := Rat.intCast_lt_intCast.1 (by rw [ek]; exact hlt)
     exact hn ⟨k, ek.symm, by omega, k1⟩
   · left
     rw [decide_eq_false hlt] at o4
     exact o4
theorem TextR.flip {x : Nat} {l : List UInt8} (fx : Fin64 x) (lx : x < 18446744073709551616) (h0 : fval x < 0) (h : TextR x l) : ∃ r, l = 45 :: r ∧ TextR (fflip x) r := by
 obtain ⟨f1, f2, f3⟩ := eq_flipI fx lx
 rcases h with ⟨h, _⟩ | ⟨_, ⟨k, e, h1, h2, rfl⟩ | ⟨hn, n, e, ho, h1, h2, h3, h4, hv, rfl⟩⟩
 · exact absurd fx h
 · have hk : k < 0 := Rat.intCast_lt_intCast.1 (by rw [← e]; exact h0)
   refine ⟨itoa (-k), ?_, Or.inr ⟨f1, Or.inl ⟨-k, by rw [f3, e, Rat.intCast_neg], by omega, by omega, rfl⟩⟩⟩
   have := itoa_minusI (n := -k) (by omega)
   rwa [Int.neg_neg] at this
 · have hp : n < 0 := by
     apply Rat.intCast_lt_intCast.1
     show (n : Rat) < 0
     apply Classical.byContradiction
     intro hc
     have hp2 := p2_pos e
     have : 0 * p2 e ≤ (n : Rat) * p2 e := Rat.mul_le_mul_of_nonneg_right (by grind) (Rat.le_of_lt hp2)
     grind
   refine ⟨itoa (-n) ++ 98 :: itoa e, ?_, Or.inr ⟨f1, Or.inr ⟨?_, -n, e, by omega, by omega, by omega, h3, h4, ?_, rfl⟩⟩⟩
   · have := itoa_minusI (n := -n) (by omega)
     rw [Int.neg_neg] at this
     rw [this]; rfl
   · rintro ⟨k, ek, k1, k2⟩
     exact hn ⟨-k, by rw [Rat.intCast_neg, ← ek, f3]; grind, by omega, by omega⟩
   · rw [f3, hv, Rat.intCast_neg]; grind
set_option maxHeartbeats 4000000 in
set_option maxRecDepth 100000 in
theorem refText_any (x : Nat) (l : List UInt8) (w : World) (lx : x < 18446744073709551616) (hl : TextR x l) (hlen : l.length ≤ 43) :
   Calls Tryd.prog 17 #[.float .f64 x] w fun r w' => r = .returned (sv l) ∧ Below w.heap.size w w' := by
 rcases Nat.lt_trichotomy (frung x) 9218868437227405312 with h | h | h
 · have fx : Fin64 x := h
   by_cases hz : fval x = 0
   · obtain ⟨q, s1, s2⟩ := self_sub fx
     have rq : ∀ w, (binOp .sub 22 (.float .f64 x) (.float .f64 x)).run Tryd.prog w = .ok (.float .f64 q) w := fun w => run_float_arith w .sub _ .f64 x x _ s1
     have o1 := ord_is fx fx rfl
     have o2 : FloatKind.f64.format.order x 0 = some .eq := ord_is fx fin0 (by rw [hz, fval0])
     obtain rfl : l = [48] := by
       rw [hl.whole fx (k := 0) (by rw [hz]; rfl) (by omega) (by omega)]
       exact (itoa_rd (n := 0) (by decide)).2
     clear s1 hl fx h hz lx hlen
     go_enter Tryd.func17, Tryd.ntmps17
     go_wp2
     go_ret
     exact ⟨rfl, Below.refl _ _⟩
   by_cases hp : 0 < fval x
   · exact refText_pos x l w fx lx hp hl
   · have hneg : fval x < 0 := by grind
     obtain ⟨q, s1, s2⟩ := self_sub fx
     have rq : ∀ w, (binOp .sub 22 (.float .f64 x) (.float .f64 x)).run Tryd.prog w = .ok (.float .f64 q) w := fun w => run_float_arith w .sub _ .f64 x x _ s1
     have o1 := ord_is fx fx rfl
     have o2 : FloatKind.f64.format.order x 0 = some .lt := by rw [order_val fx fin0, fval0, if_pos hneg]
     obtain ⟨r, rfl, hr⟩ := hl.flip fx lx hneg
     obtain ⟨f1, f2, f3⟩ := eq_flipI fx lx
     have HR : Hid (∀ w, Calls Tryd.prog 17 #[.float .f64 (fflip x)] w fun r' w' => r' = .returned (sv r) ∧ Below w.heap.size w w') := fun w => refText_pos (fflip x) r w f1 f2 (by rw [f3]; grind) hr
     have rn := run_negF x lx
     have hlr : r.length ≤ 42 := by rw [List.length_cons] at hlen; omega
     clear s1 hl hr fx h hz hp lx hlen f1 f2 f3 hneg
     generalize fflip x = z at *
     go_enter Tryd.func17, Tryd.ntmps17
     go_wp2_with fail
     refine (HR.out _).mono ?_
     rintro r' w6 ⟨rfl, hb6⟩
     go_wp2
     go_ret
     exact ⟨ret_s (cat_minusI r), hb6⟩
 · have o1 : FloatKind.f64.format.order x x = some .eq := by
     have := eql_self x
     rw [decide_eq_true (by omega)] at this
     exact eq_of_beq this
   have rs := run_sub_nan x x (sub_inf h)
   have h3 : ∀ w, FloatKind.f64.format.order (nanW x x w) 0 = none := fun w => nan_order (nanW_nan x x w).1 0
   obtain rfl : l = [] := by
     rcases hl with ⟨_, e⟩ | ⟨fx, _⟩
     · exact e
     · exact absurd fx (by unfold Fin64; omega)
   clear hl h lx hlen
   go_enter Tryd.func17, Tryd.ntmps17
   go_wp2
   go_ret
   exact ⟨rfl, (Below.refl _ _).drew⟩
 · have o1 : FloatKind.f64.format.order x x = none := nan_order h x
   obtain rfl : l = [] := by
     rcases hl with ⟨_, e⟩ | ⟨fx, _⟩
     · exact e
     · exact absurd fx (by unfold Fin64; omega)
   clear hl h lx hlen
   go_enter Tryd.func17, Tryd.ntmps17
   go_wp2
   go_ret
   exact ⟨rfl, Below.refl _ _⟩
theorem TextR.len {x : Nat} {l : List UInt8} (h : TextR x l) : l.length ≤ 43 := by
 by_cases hx : Fin64 x
 · obtain ⟨_, _, _, _, h⟩ := h.tell hx
   exact h
 · rcases h with ⟨_, rfl⟩ | ⟨h, _⟩
   · simp
   · exact absurd h hx
end Go.Proofs.YtifjfgafpfefpaaDoor
