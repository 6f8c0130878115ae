/- Own texts, put together: Zq Zr Zs. -/
import Derived.Test.YtgfloegaoofbbaaDoorQ5
import Derived.Test.YtgfloegaoofbbaaDoorQ10
import Derived.Test.YtgfloegaoofbbaaDoorQ14
import Derived.Test.YtgfloegaoofbbaaDoorQ16
namespace Go.Proofs.YtgfloegaoofbbaaDoor
/- The reference's Mul, High and Low of whatever numbers. -/
section
open Go.RowKit
set_option maxHeartbeats 1000000 in
theorem mul_zero (a1 a2 : Option Addr) (n1 n2 c1 c2 : Nat) (S1 S2 E1 E2 : Int) (w : World) (h : S1 = 0 ∨ S2 = 0) :
   Calls Tryd.prog 21 #[.agg #[.int .i64 S1, .slice a1 n1 c1, .int .i64 E1], .agg #[.int .i64 S2, .slice a2 n2 c2, .int .i64 E2]] w fun e w' => e = .returned (.agg #[.int .i64 0, .slice none 0 0, .int .i64 0]) ∧ Below w.heap.size w w' := by
 by_cases h1 : S1 = 0
 · subst h1
   clear h
   go_enter Tryd.func21, Tryd.ntmps21
   go_wp2
   refine bodyPost_ret (v := .agg #[.int .i64 0, .slice none 0 0, .int .i64 0]) (by simp [results, Tryd.results21, go_sem]) rfl ?_
   exact ⟨rfl, below3 _ _ _ _⟩
 · obtain rfl : S2 = 0 := h.resolve_left h1
   have h1' : (S1 == 0) = false := by simpa using h1
   clear h h1
   go_enter Tryd.func21, Tryd.ntmps21
   go_wp2
   refine bodyPost_ret (v := .agg #[.int .i64 0, .slice none 0 0, .int .i64 0]) (by simp [results, Tryd.results21, go_sem]) rfl ?_
   exact ⟨rfl, below3 _ _ _ _⟩
theorem rf_zero (w : World) : Rf w (.agg #[.int .i64 0, .slice none 0 0, .int .i64 0]) 0 :=
 ⟨0, [], 0, ⟨⟨none, 0, rfl, by simp, Or.inl rfl⟩, by simp, by simp, by omega, by omega⟩, Or.inl ⟨rfl, rfl, rfl⟩, by rw [mag_nil]; grind⟩
theorem mul_rf (v1 v2 : Value) (q1 q2 : Rat) (w : World) (h1 : Rf w v1 q1) (h2 : Rf w v2 q2) (b1 : Fit q1) (b2 : Fit q2) : Calls Tryd.prog 21 #[v1, v2] w fun e w' => RfR w w' (q1 * q2) e := by
 obtain ⟨S1, ds1, E1, d1, k1, rfl⟩ := h1
 obtain ⟨S2, ds2, E2, d2, k2, rfl⟩ := h2
 have D1 := d1
 have D2 := d2
 obtain ⟨a1, c1, rfl, _, f1⟩ := d1.form
 obtain ⟨a2, c2, rfl, _, f2⟩ := d2.form
 by_cases z : S1 = 0 ∨ S2 = 0
 · refine (mul_zero a1 a2 ds1.length ds2.length c1 c2 S1 S2 E1 E2 w z).mono ?_
   rintro e w' ⟨rfl, hb⟩
   refine ⟨_, rfl, ?_, hb⟩
   have : (S1 : Rat) * mag ds1 E1 * ((S2 : Rat) * mag ds2 E2) = 0 := by
     rcases z with rfl | rfl
     · rw [show ((0 : Int) : Rat) = 0 from rfl]; grind
     · rw [show ((0 : Int) : Rat) = 0 from rfl]; grind
   rw [this]
   exact rf_zero _
 · have n1 : ds1 ≠ [] := by rintro rfl; rcases k1 with ⟨_, h, _⟩ | ⟨h, _⟩; exact z (Or.inl h); exact h rfl
   have n2 : ds2 ≠ [] := by rintro rfl; rcases k2 with ⟨_, h, _⟩ | ⟨h, _⟩; exact z (Or.inr h); exact h rfl
   obtain ⟨g1, o1, rfl, f1, _⟩ := f1.resolve_left n1
   obtain ⟨g2, o2, rfl, f2, _⟩ := f2.resolve_left n2
   obtain ⟨p1, p1'⟩ := canon_place k1 d1.small b1 n1
   obtain ⟨p2, p2'⟩ := canon_place k2 d2.small b2 n2
   exact refMul_walk g1 o1 g2 o2 c1 c2 S1 S2 E1 E2 ds1 ds2 w D1 D2 ((canon_sign k1).resolve_left (fun h => z (Or.inl h))) ((canon_sign k2).resolve_left (fun h => z (Or.inr h))) (by omega) (by omega) (by omega) (by omega) f1 f2
end

/- The reference's Of: what a float denotes. -/
section
open Go.RowKit
def den (b : Nat) : Rat := if frung b < 9218868437227405312 then fval b else 0
theorem frexp_mul (u : Nat) (hu : u < 4503599627370496) : floatBits .mul .f64 (1022 * 4503599627370496 + u) 4845873199050653696 = some (1075 * 4503599627370496 + u) := by
 show Ieee.double.mul (1022 * 4503599627370496 + u) 4845873199050653696 = _
 have r2 : Ieee.double.read 4845873199050653696 = .number false 4503599627370496 1 := by
   have := read_norm 1076 0 (by omega) (by omega) (by omega)
   simpa using this
 unfold Ieee.Format.mul
 rw [read_norm 1022 u (by omega) (by omega) hu, r2]
 unfold Ieee.Datum.product
 simp only [Option.map_some, Ieee.Format.write, Bool.xor_false]
 congr 1
 have h := nearest_norm (4503599627370496 + u) 52 (-1075 + ((1022 : Nat) : Int) + 1) (by omega) (by omega) (by omega) (by omega)
 rw [show (4503599627370496 + u) * 4503599627370496 = (4503599627370496 + u) * 2 ^ 52 from rfl, h]
 omega
set_option maxHeartbeats 1000000 in
theorem refOf_nan (b : Nat) (w : World) (h : FloatKind.f64.format.order b b = none) : Calls Tryd.prog 25 #[.float .f64 b] w fun e w' => e = .returned (.agg #[.int .i64 0, .slice none 0 0, .int .i64 0]) ∧ Below w.heap.size w w' := by
 go_enter Tryd.func25, Tryd.ntmps25
 go_wp2
 refine bodyPost_ret (v := .agg #[.int .i64 0, .slice none 0 0, .int .i64 0]) (by simp [results, Tryd.results25, go_sem]) rfl ?_
 exact ⟨rfl, (Below.refl _ _).alloc (Nat.le_refl _) _⟩
def nanW (a b : Nat) (w : World) : Nat := Question.cut (.nanBits .f64 a b) (w.tape w.drawn (.nanBits .f64 a b))
theorem nanW_nan (a b : Nat) (w : World) : 9218868437227405312 < frung (nanW a b w) ∧ nanW a b w < 18446744073709551616 := by
 unfold nanW frung
 generalize w.tape w.drawn (.nanBits .f64 a b) = t
 simp only [Question.cut]
 have h1 : t % 2 < 2 := Nat.mod_lt _ (by omega)
 have h2 : (t / 2) % (2 ^ 52 - 1) < 2 ^ 52 - 1 := Nat.mod_lt _ (by omega)
 generalize t % 2 = x at *
 generalize (t / 2) % (2 ^ 52 - 1) = y at *
 omega
theorem run_sub_nan (a b : Nat) (h : floatBits .sub .f64 a b = none) (w : World) : (binOp .sub 39 (.float .f64 a) (.float .f64 b)).run Tryd.prog w = .ok (.float .f64 (nanW a b w)) w.drew := by
 have h' : FloatKind.f64.format.sub a b = none := h
 simp [binOp, Op.floatArith, h', nanW, Question.forced]
theorem nan_order {n : Nat} (h : 9218868437227405312 < frung n) (c : Nat) : FloatKind.f64.format.order n c = none := order_nan_left h
set_option maxHeartbeats 1000000 in
theorem refOf_inf (b : Nat) (w : World) (h : FloatKind.f64.format.order b b = some .eq) (h2 : floatBits .sub .f64 b b = none) : Calls Tryd.prog 25 #[.float .f64 b] w fun e w' => e = .returned (.agg #[.int .i64 0, .slice none 0 0, .int .i64 0]) ∧ Below w.heap.size w w' := by
 have rs := run_sub_nan b b h2
 have h3 : ∀ w, FloatKind.f64.format.order (nanW b b w) 0 = none := fun w => nan_order (nanW_nan b b w).1 0
 clear h2
 go_enter Tryd.func25, Tryd.ntmps25
 go_wp2
 refine bodyPost_ret (v := .agg #[.int .i64 0, .slice none 0 0, .int .i64 0]) (by simp [results, Tryd.results25, go_sem]) rfl ?_
 exact ⟨rfl, ((Below.refl _ _).alloc (Nat.le_refl _) _).drew⟩
set_option maxHeartbeats 1000000 in
theorem refOf_zero (b n : Nat) (w : World) (h : FloatKind.f64.format.order b b = some .eq) (h2 : floatBits .sub .f64 b b = some n) (h3 : FloatKind.f64.format.order n 0 = some .eq) (h4 : FloatKind.f64.format.order b 0 = some .eq) : Calls Tryd.prog 25 #[.float .f64 b] w fun e w' => e = .returned (.agg #[.int .i64 0, .slice none 0 0, .int .i64 0]) ∧ Below w.heap.size w w' := by
 have rs : ∀ w, (binOp .sub 39 (.float .f64 b) (.float .f64 b)).run Tryd.prog w = .ok (.float .f64 n) w := fun w => run_float_arith w .sub _ .f64 _ _ _ h2
 clear h2
 go_enter Tryd.func25, Tryd.ntmps25
 go_wp2
 refine bodyPost_ret (v := .agg #[.int .i64 0, .slice none 0 0, .int .i64 0]) (by simp [results, Tryd.results25, go_sem]) rfl ?_
 exact ⟨rfl, (Below.refl _ _).alloc (Nat.le_refl _) _⟩
theorem set3_cells {W : World} {b : Nat} {S E : Int} {sv : Value} (h : BoxN W b S sv E) (x y z : Value) (o : Obj) : let W' := (((W.setCell ⟨b, 0, none⟩ x).setCell ⟨b, 1, none⟩ y).setCell ⟨b, 2, none⟩ z).alloc o
   W'.cell? ⟨b, 0, none⟩ = some x ∧ W'.cell? ⟨b, 1, none⟩ = some y ∧ W'.cell? ⟨b, 2, none⟩ = some z := by
 have hl := h.cells.2.2.2.2
 have hb : ((((W.setCell ⟨b, 0, none⟩ x).setCell ⟨b, 1, none⟩ y).setCell ⟨b, 2, none⟩ z).alloc o).heap[b]? = some (.cells #[x, y, z] 67 (0, 0)) := by
   rw [Below.heap_alloc _ _ _ (by simpa [World.setCell] using hl)]
   unfold BoxN at h
   simp [World.setCell, Array.getElem?_modify, h]
 refine ⟨?_, ?_, ?_⟩ <;> simp [World.cell?, hb]
theorem Rf.flip {w : World} {S E : Int} {v : Value} {q : Rat} {a : Option Addr} {n c : Nat} (h : Rf w v q) (hv : v = .agg #[.int .i64 S, .slice a n c, .int .i64 E]) : Rf w (.agg #[.int .i64 (-S), .slice a n c, .int .i64 E]) (-q) := by
 obtain ⟨S', ds, E', ⟨⟨a', c', hv', hc, hf⟩, h2, h3, h4, h5⟩, k, rfl⟩ := h
 rw [hv] at hv'
 simp only [Value.agg.injEq, Array.mk.injEq, List.cons.injEq, Value.int.injEq, Value.slice.injEq, true_and, and_true] at hv'
 obtain ⟨rfl, ⟨rfl, rfl, rfl⟩, rfl⟩ := hv'
 exact ⟨-S, ds, E, ⟨⟨a, c, rfl, hc, hf⟩, h2, h3, h4, h5⟩, k.neg, by rw [Rat.intCast_neg]; grind⟩
set_option maxRecDepth 100000 in
set_option maxHeartbeats 2000000 in
theorem refOf_pos (b n u : Nat) (ex : Int) (w : World) (h : FloatKind.f64.format.order b b = some .eq) (h2 : floatBits .sub .f64 b b = some n) (h3 : FloatKind.f64.format.order n 0 = some .eq) (h4 : FloatKind.f64.format.order b 0 = some .gt)
   (hfr : ∀ w, Calls Tryd.prog 38 #[.float .f64 b] w fun e w' => e = .returned (.tuple #[.float .f64 (1022 * 4503599627370496 + u), .int .i64 (ex + 53)]) ∧ w' = w) (hu : u < 4503599627370496) (he1 : -2000 ≤ ex) (he2 : ex ≤ 2000) :
   Calls Tryd.prog 25 #[.float .f64 b] w fun e w' => RfR w w' (((4503599627370496 + u : Nat) : Rat) * p2 ex) e := by
 obtain ⟨f, hf⟩ : ∃ f, Hid (1022 * 4503599627370496 + u = f) := ⟨_, rfl⟩
 obtain ⟨M, hM⟩ : ∃ M, Hid (4503599627370496 + u = M) := ⟨_, rfl⟩
 obtain ⟨f2, hf2⟩ : ∃ f, Hid (1075 * 4503599627370496 + u = f) := ⟨_, rfl⟩
 have hmul : floatBits .mul .f64 f 4845873199050653696 = some f2 := by rw [← hf.out, ← hf2.out]; exact frexp_mul u hu
 have rm : ∀ w, (binOp .mul 39 (.float .f64 f) (.float .f64 4845873199050653696)).run Tryd.prog w = .ok (.float .f64 f2) w := fun w => run_float_arith w .mul _ .f64 _ _ _ hmul
 have rs : ∀ w, (binOp .sub 39 (.float .f64 b) (.float .f64 b)).run Tryd.prog w = .ok (.float .f64 n) w := fun w => run_float_arith w .sub _ .f64 _ _ _ h2
 have hcv : floatToIntVal .f64 f2 .u64 = some (M : Int) := by rw [← hf2.out, ← hM.out]; exact conv_norm u hu
 have hconv : ∀ w, (convert 39 72 (.float .f64 f2)).run Tryd.prog w = .ok (.int .u64 (M : Nat)) w := fun w => run_convert_float_int w _ _ _ _ _ _ (by rw [Tryd.underlying39]; rfl) Tryd.underlying72 hcv
 rw [hf.out] at hfr
 rw [hM.out]
 have H4 : Hid _ := hfr
 have hexw : IntKind.i64.wrap (ex + 53 - 53) = ex := by rw [show ex + 53 - 53 = ex by omega]; exact wrapE _ (by omega) (by omega)
 have hML : Hid (M < 18446744073709551616) := by rw [← hM.out]; show _ < _; omega
 have hMp : Hid (0 < ((M : Nat) : Rat) * p2 ex) := by
   show _ < _
   refine Rat.mul_pos ?_ (p2_pos _)
   have : 0 < M := by rw [← hM.out]; omega
   exact_mod_cast this
 have HB0 : Hid (Below w.heap.size w (w.alloc (.cells #[.int .i64 0, .slice none 0 0, .int .i64 0] 67))) := (Below.refl _ _).alloc (Nat.le_refl _) _
 have HX0 : Hid (BoxN (w.alloc (.cells #[.int .i64 0, .slice none 0 0, .int .i64 0] 67)) w.heap.size 0 (.slice none 0 0) 0) := heap_alloc_new w _
 clear hfr hcv h2 hmul
 go_enter Tryd.func25, Tryd.ntmps25
 go_wp2_with (first
   | (go_at_call 38; refine (H4.out _).mono ?_; rintro e w' ⟨rfl, rfl⟩))
 refine (power_walk M ex _ hML.out (by omega) (by omega)).mono ?_
 rintro e w5 ⟨v5, rfl, hr5, hb5⟩
 have hB : BoxN w5 w.heap.size 0 (.slice none 0 0) 0 := HX0.out.block (hb5.block _ (by simp))
 have HBb : Hid (BoxN w5 w.heap.size 0 (.slice none 0 0) 0) := hB
 have HB : Hid (Below w.heap.size w w5) := HB0.out.trans (hb5.mono HB0.out.size)
 have HV : Hid (Rf w5 v5 (((M : Nat) : Rat) * p2 ex)) := hr5
 obtain ⟨S5, a5, n5, c5, E5, hv5, hs5⟩ := HV.out.sgn
 obtain rfl : S5 = 1 := by
   have := hMp.out
   rcases hs5 with ⟨_, h⟩ | ⟨h, _⟩ | ⟨_, h⟩
   · grind
   · exact h
   · grind
 subst hv5
 obtain ⟨t0, t1, t2, tf, tl⟩ := hB.cells
 clear hr5 hb5 hB hs5
 go_wp2
 obtain ⟨k0, k1, k2⟩ := set3_cells HBb.out (.int .i64 1) (.slice a5 n5 c5) (.int .i64 E5) (.cells #[.int .i64 1, .slice a5 n5 c5, .int .i64 E5] 67)
 refine bodyPost_ret (v := .agg #[.int .i64 1, .slice a5 n5 c5, .int .i64 E5]) (by simp [results, Tryd.results25, go_sem, k0, k1, k2]) rfl ?_
 have hB9 : Below w.heap.size w (((w5.setCell ⟨w.heap.size, 0, none⟩ (.int .i64 1)).setCell ⟨w.heap.size, 1, none⟩ (.slice a5 n5 c5)).setCell ⟨w.heap.size, 2, none⟩ (.int .i64 E5)) := ((HB.out.setCell (Nat.le_refl _) _).setCell (Nat.le_refl _) _).setCell (Nat.le_refl _) _
 refine ⟨_, rfl, Rf.later (Rf.boxed HV.out (other_box HBb.out) _ _ _) ((Below.refl _ _).alloc (Nat.le_refl _) _), ?_⟩
 exact hB9.alloc (by simpa [World.setCell] using HB.out.size) _
set_option maxRecDepth 100000 in
set_option maxHeartbeats 2000000 in
theorem refOf_neg (b n u : Nat) (ex : Int) (w : World) (hb : b < 18446744073709551616) (h : FloatKind.f64.format.order b b = some .eq) (h2 : floatBits .sub .f64 b b = some n) (h3 : FloatKind.f64.format.order n 0 = some .eq) (h4 : FloatKind.f64.format.order b 0 = some .lt)
   (hfr : ∀ w, Calls Tryd.prog 38 #[.float .f64 (fflip b)] w fun e w' => e = .returned (.tuple #[.float .f64 (1022 * 4503599627370496 + u), .int .i64 (ex + 53)]) ∧ w' = w) (hu : u < 4503599627370496) (he1 : -2000 ≤ ex) (he2 : ex ≤ 2000) :
   Calls Tryd.prog 25 #[.float .f64 b] w fun e w' => RfR w w' (-(((4503599627370496 + u : Nat) : Rat) * p2 ex)) e := by
 obtain ⟨f, hf⟩ : ∃ f, Hid (1022 * 4503599627370496 + u = f) := ⟨_, rfl⟩
 obtain ⟨M, hM⟩ : ∃ M, Hid (4503599627370496 + u = M) := ⟨_, rfl⟩
 obtain ⟨f2, hf2⟩ : ∃ f, Hid (1075 * 4503599627370496 + u = f) := ⟨_, rfl⟩
 have hmul : floatBits .mul .f64 f 4845873199050653696 = some f2 := by rw [← hf.out, ← hf2.out]; exact frexp_mul u hu
 have rm : ∀ w, (binOp .mul 39 (.float .f64 f) (.float .f64 4845873199050653696)).run Tryd.prog w = .ok (.float .f64 f2) w := fun w => run_float_arith w .mul _ .f64 _ _ _ hmul
 have rs : ∀ w, (binOp .sub 39 (.float .f64 b) (.float .f64 b)).run Tryd.prog w = .ok (.float .f64 n) w := fun w => run_float_arith w .sub _ .f64 _ _ _ h2
 have rn := run_negF b hb
 have hcv : floatToIntVal .f64 f2 .u64 = some (M : Int) := by rw [← hf2.out, ← hM.out]; exact conv_norm u hu
 have hconv : ∀ w, (convert 39 72 (.float .f64 f2)).run Tryd.prog w = .ok (.int .u64 (M : Nat)) w := fun w => run_convert_float_int w _ _ _ _ _ _ (by rw [Tryd.underlying39]; rfl) Tryd.underlying72 hcv
 rw [hf.out] at hfr
 rw [hM.out]
 have H4 : Hid _ := hfr
 have hexw : IntKind.i64.wrap (ex + 53 - 53) = ex := by rw [show ex + 53 - 53 = ex by omega]; exact wrapE _ (by omega) (by omega)
 have hML : Hid (M < 18446744073709551616) := by rw [← hM.out]; show _ < _; omega
 have hMp : Hid (0 < ((M : Nat) : Rat) * p2 ex) := by
   show _ < _
   refine Rat.mul_pos ?_ (p2_pos _)
   have : 0 < M := by rw [← hM.out]; omega
   exact_mod_cast this
 have HB0 : Hid (Below w.heap.size w (w.alloc (.cells #[.int .i64 0, .slice none 0 0, .int .i64 0] 67))) := (Below.refl _ _).alloc (Nat.le_refl _) _
 have HX0 : Hid (BoxN (w.alloc (.cells #[.int .i64 0, .slice none 0 0, .int .i64 0] 67)) w.heap.size 0 (.slice none 0 0) 0) := heap_alloc_new w _
 clear hfr hcv h2 hmul hb
 go_enter Tryd.func25, Tryd.ntmps25
 go_wp2_with (first
   | (go_at_call 38; refine (H4.out _).mono ?_; rintro e w' ⟨rfl, rfl⟩))
 refine (power_walk M ex _ hML.out (by omega) (by omega)).mono ?_
 rintro e w5 ⟨v5, rfl, hr5, hb5⟩
 have hB : BoxN w5 w.heap.size 0 (.slice none 0 0) 0 := HX0.out.block (hb5.block _ (by simp))
 have HBb : Hid (BoxN w5 w.heap.size 0 (.slice none 0 0) 0) := hB
 have HB : Hid (Below w.heap.size w w5) := HB0.out.trans (hb5.mono HB0.out.size)
 have HV : Hid (Rf w5 v5 (((M : Nat) : Rat) * p2 ex)) := hr5
 obtain ⟨S5, a5, n5, c5, E5, hv5, hs5⟩ := HV.out.sgn
 obtain rfl : S5 = 1 := by
   have := hMp.out
   rcases hs5 with ⟨_, h⟩ | ⟨h, _⟩ | ⟨_, h⟩
   · grind
   · exact h
   · grind
 subst hv5
 obtain ⟨t0, t1, t2, tf, tl⟩ := hB.cells
 clear hr5 hb5 hB hs5
 go_wp2
 obtain ⟨k0, k1, k2⟩ := set3_cells HBb.out (.int .i64 (-1)) (.slice a5 n5 c5) (.int .i64 E5) (.cells #[.int .i64 (-1), .slice a5 n5 c5, .int .i64 E5] 67)
 refine bodyPost_ret (v := .agg #[.int .i64 (-1), .slice a5 n5 c5, .int .i64 E5]) (by simp [results, Tryd.results25, go_sem, k0, k1, k2]) rfl ?_
 have hB9 : Below w.heap.size w (((w5.setCell ⟨w.heap.size, 0, none⟩ (.int .i64 (-1))).setCell ⟨w.heap.size, 1, none⟩ (.slice a5 n5 c5)).setCell ⟨w.heap.size, 2, none⟩ (.int .i64 E5)) := ((HB.out.setCell (Nat.le_refl _) _).setCell (Nat.le_refl _) _).setCell (Nat.le_refl _) _
 refine ⟨_, rfl, Rf.later (Rf.boxed (HV.out.flip rfl) (other_box HBb.out) _ _ _) ((Below.refl _ _).alloc (Nat.le_refl _) _), ?_⟩
 exact hB9.alloc (by simpa [World.setCell] using HB.out.size) _
end

/- The reference's Of, of any float. -/
section
open Go.RowKit
theorem order_val {a b : Nat} (ha : Fin64 a) (hb : Fin64 b) : FloatKind.f64.format.order a b = some (if fval a < fval b then .lt else if fval a = fval b then .eq else .gt) := order_fin ha hb
theorem fin0 : Fin64 0 := by unfold Fin64 frung; decide
theorem fval0 : fval 0 = 0 := fval_zero_iff.2 rfl
theorem rv_zero {x : Rat} (h : RV 0 x) : x = 0 := by
 obtain ⟨r, _, h⟩ := h
 rcases h with ⟨_, n, rfl⟩ | ⟨_, n, rfl⟩
 · rw [near_zero n]; exact fval0
 · rw [show (-0 : Rat) = 0 by grind] at n
   rw [near_zero n, fval0]; grind
theorem self_sub {b : Nat} (h : Fin64 b) : ∃ n, floatBits .sub .f64 b b = some n ∧ FloatKind.f64.format.order n 0 = some .eq := by
 obtain ⟨r, h1, h2, _, h3⟩ := sub_bits h h (by
   have := p2_pos 1023
   exact ⟨by grind, by grind⟩)
 rw [show fval b - fval b = 0 by grind] at h3
 have h4 := rv_zero h3
 refine ⟨r, h1, ?_⟩
 rw [order_val h2 fin0, h4, fval0, if_neg (by grind), if_pos rfl]
theorem refOf_any (b : Nat) (w : World) (hb : b < 18446744073709551616) : Calls Tryd.prog 25 #[.float .f64 b] w fun e w' => RfR w w' (den b) e := by
 have none : ∀ e w', (e = Ending.returned (.agg #[.int .i64 0, .slice none 0 0, .int .i64 0]) ∧ Below w.heap.size w w') → den b = 0 → RfR w w' (den b) e := by
   rintro e w' ⟨rfl, h⟩ h0
   rw [h0]
   exact ⟨_, rfl, rf_zero _, h⟩
 rcases Nat.lt_trichotomy (frung b) 9218868437227405312 with h | h | h
 · have hf : Fin64 b := h
   obtain ⟨n, s1, s2⟩ := self_sub hf
   have o1 : FloatKind.f64.format.order b b = some .eq := by rw [order_val hf hf, if_neg (by grind), if_pos rfl]
   have hd : den b = fval b := by unfold den; rw [if_pos h]
   by_cases h0 : frung b = 0
   · have hz := fval_zero_iff.2 h0
     refine (refOf_zero b n w o1 s1 s2 (by rw [order_val hf fin0, hz, fval0, if_neg (by grind), if_pos rfl])).mono (fun e w' he => none e w' he (by rw [hd, hz]))
   · have hbb := bits53_bounds (frung b) h0
     have hbv := bits53_val (frung b) h0
     have hpos := (fval_pos_lt h).1
     have hnn := fval_nonneg h
     have hne : fval (frung b) ≠ 0 := by
       intro e
       have := fval_zero_iff.1 e
       unfold frung at this h0
       omega
     have hpl : -2000 ≤ place53 (frung b) ∧ place53 (frung b) ≤ 2000 := by
       unfold place53
       split
       · rename_i hs
         have := (Nat.log2_lt h0).2 (show frung b < 2 ^ 52 from hs)
         omega
       · omega
     have hfr : ∀ w, Calls Tryd.prog 38 #[.float .f64 (frung b)] w fun e w' => e = .returned (.tuple #[.float .f64 (1022 * 4503599627370496 + (bits53 (frung b) - 4503599627370496)), .int .i64 (place53 (frung b) + 53)]) ∧ w' = w := fun w => Frexp_of _ _ _ w (fun w => frexp_any (frung b) w h0 h)
     have hM : 4503599627370496 + (bits53 (frung b) - 4503599627370496) = bits53 (frung b) := by omega
     have hv : ((4503599627370496 + (bits53 (frung b) - 4503599627370496) : Nat) : Rat) * p2 (place53 (frung b)) = fval (frung b) := by rw [hM, hbv, hpos]
     by_cases hs : b < 9223372036854775808
     · have hr : frung b = b := Nat.mod_eq_of_lt hs
       rw [hr] at hfr hv hnn hne hpl hbb
       have o2 : FloatKind.f64.format.order b 0 = some .gt := by rw [order_val hf fin0, fval0, if_neg (by grind), if_neg (by grind)]
       have := refOf_pos b n (bits53 b - 4503599627370496) (place53 b) w o1 s1 s2 o2 hfr (by omega) hpl.1 hpl.2
       rw [hv] at this
       rw [hd]; exact this
     · have hr : fflip b = frung b := by unfold fflip frung; rw [if_neg hs]; omega
       have hbw : b = 9223372036854775808 + frung b := by unfold frung; omega
       have hvb : fval b = -fval (frung b) := by
         have := fval_word h
         rwa [← hbw] at this
       have o2 : FloatKind.f64.format.order b 0 = some .lt := by rw [order_val hf fin0, fval0, hvb, if_pos (by grind)]
       rw [← hr] at hfr
       have := refOf_neg b n (bits53 (fflip b) - 4503599627370496) (place53 (fflip b)) w hb o1 s1 s2 o2 hfr (by rw [hr]; omega) (by rw [hr]; exact hpl.1) (by rw [hr]; exact hpl.2)
       rw [hr, hv] at this
       rw [hd, hvb]; exact this
 · have hd : den b = 0 := by unfold den; rw [if_neg (by omega)]
   have hb2 : b = 9218868437227405312 ∨ b = 18442240474082181120 := by unfold frung at h; omega
   rcases hb2 with rfl | rfl
   · exact (refOf_inf _ w (by decide +kernel) (by decide +kernel)).mono (fun e w' he => none e w' he hd)
   · exact (refOf_inf _ w (by decide +kernel) (by decide +kernel)).mono (fun e w' he => none e w' he hd)
 · have hd : den b = 0 := by unfold den; rw [if_neg (by omega)]
   exact (refOf_nan b w (order_nan_left h)).mono (fun e w' he => none e w' he hd)
end
end Go.Proofs.YtgfloegaoofbbaaDoor
