/- The reference's Of: what a float denotes. -/
import Derived.Test.YtfocdhapjljooaaZq
import Derived.Test.YtfocdhapjljooaaFc
import Derived.Test.YtfocdhapjljooaaEs
import Derived.Test.YtfocdhapjljooaaEd
namespace Go.Proofs.Ytfocdhapjljooaa
open Go.RowKit

/-- What a float denotes (0 of what denotes nothing). -/
def den (b : Nat) : Rat := if frung b < 9218868437227405312 then fval b else 0

theorem frexp_mul (u : Nat) (hu : u < 4503599627370496) : floatBits .mul .f64 (1022 * 4503599627370496 + u) 4845873199050653696 = some (1075 * 4503599627370496 + u) := by
  show Ieee.double.mul (1022 * 4503599627370496 + u) 4845873199050653696 = _
  have r2 : Ieee.double.read 4845873199050653696 = .number false 4503599627370496 1 := by
    have := read_norm 1076 0 (by omega) (by omega) (by omega)
    simpa using this
  unfold Ieee.Format.mul
  rw [read_norm 1022 u (by omega) (by omega) hu, r2]
  unfold Ieee.Datum.product
  simp only [Option.map_some, Ieee.Format.write, Bool.xor_false]
  congr 1
  have h := nearest_norm (4503599627370496 + u) 52 (-1075 + ((1022 : Nat) : Int) + 1) (by omega) (by omega) (by omega) (by omega)
  rw [show (4503599627370496 + u) * 4503599627370496 = (4503599627370496 + u) * 2 ^ 52 from rfl, h]
  omega

set_option maxHeartbeats 1000000 in
theorem refOf_nan (b : Nat) (w : World) (h : FloatKind.f64.format.order b b = none) : Calls Try.prog 20 #[.float .f64 b] w fun e w' => e = .returned (.agg #[.int .i64 0, .slice none 0 0, .int .i64 0]) ∧ Below w.heap.size w w' := by
  go_enter Try.func20, Try.ntmps20
  go_wp2
  refine bodyPost_ret (v := .agg #[.int .i64 0, .slice none 0 0, .int .i64 0]) (by simp [results, Try.results20, go_sem]) rfl ?_
  exact ⟨rfl, (Below.refl _ _).alloc (Nat.le_refl _) _⟩
/-- What no number comes of: some float that is no number. -/
def nanW (a b : Nat) (w : World) : Nat := Question.cut (.nanBits .f64 a b) (w.tape w.drawn (.nanBits .f64 a b))
theorem nanW_nan (a b : Nat) (w : World) : 9218868437227405312 < frung (nanW a b w) ∧ nanW a b w < 18446744073709551616 := by
  unfold nanW frung
  generalize w.tape w.drawn (.nanBits .f64 a b) = t
  simp only [Question.cut]
  have h1 : t % 2 < 2 := Nat.mod_lt _ (by omega)
  have h2 : (t / 2) % (2 ^ 52 - 1) < 2 ^ 52 - 1 := Nat.mod_lt _ (by omega)
  generalize t % 2 = x at *
  generalize (t / 2) % (2 ^ 52 - 1) = y at *
  omega
theorem run_sub_nan (a b : Nat) (h : floatBits .sub .f64 a b = none) (w : World) : (binOp .sub 22 (.float .f64 a) (.float .f64 b)).run Try.prog w = .ok (.float .f64 (nanW a b w)) w.drew := by
  have h' : FloatKind.f64.format.sub a b = none := h
  simp [binOp, Op.floatArith, h', nanW, Question.forced]
theorem nan_order {n : Nat} (h : 9218868437227405312 < frung n) (c : Nat) : FloatKind.f64.format.order n c = none := order_nan_left h

set_option maxHeartbeats 1000000 in
theorem refOf_inf (b : Nat) (w : World) (h : FloatKind.f64.format.order b b = some .eq) (h2 : floatBits .sub .f64 b b = none) : Calls Try.prog 20 #[.float .f64 b] w fun e w' => e = .returned (.agg #[.int .i64 0, .slice none 0 0, .int .i64 0]) ∧ Below w.heap.size w w' := by
  have rs := run_sub_nan b b h2
  have h3 : ∀ w, FloatKind.f64.format.order (nanW b b w) 0 = none := fun w => nan_order (nanW_nan b b w).1 0
  clear h2
  go_enter Try.func20, Try.ntmps20
  go_wp2
  refine bodyPost_ret (v := .agg #[.int .i64 0, .slice none 0 0, .int .i64 0]) (by simp [results, Try.results20, go_sem]) rfl ?_
  exact ⟨rfl, ((Below.refl _ _).alloc (Nat.le_refl _) _).drew⟩
set_option maxHeartbeats 1000000 in
theorem refOf_zero (b n : Nat) (w : World) (h : FloatKind.f64.format.order b b = some .eq) (h2 : floatBits .sub .f64 b b = some n) (h3 : FloatKind.f64.format.order n 0 = some .eq) (h4 : FloatKind.f64.format.order b 0 = some .eq) : Calls Try.prog 20 #[.float .f64 b] w fun e w' => e = .returned (.agg #[.int .i64 0, .slice none 0 0, .int .i64 0]) ∧ Below w.heap.size w w' := by
  have rs : ∀ w, (binOp .sub 22 (.float .f64 b) (.float .f64 b)).run Try.prog w = .ok (.float .f64 n) w := fun w => run_float_arith w .sub _ .f64 _ _ _ h2
  clear h2
  go_enter Try.func20, Try.ntmps20
  go_wp2
  refine bodyPost_ret (v := .agg #[.int .i64 0, .slice none 0 0, .int .i64 0]) (by simp [results, Try.results20, go_sem]) rfl ?_
  exact ⟨rfl, (Below.refl _ _).alloc (Nat.le_refl _) _⟩

theorem set3_cells {W : World} {b : Nat} {S E : Int} {sv : Value} (h : BoxN W b S sv E) (x y z : Value) (o : Obj) : let W' := (((W.setCell ⟨b, 0, none⟩ x).setCell ⟨b, 1, none⟩ y).setCell ⟨b, 2, none⟩ z).alloc o
    W'.cell? ⟨b, 0, none⟩ = some x ∧ W'.cell? ⟨b, 1, none⟩ = some y ∧ W'.cell? ⟨b, 2, none⟩ = some z := by
  have hl := h.cells.2.2.2.2
  have hb : ((((W.setCell ⟨b, 0, none⟩ x).setCell ⟨b, 1, none⟩ y).setCell ⟨b, 2, none⟩ z).alloc o).heap[b]? = some (.cells #[x, y, z] 33 (0, 0)) := by
    rw [Below.heap_alloc _ _ _ (by simpa [World.setCell] using hl)]
    unfold BoxN at h
    simp [World.setCell, Array.getElem?_modify, h]
  refine ⟨?_, ?_, ?_⟩ <;> simp [World.cell?, hb]
theorem Rf.flip {w : World} {S E : Int} {v : Value} {q : Rat} {a : Option Addr} {n c : Nat} (h : Rf w v q) (hv : v = .agg #[.int .i64 S, .slice a n c, .int .i64 E]) : Rf w (.agg #[.int .i64 (-S), .slice a n c, .int .i64 E]) (-q) := by
  obtain ⟨S', ds, E', ⟨⟨a', c', hv', hc, hf⟩, h2, h3, h4, h5⟩, k, rfl⟩ := h
  rw [hv] at hv'
  simp only [Value.agg.injEq, Array.mk.injEq, List.cons.injEq, Value.int.injEq, Value.slice.injEq, true_and, and_true] at hv'
  obtain ⟨rfl, ⟨rfl, rfl, rfl⟩, rfl⟩ := hv'
  exact ⟨-S, ds, E, ⟨⟨a, c, rfl, hc, hf⟩, h2, h3, h4, h5⟩, k.neg, by rw [Rat.intCast_neg]; grind⟩

set_option maxRecDepth 100000 in
set_option maxHeartbeats 2000000 in
theorem refOf_pos (b n u : Nat) (ex : Int) (w : World) (h : FloatKind.f64.format.order b b = some .eq) (h2 : floatBits .sub .f64 b b = some n) (h3 : FloatKind.f64.format.order n 0 = some .eq) (h4 : FloatKind.f64.format.order b 0 = some .gt)
    (hfr : ∀ w, Calls Try.prog 56 #[.float .f64 b] w fun e w' => e = .returned (.tuple #[.float .f64 (1022 * 4503599627370496 + u), .int .i64 (ex + 53)]) ∧ w' = w) (hu : u < 4503599627370496) (he1 : -2000 ≤ ex) (he2 : ex ≤ 2000) :
    Calls Try.prog 20 #[.float .f64 b] w fun e w' => RfR w w' (((4503599627370496 + u : Nat) : Rat) * p2 ex) e := by
  obtain ⟨f, hf⟩ : ∃ f, Hid (1022 * 4503599627370496 + u = f) := ⟨_, rfl⟩
  obtain ⟨M, hM⟩ : ∃ M, Hid (4503599627370496 + u = M) := ⟨_, rfl⟩
  obtain ⟨f2, hf2⟩ : ∃ f, Hid (1075 * 4503599627370496 + u = f) := ⟨_, rfl⟩
  have hmul : floatBits .mul .f64 f 4845873199050653696 = some f2 := by rw [← hf.out, ← hf2.out]; exact frexp_mul u hu
  have rm : ∀ w, (binOp .mul 22 (.float .f64 f) (.float .f64 4845873199050653696)).run Try.prog w = .ok (.float .f64 f2) w := fun w => run_float_arith w .mul _ .f64 _ _ _ hmul
  have rs : ∀ w, (binOp .sub 22 (.float .f64 b) (.float .f64 b)).run Try.prog w = .ok (.float .f64 n) w := fun w => run_float_arith w .sub _ .f64 _ _ _ h2
  have hcv : floatToIntVal .f64 f2 .u64 = some (M : Int) := by rw [← hf2.out, ← hM.out]; exact conv_norm u hu
  have hconv : ∀ w, (convert 22 64 (.float .f64 f2)).run Try.prog w = .ok (.int .u64 (M : Nat)) w := fun w => run_convert_float_int w _ _ _ _ _ _ (by rw [Try.underlying22]; rfl) Try.underlying64 hcv
  rw [hf.out] at hfr
  rw [hM.out]
  have H4 : Hid _ := hfr
  have hexw : IntKind.i64.wrap (ex + 53 - 53) = ex := by rw [show ex + 53 - 53 = ex by omega]; exact wrapE _ (by omega) (by omega)
  have hML : Hid (M < 18446744073709551616) := by rw [← hM.out]; show _ < _; omega
  have hMp : Hid (0 < ((M : Nat) : Rat) * p2 ex) := by
    show _ < _
    refine Rat.mul_pos ?_ (p2_pos _)
    have : 0 < M := by rw [← hM.out]; omega
    exact_mod_cast this
  have HB0 : Hid (Below w.heap.size w (w.alloc (.cells #[.int .i64 0, .slice none 0 0, .int .i64 0] 33))) := (Below.refl _ _).alloc (Nat.le_refl _) _
  have HX0 : Hid (BoxN (w.alloc (.cells #[.int .i64 0, .slice none 0 0, .int .i64 0] 33)) w.heap.size 0 (.slice none 0 0) 0) := heap_alloc_new w _
  clear hfr hcv h2 hmul
  go_enter Try.func20, Try.ntmps20
  go_wp2_with (first
    | (go_at_call 56; refine (H4.out _).mono ?_; rintro e w' ⟨rfl, rfl⟩))
  refine (power_walk M ex _ hML.out (by omega) (by omega)).mono ?_
  rintro e w5 ⟨v5, rfl, hr5, hb5⟩
  have hB : BoxN w5 w.heap.size 0 (.slice none 0 0) 0 := HX0.out.block (hb5.block _ (by simp))
  have HBb : Hid (BoxN w5 w.heap.size 0 (.slice none 0 0) 0) := hB
  have HB : Hid (Below w.heap.size w w5) := HB0.out.trans (hb5.mono HB0.out.size)
  have HV : Hid (Rf w5 v5 (((M : Nat) : Rat) * p2 ex)) := hr5
  obtain ⟨S5, a5, n5, c5, E5, hv5, hs5⟩ := HV.out.sgn
  obtain rfl : S5 = 1 := by
    have := hMp.out
    rcases hs5 with ⟨_, h⟩ | ⟨h, _⟩ | ⟨_, h⟩
    · grind
    · exact h
    · grind
  subst hv5
  obtain ⟨t0, t1, t2, tf, tl⟩ := hB.cells
  clear hr5 hb5 hB hs5
  go_wp2
  obtain ⟨k0, k1, k2⟩ := set3_cells HBb.out (.int .i64 1) (.slice a5 n5 c5) (.int .i64 E5) (.cells #[.int .i64 1, .slice a5 n5 c5, .int .i64 E5] 33)
  refine bodyPost_ret (v := .agg #[.int .i64 1, .slice a5 n5 c5, .int .i64 E5]) (by simp [results, Try.results20, go_sem, k0, k1, k2]) rfl ?_
  have hB9 : Below w.heap.size w (((w5.setCell ⟨w.heap.size, 0, none⟩ (.int .i64 1)).setCell ⟨w.heap.size, 1, none⟩ (.slice a5 n5 c5)).setCell ⟨w.heap.size, 2, none⟩ (.int .i64 E5)) := ((HB.out.setCell (Nat.le_refl _) _).setCell (Nat.le_refl _) _).setCell (Nat.le_refl _) _
  refine ⟨_, rfl, Rf.later (Rf.boxed HV.out (other_box HBb.out) _ _ _) ((Below.refl _ _).alloc (Nat.le_refl _) _), ?_⟩
  exact hB9.alloc (by simpa [World.setCell] using HB.out.size) _

set_option maxRecDepth 100000 in
set_option maxHeartbeats 2000000 in
theorem refOf_neg (b n u : Nat) (ex : Int) (w : World) (hb : b < 18446744073709551616) (h : FloatKind.f64.format.order b b = some .eq) (h2 : floatBits .sub .f64 b b = some n) (h3 : FloatKind.f64.format.order n 0 = some .eq) (h4 : FloatKind.f64.format.order b 0 = some .lt)
    (hfr : ∀ w, Calls Try.prog 56 #[.float .f64 (fflip b)] w fun e w' => e = .returned (.tuple #[.float .f64 (1022 * 4503599627370496 + u), .int .i64 (ex + 53)]) ∧ w' = w) (hu : u < 4503599627370496) (he1 : -2000 ≤ ex) (he2 : ex ≤ 2000) :
    Calls Try.prog 20 #[.float .f64 b] w fun e w' => RfR w w' (-(((4503599627370496 + u : Nat) : Rat) * p2 ex)) e := by
  obtain ⟨f, hf⟩ : ∃ f, Hid (1022 * 4503599627370496 + u = f) := ⟨_, rfl⟩
  obtain ⟨M, hM⟩ : ∃ M, Hid (4503599627370496 + u = M) := ⟨_, rfl⟩
  obtain ⟨f2, hf2⟩ : ∃ f, Hid (1075 * 4503599627370496 + u = f) := ⟨_, rfl⟩
  have hmul : floatBits .mul .f64 f 4845873199050653696 = some f2 := by rw [← hf.out, ← hf2.out]; exact frexp_mul u hu
  have rm : ∀ w, (binOp .mul 22 (.float .f64 f) (.float .f64 4845873199050653696)).run Try.prog w = .ok (.float .f64 f2) w := fun w => run_float_arith w .mul _ .f64 _ _ _ hmul
  have rs : ∀ w, (binOp .sub 22 (.float .f64 b) (.float .f64 b)).run Try.prog w = .ok (.float .f64 n) w := fun w => run_float_arith w .sub _ .f64 _ _ _ h2
  have rn := run_negF b hb
  have hcv : floatToIntVal .f64 f2 .u64 = some (M : Int) := by rw [← hf2.out, ← hM.out]; exact conv_norm u hu
  have hconv : ∀ w, (convert 22 64 (.float .f64 f2)).run Try.prog w = .ok (.int .u64 (M : Nat)) w := fun w => run_convert_float_int w _ _ _ _ _ _ (by rw [Try.underlying22]; rfl) Try.underlying64 hcv
  rw [hf.out] at hfr
  rw [hM.out]
  have H4 : Hid _ := hfr
  have hexw : IntKind.i64.wrap (ex + 53 - 53) = ex := by rw [show ex + 53 - 53 = ex by omega]; exact wrapE _ (by omega) (by omega)
  have hML : Hid (M < 18446744073709551616) := by rw [← hM.out]; show _ < _; omega
  have hMp : Hid (0 < ((M : Nat) : Rat) * p2 ex) := by
    show _ < _
    refine Rat.mul_pos ?_ (p2_pos _)
    have : 0 < M := by rw [← hM.out]; omega
    exact_mod_cast this
  have HB0 : Hid (Below w.heap.size w (w.alloc (.cells #[.int .i64 0, .slice none 0 0, .int .i64 0] 33))) := (Below.refl _ _).alloc (Nat.le_refl _) _
  have HX0 : Hid (BoxN (w.alloc (.cells #[.int .i64 0, .slice none 0 0, .int .i64 0] 33)) w.heap.size 0 (.slice none 0 0) 0) := heap_alloc_new w _
  clear hfr hcv h2 hmul hb
  go_enter Try.func20, Try.ntmps20
  go_wp2_with (first
    | (go_at_call 56; refine (H4.out _).mono ?_; rintro e w' ⟨rfl, rfl⟩))
  refine (power_walk M ex _ hML.out (by omega) (by omega)).mono ?_
  rintro e w5 ⟨v5, rfl, hr5, hb5⟩
  have hB : BoxN w5 w.heap.size 0 (.slice none 0 0) 0 := HX0.out.block (hb5.block _ (by simp))
  have HBb : Hid (BoxN w5 w.heap.size 0 (.slice none 0 0) 0) := hB
  have HB : Hid (Below w.heap.size w w5) := HB0.out.trans (hb5.mono HB0.out.size)
  have HV : Hid (Rf w5 v5 (((M : Nat) : Rat) * p2 ex)) := hr5
  obtain ⟨S5, a5, n5, c5, E5, hv5, hs5⟩ := HV.out.sgn
  obtain rfl : S5 = 1 := by
    have := hMp.out
    rcases hs5 with ⟨_, h⟩ | ⟨h, _⟩ | ⟨_, h⟩
    · grind
    · exact h
    · grind
  subst hv5
  obtain ⟨t0, t1, t2, tf, tl⟩ := hB.cells
  clear hr5 hb5 hB hs5
  go_wp2
  obtain ⟨k0, k1, k2⟩ := set3_cells HBb.out (.int .i64 (-1)) (.slice a5 n5 c5) (.int .i64 E5) (.cells #[.int .i64 (-1), .slice a5 n5 c5, .int .i64 E5] 33)
  refine bodyPost_ret (v := .agg #[.int .i64 (-1), .slice a5 n5 c5, .int .i64 E5]) (by simp [results, Try.results20, go_sem, k0, k1, k2]) rfl ?_
  have hB9 : Below w.heap.size w (((w5.setCell ⟨w.heap.size, 0, none⟩ (.int .i64 (-1))).setCell ⟨w.heap.size, 1, none⟩ (.slice a5 n5 c5)).setCell ⟨w.heap.size, 2, none⟩ (.int .i64 E5)) := ((HB.out.setCell (Nat.le_refl _) _).setCell (Nat.le_refl _) _).setCell (Nat.le_refl _) _
  refine ⟨_, rfl, Rf.later (Rf.boxed (HV.out.flip rfl) (other_box HBb.out) _ _ _) ((Below.refl _ _).alloc (Nat.le_refl _) _), ?_⟩
  exact hB9.alloc (by simpa [World.setCell] using HB.out.size) _

end Go.Proofs.Ytfocdhapjljooaa
