/- Own texts, put together: Lk Fd Wa Wb R Wc Sh Wd We Wf Wg. -/
import Derived.Test.YtfcgndgmbmkdgaaDoorQ1
import Derived.Deep.RegionHeld3
import Derived.Test.YtfcgndgmbmkdgaaDoorProg
import Derived.WalkKit
import Derived.WalkSpells
import Derived.WalkLawsBesides
import Derived.Deep.DrawnRows
import Derived.Shelf.Small.Wraps
import Derived.Shelf.Strconv.Itoa0
import Derived.Lib.Strings
import Derived.Lib.Slices
import Derived.Lib.Small
import Derived.Lib.Walk
import Derived.Lib.BitFns
import Derived.Laws.MathBits
import Derived.Lib.TrailingZeros
import Derived.Shelf.Spec.TrailingZeros
import Derived.Shelf.Spec.BitsCarry
/- A drawn region, operation by operation, where some are not wanted. -/
namespace Go.Proofs.YtfcgndgmbmkdgaaDoor
open Go

section
variable {P : Program} {ops : Array Oper} {Q : Exit → Act → World → Prop} {md : Region.Mode} {S : World → Prop}

theorem take_at {i : Nat} {d : Option Tmp} {v : Value} {fuel : Nat} {listed : Array Bool} {a : Act} {w : World} (hd : (ops[i]?).map (·.dst) = some d)
    (hs : Region.noSelect ops = true) (hf : Region.free md ops listed i = true) (hr : (Region.ready md ops listed).contains i = true)
    (hQ : ∀ c a w, Q (.panic c) (a.put d v) w → Q (.panic c) a w) (hy : ∀ oi, ops[i]? = some oi → YieldsIf P ops S oi v a) (hS : S w)
    (h : wpAnyH P md ops Q S fuel (listed.setIfInBounds i true) (a.put d v) w) : wpAnyH P md ops Q S (fuel + 1) listed a w := by
  cases ho : ops[i]? with
  | none => rw [ho] at hd; cases hd
  | some oi =>
    rw [ho] at hd
    have e : oi.dst = d := Option.some.inj hd
    subst e
    exact wpAnyH_take ho hs hf hr hQ (hy oi ho) hS h

/-- What is not wanted is passed by. -/
theorem skip_at (i : Nat) {d : Option Tmp} {fuel : Nat} {listed : Array Bool} {a : Act} {w : World} (hd : (ops[i]?).map (·.dst) = some d)
    (hs : Region.noSelect ops = true) (hf : Region.free md ops listed i = true) (hr : (Region.ready md ops listed).contains i = true)
    (hQ : ∀ c a w, Q (.panic c) (a.put d undef) w → Q (.panic c) a w) (hw : (ops[i]?).map (fun o => Region.wanted o (yielded ops a.tmps)) = some false) (hS : S w)
    (h : wpAnyH P md ops Q S fuel (listed.setIfInBounds i true) (a.put d undef) w) : wpAnyH P md ops Q S (fuel + 1) listed a w :=
  take_at hd hs hf hr hQ (fun oi ho => Or.inr ⟨by rw [ho] at hw; exact Option.some.inj hw, rfl⟩) hS h

theorem call_at (i : Nat) {fuel : Nat} {listed : Array Bool} {a : Act} {w : World} (hr : Region.ready md ops listed = [i])
    (hi : (ops[i]?).isSome = true)
    (h : ∀ o, ops[i]? = some o → ∀ K' : Act → World → Prop, Shut (∀ a w, S w → (S w → wpAnyH P md ops Q S fuel (listed.setIfInBounds i true) a w) → K' a w) → if Region.wanted o (yielded ops a.tmps) = true then Oper.wp P o a w K' Q else K' (a.put o.dst undef) w) :
    wpAnyH P md ops Q S (fuel + 1) listed a w := by
  obtain ⟨o, ho⟩ := Option.isSome_iff_exists.1 hi
  exact wpAnyH_ready hr (by simp) (AllReadyH.cons ho (h o ho) AllReadyH.nil)
end

end Go.Proofs.YtfcgndgmbmkdgaaDoor

/- Floats: Ldexp, on floats that are not below the normal ones. -/
namespace Go.Proofs.YtfcgndgmbmkdgaaDoor
open Go.RowKit

set_option maxHeartbeats 1000000 in
theorem inf_pos (w : World) : Calls Tryd.prog 69 #[.int .i64 1] w fun e w' => e = .returned (.float .f64 9218868437227405312) ∧ w' = w := by
  have b2 := run_frombits 9218868437227405312
  have b2' : ∀ w, (callFunc 20 #[.int .u64 9218868437227405312]).run Tryd.prog w = .ok (.value (.float .f64 9218868437227405312)) w := b2
  go_enter Tryd.func69, Tryd.ntmps69
  go_wp2
  go_ret
  exact ⟨rfl, rfl⟩

set_option maxHeartbeats 2000000 in
theorem ldexp_norm (E u T x y z9 : Nat) (k : Int) (w : World) (hx : E * 4503599627370496 + u = x) (hy : T * 4503599627370496 + u = y) (hz : T * 4503599627370496 = z9) (hE1 : 1 ≤ E) (hE2 : E ≤ 2046) (hu : u < 4503599627370496) (hT : k + (E : Int) = (T : Int)) (hT1 : 1 ≤ T) (hT2 : T ≤ 2046) :
    Calls Tryd.prog 47 #[.float .f64 x, .int .i64 k] w fun e w' => e = .returned (.float .f64 y) ∧ w' = w := by
  have z := zero_order x (by omega) (by omega)
  obtain ⟨f1, f2⟩ := fin_flags x (by omega)
  have b1 := run_bits x
  have HI : Hid (∀ w, Calls Tryd.prog 24 #[.float .f64 x, .int .i64 0] w fun e w' => e = .returned (.bool false) ∧ w' = w) := fun w => by have := isInf0_any x w (by omega); rwa [f1] at this
  have HN : Hid (∀ w, Calls Tryd.prog 23 #[.float .f64 x] w fun e w' => e = .returned (.bool false) ∧ w' = w) := fun w => by have := isNaN_any x w; rwa [f2] at this
  have HM : Hid (∀ w, Calls Tryd.prog 67 #[.float .f64 x] w fun e w' => e = .returned (.tuple #[.float .f64 x, .int .i64 0]) ∧ w' = w) := fun w => normalize_big _ w (by omega) (by omega)
  have c1 : ((x : Nat) : Int) / 4503599627370496 = (E : Int) := by omega
  have c2 := and_exp_i E (by omega)
  have c3 := andNot_exp x (by omega)
  rw [show x % 4503599627370496 = u by omega] at c3
  have c4 : bits .or .u64 (u : Int) (z9 : Int) = (y : Int) := by have := or_exp T u (by omega) hu; rw [hy, hz] at this; exact this
  have b2 := run_frombits y
  have c5 : IntKind.u64.wrap ((T : Int) * 4503599627370496) = (z9 : Int) := by rw [IntKind.wrap_u64]; omega
  have c6 : ∀ w, (binOp .mul 22 (.float .f64 4607182418800017408) (.float .f64 y)).run Tryd.prog w = .ok (.float .f64 y) w := fun w => run_float_arith w .mul _ .f64 _ _ _ (by have := mul_one T u hT1 hT2 hu; rw [hy] at this; exact this)
  have g1 : ¬ (k + ((E : Int) - 1023) < -1075) := by omega
  have g2 : ¬ (1023 < k + ((E : Int) - 1023)) := by omega
  have g3 : ¬ (k + ((E : Int) - 1023) < -1022) := by omega
  have g4 : k + ((E : Int) - 1023) + 1023 = (T : Int) := by omega
  have g5 : -5000 ≤ k := by omega
  have g6 : k ≤ 5000 := by omega
  have g7 : (E : Int) ≤ 2046 := by omega
  have g8 : (T : Int) ≤ 2046 := by omega
  have HX : Hid (E * 4503599627370496 + u = x) := hx
  clear hx f1 f2
  have HY : Hid (T * 4503599627370496 + u = y) := hy
  have HZ : Hid (T * 4503599627370496 = z9) := hz
  have HT : Hid (k + (E : Int) = (T : Int)) := hT
  clear hy hz hT
  go_enter Tryd.func47, Tryd.ntmps47
  go_wp2_with (first
    | (go_at_call 24; refine (HI.out _).mono ?_; rintro e w' ⟨rfl, rfl⟩)
    | (go_at_call 23; refine (HN.out _).mono ?_; rintro e w' ⟨rfl, rfl⟩)
    | (go_at_call 67; refine (HM.out _).mono ?_; rintro e w' ⟨rfl, rfl⟩))
  go_ret
  exact ⟨rfl, rfl⟩

set_option maxHeartbeats 2000000 in
theorem ldexp_den (E u T x y z9 r : Nat) (k : Int) (w : World) (hx : E * 4503599627370496 + u = x) (hy : T * 4503599627370496 + u = y) (hz : T * 4503599627370496 = z9) (hE1 : 1 ≤ E) (hE2 : E ≤ 2046) (hu : u < 4503599627370496) (hT : k + (E : Int) + 53 = (T : Int)) (hT1 : 1 ≤ T) (hT2 : T ≤ 53) (hmul : Ieee.double.mul 4368491638549381120 y = some r) :
    Calls Tryd.prog 47 #[.float .f64 x, .int .i64 k] w fun e w' => e = .returned (.float .f64 r) ∧ w' = w := by
  have z := zero_order x (by omega) (by omega)
  obtain ⟨f1, f2⟩ := fin_flags x (by omega)
  have b1 := run_bits x
  have HI : Hid (∀ w, Calls Tryd.prog 24 #[.float .f64 x, .int .i64 0] w fun e w' => e = .returned (.bool false) ∧ w' = w) := fun w => by have := isInf0_any x w (by omega); rwa [f1] at this
  have HN : Hid (∀ w, Calls Tryd.prog 23 #[.float .f64 x] w fun e w' => e = .returned (.bool false) ∧ w' = w) := fun w => by have := isNaN_any x w; rwa [f2] at this
  have HM : Hid (∀ w, Calls Tryd.prog 67 #[.float .f64 x] w fun e w' => e = .returned (.tuple #[.float .f64 x, .int .i64 0]) ∧ w' = w) := fun w => normalize_big _ w (by omega) (by omega)
  have c1 : ((x : Nat) : Int) / 4503599627370496 = (E : Int) := by omega
  have c2 := and_exp_i E (by omega)
  have c3 := andNot_exp x (by omega)
  rw [show x % 4503599627370496 = u by omega] at c3
  have c4 : bits .or .u64 (u : Int) (z9 : Int) = (y : Int) := by have := or_exp T u (by omega) hu; rw [hy, hz] at this; exact this
  have b2 := run_frombits y
  have c5 : IntKind.u64.wrap ((T : Int) * 4503599627370496) = (z9 : Int) := by rw [IntKind.wrap_u64]; omega
  have c6 : ∀ w, (binOp .mul 22 (.float .f64 4368491638549381120) (.float .f64 y)).run Tryd.prog w = .ok (.float .f64 r) w := fun w => run_float_arith w .mul _ .f64 _ _ _ hmul
  have g1 : ¬ (k + ((E : Int) - 1023) < -1075) := by omega
  have g2 : ¬ (1023 < k + ((E : Int) - 1023)) := by omega
  have g3 : k + ((E : Int) - 1023) < -1022 := by omega
  have g4 : k + ((E : Int) - 1023) + 53 + 1023 = (T : Int) := by omega
  have g5 : -5000 ≤ k := by omega
  have g6 : k ≤ 5000 := by omega
  have g7 : (E : Int) ≤ 2046 := by omega
  have g8 : (T : Int) ≤ 2046 := by omega
  have HX : Hid (E * 4503599627370496 + u = x) := hx
  clear hx f1 f2
  have HY : Hid (T * 4503599627370496 + u = y) := hy
  have HZ : Hid (T * 4503599627370496 = z9) := hz
  have HT : Hid (k + (E : Int) + 53 = (T : Int)) := hT
  clear hy hz hT hmul
  go_enter Tryd.func47, Tryd.ntmps47
  go_wp2_with (first
    | (go_at_call 24; refine (HI.out _).mono ?_; rintro e w' ⟨rfl, rfl⟩)
    | (go_at_call 23; refine (HN.out _).mono ?_; rintro e w' ⟨rfl, rfl⟩)
    | (go_at_call 67; refine (HM.out _).mono ?_; rintro e w' ⟨rfl, rfl⟩))
  go_ret
  exact ⟨rfl, rfl⟩

set_option maxHeartbeats 2000000 in
theorem ldexp_inf (E u x : Nat) (k : Int) (w : World) (hx : E * 4503599627370496 + u = x) (hE1 : 1 ≤ E) (hE2 : E ≤ 2046) (hu : u < 4503599627370496) (hT : 2046 < k + (E : Int)) (hk : k ≤ 1000000) :
    Calls Tryd.prog 47 #[.float .f64 x, .int .i64 k] w fun e w' => e = .returned (.float .f64 9218868437227405312) ∧ w' = w := by
  have z := zero_order x (by omega) (by omega)
  obtain ⟨f1, f2⟩ := fin_flags x (by omega)
  have b1 := run_bits x
  have HI : Hid (∀ w, Calls Tryd.prog 24 #[.float .f64 x, .int .i64 0] w fun e w' => e = .returned (.bool false) ∧ w' = w) := fun w => by have := isInf0_any x w (by omega); rwa [f1] at this
  have HN : Hid (∀ w, Calls Tryd.prog 23 #[.float .f64 x] w fun e w' => e = .returned (.bool false) ∧ w' = w) := fun w => by have := isNaN_any x w; rwa [f2] at this
  have HM : Hid (∀ w, Calls Tryd.prog 67 #[.float .f64 x] w fun e w' => e = .returned (.tuple #[.float .f64 x, .int .i64 0]) ∧ w' = w) := fun w => normalize_big _ w (by omega) (by omega)
  have c1 : ((x : Nat) : Int) / 4503599627370496 = (E : Int) := by omega
  have c2 := and_exp_i E (by omega)
  have c3 := andNot_exp x (by omega)
  rw [show x % 4503599627370496 = u by omega] at c3
  have g0 : (FloatKind.f64.format.order x 0 == some .lt) = false := by
    show (Ieee.double.order x 0 == some .lt) = false
    rw [order_fin (by unfold Fin64 frung; omega) (by unfold Fin64 frung; decide), fval_zero_iff.2 (by rfl : frung 0 = 0), if_neg (by have := fval_nonneg (r := x) (by omega); grind)]
    split <;> rfl
  have g1 : ¬ (k + ((E : Int) - 1023) < -1075) := by omega
  have g2 : 1023 < k + ((E : Int) - 1023) := by omega
  have g5 : -5000 ≤ k := by omega
  have g7 : (E : Int) ≤ 2046 := by omega
  have HX : Hid (E * 4503599627370496 + u = x) := hx
  clear hx f1 f2
  have HT : Hid (2046 < k + (E : Int)) := hT
  clear hT
  go_enter Tryd.func47, Tryd.ntmps47
  go_wp2_with (first
    | (go_at_call 24; refine (HI.out _).mono ?_; rintro e w' ⟨rfl, rfl⟩)
    | (go_at_call 23; refine (HN.out _).mono ?_; rintro e w' ⟨rfl, rfl⟩)
    | (go_at_call 67; refine (HM.out _).mono ?_; rintro e w' ⟨rfl, rfl⟩)
    | (go_at_call 69; refine (inf_pos _).mono ?_; rintro e w' ⟨rfl, rfl⟩))
  go_ret
  exact ⟨rfl, rfl⟩

set_option maxHeartbeats 1000000 in
theorem ldexp_zero (k : Int) (w : World) : Calls Tryd.prog 47 #[.float .f64 0, .int .i64 k] w fun e w' => e = .returned (.float .f64 0) ∧ w' = w := by
  have z : (FloatKind.f64.format.order 0 0 == some .eq) = true := by decide
  go_enter Tryd.func47, Tryd.ntmps47
  go_wp2
  go_ret
  exact ⟨rfl, rfl⟩

set_option maxHeartbeats 1000000 in
theorem Ldexp_of (a b : Nat) (k : Int) (w : World) (hf : ∀ w, Calls Tryd.prog 47 #[.float .f64 a, .int .i64 k] w fun e w' => e = .returned (.float .f64 b) ∧ w' = w) :
    Calls Tryd.prog 26 #[.float .f64 a, .int .i64 k] w fun e w' => e = .returned (.float .f64 b) ∧ w' = w := by
  have HF : Hid _ := hf
  clear hf
  go_enter Tryd.func26, Tryd.ntmps26
  go_wp2_with (first | (go_at_call 47; refine (HF.out _).mono ?_; rintro e w' ⟨rfl, rfl⟩))
  go_ret
  exact ⟨rfl, rfl⟩

end Go.Proofs.YtfcgndgmbmkdgaaDoor

/- Walks of the small functions of package whole: what each of them answers, for every magnitude. -/
namespace Go.Proofs.YtfcgndgmbmkdgaaDoor
open Go.RowKit

/-- A slice value whose cells hold the words ns. -/
structure Ws (w : World) (s : Value) (ns : List Nat) : Prop where
  shape : ∃ a cap, s = .slice a ns.length cap ∧ ns.length ≤ cap ∧ (ns = [] ∨ ∃ b off, a = some ⟨b, off, none⟩ ∧ b < w.heap.size ∧ ∀ j, j < ns.length → w.cell? ⟨b, off + j, none⟩ = some (.int .u64 (ns.getD j 0 : Nat)))
  small : ∀ n, n ∈ ns → n < 18446744073709551616
  short : ns.length ≤ 1000000

theorem Ws.later {w w' : World} {s : Value} {ns : List Nat} {B : Nat} (h : Ws w s ns) (hb : Below B w w') (hB : w.heap.size ≤ B) : Ws w' s ns := by
  obtain ⟨⟨a, cap, hs, hcap, hc⟩, h2, h3⟩ := h
  refine ⟨⟨a, cap, hs, hcap, ?_⟩, h2, h3⟩
  rcases hc with hc | ⟨b, off, ha, hbs, hc⟩
  · exact Or.inl hc
  · exact Or.inr ⟨b, off, ha, Nat.lt_of_lt_of_le hbs hb.size, fun j hj => (hb.cell (by exact Nat.lt_of_lt_of_le hbs hB)).trans (hc j hj)⟩

set_option maxHeartbeats 400000 in
theorem isZero_any (a : Option Addr) (len cap : Nat) (low : Int) (w : World) :
    Calls Tryd.prog 37 #[.agg #[.slice a len cap, .int .i64 low]] w fun e w' => e = .returned (.bool ((len : Int) == 0)) ∧ Below w.heap.size w w' := by
  go_enter Tryd.func37, Tryd.ntmps37
  go_wp2
  go_ret
  exact ⟨rfl, (Below.refl _ _).alloc (Nat.le_refl _) _⟩

set_option maxHeartbeats 400000 in
theorem lowest_any (a : Option Addr) (len cap : Nat) (low : Int) (w : World) :
    Calls Tryd.prog 49 #[.agg #[.slice a len cap, .int .i64 low]] w fun e w' => e = .returned (.int .i64 low) ∧ Below w.heap.size w w' := by
  go_enter Tryd.func49, Tryd.ntmps49
  go_wp2
  go_ret
  exact ⟨rfl, (Below.refl _ _).alloc (Nat.le_refl _) _⟩

set_option maxHeartbeats 400000 in
theorem word_out (a : Option Addr) (len cap : Nat) (low : Int) (i : Nat) (w : World) (hi : len ≤ i) :
    Calls Tryd.prog 83 #[.agg #[.slice a len cap, .int .i64 low], .int .i64 i] w fun e w' => e = .returned (.int .u64 0) ∧ Below w.heap.size w w' := by
  go_enter Tryd.func83, Tryd.ntmps83
  go_wp2
  go_ret
  exact ⟨rfl, (Below.refl _ _).alloc (Nat.le_refl _) _⟩

set_option maxHeartbeats 400000 in
theorem word_in (b off len cap : Nat) (low : Int) (i : Nat) (n : Int) (w : World) (hi : i < len) (hb : b < w.heap.size) (hc : w.cell? ⟨b, off + i, none⟩ = some (.int .u64 n)) :
    Calls Tryd.prog 83 #[.agg #[.slice (some ⟨b, off, none⟩) len cap, .int .i64 low], .int .i64 i] w fun e w' => e = .returned (.int .u64 n) ∧ Below w.heap.size w w' := by
  go_enter Tryd.func83, Tryd.ntmps83
  go_wp2
  go_ret
  exact ⟨rfl, (Below.refl _ _).alloc (Nat.le_refl _) _⟩

theorem word_any (s : Value) (ns : List Nat) (low i : Int) (w : World) (h : Ws w s ns) (hi : 0 ≤ i) :
    Calls Tryd.prog 83 #[.agg #[s, .int .i64 low], .int .i64 i] w fun e w' => e = .returned (.int .u64 (ns.getD i.toNat 0 : Nat)) ∧ Below w.heap.size w w' := by
  obtain ⟨n, rfl⟩ := Int.eq_ofNat_of_zero_le hi
  obtain ⟨⟨a, cap, rfl, _, hc⟩, h2, h3⟩ := h
  rw [Int.toNat_natCast]
  by_cases hlt : n < ns.length
  · rcases hc with rfl | ⟨b, off, rfl, hb, hc⟩
    · simp at hlt
    · exact word_in b off _ cap low n _ w hlt hb (hc n hlt)
  · have : ns.getD n 0 = 0 := by simp [List.getD, List.getElem?_eq_none (Nat.le_of_not_lt hlt)]
    rw [this]
    exact word_out a _ cap low n w (by omega)

end Go.Proofs.YtfcgndgmbmkdgaaDoor

/- Walks of window and span. -/
namespace Go.Proofs.YtfcgndgmbmkdgaaDoor
open Go.RowKit
attribute [local go_sem ↓] Go.wp_at_zero Go.wp_at_succ

theorem wrapI (x : Int) (h : -4611686018427387904 ≤ x) (h' : x ≤ 4611686018427387904) : IntKind.i64.wrap x = x := by
  rw [IntKind.wrap_i64]; omega

theorem keep2 {w W W' : World} {p q : Addr} {x y : Value} (h : W.cell? p = some x ∧ W.cell? q = some y ∧ Below w.heap.size w W) (hb : Below W.heap.size W W') : W'.cell? p = some x ∧ W'.cell? q = some y ∧ Below w.heap.size w W' :=
  ⟨cell_later hb h.1, cell_later hb h.2.1, h.2.2.trans (hb.mono h.2.2.size)⟩

set_option maxHeartbeats 1000000 in
theorem window_low (s : Value) (ns : List Nat) (low at' : Int) (w : World) (h : Ws w s ns) (hlt : at' < low) (h1 : -1000000000 ≤ at') (h2 : low ≤ 1000000000) :
    Calls Tryd.prog 65 #[.agg #[s, .int .i64 low], .int .i64 at'] w fun e w' => e = .returned (.int .u64 (IntKind.u64.wrap ((ns.getD 0 0 : Nat) * 2 ^ min (low - at').toNat 64))) ∧ Below w.heap.size w w' := by
  obtain ⟨a, cap, rfl, _, hc⟩ := h.shape
  have hw1 : IntKind.i64.wrap (low - at') = low - at' := wrapI _ (by omega) (by omega)
  have hw2 : at' ≤ low := by omega
  go_enter Tryd.func65, Tryd.ntmps65
  go_wp2
  go_region_held3 (fun w' => w'.cell? ⟨w.heap.size, 0, none⟩ = some (.slice a ns.length cap) ∧ w'.cell? ⟨w.heap.size, 1, none⟩ = some (.int .i64 low) ∧ Below w.heap.size w w')
    (first | exact ⟨by simp, by simp, ((Below.refl _ _).alloc (Nat.le_refl _) _).drew⟩ | exact ⟨cell_later (by assumption) (by simp), cell_later (by assumption) (by simp), (((Below.refl _ _).alloc (Nat.le_refl _) _).drew).trans ((by assumption : Below _ _ _).mono (by simp))⟩ | (trace_state; fail))
    (first | (go_at_call 83; refine (word_any _ ns _ _ _ ?_ ?_).mono ?_; exact h.later (((Below.refl _ _).alloc (Nat.le_refl _) _).drew) (Nat.le_refl _); omega; rintro e w' ⟨rfl, hb⟩))
  go_wp2
  go_ret
  exact ⟨rfl, (by assumption : _ ∧ _ ∧ _).2.2⟩

set_option maxHeartbeats 1000000 in
theorem window_high (s : Value) (ns : List Nat) (low : Int) (k p r : Nat) (w : World) (h : Ws w s ns) (h3 : k ≤ 1000000000) (hp : p = k / 64) (hr : r = k % 64) :
    Calls Tryd.prog 65 #[.agg #[s, .int .i64 low], .int .i64 (low + k)] w fun e w' => e = .returned (.int .u64 (bits .or .u64 ((ns.getD p 0 : Nat) / 2 ^ min r 64) (IntKind.u64.wrap ((ns.getD (p + 1) 0 : Nat) * 2 ^ min (64 - r) 64)))) ∧ Below w.heap.size w w' := by
  obtain ⟨a, cap, rfl, _, hc⟩ := h.shape
  have hw0 : ¬ (low + (k : Int)) < low := by omega
  have hw1 : IntKind.i64.wrap (low + (k : Int) - low) = (k : Int) := by rw [show low + (k : Int) - low = (k : Int) by omega]; exact wrapI _ (by omega) (by omega)
  have hw3 : (k : Int) ≤ 1000000000 := by omega
  have hq1 : IntKind.i64.wrap ((k : Int) / 64) = (p : Int) := by rw [wrapI _ (by omega) (by omega)]; omega
  have hq2 : (k : Int).tmod 64 = (r : Int) := by rw [Int.tmod_eq_emod_of_nonneg (by omega)]; omega
  have hq3 : IntKind.i64.wrap ((p : Int) + 1) = (p : Int) + 1 := wrapI _ (by omega) (by omega)
  have hq4 : IntKind.i64.wrap (64 - (r : Int)) = 64 - (r : Int) := wrapI _ (by omega) (by omega)
  have hq5 : (r : Int) ≤ 64 := by omega
  have hq6 : (64 - (r : Int)).toNat = 64 - r := by omega
  clear hp hr
  go_enter Tryd.func65, Tryd.ntmps65
  go_wp2
  go_region_held3 (fun w' => w'.cell? ⟨w.heap.size, 0, none⟩ = some (.slice a ns.length cap) ∧ w'.cell? ⟨w.heap.size, 1, none⟩ = some (.int .i64 low) ∧ Below w.heap.size w w')
    (first | exact ⟨by simp, by simp, ((Below.refl _ _).alloc (Nat.le_refl _) _).drew⟩)
    (fail)
  go_wp2
  go_region_held3 (fun w' => w'.cell? ⟨w.heap.size, 0, none⟩ = some (.slice a ns.length cap) ∧ w'.cell? ⟨w.heap.size, 1, none⟩ = some (.int .i64 low) ∧ Below w.heap.size w w')
    (first
       | exact ⟨by simp, by simp, ((Below.refl _ _).alloc (Nat.le_refl _) _).drew.drew⟩
       | exact ⟨cell_later (by assumption) (by simp [*]), cell_later (by assumption) (by simp [*]), (((Below.refl _ _).alloc (Nat.le_refl _) _).drew.drew).trans ((by assumption : Below _ _ _).mono (by simp))⟩
       | exact keep2 (by assumption) (by assumption))
    (first | (go_at_call 83; refine (word_any _ ns _ _ _ ?_ ?_).mono ?_; (first | exact h.later (((Below.refl _ _).alloc (Nat.le_refl _) _).drew.drew) (Nat.le_refl _) | exact h.later ((by assumption : _ ∧ _ ∧ _).2.2) (Nat.le_refl _)); omega; rintro e w' ⟨rfl, hb⟩))
  go_wp2
  go_ret
  refine ⟨?_, (by assumption : _ ∧ _ ∧ _).2.2⟩
  have e1 : min r 64 = r := by omega
  have e2 : min (64 - r) 64 = 64 - r := by omega
  rw [e1, e2]
  rfl

/-- window: the word whose lowest bit is the bit 'at'. -/
theorem window_any (s : Value) (ns : List Nat) (low at' : Int) (w : World) (h : Ws w s ns) (h1 : -400000000 ≤ low) (h2 : low ≤ 400000000) (h3 : -400000000 ≤ at') (h4 : at' ≤ 400000000) :
    Calls Tryd.prog 65 #[.agg #[s, .int .i64 low], .int .i64 at'] w fun e w' => e = .returned (.int .u64 (win ns low at' : Nat)) ∧ Below w.heap.size w w' := by
  by_cases hlt : at' < low
  · refine (window_low s ns low at' w h hlt (by omega) (by omega)).mono fun e w' he => ⟨he.1.trans ?_, he.2⟩
    rw [IntKind.wrap_u64]
    unfold win
    rw [if_pos hlt, ← win_low_eq, castMul]
  · obtain ⟨k, hk⟩ : ∃ k : Nat, at' = low + (k : Int) := ⟨(at' - low).toNat, by omega⟩
    subst hk
    refine (window_high s ns low k _ _ w h (by omega) rfl rfl).mono fun e w' he => ⟨he.1.trans ?_, he.2⟩
    have hs : Small ns := h.small
    unfold win
    rw [if_neg hlt, show (low + (k : Int) - low).toNat = k by omega, ← win_high_eq hs, IntKind.wrap_u64]
    have e1 : min (k % 64) 64 = k % 64 := by omega
    have e2 : min (64 - k % 64) 64 = 64 - k % 64 := by omega
    have b1 : ns.getD (k / 64) 0 / 2 ^ (k % 64) < 18446744073709551616 := Nat.lt_of_le_of_lt (Nat.div_le_self _ _) (small_getD hs _)
    have b2 : ns.getD (k / 64 + 1) 0 * 2 ^ (64 - k % 64) % 18446744073709551616 < 18446744073709551616 := Nat.mod_lt _ (by omega)
    rw [e1, e2, ← u64_or_nat _ _ b1 b2, castMul, castDiv]

end Go.Proofs.YtfcgndgmbmkdgaaDoor

/- Rows of the call's own: a block of cells that may be written, told whole by a list. -/
namespace Go.Proofs.YtfcgndgmbmkdgaaDoor
open Go.RowKit

/-- Block g holds just the cells xs, none of them frozen. -/
def Row (w : World) (e : TypeId) (g : Nat) (xs : List Value) : Prop := w.heap[g]? = some (.cells xs.toArray e (0, 0))

theorem Row.lt {w : World} {e : TypeId} {g : Nat} {xs : List Value} (h : Row w e g xs) : g < w.heap.size := by
  unfold Row at h
  by_cases hg : g < w.heap.size
  · exact hg
  · rw [Array.getElem?_eq_none (by omega)] at h; cases h

theorem Row.cell {w : World} {e : TypeId} {g : Nat} {xs : List Value} (h : Row w e g xs) (i : Nat) (hi : i < xs.length) : w.cell? ⟨g, i, none⟩ = some xs[i] := by
  unfold Row at h; simp [World.cell?, h, hi]

theorem Row.frozen {w : World} {e : TypeId} {g : Nat} {xs : List Value} (h : Row w e g xs) (i : Nat) : w.frozen? ⟨g, i, none⟩ = false := by
  unfold Row at h; simp [World.frozen?, h]

theorem Row.set {w : World} {e : TypeId} {g : Nat} {xs : List Value} (h : Row w e g xs) (i : Nat) (v : Value) : Row (w.setCell ⟨g, i, none⟩ v) e g (xs.set i v) := by
  have hg := h.lt
  unfold Row at *
  simp [World.setCell, Array.getElem?_modify, h]

theorem Row.other {w : World} {e : TypeId} {g : Nat} {xs : List Value} (h : Row w e g xs) {a : Addr} (hn : g ≠ a.block) (v : Value) : Row (w.setCell a v) e g xs := by
  unfold Row at *; rw [Below.heap_setCell w a v g hn]; exact h

theorem Row.alloc {w : World} {e : TypeId} {g : Nat} {xs : List Value} (h : Row w e g xs) (o : Obj) : Row (w.alloc o) e g xs := by
  have := h.lt
  unfold Row at *; rw [Below.heap_alloc w o g this]; exact h

theorem Row.drew {w : World} {e : TypeId} {g : Nat} {xs : List Value} (h : Row w e g xs) : Row w.drew e g xs := h

theorem Row.below {w w' : World} {e : TypeId} {g B : Nat} {xs : List Value} (h : Row w e g xs) (hb : Below B w w') (hg : g < B) : Row w' e g xs := by
  unfold Row at *; rw [hb.block g hg]; exact h

theorem Row.of_make {w : World} {e : TypeId} {g n : Nat} {z : Value} {base : Nat} (h : w.ownsRow base e 1 (.slice (some ⟨g, 0, none⟩) n n) n (madeCells #[z] n).toList) : Row w e g (List.replicate n z) := by
  obtain ⟨h0, h1 | ⟨g', cap, cur, hv, hb, hc, h2, h3, h4, h5⟩⟩ := h
  · exact absurd h1.1 (by simp)
  · simp only [Value.slice.injEq, Option.some.injEq, Addr.mk.injEq] at hv
    obtain ⟨⟨rfl, _⟩, _, rfl⟩ := hv
    unfold Row
    rw [hc]
    have : cur.toList = List.replicate n z := by
      rw [List.take_of_length_le (by simp [h4])] at h5
      rw [h5]
      apply List.ext_getElem
      · simp [madeCells]
      · intro i h1 h2
        simp [madeCells, Nat.mod_one]
    rw [← this]

theorem cell_other {w : World} {p a : Addr} {x : Value} (h : w.cell? p = some x) (hn : p.block ≠ a.block) (v : Value) : (w.setCell a v).cell? p = some x := by
  rw [World.cell?_of_block (w := w) (Below.heap_setCell w a v p.block hn)]; exact h

theorem frozen_later {w w' : World} (hb : Below w.heap.size w w') {p : Addr} (h : w.frozen? p = false) (hp : p.block < w.heap.size) : w'.frozen? p = false := by
  rw [hb.frozen hp]; exact h

theorem cell_ne {w : World} {p a : Addr} {x y : Value} (hp : w.cell? p = some x) (ha : w.cell? a = some y) (hxy : x ≠ y) (v : Value) : (w.setCell a v).cell? p = some x := by
  rw [World.cell?_setCell_other w a p v (by intro e; rw [← e, ha] at hp; exact hxy (Option.some.inj hp).symm)]; exact hp

theorem Ws.set {w : World} {s : Value} {ns : List Nat} (h : Ws w s ns) {a : Addr} {y : Value} (ha : w.cell? a = some y) (hy : ∀ n : Nat, y ≠ .int .u64 (n : Nat)) (v : Value) : Ws (w.setCell a v) s ns := by
  obtain ⟨⟨ad, cap, hs, hcap, hc⟩, h2, h3⟩ := h
  refine ⟨⟨ad, cap, hs, hcap, ?_⟩, h2, h3⟩
  rcases hc with hc | ⟨b, off, hb, hbs, hc⟩
  · exact Or.inl hc
  · exact Or.inr ⟨b, off, hb, by simpa using hbs, fun j hj => cell_ne (hc j hj) ha (fun e => hy _ e.symm) v⟩

/-- Words as cells. -/
def wds (l : List Nat) : List Value := l.map fun n => .int .u64 (n : Nat)

theorem wds_length (l : List Nat) : (wds l).length = l.length := by simp [wds]

theorem Row.ws {w : World} {e : TypeId} {g : Nat} {ns : List Nat} (h : Row w e g (wds ns)) (hs : Small ns) (hl : ns.length ≤ 1000000) (cap : Nat) (hcap : ns.length ≤ cap) : Ws w (.slice (some ⟨g, 0, none⟩) ns.length cap) ns :=
  ⟨⟨_, _, rfl, hcap, Or.inr ⟨g, 0, rfl, h.lt, fun j hj => by
    rw [Nat.zero_add, h.cell j (by rw [wds_length]; exact hj)]
    simp [wds, List.getD, hj]⟩⟩, hs, hl⟩

end Go.Proofs.YtfcgndgmbmkdgaaDoor

/- The walk of span: the words from one bit to another. -/
namespace Go.Proofs.YtfcgndgmbmkdgaaDoor
open Go.RowKit

theorem Tryd.info49' : (Tryd.prog.info? 49).map (fun i => (i.zero, i.size, i.bytes)) = some (some (.int .u64 0), 1, 8) := by kernel_rfl

def spanL (ns : List Nat) (mlow low : Int) (n : Nat) : List Nat := (List.range n).map fun i => win ns mlow (low + 64 * (i : Nat))

/-- The row behind k rounds. -/
def spanR (ns : List Nat) (mlow low : Int) (n k : Nat) : List Value := wds (spanL ns mlow low k) ++ List.replicate (n - k) (.int .u64 0)

theorem spanR_step (ns : List Nat) (mlow low : Int) (n k : Nat) (hk : k < n) : (spanR ns mlow low n k).set k (.int .u64 (win ns mlow (low + 64 * (k : Nat)) : Nat)) = spanR ns mlow low n (k + 1) := by
  unfold spanR spanL wds
  obtain ⟨m, hm⟩ : ∃ m, n - k = m + 1 := ⟨n - k - 1, by omega⟩
  rw [hm, show n - (k + 1) = m by omega, List.replicate_succ, List.set_append_right _ _ (by simp)]
  simp [List.range_succ]

theorem spanR_done (ns : List Nat) (mlow low : Int) (n : Nat) : spanR ns mlow low n n = wds (spanL ns mlow low n) := by simp [spanR]

set_option maxHeartbeats 1000000 in
theorem span_any (s : Value) (ns : List Nat) (mlow low : Int) (n r : Nat) (w : World) (h : Ws w s ns) (h1 : -200000000 ≤ mlow) (h2 : mlow ≤ 200000000) (h3 : -200000000 ≤ low) (h4 : low ≤ 200000000) (h5 : n ≤ 1000000) (hr : r < 64) :
    Calls Tryd.prog 51 #[.agg #[s, .int .i64 mlow], .int .i64 low, .int .i64 (low + (64 * n + r : Nat))] w fun e w' => ∃ g, w.heap.size ≤ g ∧ e = .returned (.slice (some ⟨g, 0, none⟩) (n + 1) (n + 1)) ∧ Row w' 49 g (wds (spanL ns mlow low (n + 1))) ∧ Below w.heap.size w w' := by
  obtain ⟨a, cap, rfl, _, hc⟩ := h.shape
  obtain ⟨i0, hi, hz0, hz1, hz2⟩ := info_parts Tryd.info49'
  have hq1 : (((64 * n + r : Nat) : Int)) / 64 = (n : Int) := by omega
  have hq2 : low + ((64 * n + r : Nat) : Int) - low = ((64 * n + r : Nat) : Int) := by omega
  have hq3 : ((64 * n + r : Nat) : Int) ≤ 100000000 := by omega
  have hq4 : (n : Int) ≤ 1000000 := by omega
  generalize ((64 * n + r : Nat) : Int) = d at *
  have hd0 : 0 ≤ d := by omega
  go_enter Tryd.func51, Tryd.ntmps51
  go_wp2_with (at_make; refine wpList_make_full _ rfl _ _ 31 rfl w.heap.size 49 i0 (.int .u64 0) 1 Tryd.underlying31 hi hz0 hz1 _ _ _ _ (n + 1) rfl rfl ?hL ?hC ?b2 ?b3 ?b4 ?_)
  case hL => omega
  case hC => omega
  case b2 => rw [hz2]; omega
  case b3 => unfold maxLen; omega
  case b4 => simp
  intro w0 hown0 hgrow0
  have hrow := Row.of_make hown0
  have hb0 : Below w.heap.size w w0 := ((Below.refl _ _).alloc (Nat.le_refl _) _).grown hgrow0 (by simp) (fun k hk => by cases hk)
  have hx0 : w0.cell? ⟨w.heap.size, 0, none⟩ = some (.slice a ns.length cap) := hgrow0.cell (by simp) (by simp)
  have hx1 : w0.cell? ⟨w.heap.size, 1, none⟩ = some (.int .i64 mlow) := hgrow0.cell (by simp) (by simp)
  clear hown0 hgrow0 hz0 hz1 hz2 hi
  go_wp2
  go_loopw [17] (fun i wr => ∃ k : Nat, k ≤ n + 1 ∧ i = .int .i64 k ∧ Row wr 49 (w.heap.size + 1) (spanR ns mlow low (n + 1) k) ∧ wr.cell? ⟨w.heap.size, 0, none⟩ = some (.slice a ns.length cap) ∧ wr.cell? ⟨w.heap.size, 1, none⟩ = some (.int .i64 mlow) ∧ Below w.heap.size w wr)
    (fun i _ => n + 1 - (intOf i).toNat)
  case atStart => exact ⟨0, Nat.zero_le _, rfl, by simpa [spanR, spanL, wds] using hrow, hx0, hx1, hb0⟩
  case round =>
    obtain ⟨k, hk, rfl, hrk, hy0, hy1, hbk⟩ := hrel
    by_cases hlt : k < n + 1
    · have hW := h.later hbk (Nat.le_refl _)
      have hlt' : (k : Int) < (n : Int) + 1 := by omega
      have hln : (spanR ns mlow low (n + 1) k).length = n + 1 := by simp [spanR, spanL, wds]; omega
      go_wp2_with fail
      refine (window_any _ ns _ _ _ hW (by omega) (by omega) (by omega) (by omega)).mono ?_
      rintro e w' ⟨rfl, hb⟩
      have hrw := hrk.below hb hrk.lt
      have hf := hrw.frozen k
      obtain ⟨v0, hce⟩ : ∃ v0, w'.cell? ⟨w.heap.size + 1, k, none⟩ = some v0 := ⟨_, hrw.cell k (by omega)⟩
      have hst := spanR_step ns mlow low (n + 1) k hlt
      have Hst : Hid (Row (w'.setCell ⟨w.heap.size + 1, k, none⟩ (.int .u64 (win ns mlow (low + 64 * (k : Nat)) : Nat))) 49 (w.heap.size + 1) (spanR ns mlow low (n + 1) (k + 1))) := by rw [← hst]; exact hrw.set k _
      have hz0 := cell_later hb hy0
      have hz1 := cell_later hb hy1
      have Hbk : Hid (Below w.heap.size w w') := hbk.trans (hb.mono hbk.size)
      clear hst hrw hrk hW hb hbk
      go_wp2
      go_roundw
      case rel => exact ⟨k + 1, by omega, by go_num, Hst.out, cell_other hz0 (by simp) _, cell_other hz1 (by simp) _, Hbk.out.setCell (by simp) _⟩
      case measure => simp [intOf]; omega
    · have hk' : k = n + 1 := by omega
      have hge : ¬ ((k : Int) < (n : Int) + 1) := by omega
      have Hr : Hid (Row wr 49 (w.heap.size + 1) (wds (spanL ns mlow low (n + 1)))) := by rw [← spanR_done]; subst hk'; exact hrk
      clear hk' hrk
      go_wp2
      go_ret
      exact ⟨w.heap.size + 1, by omega, rfl, Hr.out, hbk⟩

end Go.Proofs.YtfcgndgmbmkdgaaDoor

/- The library's contracts for cmp.Compare at int and math/bits.Len64, laid at this program: each is one application of a theorem of the guide's library. -/
namespace Go.Proofs.YtfcgndgmbmkdgaaDoor
open Go.Shelf Go.Proofs
def Tryd.lays215_ren : Go.Shelf.Ren := ⟨fun | 215 => 63 | n => n, fun | 3 => 3 | 4 => 4 | n => n, fun | n => n⟩
theorem Tryd.lays215 : Go.Proofs.Lays.n215 Tryd.prog Tryd.lays215_ren := {
  mixed := by kernel_rfl
  f215 := Tryd.func63.trans (congrArg some (by kernel_rfl))
  t3 := Tryd.underlying3
  a3 := Tryd.isAgg3
  z3 := Tryd.sizeOf3
  v3 := Tryd.zeroValue3
  t4 := Tryd.underlying4
  a4 := Tryd.isAgg4
  z4 := Tryd.sizeOf4
  v4 := Tryd.zeroValue4 }
open Go.RowKit in
theorem Tryd.cmp_isNaN_int (x : Int) (w : World) :
    Calls Tryd.prog 63 #[.int .i64 x] w fun e w' => e = .returned (.bool false) ∧ w' = w := Any.cmp_isNaN_int Tryd.lays215 x w
def Tryd.lays122_ren : Go.Shelf.Ren := ⟨fun | 122 => 39 | 215 => 63 | n => n, fun | 3 => 3 | 4 => 4 | n => n, fun | n => n⟩
theorem Tryd.lays122 : Go.Proofs.Lays.n122 Tryd.prog Tryd.lays122_ren := {
  mixed := by kernel_rfl
  f122 := Tryd.func39.trans (congrArg some (by kernel_rfl))
  f215 := Tryd.func63.trans (congrArg some (by kernel_rfl))
  t3 := Tryd.underlying3
  a3 := Tryd.isAgg3
  z3 := Tryd.sizeOf3
  v3 := Tryd.zeroValue3
  t4 := Tryd.underlying4
  a4 := Tryd.isAgg4
  z4 := Tryd.sizeOf4
  v4 := Tryd.zeroValue4 }
open Go.RowKit in
theorem Tryd.cmp_Compare_int (x y : Int) (w : World) :
    Calls Tryd.prog 39 #[.int .i64 x, .int .i64 y] w fun e w' => e = .returned (.int .i64 (Lib.compareInt x y)) ∧ w' = w := Any.cmp_Compare_int Tryd.lays122 x y w
def Tryd.lays129_ren : Go.Shelf.Ren := ⟨fun | 129 => 70 | n => n, fun | 53 => 49 | 3 => 3 | 4 => 4 | 46 => 82 | 5 => 5 | 9 => 9 | n => n, fun | n => n⟩
theorem Tryd.lays129 : Go.Proofs.Lays.n129 Tryd.prog Tryd.lays129_ren := {
  mixed := by kernel_rfl
  f129 := Tryd.func70.trans (congrArg some (by kernel_rfl))
  t3 := Tryd.underlying3
  a3 := Tryd.isAgg3
  z3 := Tryd.sizeOf3
  v3 := Tryd.zeroValue3
  t4 := Tryd.underlying4
  a4 := Tryd.isAgg4
  z4 := Tryd.sizeOf4
  v4 := Tryd.zeroValue4
  t5 := Tryd.underlying5
  a5 := Tryd.isAgg5
  z5 := Tryd.sizeOf5
  v5 := Tryd.zeroValue5
  t9 := Tryd.underlying9
  a9 := Tryd.isAgg9
  z9 := Tryd.sizeOf9
  v9 := Tryd.zeroValue9
  t46 := Tryd.underlying82
  a46 := Tryd.isAgg82
  z46 := Tryd.sizeOf82
  v46 := Tryd.zeroValue82
  t53 := Tryd.underlying49
  a53 := Tryd.isAgg49
  z53 := Tryd.sizeOf49
  v53 := Tryd.zeroValue49 }
theorem Tryd.bits_Len64 (x : Int) (w : World) (h0 : 0 ≤ x) (h1 : x ≤ 18446744073709551615) :
    Calls Tryd.prog 70 #[.int .u64 x] w fun e w' => e = .returned (.int .i64 (Lib.bitLen x.toNat)) ∧ w' = w := Any.bits_Len64 Tryd.lays129 x w h0 h1
end Go.Proofs.YtfcgndgmbmkdgaaDoor

/- Walks of math/bits: Len64, TrailingZeros64, Mul64, in the numbers of this program. -/
namespace Go.Proofs.YtfcgndgmbmkdgaaDoor
open Go.RowKit

theorem bitLenAux_log2 (f : Nat) : ∀ x : Nat, x ≠ 0 → x < 2 ^ f → Lib.bitLenAux f x = Nat.log2 x + 1 := by
  induction f with
  | zero => intro x h0 h1; simp at h1; omega
  | succ f ih =>
    intro x h0 h1
    rw [Lib.bitLenAux, if_neg h0]
    by_cases h2 : x / 2 = 0
    · have : x = 1 := by omega
      subst this
      simp
      cases f <;> simp [Lib.bitLenAux, show Nat.log2 1 = 0 from rfl]
    · rw [ih (x / 2) h2 (by rw [Nat.pow_succ] at h1; omega)]
      have : Nat.log2 x = Nat.log2 (x / 2) + 1 := by
        rw [Nat.log2_def x, if_pos (by omega)]
      omega

theorem bitLen_log2 (x : Nat) (h0 : x ≠ 0) (h1 : x < 18446744073709551616) : Lib.bitLen x = Nat.log2 x + 1 := bitLenAux_log2 64 x h0 h1

/-- Where the program's table for TrailingZeros64 lies, and what it holds. -/
def Tab (w : World) : Prop := ∀ j, j < Lib.deBruijn64tab.length → w.cell? ⟨1, j, none⟩ = some (.int .u8 (Lib.deBruijn64tab.getD j 0 : Nat))

theorem Tab.later {w w' : World} (h : Tab w) (hb : Below w.heap.size w w') : Tab w' := fun j hj => cell_later hb (h j hj)

set_option maxHeartbeats 1000000 in
theorem tz64_core (x k idx : Nat) (w : World) (hx0 : ((x : Int) == 0) = false)
    (key : IntKind.u64.wrap (bits BinOp.and IntKind.u64 (x : Int) (IntKind.u64.wrap (-(x : Int))) * 285870213051353865) / 288230376151711744 = (idx : Int))
    (hi : idx < 64) (hk : k < 64) (hcell : w.cell? ⟨1, idx, none⟩ = some (.int .u8 k)) :
    Calls Tryd.prog 50 #[.int .u64 x] w fun e w' => e = .returned (.int .i64 k) ∧ w' = w := by
  go_enter Tryd.func50, Tryd.ntmps50
  go_wp2_with (simp only [key])
  go_ret
  exact ⟨rfl, rfl⟩

theorem tz64_any (x : Nat) (hx : x < 18446744073709551616) (hx0 : x ≠ 0) (w : World) (hT : Tab w) :
    Calls Tryd.prog 50 #[.int .u64 x] w fun e w' => e = .returned (.int .i64 (Lib.ctz 64 x)) ∧ w' = w := by
  obtain ⟨hlow, hk⟩ := Lib.lowest_bit 64 x hx0 hx
  obtain ⟨hi, htab⟩ := Lib.deBruijn64_at _ hk
  refine tz64_core x _ _ w (by simpa using hx0) (tz64_key x _ hx hx0 hlow) hi hk ?_
  rw [hT _ hi, htab]

theorem ctz_spec (x : Nat) (hx : x < 18446744073709551616) (hx0 : x ≠ 0) : ∃ m, x = 2 ^ Lib.ctz 64 x * (2 * m + 1) ∧ Lib.ctz 64 x < 64 := by
  have e : Lib.ctz 64 x = Lib.ctzFrom 64 x := by simp [Lib.ctz, hx0]
  rw [e]
  exact Lib.ctzFrom_spec 64 x (by omega) hx

theorem len64_any (x : Int) (w : World) (h0 : 0 < x) (h1 : x ≤ 18446744073709551615) :
    Calls Tryd.prog 70 #[.int .u64 x] w fun e w' => e = .returned (.int .i64 ((Nat.log2 x.toNat + 1 : Nat) : Int)) ∧ w' = w := by
  rw [← bitLen_log2 x.toNat (by omega) (by omega)]
  exact Tryd.bits_Len64 x w (by omega) h1

theorem ret_two {a b c d : Int} (h1 : a = c) (h2 : b = d) : Ending.returned (.tuple #[.int .u64 a, .int .u64 b]) = .returned (.tuple #[.int .u64 c, .int .u64 d]) := by rw [h1, h2]

theorem mul_core (x y : Int) (hx0 : 0 ≤ x) (hx : x < 18446744073709551616) (hy0 : 0 ≤ y) (hy : y < 18446744073709551616) (X0 Y0 T L : Int) (e1 : X0 = x % 4294967296) (e2 : Y0 = y % 4294967296)
    (e3 : T = (x / 4294967296 * Y0 % 18446744073709551616 + X0 * Y0 % 18446744073709551616 / 4294967296) % 18446744073709551616) (e4 : L = T % 4294967296) :
    ((x / 4294967296 * (y / 4294967296) % 18446744073709551616 + T / 4294967296) % 18446744073709551616 + (L + X0 * (y / 4294967296) % 18446744073709551616) % 18446744073709551616 / 4294967296) % 18446744073709551616 = x * y / 18446744073709551616 := by
  subst e4 e3 e2 e1
  exact mul64_arith x y hx0 hx hy0 hy

set_option maxHeartbeats 1000000 in
theorem mul64_any (x y : Int) (w : World) (hx0 : 0 ≤ x) (hx : x < 18446744073709551616) (hy0 : 0 ≤ y) (hy : y < 18446744073709551616) :
    Calls Tryd.prog 80 #[.int .u64 x, .int .u64 y] w fun e w' => e = .returned (.tuple #[.int .u64 (x * y / 18446744073709551616), .int .u64 (x * y % 18446744073709551616)]) ∧ w' = w := by
  go_enter Tryd.func80, Tryd.ntmps80
  go_wp2
  go_ret2
  refine ⟨ret_two ?_ (IntKind.wrap_u64 _), rfl⟩
  simp only [IntKind.wrap_u64]
  exact mul_core x y hx0 hx hy0 hy _ _ _ _ (and_low32 _ hx0 hx) (and_low32 _ hy0 hy) rfl (and_low32 _ (Int.emod_nonneg _ (by omega)) (Int.emod_lt_of_pos _ (by omega)))

end Go.Proofs.YtfcgndgmbmkdgaaDoor

/- The walk of highest: the highest bit of a magnitude. -/
namespace Go.Proofs.YtfcgndgmbmkdgaaDoor
open Go.RowKit
attribute [local go_sem ↓] Go.wp_at_zero Go.wp_at_succ

theorem keep3 {w W W' : World} {p q r : Addr} {x y z : Value} (h : W.cell? p = some x ∧ W.cell? q = some y ∧ W.cell? r = some z ∧ Below w.heap.size w W) (hb : Below W.heap.size W W') : W'.cell? p = some x ∧ W'.cell? q = some y ∧ W'.cell? r = some z ∧ Below w.heap.size w W' :=
  ⟨cell_later hb h.1, cell_later hb h.2.1, cell_later hb h.2.2.1, h.2.2.2.trans (hb.mono h.2.2.2.size)⟩

set_option maxHeartbeats 1000000 in
theorem highest_some (b off len cap t : Nat) (low : Int) (w : World) (hc : w.cell? ⟨b, off + len, none⟩ = some (.int .u64 (t : Nat))) (h0 : t ≠ 0) (h1 : t < 18446744073709551616) (h2 : -200000000 ≤ low) (h3 : low ≤ 200000000) (h4 : len ≤ 1000000) (h5 : Nat.log2 t ≤ 64) :
    Calls Tryd.prog 48 #[.agg #[.slice (some ⟨b, off, none⟩) (len + 1) cap, .int .i64 low]] w fun e w' => e = .returned (.int .i64 (low + (64 * len + Nat.log2 t : Nat))) ∧ Below w.heap.size w w' := by
  have hz : ((len : Int) + 1 == 0) = false := by rw [beq_eq_false_iff_ne]; omega
  have hz' : (((len + 1 : Nat) : Int) == 0) = false := by rw [beq_eq_false_iff_ne]; omega
  have hl : (len : Int) ≤ 1000000 := by omega
  have hl1 : IntKind.i64.wrap (64 * (len : Int)) = 64 * (len : Int) := wrapI _ (by omega) (by omega)
  have hl2 : IntKind.i64.wrap (low + 64 * (len : Int)) = low + 64 * (len : Int) := wrapI _ (by omega) (by omega)
  have hl3 : IntKind.i64.wrap (low + 64 * (len : Int) + ((Nat.log2 t : Nat) + 1 : Int)) = low + 64 * (len : Int) + ((Nat.log2 t : Nat) + 1 : Int) := wrapI _ (by omega) (by omega)
  have hl4 : IntKind.i64.wrap (low + 64 * (len : Int) + ((Nat.log2 t : Nat) + 1 : Int) - 1) = low + (64 * len + Nat.log2 t : Nat) := by rw [wrapI _ (by omega) (by omega)]; omega
  have hi1 : (0 : Int) ≤ (len : Int) := by omega
  have hi2 : (len : Int) < (len : Int) + 1 := by omega
  have hi3 : (len : Int) < ((len + 1 : Nat) : Int) := by omega
  go_enter Tryd.func48, Tryd.ntmps48
  go_wp2_with fail
  refine (isZero_any _ _ _ _ _).mono ?_
  rintro e w' ⟨rfl, hb1⟩
  have hx0 : w'.cell? ⟨w.heap.size, 0, none⟩ = some (.slice (some ⟨b, off, none⟩) (len + 1) cap) := cell_later hb1 (by simp)
  have hx1 : w'.cell? ⟨w.heap.size, 1, none⟩ = some (.int .i64 low) := cell_later hb1 (by simp)
  have hB : Below w.heap.size w w' := ((Below.refl _ _).alloc (Nat.le_refl _) _).trans (hb1.mono (by simp))
  have hc' : w'.cell? ⟨b, off + len, none⟩ = some (.int .u64 (t : Nat)) := cell_later hB hc
  clear hb1 hc
  go_wp2
  go_region_held3 (fun W => W.cell? ⟨w.heap.size, 0, none⟩ = some (.slice (some ⟨b, off, none⟩) (len + 1) cap) ∧ W.cell? ⟨w.heap.size, 1, none⟩ = some (.int .i64 low) ∧ W.cell? ⟨b, off + len, none⟩ = some (.int .u64 (t : Nat)) ∧ Below w.heap.size w W)
    (first | exact ⟨hx0, hx1, hc', hB.drew⟩)
    (first | (go_at_call 70; refine (len64_any _ _ ?_ ?_).mono ?_; omega; omega; rintro e w' ⟨rfl, rfl⟩))
  go_wp2
  go_ret
  exact ⟨rfl, hB.drew⟩

set_option maxHeartbeats 400000 in
theorem highest_none (a : Option Addr) (cap : Nat) (low : Int) (w : World) :
    Calls Tryd.prog 48 #[.agg #[.slice a 0 cap, .int .i64 low]] w fun e w' => e = .returned (.int .i64 0) ∧ Below w.heap.size w w' := by
  go_enter Tryd.func48, Tryd.ntmps48
  go_wp2_with fail
  refine (isZero_any _ _ _ _ _).mono ?_
  rintro e w' ⟨rfl, hb1⟩
  go_wp2
  go_ret
  exact ⟨rfl, ((Below.refl _ _).alloc (Nat.le_refl _) _).trans (hb1.mono (by simp))⟩

/-- highest: the highest bit; 0 of nothing. -/
theorem highest_any (s : Value) (ns : List Nat) (low : Int) (w : World) (h : Ws w s ns) (ht : Topped ns) (h2 : -200000000 ≤ low) (h3 : low ≤ 200000000) :
    Calls Tryd.prog 48 #[.agg #[s, .int .i64 low]] w fun e w' => e = .returned (.int .i64 (hiB ns low)) ∧ Below w.heap.size w w' := by
  obtain ⟨⟨a, cap, rfl, _, hc⟩, hs, hl⟩ := h
  rcases hc with rfl | ⟨b, off, rfl, hb, hc⟩
  · exact highest_none a cap low w
  · by_cases hne : ns = []
    · subst hne; exact highest_none _ cap low w
    · have hp := List.length_pos_iff.2 hne
      obtain ⟨m, hm⟩ : ∃ m, ns.length = m + 1 := ⟨ns.length - 1, by omega⟩
      have ht' := ht hne
      have hlog := log2_val hs hne ht'
      unfold hiB
      rw [if_neg hne, hlog]
      rw [hm] at hc ht' ⊢
      rw [show m + 1 - 1 = m by omega] at *
      have hsm := small_getD hs m
      exact highest_some b off m cap _ low w (hc m (by omega)) ht' hsm h2 h3 (by omega) (Nat.le_of_lt ((Nat.log2_lt ht').2 hsm))

end Go.Proofs.YtfcgndgmbmkdgaaDoor

/- The walk of ownForm: the same magnitude without noughts at either end. -/
namespace Go.Proofs.YtfcgndgmbmkdgaaDoor
open Go.RowKit
attribute [local go_sem ↓] Go.wp_at_zero Go.wp_at_succ

theorem spanL_up (ns : List Nat) (low : Int) (k n : Nat) : spanL ns low (low + (k : Nat)) n = digs (val ns / 2 ^ k) n := by
  unfold spanL digs
  refine List.map_congr_left fun i _ => ?_
  unfold win
  rw [if_neg (by omega), show (low + (k : Nat) + 64 * (i : Nat) - low : Int).toNat = k + 64 * i by omega, Nat.pow_add, ← Nat.div_div_eq_div_mul]

theorem spanL_down (ns : List Nat) (low : Int) (k n : Nat) : spanL ns (low + (k : Nat)) low n = digs (val ns * 2 ^ k) n := by
  unfold spanL digs
  refine List.map_congr_left fun i _ => ?_
  unfold win
  by_cases h : 64 * i < k
  · rw [if_pos (by omega), show (low + (k : Nat) - (low + 64 * (i : Nat)) : Int).toNat = k - 64 * i by omega]
    congr 1
    rw [show (2 : Nat) ^ k = 2 ^ (k - 64 * i) * 2 ^ (64 * i) by rw [← Nat.pow_add]; congr 1; omega, ← Nat.mul_assoc, Nat.mul_div_cancel _ (Nat.two_pow_pos _)]
  · rw [if_neg (by omega), show (low + 64 * (i : Nat) - (low + (k : Nat)) : Int).toNat = 64 * i - k by omega]
    congr 1
    rw [show (2 : Nat) ^ (64 * i) = 2 ^ k * 2 ^ (64 * i - k) by rw [← Nat.pow_add]; congr 1; omega, ← Nat.div_div_eq_div_mul, Nat.mul_div_cancel _ (Nat.two_pow_pos _)]

theorem keep2_set {w W : World} {p q : Addr} {x y : Value} (h : W.cell? p = some x ∧ W.cell? q = some y ∧ Below w.heap.size w W) (a : Addr) (v : Value) (h1 : p.block ≠ a.block) (h2 : q.block ≠ a.block) (h3 : w.heap.size ≤ a.block) :
    (W.setCell a v).cell? p = some x ∧ (W.setCell a v).cell? q = some y ∧ Below w.heap.size w (W.setCell a v) :=
  ⟨cell_other h.1 h1 v, cell_other h.2.1 h2 v, h.2.2.setCell h3 v⟩

/-- What a magnitude that is made anew says: its words, in its own form, tell what V does from the bit low on. -/
def Made (w w' : World) (V : Nat) (low : Int) (e : Ending) : Prop :=
  ∃ s ns' low', e = .returned (.agg #[s, .int .i64 low']) ∧ Ws w' s ns' ∧ OwnF ns' low' ∧ Tells V low ns' low' ∧ (-200000000 ≤ low' ∧ low' ≤ 200000000) ∧ Below w.heap.size w w'

set_option maxHeartbeats 2000000 in
theorem own_walk (b off cap : Nat) (ns : List Nat) (low : Int) (w : World) (hcap : ns.length ≤ cap) (hbs : b < w.heap.size) (hc : ∀ j, j < ns.length → w.cell? ⟨b, off + j, none⟩ = some (.int .u64 (ns.getD j 0 : Nat))) (hs : Small ns) (hl : ns.length ≤ 1000000) (hT : Tab w) (h2 : -100000000 ≤ low) (h3 : low ≤ 100000000) :
    Calls Tryd.prog 28 #[.agg #[.slice (some ⟨b, off, none⟩) ns.length cap, .int .i64 low]] w fun e w' => Made w w' (val ns) low e := by
  have hl' : (ns.length : Int) ≤ 1000000 := by omega
  go_enter Tryd.func28, Tryd.ntmps28
  go_wp2
  go_region_held3 (fun W => W.cell? ⟨w.heap.size, 0, none⟩ = some (.slice (some ⟨b, off, none⟩) ns.length cap) ∧ W.cell? ⟨w.heap.size, 1, none⟩ = some (.int .i64 low))
    (first | exact ⟨by simp, by simp⟩)
    (fail)
  go_wp2
  go_loop [4] (fun e => ∃ k : Nat, k ≤ ns.length ∧ e = .int .i64 k ∧ Hid (∀ j, k ≤ j → ns.getD j 0 = 0)) (fun e => (intOf e).toNat)
  case atStart => exact ⟨ns.length, Nat.le_refl _, rfl, fun j hj => by simp [List.getD, List.getElem?_eq_none hj]⟩
  case round =>
    obtain ⟨k, hk, rfl, hz⟩ := hrel
    by_cases hk0 : k = 0
    · subst hk0
      have hv : Hid (val ns = 0) := val_zero fun j => hz.out j (Nat.zero_le _)
      clear hz
      go_wp2
      refine bodyPost_ret (v := .agg #[.slice none 0 0, .int .i64 0]) (by simp [results, Tryd.results28, go_sem]) rfl ⟨_, [], 0, rfl, ⟨⟨_, _, rfl, Nat.le_refl _, Or.inl rfl⟩, fun n hn => by simp at hn, by simp⟩, Or.inl ⟨rfl, rfl⟩, Or.inl ⟨hv.out, rfl, rfl⟩, ⟨by omega, by omega⟩, ?_⟩
      exact (((Below.refl _ _).alloc (Nat.le_refl _) _).alloc (by simp) _).drew
    · obtain ⟨q, rfl⟩ : ∃ q, k = q + 1 := ⟨k - 1, by omega⟩
      have hcq := hc q (by omega)
      by_cases hw : ns.getD q 0 = 0
      · have hwz : w.cell? ⟨b, off + q, none⟩ = some (.int .u64 0) := by rw [hcq, hw]; rfl
        have hz' : Hid (∀ j, q ≤ j → ns.getD j 0 = 0) := fun j hj => by
          by_cases e : j = q
          · rw [e]; exact hw
          · exact hz.out j (by omega)
        clear hcq hw hz hc
        go_wp2
        go_round
        case rel => exact ⟨q, by omega, by go_num, hz'⟩
        case measure => simp [intOf]
      · have hwq : (((ns.getD q 0 : Nat) : Int) == 0) = false := by rw [beq_eq_false_iff_ne]; omega
        have HW : Hid (ns.getD q 0 ≠ 0) := hw
        have hqi : (q : Int) ≤ 1000000 := by omega
        generalize hx : ns.getD q 0 = x at hcq hwq
        clear hw
        go_wp2
        go_loop [3] (fun e => ∃ f : Nat, f ≤ q ∧ e = .int .i64 f ∧ Hid (∀ j, j < f → ns.getD j 0 = 0)) (fun e => q - (intOf e).toNat)
        case atStart => exact ⟨0, Nat.zero_le _, rfl, fun j hj => by omega⟩
        case round =>
          obtain ⟨f, hf, rfl, hlo⟩ := hrel
          have hcf := hc f (by omega)
          by_cases hwf : ns.getD f 0 = 0
          · have hfq : f < q := by
              by_cases e : f = q
              · exact absurd (e ▸ hwf) HW.out
              · omega
            have hwz : w.cell? ⟨b, off + f, none⟩ = some (.int .u64 0) := by rw [hcf, hwf]; rfl
            have hlo' : Hid (∀ j, j < f + 1 → ns.getD j 0 = 0) := fun j hj => by
              by_cases e : j = f
              · rw [e]; exact hwf
              · exact hlo.out j (by omega)
            clear hcf hwf hlo hc hz hx
            go_wp2
            go_round
            case rel => exact ⟨f + 1, by omega, by go_num, hlo'⟩
            case measure => simp [intOf]; omega
          · have hwf' : (((ns.getD f 0 : Nat) : Int) == 0) = false := by rw [beq_eq_false_iff_ne]; omega
            have HF : Hid (ns.getD f 0 ≠ 0) := hwf
            obtain ⟨m, ht, ht64⟩ := ctz_spec _ (small_getD hs f) hwf
            generalize hy : ns.getD f 0 = y at hcf hwf' ht ht64
            have HT : Hid (y = 2 ^ Lib.ctz 64 y * (2 * m + 1)) := ht
            have HY : Hid (ns.getD f 0 = y) := hy
            have HX : Hid (ns.getD q 0 = x) := hx
            have HL : Hid (Lib.ctz 64 y < 64) := ht64
            clear hwf ht hy hx ht64 hcq hwq
            have hqc : (q : Int) + 1 ≤ (cap : Int) := by omega
            have hfi : (f : Int) < (q : Int) + 1 := by omega
            have hfi0 : (0 : Int) ≤ (f : Int) := by omega
            have hyn : y < 18446744073709551616 := by rw [← HY.out]; exact small_getD hs f
            have hy0 : y ≠ 0 := by rw [← HY.out]; exact HF.out
            generalize hc0 : Lib.ctz 64 y = t at HT HL
            have hl64 := HL.out
            have hwr1 : IntKind.i64.wrap (64 * (f : Int)) = 64 * (f : Int) := wrapI _ (by omega) (by omega)
            have hwr2 : IntKind.i64.wrap (low + 64 * (f : Int)) = low + 64 * (f : Int) := wrapI _ (by omega) (by omega)
            have hwr3 : IntKind.i64.wrap (low + 64 * (f : Int) + (t : Int)) = low + (64 * f + t : Nat) := by rw [wrapI _ (by omega) (by omega)]; omega
            obtain ⟨hm1, hm2, hm3, hm4, hm5⟩ := own_math hs low f (q + 1) t m (by omega) (by omega) hz.out (by rw [Nat.add_sub_cancel]; exact HW.out) hlo.out (by rw [HY.out]; exact HT.out) hl64
            obtain ⟨n, r, hr, hn⟩ : ∃ n r, r < 64 ∧ Nat.log2 (val ns) - (64 * f + t) = 64 * n + r := ⟨(Nat.log2 (val ns) - (64 * f + t)) / 64, (Nat.log2 (val ns) - (64 * f + t)) % 64, Nat.mod_lt _ (by omega), by omega⟩
            obtain ⟨ho1, ho2, ho3⟩ := hm5 n r hr hn
            have hlen : (ns.take (q + 1)).length = q + 1 := by simp; omega
            have hhi : hiB (ns.take (q + 1)) low = low + (64 * f + t : Nat) + (64 * n + r : Nat) := by
              unfold hiB
              rw [if_neg (by intro h; rw [h] at hlen; simp at hlen), hm4]; omega
            have hWs : Ws w (.slice (some ⟨b, off, none⟩) (q + 1) cap) (ns.take (q + 1)) := by
              refine ⟨⟨_, cap, by rw [hlen], by omega, Or.inr ⟨b, off, rfl, hbs, fun j hj => ?_⟩⟩, fun n hn => hs n (List.mem_of_mem_take hn), by omega⟩
              rw [take_getD _ _ (by omega)]; exact hc j (by omega)
            have hsp : spanL (ns.take (q + 1)) low (low + (64 * f + t : Nat)) (n + 1) = digs (val ns / 2 ^ (64 * f + t)) (n + 1) := by rw [spanL_up, hm4]
            have hB1 : (64 * f + t : Nat) ≤ 64000000 := by omega
            have HO1 : Hid _ := ho1
            have HO2 : Hid _ := ho2
            have HSP : Hid _ := hsp
            have HHI : Hid _ := hhi
            have HM3 : Hid _ := hm3
            have HWS : Hid _ := hWs
            have HTA : Hid (Tab w) := hT
            have HC0 : Hid (Lib.ctz 64 y = t) := hc0
            clear ho1 ho2 hsp hhi hm3 hWs hT hm5 hc0 hn hm1 hm2 hm4 hlen
            generalize hLO : low + ((64 * f + t : Nat) : Int) = LO at *
            have HLO : Hid _ := hLO
            have hLO1 : -100000000 ≤ LO := by omega
            have hLO2 : LO ≤ 164000000 := by omega
            clear hLO
            go_wp2
            go_region_held3 (fun W => W.cell? ⟨w.heap.size, 0, none⟩ = some (.slice (some ⟨b, off, none⟩) (q + 1) cap) ∧ W.cell? ⟨w.heap.size, 1, none⟩ = some (.int .i64 low) ∧ W.cell? ⟨b, off + f, none⟩ = some (.int .u64 (y : Nat)))
              (first | exact ⟨by simp, by simp, cell_later (((((Below.refl _ _).alloc (Nat.le_refl _) _).alloc (by simp) _).drew).drew) hcf⟩)
              (first | (go_at_call 50; refine (tz64_any _ hyn hy0 _ ?_).mono ?_; exact HTA.out.later (((((Below.refl _ _).alloc (Nat.le_refl _) _).alloc (by simp) _).drew).drew); rw [HC0.out]; rintro e w' ⟨rfl, rfl⟩))
            go_wp2
            go_region_held3 (fun W => W.cell? ⟨w.heap.size, 0, none⟩ = some (.slice (some ⟨b, off, none⟩) (q + 1) cap) ∧ W.cell? ⟨w.heap.size, 1, none⟩ = some (.int .i64 low) ∧ Below w.heap.size w W)
              (first
                | exact ⟨by simp, by simp, ((((Below.refl _ _).alloc (Nat.le_refl _) _).alloc (by simp) _).drew).drew.drew⟩
                | exact keep2 (by assumption) (by assumption)
                | exact keep2_set (keep2_set (by assumption) _ _ (by simp) (by simp) (by simp)) _ _ (by simp) (by simp) (by simp))
              (first
                | (go_at_call 48; refine (highest_any _ (ns.take (q + 1)) _ _ ?_ HM3.out (by omega) (by omega)).mono ?_; exact HWS.out.later (((((Below.refl _ _).alloc (Nat.le_refl _) _).alloc (by simp) _).drew).drew.drew) (Nat.le_refl _); rw [HHI.out]; rintro e w1 ⟨rfl, hb1⟩)
                | (go_at_call 51; refine (span_any _ (ns.take (q + 1)) _ _ n r _ ?_ (by omega) (by omega) (by omega) (by omega) (by omega) hr).mono ?_; exact HWS.out.later ((by assumption : _ ∧ _ ∧ _).2.2) (Nat.le_refl _); rw [HSP.out]; rintro e w2 ⟨g, hg, rfl, hrow, hb2⟩; have hr0 : w2.cell? ⟨w.heap.size + 1, 0, none⟩ = some (.slice none 0 0) := cell_later hb2 (cell_later hb1 (by simp)); have hr1 : w2.cell? ⟨w.heap.size + 1, 1, none⟩ = some (.int .i64 0) := cell_later hb2 (cell_later hb1 (by simp)); have hf0 : w2.frozen? ⟨w.heap.size + 1, 0, none⟩ = false := frozen_later hb2 (frozen_later hb1 (by simp) (by simp)) (by have := hb1.size; simp at this; simp; omega); have hf1 : w2.frozen? ⟨w.heap.size + 1, 1, none⟩ = false := frozen_later hb2 (frozen_later hb1 (by simp) (by simp)) (by have := hb1.size; simp at this; simp; omega)))
            go_wp2
            have hgw : w.heap.size + 1 < g := by have := hb1.size; simp at this; omega
            refine bodyPost_ret (v := .agg #[.slice (some ⟨g, 0, none⟩) (n + 1) (n + 1), .int .i64 LO]) (by simp [results, Tryd.results28, go_sem, hr0, hr1]) rfl ?_
            have hws := ((hrow.other (a := ⟨w.heap.size + 1, 0, none⟩) (by simp; omega) (.slice (some ⟨g, 0, none⟩) (n + 1) (n + 1))).other (a := ⟨w.heap.size + 1, 1, none⟩) (by simp; omega) (.int .i64 LO)).ws (digs_small _ _) (by rw [digs_length]; omega) (n + 1) (by rw [digs_length]; exact Nat.le_refl _)
            rw [digs_length] at hws
            exact ⟨_, _, LO, rfl, hws, HO1.out, HO2.out, ⟨by omega, by omega⟩, (by assumption : _ ∧ _ ∧ _).2.2⟩

set_option maxHeartbeats 400000 in
theorem own_none (a : Option Addr) (cap : Nat) (low : Int) (w : World) :
    Calls Tryd.prog 28 #[.agg #[.slice a 0 cap, .int .i64 low]] w fun e w' => Made w w' 0 low e := by
  go_enter Tryd.func28, Tryd.ntmps28
  go_wp2
  go_region_held3 (fun W => W.cell? ⟨w.heap.size, 0, none⟩ = some (.slice a 0 cap) ∧ W.cell? ⟨w.heap.size, 1, none⟩ = some (.int .i64 low))
    (first | exact ⟨by simp, by simp⟩)
    (fail)
  go_wp2
  go_loop [4] (fun e => e = .int .i64 0) (fun _ => 0)
  case atStart => rfl
  case round =>
    subst hrel
    go_wp2
    refine bodyPost_ret (v := .agg #[.slice none 0 0, .int .i64 0]) (by simp [results, Tryd.results28, go_sem]) rfl ⟨_, [], 0, rfl, ⟨⟨_, _, rfl, Nat.le_refl _, Or.inl rfl⟩, fun n hn => by simp at hn, by simp⟩, Or.inl ⟨rfl, rfl⟩, Or.inl ⟨rfl, rfl, rfl⟩, ⟨by omega, by omega⟩, ?_⟩
    exact (((Below.refl _ _).alloc (Nat.le_refl _) _).alloc (by simp) _).drew

/-- ownForm: the same number, in its own form. -/
theorem own_any (s : Value) (ns : List Nat) (low : Int) (w : World) (h : Ws w s ns) (hT : Tab w) (h2 : -100000000 ≤ low) (h3 : low ≤ 100000000) :
    Calls Tryd.prog 28 #[.agg #[s, .int .i64 low]] w fun e w' => Made w w' (val ns) low e := by
  obtain ⟨⟨a, cap, rfl, hcap, hc⟩, hs, hl⟩ := h
  rcases hc with rfl | ⟨b, off, rfl, hb, hc⟩
  · exact own_none a cap low w
  · exact own_walk b off cap ns low w hcap hb hc hs hl hT h2 h3

end Go.Proofs.YtfcgndgmbmkdgaaDoor

/- The walk of bring: more is added to words, or taken off, word by word. -/
namespace Go.Proofs.YtfcgndgmbmkdgaaDoor
open Go.RowKit

/-- What the step handed to bring gives: a word and what is carried. -/
structure IsStep (fid : Nat) (sv cv : Nat → Nat → Nat → Nat) : Prop where
  run : ∀ (x y c : Nat) (w : World), c ≤ 1 → (callFunc fid #[.int .u64 (x : Nat), .int .u64 (y : Nat), .int .u64 (c : Nat)]).run Tryd.prog w = .ok (.value (.tuple #[.int .u64 (sv x y c : Nat), .int .u64 (cv x y c : Nat)])) w
  word : ∀ x y c, sv x y c < 18446744073709551616
  carry : ∀ x y c, x < 18446744073709551616 → y < 18446744073709551616 → c ≤ 1 → cv x y c ≤ 1

/-- What is left behind bring. -/
def Brought (E : Nat → Nat → Nat → Prop) (more words : List Nat) (g : Nat) (w w' : World) : Prop :=
  ∃ (k c : Nat) (ps : List Nat), k ≤ words.length ∧ c ≤ 1 ∧ ps.length = k ∧ Small ps ∧ E k (val ps) c ∧ (k = words.length ∨ (more.length ≤ k ∧ c = 0)) ∧ Row w' 49 g (wds (ps ++ words.drop k)) ∧ w.grownBy w' (some g)

theorem wds_getD (l : List Nat) (i : Nat) (h : i < l.length) : (wds l)[i]'(by rw [wds_length]; exact h) = .int .u64 (l.getD i 0 : Nat) := by
  simp [wds, List.getD, h]

theorem ps_getD (ps words : List Nat) (k : Nat) (h : ps.length = k) (hk : k < words.length) : (ps ++ words.drop k).getD k 0 = words.getD k 0 := by
  subst h; rw [List.getD, List.getElem?_append_right (Nat.le_refl _), Nat.sub_self, List.getElem?_drop, Nat.add_zero, List.getD]

theorem ps_set (ps words : List Nat) (k v : Nat) (h : ps.length = k) (hk : k < words.length) : (wds (ps ++ words.drop k)).set k (.int .u64 (v : Nat)) = wds ((ps ++ [v]) ++ words.drop (k + 1)) := by
  subst h
  unfold wds
  rw [← List.map_set, List.set_append_right _ _ (Nat.le_refl _), Nat.sub_self, List.append_assoc]
  congr 2
  rw [List.drop_eq_getElem_cons hk]
  rfl

theorem val_snoc (ps : List Nat) (v : Nat) : val (ps ++ [v]) = val ps + 2 ^ (64 * ps.length) * v := by rw [val_append]; simp [val]

theorem grown_set {w wr : World} {g : Nat} (h : w.grownBy wr (some g)) (i : Nat) (v : Value) : w.grownBy (wr.setCell ⟨g, i, none⟩ v) (some g) :=
  ⟨h.1, h.2, h.3, by simpa using h.4, fun k hk hne => by
    rw [Below.heap_setCell wr _ v k (by intro e; exact hne (by rw [e]))]; exact h.5 k hk hne⟩

set_option maxHeartbeats 2000000 in
theorem bring_walk (fid : Nat) (sv cv : Nat → Nat → Nat → Nat) (hst : IsStep fid sv cv) (E : Nat → Nat → Nat → Prop) (more words : List Nat) (g g2 : Nat) (w : World) (hgg : g2 ≠ g)
    (hm : Row w 49 g2 (wds more)) (hms : Small more) (hws : Small words) (hr : Row w 49 g (wds words)) (hl : words.length ≤ 1000000) (hl2 : more.length ≤ 1000000) (h0 : E 0 0 0)
    (hE : ∀ k v c, k < words.length → E k v c → c ≤ 1 → E (k + 1) (v + 2 ^ (64 * k) * sv (words.getD k 0) (more.getD k 0) c) (cv (words.getD k 0) (more.getD k 0) c)) :
    Calls Tryd.prog 87 #[.slice (some ⟨g2, 0, none⟩) more.length more.length, .slice (some ⟨g, 0, none⟩) words.length words.length, .func (.func fid) #[] #[]] w fun e w' => e = .returned (.tuple #[]) ∧ Brought E more words g w w' := by
  have hl' : (words.length : Int) ≤ 1000000 := by omega
  have hl2' : (more.length : Int) ≤ 1000000 := by omega
  go_enter Tryd.func87, Tryd.ntmps87
  go_wp2
  go_step3
  go_wp2
  go_step3
  go_wp2
  go_loopw [6, 11] (fun cr i wr => ∃ (k c : Nat) (ps : List Nat), k ≤ words.length ∧ c ≤ 1 ∧ i = .int .i64 k ∧ cr = .int .u64 c ∧ ps.length = k ∧ Small ps ∧ E k (val ps) c ∧ Row wr 49 g (wds (ps ++ words.drop k)) ∧ w.grownBy wr (some g))
    (fun _ i _ => words.length - (intOf i).toNat)
  case atStart => exact ⟨0, 0, [], Nat.zero_le _, Nat.zero_le _, rfl, rfl, rfl, fun n hn => by simp at hn, h0, by simpa using hr, World.grownBy.refl _ _⟩
  case round =>
    obtain ⟨k, c, ps, hk, hc1, rfl, rfl, hps, hsm, hEk, hrk, hbk⟩ := hrel
    by_cases hlt : k < words.length
    · have hlen : (ps ++ words.drop k).length = words.length := by simp; omega
      have hck : wr.cell? ⟨g, k, none⟩ = some (.int .u64 (words.getD k 0 : Nat)) := by
        rw [hrk.cell k (by rw [wds_length]; omega), wds_getD _ _ (by omega), ps_getD _ _ _ hps hlt]
      have hfk := hrk.frozen k
      have HST : Hid (IsStep fid sv cv) := hst
      have hrun := fun W => hst.run (words.getD k 0) (more.getD k 0) c W hc1
      have HNEW : Hid (Row (wr.setCell ⟨g, k, none⟩ (.int .u64 (sv (words.getD k 0) (more.getD k 0) c : Nat))) 49 g (wds ((ps ++ [sv (words.getD k 0) (more.getD k 0) c]) ++ words.drop (k + 1)))) := by
        rw [← ps_set ps words k _ hps hlt]; exact hrk.set k _
      have HE : Hid (E (k + 1) (val (ps ++ [sv (words.getD k 0) (more.getD k 0) c])) (cv (words.getD k 0) (more.getD k 0) c)) := by
        rw [val_snoc, hps]; exact hE k _ c hlt hEk hc1
      have HS : Hid (Small (ps ++ [sv (words.getD k 0) (more.getD k 0) c])) := by
        intro n hn; rcases List.mem_append.1 hn with h | h
        · exact hsm n h
        · simp at h; rw [h]; exact hst.word _ _ _
      have HC : Hid (cv (words.getD k 0) (more.getD k 0) c ≤ 1) := hst.carry _ _ _ (small_getD hws k) (small_getD hms k) hc1
      have hlt' : (k : Int) < (words.length : Int) := by omega
      by_cases hmk : k < more.length
      · have hcm : wr.cell? ⟨g2, k, none⟩ = some (.int .u64 (more.getD k 0 : Nat)) := by
          refine hbk.cell ?_ (by simp; exact hgg)
          rw [hm.cell k (by rw [wds_length]; omega), wds_getD _ _ hmk]
        have hmk' : (k : Int) < (more.length : Int) := by omega
        generalize sv (words.getD k 0) (more.getD k 0) c = sx at *
        generalize cv (words.getD k 0) (more.getD k 0) c = cx at *
        generalize words.getD k 0 = wx at *
        generalize more.getD k 0 = mx at *
        have HP : Hid _ := hps
        have HBK : Hid _ := hbk
        clear hst hE hEk hsm hrk hm hms hws hr h0 hlen hps hbk
        go_wp2
        exact ⟨⟨k + 1, cx, ps ++ [sx], by omega, HC.out, by go_num, rfl, by simp [HP.out], HS.out, HE.out, HNEW.out, grown_set HBK.out _ _⟩, by simp [intOf]; omega⟩
      · have hmz : more.getD k 0 = 0 := by simp [List.getD, List.getElem?_eq_none (Nat.le_of_not_lt hmk)]
        have hmk' : ¬ ((k : Int) < (more.length : Int)) := by omega
        have hmd : decide ((k : Int) < (more.length : Int)) = false := by simp; omega
        by_cases hc0 : c = 0
        · subst hc0
          have HP : Hid _ := hps
          have HBK : Hid _ := hbk
          have HRK : Hid _ := hrk
          have HEK : Hid _ := hEk
          have HSM : Hid _ := hsm
          clear hst hE hEk hsm hrk hm hms hws hr h0 hlen hps hbk hrun hck hfk HNEW HE HS HC hmz
          go_wp2
          go_end0
          exact ⟨rfl, k, 0, ps, hk, hc1, HP.out, HSM.out, HEK.out, Or.inr ⟨by omega, rfl⟩, HRK.out, HBK.out⟩
        · have hc0' : ((c : Int) == 0) = false := by rw [beq_eq_false_iff_ne]; omega
          simp only [hmz] at hrun
          rw [hmz] at HNEW HE HS HC
          have hrun0 : ∀ W, (callFunc fid #[.int .u64 (words.getD k 0 : Nat), .int .u64 0, .int .u64 (c : Nat)]).run Tryd.prog W = .ok (.value (.tuple #[.int .u64 (sv (words.getD k 0) 0 c : Nat), .int .u64 (cv (words.getD k 0) 0 c : Nat)])) W := hrun
          clear hrun
          generalize sv (words.getD k 0) 0 c = sx at *
          generalize cv (words.getD k 0) 0 c = cx at *
          generalize words.getD k 0 = wx at *
          have HP : Hid _ := hps
          have HBK : Hid _ := hbk
          clear hst hE hEk hsm hrk hm hms hws hr h0 hlen hps hbk hmz
          go_wp2
          exact ⟨⟨k + 1, cx, ps ++ [sx], by omega, HC.out, by go_num, rfl, by simp [HP.out], HS.out, HE.out, HNEW.out, grown_set HBK.out _ _⟩, by simp [intOf]; omega⟩
    · have Hx : Hid _ := hps
      have hge : ¬ ((k : Int) < (words.length : Int)) := by omega
      clear hps
      go_wp2
      go_end0
      exact ⟨rfl, k, c, ps, hk, hc1, Hx.out, hsm, hEk, Or.inl (by omega), hrk, hbk⟩

end Go.Proofs.YtfcgndgmbmkdgaaDoor
