/- Own texts, put together: Xe Ha Hc Xf Xg Ob Jb Jc Je Jf Jg Jh Xh Xi Ji Ia Hd. -/
import Derived.Test.YtgfloegaoofbbaaDoorQ5
import Derived.Test.YtgfloegaoofbbaaDoorQ8
import Derived.Test.YtgfloegaoofbbaaDoorQ12
import Derived.Test.YtgfloegaoofbbaaDoorQ15
import Derived.Test.YtgfloegaoofbbaaDoorQ17
import Derived.Deep.AppendLies
import Derived.OwnWalk
import Derived.Maps.AppendAt
import Derived.RegionTactic
import Derived.Laws.IdiomStrings
namespace Go.Proofs.YtgfloegaoofbbaaDoor
/- The lowest bit of a float, as package expand tells it. -/
section
open Go.RowKit
end

/- How many bits a float has; that two numbers are the same. -/
section
open Go.RowKit
attribute [local go_sem ↓] Go.wp_at_zero Go.wp_at_succ
theorem run_store_float (P : Program) (w : World) (a : Addr) (m : Mode) (k : FloatKind) (b : Nat) : (store a (.float k b) m).run P w = stored P w a (.float k b) m := run_store P w a _ m rfl
theorem Rf.agg {w : World} {v : Value} {q : Rat} (h : Rf w v q) : ∃ S a n c E, v = .agg #[.int .i64 S, .slice a n c, .int .i64 E] := by
 obtain ⟨S, a, n, c, E, h, _⟩ := h.sgn
 exact ⟨S, a, n, c, E, h⟩
end

/- A number and the floats about the one nearest to it: plain facts. Nextafter. -/
section
open Go.RowKit
end

/- Which lists of floats may be, as package expand tells it. -/
section
open Go.RowKit
structure Fs (w : World) (s : Value) (bs : List Nat) : Prop where
 form : ∃ a c, s = .slice a bs.length c ∧ bs.length ≤ c ∧ c ≤ 9223372036854775807 ∧ (bs = [] ∨ ∃ g off, a = some ⟨g, off, none⟩ ∧ ∀ k, k < bs.length → w.cell? ⟨g, off + k, none⟩ = some (.float .f64 (bs.getD k 0)))
 word : ∀ b ∈ bs, b < 18446744073709551616
theorem Fs.later {w w' : World} {s : Value} {bs : List Nat} (h : Fs w s bs) (hb : Below w.heap.size w w') : Fs w' s bs := by
 obtain ⟨⟨a, c, hs, hc, hm, hf⟩, h2⟩ := h
 refine ⟨⟨a, c, hs, hc, hm, ?_⟩, h2⟩
 rcases hf with hf | ⟨g, off, ha, hf⟩
 · exact Or.inl hf
 · exact Or.inr ⟨g, off, ha, fun k hk => box_cell hb (hf k hk)⟩
def MayAt (lo hi : Nat) (bs : List Nat) (i : Nat) : Prop := lo ≤ frung (bs.getD i 0) ∧ frung (bs.getD i 0) ≤ hi ∧ frung (bs.getD i 0) ≠ 0 ∧ (0 < i → Lo (fval (bs.getD (i - 1) 0)) (fval (bs.getD i 0)))
def MayP (lo hi : Nat) (bs : List Nat) : Prop := bs.length ≤ 64 ∧ ∀ i, i < bs.length → MayAt lo hi bs i
theorem ab_fval (b : Nat) (h : Fin64 b) : fval (frung b) = ab (fval b) := by
 have h1 := fval_nonneg (r := frung b) h
 unfold ab
 rcases fval_abs b with e | e <;> rw [e] <;> split <;> grind
end

/- Package expand: whether a list may be, its last float, its sign, a list that grows. -/
section
open Go.RowKit
def lastW (bs : List Nat) : Nat := bs.getD (bs.length - 1) 0
end

/- Which coordinates may be: math.Trunc, grid.stands. -/
section
open Go.RowKit
theorem M_one {q : Rat} : M 1 q ↔ ∃ k : Int, q = (k : Rat) := by
 constructor
 · rintro ⟨k, e⟩; exact ⟨k, by rw [e]; grind⟩
 · rintro ⟨k, e⟩; exact ⟨k, by rw [e]; grind⟩
def Crd (x : Nat) : Prop := frung x ≤ 5057542381537067008 ∧ M (U 974) (fval x)
theorem steps_one {q : Rat} : M 1 (q * U 1174) ↔ M (U 974) q := by
 have hu := U_mulX' (s := 974) (t := 1174) (r := 1074) (by omega)
 have h1 : U 1074 = 1 := by unfold U; exact p2_zero
 rw [h1] at hu
 constructor
 · rintro ⟨k, e⟩
   refine ⟨k, ?_⟩
   have : q * U 1174 * U 974 = (k : Rat) * U 974 := by rw [e, Rat.mul_one]
   rw [← this, Rat.mul_assoc, Rat.mul_comm (U 1174), hu, Rat.mul_one]
 · rintro ⟨k, e⟩
   refine ⟨k, ?_⟩
   rw [e, Rat.mul_assoc, hu]
end

/- Floats by their values: a float is told by its number; what is a float is written exactly; products and conversions that are floats. -/
section
open Go.RowKit
theorem fval_sgn {a : Nat} (ha : Fin64 a) (la : a < 18446744073709551616) : (a = frung a ∧ fval a = fval (frung a)) ∨ (a = 9223372036854775808 + frung a ∧ fval a = -fval (frung a)) := by
 rcases Nat.lt_or_ge a 9223372036854775808 with h | h
 · left
   have e : frung a = a := by unfold frung; omega
   rw [e]; exact ⟨rfl, rfl⟩
 · right
   have e : a = 9223372036854775808 + frung a := by unfold frung; omega
   refine ⟨e, ?_⟩
   have := fval_word (r := frung a) ha
   rw [← this, ← e]
theorem rung_inj {r s : Nat} (hr : r < 9218868437227405312) (hs : s < 9218868437227405312) (h : fval r = fval s) : r = s := by
 rcases Nat.lt_trichotomy r s with a | a | a
 · have := fval_lt a hs; grind
 · exact a
 · have := fval_lt a hr; grind
theorem fval_inj {a b : Nat} (ha : Fin64 a) (hb : Fin64 b) (la : a < 18446744073709551616) (lb : b < 18446744073709551616) (h : fval a = fval b) (h0 : fval a ≠ 0) : a = b := by
 have na := fval_nonneg (r := frung a) ha
 have nb := fval_nonneg (r := frung b) hb
 rcases fval_sgn ha la with ⟨e1, v1⟩ | ⟨e1, v1⟩ <;> rcases fval_sgn hb lb with ⟨e2, v2⟩ | ⟨e2, v2⟩
 · have := rung_inj ha hb (by rw [← v1, ← v2]; exact h)
   omega
 · exfalso; grind
 · exfalso; grind
 · have := rung_inj ha hb (by grind)
   omega
theorem near_finJ {q : Rat} {r : Nat} (h : Near q r) (hq : q < 18014398509481983 * p2 970) : r < 9218868437227405312 := by
 rcases h with ⟨rfl, rfl⟩ | ⟨_, T, k, hl, hh, e⟩
 · omega
 · have hb := kept_bounds hl hh
   have hT : T ≤ 2045 := by
     rcases hl.1 with h | h
     · omega
     · have e1 : ((9007199254740992 : Int) : Rat) * p2 ((T : Int) - 1075) = p2 ((T : Int) - 1022) := by
         rw [show (T : Int) - 1022 = ((T : Int) - 1075) + ((53 : Nat) : Int) by omega, p2_add, p2_nat, Rat.mul_comm]; rfl
       rw [e1] at h
       have e2 : (18014398509481983 : Rat) * p2 970 ≤ p2 1024 := by
         have h1 : p2 1024 = 18014398509481984 * p2 970 := by
           rw [show (1024 : Int) = ((54 : Nat) : Int) + 970 by omega, p2_add, p2_nat]; rfl
         have := p2_pos 970
         rw [h1]
         grind
       have := p2_lt_iff.1 (lt_of_le_lt h (lt_of_lt_le hq e2))
       omega
   rcases Nat.lt_or_ge T 2045 with h | h
   · omega
   · obtain rfl : T = 2045 := by omega
     have s1 := hh.1
     rw [show ((2045 : Nat) : Int) - 1075 = 970 from rfl] at s1
     have s2 : ((2 * (k : Int) - 1 : Int) : Rat) * p2 970 < ((18014398509481983 : Int) : Rat) * p2 970 := lt_of_le_lt s1 hq
     have s3 := int_lt (p2_pos 970) s2
     omega
theorem max_val : fval 9218868437227405311 = 18014398509481982 * p2 970 := by
 rw [(fval_pos_lt (r := 9218868437227405311) (by omega)).1]
 rw [show fmag 9218868437227405311 = 9007199254740991 by decide, show fpl 9218868437227405311 = 1 + 970 by decide, p2_add, p2_one]
 have : ((9007199254740991 : Nat) : Rat) = 9007199254740991 := rfl
 rw [this]; grind
theorem write_exact {s : Bool} {m z : Nat} {place : Int} (hz : Fin64 z) (lz : z < 18446744073709551616) (h : fval z = sgn1 s * ((m : Nat) * p2 place)) (h0 : fval z ≠ 0) : Ieee.double.write (.number s m place) = z := by
 have hm : m ≠ 0 := by
   intro e
   apply h0
   rw [h, e, show ((0 : Nat) : Rat) = 0 from rfl]
   grind
 obtain ⟨r, e, hn⟩ := nearest_near s m place hm
 show Ieee.double.nearest s m place = z
 rw [e]
 have hX0 := (near_nonneg hn).1
 obtain ⟨S, c, hf⟩ := fc_word hz
 have hF := hf.f
 have hmax := fval_le_max (r := frung z) hz
 have hr0 := fval_nonneg (r := frung z) hz
 rw [max_val] at hmax
 have h970 := p2_pos 970
 have hXne : ((m : Nat) : Rat) * p2 place ≠ 0 := by
   intro e; apply h0; rw [h, e]; grind
 have fin : ∀ q : Rat, q = ((m : Nat) : Rat) * p2 place → q = fval (frung z) → F q → r = frung z := by
   intro q e1 e2 hq
   rw [← e1] at hn
   have hb : r < 9218868437227405312 := near_finJ hn (by rw [e2]; grind)
   obtain ⟨T, k, R⟩ := near_rnd hn hb
   have := R.exact hq
   exact rung_inj hb hz (by rw [this, e2])
 generalize hX : ((m : Nat) : Rat) * p2 place = X at *
 rcases fval_sgn hz lz with ⟨ez, ev⟩ | ⟨ez, ev⟩
 · cases s
   · have e2 : X = fval (frung z) := by rw [← ev, h]; simp [sgn1]
     have := fin X rfl e2 (by rw [e2, ← ev]; exact hF)
     rw [word_false]; omega
   · exfalso
     rw [ev] at h
     simp [sgn1] at h
     grind
 · cases s
   · exfalso
     rw [ev] at h
     simp [sgn1] at h
     grind
   · have e2 : X = fval (frung z) := by
       have : -fval (frung z) = -1 * X := by rw [← ev, h]; simp [sgn1]
       grind
     have := fin X rfl e2 (by
       have hn := hF.neg
       rw [ev] at hn
       rw [e2]
       rwa [show - -fval (frung z) = fval (frung z) by grind] at hn)
     rw [Ieee.Format.word, d_sw, if_pos rfl, this]
     exact ez.symm
theorem mul_exact {a b z : Nat} (ha : Fin64 a) (hb : Fin64 b) (hz : Fin64 z) (lz : z < 18446744073709551616) (h : fval z = fval a * fval b) (h0 : fval z ≠ 0) : Ieee.double.mul a b = some z := by
 show ((Ieee.double.read a).product (Ieee.double.read b)).map Ieee.double.write = some z
 rw [read_fin ha, read_fin hb]
 unfold Ieee.Datum.product
 simp only [Option.map_some]
 have e : fval a * fval b = sgn1 (fneg a ^^ fneg b) * (((fmag (frung a) * fmag (frung b) : Nat) : Rat) * p2 (fpl (frung a) + fpl (frung b))) := by
   rw [fval_eq a, fval_eq b, p2_add, Rat.natCast_mul]
   generalize ((fmag (frung a) : Nat) : Rat) = m
   generalize ((fmag (frung b) : Nat) : Rat) = n
   generalize p2 (fpl (frung a)) = u
   generalize p2 (fpl (frung b)) = v
   cases fneg a <;> cases fneg b <;> simp [sgn1] <;> grind
 rw [e] at h
 rw [write_exact hz lz h h0]
def fwJ (n : Int) : Nat := floatOfInt .f64 n
theorem fwJ_val {n : Int} (h1 : -9007199254740992 ≤ n) (h2 : n ≤ 9007199254740992) : Fin64 (fwJ n) ∧ fwJ n < 18446744073709551616 ∧ fval (fwJ n) = (n : Rat) := by
 have hq : ((n.natAbs : Nat) : Rat) * p2 0 < p2 1023 := by
   rw [p2_zero, Rat.mul_one]
   have a : ((n.natAbs : Nat) : Rat) ≤ ((9007199254740992 : Nat) : Rat) := Rat.natCast_le_natCast.2 (by omega)
   have b : ((9007199254740992 : Nat) : Rat) = p2 53 := by rw [show (53 : Int) = ((53 : Nat) : Int) from rfl, p2_nat]
   have c : p2 53 < p2 1023 := p2_lt (by omega)
   rw [b] at a
   grind
 obtain ⟨r, er, fr, lr, hr⟩ := write_rv (decide (n < 0)) n.natAbs 0 hq
 have e : fwJ n = r := er
 have hv : sgn1 (decide (n < 0)) * (((n.natAbs : Nat) : Rat) * p2 0) = (n : Rat) := by
   rw [p2_zero, Rat.mul_one]
   unfold sgn1
   by_cases h : n < 0
   · rw [decide_eq_true h, if_pos rfl]
     have : ((n.natAbs : Nat) : Rat) = ((-n : Int) : Rat) := by
       rw [show ((n.natAbs : Nat) : Rat) = ((n.natAbs : Int) : Rat) from rfl, show (n.natAbs : Int) = -n by omega]
     rw [this, Rat.intCast_neg]; grind
   · rw [decide_eq_false h, if_neg (by decide), Rat.one_mul]
     rw [show ((n.natAbs : Nat) : Rat) = ((n.natAbs : Int) : Rat) from rfl, show (n.natAbs : Int) = n by omega]
 rw [hv] at hr
 rw [e]
 exact ⟨fr, lr, hr.rn.exact (F_int n h1 h2)⟩
end

/- Frexp and Ldexp of floats of either sign, by their numbers. -/
section
open Go.RowKit
theorem fval_norm {s E u : Nat} (hs : s = 0 ∨ s = 9223372036854775808) (h1 : 1 ≤ E) (h2 : E ≤ 2046) (hu : u < 4503599627370496) :
   Fin64 (s + (E * 4503599627370496 + u)) ∧ s + (E * 4503599627370496 + u) < 18446744073709551616 ∧ frung (s + (E * 4503599627370496 + u)) = E * 4503599627370496 + u ∧ fval (s + (E * 4503599627370496 + u)) = (if s = 0 then 1 else -1) * (((4503599627370496 + u : Nat) : Rat) * p2 ((E : Int) - 1075)) := by
 have hr : E * 4503599627370496 + u < 9218868437227405312 := by omega
 have hf : frung (s + (E * 4503599627370496 + u)) = E * 4503599627370496 + u := by unfold frung; omega
 have hv : fval (E * 4503599627370496 + u) = ((4503599627370496 + u : Nat) : Rat) * p2 ((E : Int) - 1075) := by
   rw [(fval_pos_lt hr).1]
   have e1 : fmag (E * 4503599627370496 + u) = 4503599627370496 + u := by unfold fmag; rw [if_neg (by omega)]; omega
   have e2 : fpl (E * 4503599627370496 + u) = (E : Int) - 1075 := by unfold fpl; rw [if_neg (by omega)]; omega
   rw [e1, e2]
 refine ⟨by unfold Fin64; omega, by omega, hf, ?_⟩
 rcases hs with rfl | rfl
 · rw [Nat.zero_add, hv, if_pos rfl, Rat.one_mul]
 · rw [fval_word hr, hv, if_neg (by omega)]; grind
theorem norm_parts {y : Nat} (hy : Fin64 y) (ly : y < 18446744073709551616) (h : 4503599627370496 ≤ frung y) : ∃ s E u, y = s + (E * 4503599627370496 + u) ∧ (s = 0 ∨ s = 9223372036854775808) ∧ 1 ≤ E ∧ E ≤ 2046 ∧ u < 4503599627370496 := by
 unfold Fin64 at hy
 unfold frung at hy h
 refine ⟨y - y % 9223372036854775808, y % 9223372036854775808 / 4503599627370496, y % 9223372036854775808 % 4503599627370496, ?_, ?_, ?_, ?_, ?_⟩ <;> omega
theorem p52_val : fval 4841369599423283200 = p2 52 := by
 rw [(fval_pos_lt (r := 4841369599423283200) (by omega)).1, show fmag 4841369599423283200 = 4503599627370496 by decide, show fpl 4841369599423283200 = 0 by decide, p2_zero, Rat.mul_one, show (52 : Int) = ((52 : Nat) : Int) from rfl, p2_nat]
theorem one_val : fval 4607182418800017408 = 1 := by
 rw [(fval_pos_lt (r := 4607182418800017408) (by omega)).1, show fmag 4607182418800017408 = 2 ^ 52 by decide, show fpl 4607182418800017408 = -((52 : Nat) : Int) by decide, ← p2_nat, Rat.mul_comm, p2_neg]
theorem m53_val : fval 4368491638549381120 = p2 (-53) := by
 rw [(fval_pos_lt (r := 4368491638549381120) (by omega)).1, show fmag 4368491638549381120 = 2 ^ 52 by decide, show fpl 4368491638549381120 = -105 by decide, ← p2_nat, ← p2_add]; rfl
theorem order_small {r : Nat} (h2 : r < 9218868437227405312) : (FloatKind.f64.format.order r 4503599627370496 == some .lt) = decide (r < 4503599627370496) := by
 show (Ieee.double.order r 4503599627370496 == some .lt) = _
 rw [order_fin (by unfold Fin64 frung; omega) (by unfold Fin64 frung; decide)]
 by_cases h : r < 4503599627370496
 · rw [if_pos (by rw [small_iff h2]; omega), decide_eq_true h]; rfl
 · rw [if_neg (by rw [small_iff h2]; omega), decide_eq_false h]; split <;> rfl
set_option maxHeartbeats 1000000 in
theorem normS_walk (x y : Nat) (w : World) (lx : x < 18446744073709551616) (hs : (FloatKind.f64.format.order (x % 9223372036854775808) 4503599627370496 == some .lt) = true) (hm : Ieee.double.mul x 4841369599423283200 = some y) :
   Calls Tryd.prog 59 #[.float .f64 x] w fun e w' => e = .returned (.tuple #[.float .f64 y, .int .i64 (-52)]) ∧ w' = w := by
 have e3 : ∀ w, (binOp .mul 39 (.float .f64 x) (.float .f64 4841369599423283200)).run Tryd.prog w = .ok (.float .f64 y) w := fun w => run_float_arith w .mul _ .f64 x 4841369599423283200 _ hm
 have H2 : Hid (x < 18446744073709551616) := lx
 clear hm lx
 go_enter Tryd.func59, Tryd.ntmps59
 go_wp2_with fail
 refine (abs_any x _ H2.out).mono ?_
 rintro e w' ⟨rfl, rfl⟩
 generalize x % 9223372036854775808 = c at *
 go_wp2
 go_ret2
 exact ⟨rfl, rfl⟩
set_option maxHeartbeats 1000000 in
theorem normB_walk (x : Nat) (w : World) (lx : x < 18446744073709551616) (hs : (FloatKind.f64.format.order (x % 9223372036854775808) 4503599627370496 == some .lt) = false) :
   Calls Tryd.prog 59 #[.float .f64 x] w fun e w' => e = .returned (.tuple #[.float .f64 x, .int .i64 0]) ∧ w' = w := by
 have H2 : Hid (x < 18446744073709551616) := lx
 clear lx
 go_enter Tryd.func59, Tryd.ntmps59
 go_wp2_with fail
 refine (abs_any x _ H2.out).mono ?_
 rintro e w' ⟨rfl, rfl⟩
 generalize x % 9223372036854775808 = c at *
 go_wp2
 go_ret2
 exact ⟨rfl, rfl⟩
theorem normS (x : Nat) (hx : Fin64 x) (lx : x < 18446744073709551616) (h0 : fval x ≠ 0) :
   ∃ y e0, Fin64 y ∧ y < 18446744073709551616 ∧ 4503599627370496 ≤ frung y ∧ (e0 = 0 ∨ e0 = -52) ∧ fval x = fval y * p2 e0 ∧ ∀ w, Calls Tryd.prog 59 #[.float .f64 x] w fun e w' => e = .returned (.tuple #[.float .f64 y, .int .i64 e0]) ∧ w' = w := by
 have hs := order_small (r := x % 9223372036854775808) hx
 by_cases h : frung x < 4503599627370496
 · have h' : x % 9223372036854775808 < 4503599627370496 := h
   rw [decide_eq_true h'] at hs
   have hr0 : frung x ≠ 0 := fun e => h0 (fval_zero_iff.2 e)
   obtain ⟨r, hr⟩ : ∃ r, frung x = r := ⟨_, rfl⟩
   rw [hr] at h hr0
   have a1 := Nat.log2_self_le hr0
   have a2 : r < 2 ^ (Nat.log2 r + 1) := Nat.lt_log2_self
   have a3 : Nat.log2 r < 52 := (Nat.log2_lt hr0).2 h
   have b1 := Nat.mul_le_mul_right (2 ^ (52 - Nat.log2 r)) a1
   have b2 := Nat.mul_lt_mul_of_pos_right a2 (Nat.two_pow_pos (52 - Nat.log2 r))
   rw [← Nat.pow_add, show Nat.log2 r + (52 - Nat.log2 r) = 52 by omega] at b1
   rw [← Nat.pow_add, show Nat.log2 r + 1 + (52 - Nat.log2 r) = 53 by omega] at b2
   obtain ⟨k, hk⟩ : ∃ k, r * 2 ^ (52 - Nat.log2 r) = k := ⟨_, rfl⟩
   rw [hk] at b1 b2
   have hv := fval_rung (Nat.log2 r) k (by omega) (Or.inr (by omega)) (by omega)
   have hvr : fval r = ((r : Nat) : Rat) * p2 (-1074) := by
     rw [(fval_pos_lt (by omega)).1]
     unfold fmag fpl
     rw [if_pos h, if_pos h]
   have e5 : fval (Nat.log2 r * 4503599627370496 + k) = fval r * p2 52 := by
     rw [hv, hvr, ← hk, nat_mul_p2]
     unfold U
     rw [Rat.mul_assoc, ← p2_add, Rat.mul_assoc, ← p2_add]
     congr 2
     omega
   obtain ⟨v, hvv⟩ : ∃ v, Nat.log2 r * 4503599627370496 + k = v := ⟨_, rfl⟩
   rw [hvv] at e5
   have hvb : 4503599627370496 ≤ v ∧ v < 9218868437227405312 := by omega
   have hxs : x = (x - r) + r ∧ (x - r = 0 ∨ x - r = 9223372036854775808) := by unfold frung at hr; omega
   obtain ⟨s, hss⟩ : ∃ s, x - r = s := ⟨_, rfl⟩
   rw [hss] at hxs
   obtain ⟨hx1, hs1⟩ := hxs
   have hy : Fin64 (s + v) ∧ s + v < 18446744073709551616 ∧ frung (s + v) = v ∧ fval (s + v) = fval x * p2 52 := by
     rcases hs1 with rfl | rfl
     · rw [Nat.zero_add] at *
       refine ⟨by unfold Fin64 frung; omega, by omega, by unfold frung; omega, ?_⟩
       rw [hx1]; exact e5
     · refine ⟨by unfold Fin64 frung; omega, by omega, by unfold frung; omega, ?_⟩
       rw [hx1, fval_word hvb.2, fval_word (by omega), e5]; grind
   have hp : p2 52 * p2 (-52) = 1 := by rw [← p2_add, ← p2_zero]; rfl
   have hne : fval (s + v) ≠ 0 := by
     intro e
     have := fval_zero_iff.1 e
     omega
   refine ⟨s + v, -52, hy.1, hy.2.1, by omega, Or.inr rfl, by rw [hy.2.2.2, Rat.mul_assoc, hp, Rat.mul_one], fun w => normS_walk x (s + v) w lx hs (mul_exact hx (by unfold Fin64 frung; decide) hy.1 hy.2.1 (by rw [hy.2.2.2, p52_val]) hne)⟩
 · have h' : ¬ x % 9223372036854775808 < 4503599627370496 := h
   rw [decide_eq_false h'] at hs
   exact ⟨x, 0, hx, lx, by omega, Or.inl rfl, by rw [p2_zero, Rat.mul_one], fun w => normB_walk x w lx hs⟩
theorem flagsS {x : Nat} (hx : Fin64 x) : isinf x = false ∧ isnan x = false := by
 unfold Fin64 at hx
 unfold isinf isnan
 exact ⟨by rw [beq_eq_false_iff_ne]; omega, by simp; omega⟩
theorem zeroS {x : Nat} (h0 : fval x ≠ 0) : (FloatKind.f64.format.order x 0 == some .eq) = false := by
 rw [eql_zero2, decide_eq_false_iff_not]
 exact fun e => h0 (fval_zero_iff.2 e)
theorem and_expS (n : Nat) (_h : n < 4096) : bits .and .u64 (n : Int) 2047 = ((n % 2048 : Nat) : Int) := by
 rw [show (2047 : Int) = ((2047 : Nat) : Int) from rfl, u64_and_nat n _ (by omega) (by omega), show (2047 : Nat) = 2 ^ 11 - 1 by decide, Nat.and_two_pow_sub_one_eq_mod]
theorem and_expSi (n : Nat) (_h : n < 4096) : bits .and .i64 (n : Int) 2047 = ((n % 2048 : Nat) : Int) := by
 have h127 : (BitVec.ofInt 64 2047).toNat = 2 ^ 11 - 1 := by decide
 have key : (BitVec.ofInt 64 (n : Int) &&& BitVec.ofInt 64 2047).toNat = n % 2048 := by
   rw [BitVec.toNat_and, BitVec.toNat_ofInt, h127, Nat.and_two_pow_sub_one_eq_mod]
   omega
 show IntKind.i64.wrap ((BitVec.ofInt 64 (n : Int) &&& BitVec.ofInt 64 2047).toNat : Nat) = _
 rw [key, IntKind.wrap_i64]
 omega
theorem nat_or63 {r : Nat} (h : r < 9223372036854775808) : 9223372036854775808 + r = 2 ^ 63 ||| r := by
 have := Nat.two_pow_add_eq_or_of_lt (i := 63) (b := r) h 1
 rw [Nat.mul_one] at this
 exact this
theorem andNot_expS {s r : Nat} (hs : s = 0 ∨ s = 9223372036854775808) (h : r < 9223372036854775808) : bits .andNot .u64 ((s + r : Nat) : Int) 9218868437227405312 = ((s + r % 4503599627370496 : Nat) : Int) := by
 rcases hs with rfl | rfl
 · rw [Nat.zero_add, Nat.zero_add]; exact andNot_exp r h
 · rw [show (9218868437227405312 : Int) = ((9218868437227405312 : Nat) : Int) from rfl, u64_andNot_nat _ _ (by omega) (by omega)]
   congr 1
   have e : (18446744073709551615 - 9218868437227405312 : Nat) = 2 ^ 63 ||| (2 ^ 52 - 1) := by decide
   rw [e, nat_or63 h, nat_or63 (r := r % 4503599627370496) (by omega), ← Nat.or_and_distrib_left, Nat.and_two_pow_sub_one_eq_mod]
theorem or_expS {s T u : Nat} (hs : s = 0 ∨ s = 9223372036854775808) (hT : T < 2048) (hu : u < 4503599627370496) : bits .or .u64 ((s + u : Nat) : Int) ((T * 4503599627370496 : Nat) : Int) = ((s + (T * 4503599627370496 + u) : Nat) : Int) := by
 rcases hs with rfl | rfl
 · rw [Nat.zero_add, Nat.zero_add]; exact or_exp T u hT hu
 · rw [u64_or_nat _ _ (by omega) (by omega)]
   congr 1
   have e : u ||| T * 4503599627370496 = T * 4503599627370496 + u := by
     rw [show T * 4503599627370496 = 2 ^ 52 * T by rw [Nat.mul_comm], Nat.or_comm, ← Nat.two_pow_add_eq_or_of_lt hu]
   rw [nat_or63 (r := u) (by omega), Nat.or_assoc, e, nat_or63 (by omega)]
set_option maxHeartbeats 2000000 in
theorem frexpS_walk (x y E EE su y' : Nat) (e0 : Int) (w : World) (z : (FloatKind.f64.format.order x 0 == some .eq) = false) (hx : Fin64 x) (lx : x < 18446744073709551616)
   (c0 : ((y : Nat) : Int) / 4503599627370496 = (EE : Int)) (c1 : bits .and .u64 (EE : Int) 2047 = (E : Int)) (c2 : bits .andNot .u64 ((y : Nat) : Int) 9218868437227405312 = (su : Int)) (c3 : bits .or .u64 (su : Int) 4602678819172646912 = (y' : Int)) (hEi : (E : Int) < 2048) (he1 : -100 ≤ e0) (he2 : e0 ≤ 100)
   (hn : ∀ w, Calls Tryd.prog 59 #[.float .f64 x] w fun e w' => e = .returned (.tuple #[.float .f64 y, .int .i64 e0]) ∧ w' = w) :
   Calls Tryd.prog 49 #[.float .f64 x] w fun e w' => e = .returned (.tuple #[.float .f64 y', .int .i64 (e0 + (E : Int) - 1022)]) ∧ w' = w := by
 obtain ⟨f1, f2⟩ := flagsS hx
 have b1 := run_bits y
 have b2 := run_frombits y'
 have HI : Hid (∀ w, Calls Tryd.prog 57 #[.float .f64 x, .int .i64 0] w fun e w' => e = .returned (.bool false) ∧ w' = w) := fun w => by have := isInf0_any x w lx; rwa [f1] at this
 have HN : Hid (∀ w, Calls Tryd.prog 58 #[.float .f64 x] w fun e w' => e = .returned (.bool false) ∧ w' = w) := fun w => by have := isNaN_any x w; rwa [f2] at this
 have HM : Hid (∀ w, Calls Tryd.prog 59 #[.float .f64 x] w fun e w' => e = .returned (.tuple #[.float .f64 y, .int .i64 e0]) ∧ w' = w) := hn
 clear hn f1 f2 hx lx
 go_enter Tryd.func49, Tryd.ntmps49
 go_wp2_with (first
   | (go_at_call 57; refine (HI.out _).mono ?_; rintro e w' ⟨rfl, rfl⟩)
   | (go_at_call 58; refine (HN.out _).mono ?_; rintro e w' ⟨rfl, rfl⟩)
   | (go_at_call 59; refine (HM.out _).mono ?_; rintro e w' ⟨rfl, rfl⟩))
 go_ret2
 exact ⟨ret_fi (by omega), rfl⟩
theorem frexp_val (x : Nat) (hx : Fin64 x) (lx : x < 18446744073709551616) (h0 : fval x ≠ 0) :
   ∃ (f : Nat) (ex m : Int), Fin64 f ∧ f < 18446744073709551616 ∧ fval f = (m : Rat) * p2 (-53) ∧ (4503599627370496 ≤ m ∧ m < 9007199254740992 ∨ -9007199254740992 < m ∧ m ≤ -4503599627370496) ∧ fval x = (m : Rat) * p2 (ex - 53) ∧ -1100 ≤ ex ∧ ex ≤ 1100 ∧
     ∀ w, Calls Tryd.prog 38 #[.float .f64 x] w fun e w' => e = .returned (.tuple #[.float .f64 f, .int .i64 ex]) ∧ w' = w := by
 obtain ⟨y, e0, fy, ly, hy, he, hv, hc⟩ := normS x hx lx h0
 obtain ⟨s, E, u, rfl, hs, h1, h2, hu⟩ := norm_parts fy ly hy
 obtain ⟨_, _, hfr, hvy⟩ := fval_norm hs h1 h2 hu
 obtain ⟨ff, lf, _, hvf⟩ := fval_norm (E := 1022) hs (by omega) (by omega) hu
 have hw := fun w => frexpS_walk x _ E ((s + (E * 4503599627370496 + u)) / 4503599627370496) (s + u) (s + (1022 * 4503599627370496 + u)) e0 w (zeroS h0) hx lx (by omega)
   (by rw [and_expS _ (by omega)]; congr 1; omega) (by rw [andNot_expS hs (by omega)]; congr 1; omega) (show bits .or .u64 ((s + u : Nat) : Int) 4602678819172646912 = _ from or_expS (T := 1022) hs (by omega) hu) (by omega) (by omega) (by omega) hc
 obtain ⟨m, hm, hmb⟩ : ∃ m : Int, (m : Rat) = (if s = 0 then 1 else -1) * ((4503599627370496 + u : Nat) : Rat) ∧ (4503599627370496 ≤ m ∧ m < 9007199254740992 ∨ -9007199254740992 < m ∧ m ≤ -4503599627370496) := by
   by_cases h : s = 0
   · exact ⟨((4503599627370496 + u : Nat) : Int), by rw [if_pos h, Rat.one_mul]; rfl, by omega⟩
   · exact ⟨-((4503599627370496 + u : Nat) : Int), by rw [if_neg h, Rat.intCast_neg]; show -((4503599627370496 + u : Nat) : Rat) = _; grind, by omega⟩
 refine ⟨s + (1022 * 4503599627370496 + u), e0 + (E : Int) - 1022, m, ff, lf, ?_, hmb, ?_, by omega, by omega, fun w => Frexp_of _ _ _ w hw⟩
 · rw [hvf, hm, Rat.mul_assoc]; rfl
 · rw [hv, hvy, hm, Rat.mul_assoc, Rat.mul_assoc, Rat.mul_assoc, ← p2_add]
   congr 3
   omega
set_option maxHeartbeats 2000000 in
set_option maxRecDepth 100000 in
theorem ldexpS_norm (x y E EE su y' z z9 T : Nat) (e0 k : Int) (w : World) (z0 : (FloatKind.f64.format.order x 0 == some .eq) = false) (hx : Fin64 x) (lx : x < 18446744073709551616)
   (c1 : ((y : Nat) : Int) / 4503599627370496 = (EE : Int)) (c2 : bits .and .i64 (EE : Int) 2047 = (E : Int)) (c3 : bits .andNot .u64 ((y : Nat) : Int) 9218868437227405312 = (su : Int)) (c4 : bits .or .u64 (su : Int) (z9 : Int) = (y' : Int)) (c5 : IntKind.u64.wrap ((T : Int) * 4503599627370496) = (z9 : Int))
   (hE : E ≤ 2046) (hEE : EE < 4096) (_hk1 : -5000 ≤ k) (_hk2 : k ≤ 5000) (_he1 : -100 ≤ e0) (_he2 : e0 ≤ 100) (hT : k + e0 + (E : Int) = (T : Int)) (hT1 : 1 ≤ T) (hT2 : T ≤ 2046) (hmul : Ieee.double.mul 4607182418800017408 y' = some z)
   (hn : ∀ w, Calls Tryd.prog 59 #[.float .f64 x] w fun e w' => e = .returned (.tuple #[.float .f64 y, .int .i64 e0]) ∧ w' = w) :
   Calls Tryd.prog 75 #[.float .f64 x, .int .i64 k] w fun e w' => e = .returned (.float .f64 z) ∧ w' = w := by
 obtain ⟨f1, f2⟩ := flagsS hx
 have b1 := run_bits y
 have b2 := run_frombits y'
 have HI : Hid (∀ w, Calls Tryd.prog 57 #[.float .f64 x, .int .i64 0] w fun e w' => e = .returned (.bool false) ∧ w' = w) := fun w => by have := isInf0_any x w lx; rwa [f1] at this
 have HN : Hid (∀ w, Calls Tryd.prog 58 #[.float .f64 x] w fun e w' => e = .returned (.bool false) ∧ w' = w) := fun w => by have := isNaN_any x w; rwa [f2] at this
 have HM : Hid (∀ w, Calls Tryd.prog 59 #[.float .f64 x] w fun e w' => e = .returned (.tuple #[.float .f64 y, .int .i64 e0]) ∧ w' = w) := hn
 have c6 : ∀ w, (binOp .mul 39 (.float .f64 4607182418800017408) (.float .f64 y')).run Tryd.prog w = .ok (.float .f64 z) w := fun w => run_float_arith w .mul _ .f64 _ _ _ hmul
 have g1 : ¬ (k + e0 + ((E : Int) - 1023) < -1075) := by omega
 have g2 : ¬ (1023 < k + e0 + ((E : Int) - 1023)) := by omega
 have g3 : ¬ (k + e0 + ((E : Int) - 1023) < -1022) := by omega
 have g4 : k + e0 + ((E : Int) - 1023) + 1023 = (T : Int) := by omega
 have g7 : (E : Int) ≤ 2046 := by omega
 have g8 : (T : Int) ≤ 2046 := by omega
 have g9 : (EE : Int) < 4096 := by omega
 have HT : Hid (k + e0 + (E : Int) = (T : Int)) := hT
 clear hT hn f1 f2 hx lx hmul
 go_enter Tryd.func75, Tryd.ntmps75
 go_wp2_with (first
   | (go_at_call 57; refine (HI.out _).mono ?_; rintro e w' ⟨rfl, rfl⟩)
   | (go_at_call 58; refine (HN.out _).mono ?_; rintro e w' ⟨rfl, rfl⟩)
   | (go_at_call 59; refine (HM.out _).mono ?_; rintro e w' ⟨rfl, rfl⟩))
 go_ret
 exact ⟨rfl, rfl⟩
set_option maxHeartbeats 2000000 in
set_option maxRecDepth 100000 in
theorem ldexpS_den (x y E EE su y' z z9 T : Nat) (e0 k : Int) (w : World) (z0 : (FloatKind.f64.format.order x 0 == some .eq) = false) (hx : Fin64 x) (lx : x < 18446744073709551616)
   (c1 : ((y : Nat) : Int) / 4503599627370496 = (EE : Int)) (c2 : bits .and .i64 (EE : Int) 2047 = (E : Int)) (c3 : bits .andNot .u64 ((y : Nat) : Int) 9218868437227405312 = (su : Int)) (c4 : bits .or .u64 (su : Int) (z9 : Int) = (y' : Int)) (c5 : IntKind.u64.wrap ((T : Int) * 4503599627370496) = (z9 : Int))
   (hE : E ≤ 2046) (hEE : EE < 4096) (_hk1 : -5000 ≤ k) (_hk2 : k ≤ 5000) (_he1 : -100 ≤ e0) (_he2 : e0 ≤ 100) (hT : k + e0 + (E : Int) + 53 = (T : Int)) (hT1 : 1 ≤ T) (hT2 : T ≤ 53) (hmul : Ieee.double.mul 4368491638549381120 y' = some z)
   (hn : ∀ w, Calls Tryd.prog 59 #[.float .f64 x] w fun e w' => e = .returned (.tuple #[.float .f64 y, .int .i64 e0]) ∧ w' = w) :
   Calls Tryd.prog 75 #[.float .f64 x, .int .i64 k] w fun e w' => e = .returned (.float .f64 z) ∧ w' = w := by
 obtain ⟨f1, f2⟩ := flagsS hx
 have b1 := run_bits y
 have b2 := run_frombits y'
 have HI : Hid (∀ w, Calls Tryd.prog 57 #[.float .f64 x, .int .i64 0] w fun e w' => e = .returned (.bool false) ∧ w' = w) := fun w => by have := isInf0_any x w lx; rwa [f1] at this
 have HN : Hid (∀ w, Calls Tryd.prog 58 #[.float .f64 x] w fun e w' => e = .returned (.bool false) ∧ w' = w) := fun w => by have := isNaN_any x w; rwa [f2] at this
 have HM : Hid (∀ w, Calls Tryd.prog 59 #[.float .f64 x] w fun e w' => e = .returned (.tuple #[.float .f64 y, .int .i64 e0]) ∧ w' = w) := hn
 have c6 : ∀ w, (binOp .mul 39 (.float .f64 4368491638549381120) (.float .f64 y')).run Tryd.prog w = .ok (.float .f64 z) w := fun w => run_float_arith w .mul _ .f64 _ _ _ hmul
 have g1 : ¬ (k + e0 + ((E : Int) - 1023) < -1075) := by omega
 have g2 : ¬ (1023 < k + e0 + ((E : Int) - 1023)) := by omega
 have g3 : k + e0 + ((E : Int) - 1023) < -1022 := by omega
 have g4 : k + e0 + ((E : Int) - 1023) + 53 + 1023 = (T : Int) := by omega
 have g7 : (E : Int) ≤ 2046 := by omega
 have g8 : (T : Int) ≤ 2046 := by omega
 have g9 : (EE : Int) < 4096 := by omega
 have HT : Hid (k + e0 + (E : Int) + 53 = (T : Int)) := hT
 clear hT hn f1 f2 hx lx hmul
 go_enter Tryd.func75, Tryd.ntmps75
 go_wp2_with (first
   | (go_at_call 57; refine (HI.out _).mono ?_; rintro e w' ⟨rfl, rfl⟩)
   | (go_at_call 58; refine (HN.out _).mono ?_; rintro e w' ⟨rfl, rfl⟩)
   | (go_at_call 59; refine (HM.out _).mono ?_; rintro e w' ⟨rfl, rfl⟩))
 go_ret
 exact ⟨rfl, rfl⟩
theorem fin_bounds {z : Nat} (hz : Fin64 z) (lz : z < 18446744073709551616) (h0 : fval z ≠ 0) {X : Rat} (h : fval z = X ∨ fval z = -X) (hX : 0 ≤ X) : X < p2 1024 ∧ p2 (-1074) ≤ X := by
 have e : X = fval (frung z) := by
   have := fval_nonneg (r := frung z) hz
   rcases fval_sgn hz lz with ⟨_, ev⟩ | ⟨_, ev⟩ <;> rcases h with h | h <;> grind
 rw [e]
 have hr0 : frung z ≠ 0 := fun e => h0 (fval_zero_iff.2 e)
 constructor
 · have hmax := fval_le_max (r := frung z) hz
   rw [max_val] at hmax
   have h1 : p2 1024 = 18014398509481984 * p2 970 := by
     rw [show (1024 : Int) = ((54 : Nat) : Int) + 970 by omega, p2_add, p2_nat]; rfl
   have := p2_pos 970
   rw [h1]; grind
 · have e1 : fval 1 = p2 (-1074) := by
     rw [(fval_pos_lt (r := 1) (by omega)).1, show fmag 1 = 1 by decide, show fpl 1 = -1074 by decide]
     show (1 : Rat) * _ = _
     rw [Rat.one_mul]
   rw [← e1]
   rcases Nat.lt_or_ge 1 (frung z) with h | h
   · exact Rat.le_of_lt (fval_lt h hz)
   · rw [show frung z = 1 by omega]; exact Rat.le_refl
theorem Ldexp_val (x z : Nat) (k : Int) (w : World) (hx : Fin64 x) (lx : x < 18446744073709551616) (hz : Fin64 z) (lz : z < 18446744073709551616) (h : fval z = fval x * p2 k) (h0 : fval z ≠ 0) (hk1 : -5000 ≤ k) (hk2 : k ≤ 5000) :
   Calls Tryd.prog 72 #[.float .f64 x, .int .i64 k] w fun e w' => e = .returned (.float .f64 z) ∧ w' = w := by
 have hx0 : fval x ≠ 0 := by intro e; apply h0; rw [h, e]; grind
 obtain ⟨y, e0, fy, ly, hy, he, hv, hc⟩ := normS x hx lx hx0
 obtain ⟨s, E, u, rfl, hs, h1, h2, hu⟩ := norm_parts fy ly hy
 obtain ⟨_, _, hfr, hvy⟩ := fval_norm hs h1 h2 hu
 have hzv : fval z = (if s = 0 then 1 else -1) * (((4503599627370496 + u : Nat) : Rat) * p2 ((E : Int) - 1075 + e0 + k)) := by
   rw [h, hv, hvy, p2_add, p2_add]; grind
 have hX0 : 0 ≤ ((4503599627370496 + u : Nat) : Rat) * p2 ((E : Int) - 1075 + e0 + k) := Rat.mul_nonneg Rat.natCast_nonneg (Rat.le_of_lt (p2_pos _))
 obtain ⟨hb1, hb2⟩ := fin_bounds hz lz h0 (X := ((4503599627370496 + u : Nat) : Rat) * p2 ((E : Int) - 1075 + e0 + k)) (by
   rw [hzv]
   by_cases hs0 : s = 0
   · left; rw [if_pos hs0, Rat.one_mul]
   · right; rw [if_neg hs0]; grind) hX0
 have hl1 : p2 ((E : Int) - 1023 + e0 + k) ≤ ((4503599627370496 + u : Nat) : Rat) * p2 ((E : Int) - 1075 + e0 + k) := by
   rw [show (E : Int) - 1023 + e0 + k = ((52 : Nat) : Int) + ((E : Int) - 1075 + e0 + k) by omega, p2_add, p2_nat]
   exact Rat.mul_le_mul_of_nonneg_right (Rat.natCast_le_natCast.2 (by omega)) (Rat.le_of_lt (p2_pos _))
 have hl2 : ((4503599627370496 + u : Nat) : Rat) * p2 ((E : Int) - 1075 + e0 + k) < p2 ((E : Int) - 1022 + e0 + k) := by
   rw [show (E : Int) - 1022 + e0 + k = ((53 : Nat) : Int) + ((E : Int) - 1075 + e0 + k) by omega, p2_add ((53 : Nat) : Int), p2_nat]
   exact Rat.mul_lt_mul_of_pos_right (Rat.natCast_lt_natCast.2 (by omega)) (p2_pos _)
 have q1 := p2_lt_iff.1 (lt_of_le_lt hl1 hb1)
 have q2 := p2_lt_iff.1 (lt_of_le_lt hb2 hl2)
 refine Ldexp_of _ _ _ w (fun w => ?_)
 by_cases hd : k + e0 + (E : Int) < 1
 · obtain ⟨T, hT⟩ : ∃ T : Nat, k + e0 + (E : Int) + 53 = (T : Int) := ⟨(k + e0 + (E : Int) + 53).toNat, by omega⟩
   obtain ⟨fy', ly', _, hvy'⟩ := fval_norm (E := T) hs (by omega) (by omega) hu
   exact ldexpS_den x _ E ((s + (E * 4503599627370496 + u)) / 4503599627370496) (s + u) (s + (T * 4503599627370496 + u)) z (T * 4503599627370496) T e0 k w (zeroS hx0) hx lx (by omega)
     (by rw [and_expSi _ (by omega)]; congr 1; omega) (by rw [andNot_expS hs (by omega)]; congr 1; omega) (or_expS hs (by omega) hu) (by rw [IntKind.wrap_u64]; omega) (by omega) (by omega) hk1 hk2 (by omega) (by omega) hT (by omega) (by omega)
     (mul_exact (by unfold Fin64 frung; decide) fy' hz lz (by
       rw [hzv, m53_val, hvy', show (E : Int) - 1075 + e0 + k = -53 + ((T : Int) - 1075) by omega, p2_add]
       grind) h0) hc
 · obtain ⟨T, hT⟩ : ∃ T : Nat, k + e0 + (E : Int) = (T : Int) := ⟨(k + e0 + (E : Int)).toNat, by omega⟩
   obtain ⟨fy', ly', _, hvy'⟩ := fval_norm (E := T) hs (by omega) (by omega) hu
   exact ldexpS_norm x _ E ((s + (E * 4503599627370496 + u)) / 4503599627370496) (s + u) (s + (T * 4503599627370496 + u)) z (T * 4503599627370496) T e0 k w (zeroS hx0) hx lx (by omega)
     (by rw [and_expSi _ (by omega)]; congr 1; omega) (by rw [andNot_expS hs (by omega)]; congr 1; omega) (or_expS hs (by omega) hu) (by rw [IntKind.wrap_u64]; omega) (by omega) (by omega) hk1 hk2 (by omega) (by omega) hT (by omega) (by omega)
     (mul_exact (by unfold Fin64 frung; decide) fy' hz lz (by
       rw [hzv, one_val, hvy', show (E : Int) - 1075 + e0 + k = (T : Int) - 1075 by omega, Rat.one_mul]) h0) hc
end

/- Package digits: odd, times. -/
section
open Go.RowKit Go.Shelf Go.Lib
def OddOf (n n' : Int) (k : Nat) : Prop := n = n' * ((2 ^ k : Nat) : Int) ∧ n' % 2 = 1 ∧ k < 64
theorem odd_math (n : Int) (h0 : n ≠ 0) (hn : InR n) : ∃ n' : Int, OddOf n n' (ctz 64 (n % 18446744073709551616).toNat) ∧ n / ((2 ^ ctz 64 (n % 18446744073709551616).toNat : Nat) : Int) = n' ∧ (n % 18446744073709551616).toNat ≠ 0 ∧ (n % 18446744073709551616).toNat < 18446744073709551616 := by
 obtain ⟨x, hx⟩ : ∃ x : Nat, (n % 18446744073709551616).toNat = x := ⟨_, rfl⟩
 obtain ⟨h1, h2⟩ := hn
 have hx0 : x ≠ 0 := by omega
 have hxl : x < 18446744073709551616 := by omega
 rw [hx]
 obtain ⟨m, e, hc⟩ := ctz_spec x hxl hx0
 obtain ⟨c, hcc⟩ : ∃ c, ctz 64 x = c := ⟨_, rfl⟩
 rw [hcc] at e hc ⊢
 have hp : (0 : Int) < ((2 ^ c : Nat) : Int) := by have := Nat.two_pow_pos c; omega
 have h64 : (2 ^ c * 2 ^ (64 - c) : Nat) = 18446744073709551616 := by rw [← Nat.pow_add, show c + (64 - c) = 64 by omega]
 obtain ⟨d, hd⟩ : ∃ d, 64 - c = d + 1 := ⟨63 - c, by omega⟩
 rw [hd, Nat.pow_succ] at h64
 obtain ⟨P, hP⟩ : ∃ P, 2 ^ c = P := ⟨_, rfl⟩
 rw [hP] at e hp h64
 generalize 2 ^ d = D at *
 have key : ∃ n', n = n' * (P : Int) ∧ n' % 2 = 1 := by
   by_cases h : n < 0
   · refine ⟨2 * (m : Int) + 1 - 2 * (D : Int), ?_, by omega⟩
     have e1 : n = (x : Int) - 18446744073709551616 := by omega
     have e2 : (x : Int) = (P : Int) * (2 * (m : Int) + 1) := by rw [e, Int.natCast_mul, show ((2 * m + 1 : Nat) : Int) = 2 * (m : Int) + 1 by omega]
     have e3 : (P : Int) * ((D : Int) * 2) = 18446744073709551616 := by rw [show (D : Int) * 2 = ((D * 2 : Nat) : Int) by omega, ← Int.natCast_mul, h64]; rfl
     rw [e1, e2, ← e3]
     rw [Int.sub_mul, Int.mul_comm (P : Int) (2 * (m : Int) + 1), Int.mul_comm (P : Int) ((D : Int) * 2), Int.mul_comm (D : Int) 2]
   · refine ⟨2 * (m : Int) + 1, ?_, by omega⟩
     have e1 : n = (x : Int) := by omega
     have e2 : (x : Int) = (P : Int) * (2 * (m : Int) + 1) := by rw [e, Int.natCast_mul, show ((2 * m + 1 : Nat) : Int) = 2 * (m : Int) + 1 by omega]
     rw [e1, e2, Int.mul_comm]
 obtain ⟨n', k1, k2⟩ := key
 exact ⟨n', ⟨by rw [hP]; exact k1, k2, hc⟩, by rw [hP, k1]; exact Int.mul_ediv_cancel _ (by omega), hx0, hxl⟩
set_option maxHeartbeats 1000000 in
theorem odd_any (n e : Int) (h0 : n ≠ 0) (hn : InR n) (he1 : -9223372036854775808 ≤ e) (he2 : e ≤ 4611686018427387904) :
   ∃ n' k, OddOf n n' k ∧ ∀ w, Tab w → Calls Tryd.prog 70 #[.int .i64 n, .int .i64 e] w fun r w' => r = .returned (.tuple #[.int .i64 n', .int .i64 (e + (k : Nat))]) ∧ w' = w := by
 obtain ⟨n', ho, hdiv, hx0, hxl⟩ := odd_math n h0 hn
 obtain ⟨x, hx⟩ : ∃ x : Nat, (n % 18446744073709551616).toNat = x := ⟨_, rfl⟩
 rw [hx] at ho hdiv hx0 hxl
 obtain ⟨c, hcc⟩ : ∃ c, ctz 64 x = c := ⟨_, rfl⟩
 have HZ : Hid (∀ w, Tab w → Calls Tryd.prog 73 #[.int .u64 x] w fun e w' => e = .returned (.int .i64 (c : Nat)) ∧ w' = w) := fun w hT => by have := tz64_any x hxl hx0 w hT; rwa [hcc] at this
 rw [hcc] at ho hdiv
 refine ⟨n', c, ho, fun w hT => ?_⟩
 have HT : Hid (Tab w) := hT
 have hc := ho.2.2
 have hxe : IntKind.u64.wrap n = (x : Int) := by rw [IntKind.wrap_u64]; omega
 have HO := Lib.hid ho
 have HD := Lib.hid hdiv
 clear ho hdiv hx hcc hx0 hxl h0 hn hT
 go_enter Tryd.func70, Tryd.ntmps70
 go_wp2_with (first
   | (go_at_call 73; refine (HZ.out _ HT.out).mono ?_; rintro e w' ⟨rfl, rfl⟩))
 go_ret2
 exact ⟨ret_ii1 (by rw [← HD.out, Int.natCast_pow]; rfl), rfl⟩
theorem nat_of_rat {a b : Nat} {u : Rat} (hu : 0 < u) (h : ((a : Nat) : Rat) * u = ((b : Nat) : Rat) * u) : a = b := by
 have := int_eq hu (show ((a : Int) : Rat) * u = ((b : Int) : Rat) * u from h)
 omega
theorem fin_mag {y : Nat} (_hy : Fin64 y) : ∃ (m : Nat) (p : Int), m < 9007199254740992 ∧ -1074 ≤ p ∧ (fval y = (m : Rat) * p2 p ∨ fval y = -((m : Rat) * p2 p)) := by
 refine ⟨fmag (frung y), fpl (frung y), fmag_lt _, by unfold fpl; split <;> omega, ?_⟩
 rw [fval_eq]
 unfold sgn1
 cases fneg y
 · left; rw [if_neg (by decide), Rat.one_mul]
 · right; rw [if_pos rfl]; grind
theorem mag_of {n : Int} {e : Int} {m : Nat} {p : Int} {v : Rat} (h1 : v = (m : Rat) * p2 p ∨ v = -((m : Rat) * p2 p)) (h2 : v = (n : Rat) * p2 e) : ((m : Nat) : Rat) * p2 p = ((n.natAbs : Nat) : Rat) * p2 e := by
 have ha := abs_total n (p2 e)
 have hm : (0 : Rat) ≤ ((m : Nat) : Rat) * p2 p := Rat.mul_nonneg Rat.natCast_nonneg (Rat.le_of_lt (p2_pos _))
 have hn : (0 : Rat) ≤ ((n.natAbs : Nat) : Rat) * p2 e := Rat.mul_nonneg Rat.natCast_nonneg (Rat.le_of_lt (p2_pos _))
 generalize ((m : Nat) : Rat) * p2 p = X at *
 generalize ((n.natAbs : Nat) : Rat) * p2 e = Y at *
 generalize (n : Rat) * p2 e = Z at *
 split at ha <;> rcases h1 with h1 | h1 <;> grind
theorem no_big {n e : Int} (ho : n % 2 = 1) (h : 9007199254740992 ≤ n.natAbs) : ∀ y, Fin64 y → fval y ≠ (n : Rat) * p2 e := by
 intro y hy hv
 obtain ⟨m, p, hm, hp, hd⟩ := fin_mag hy
 have hq := mag_of hd hv
 rcases Int.le_total e p with h1 | h1
 · obtain ⟨k, hk⟩ : ∃ k : Nat, p = (k : Int) + e := ⟨(p - e).toNat, by omega⟩
   rw [hk, p2_add, ← Rat.mul_assoc, ← nat_mul_p2] at hq
   have := nat_of_rat (p2_pos e) hq
   cases k with
   | zero => rw [Nat.pow_zero] at this; omega
   | succ k => rw [Nat.pow_succ, ← Nat.mul_assoc] at this; omega
 · obtain ⟨k, hk⟩ : ∃ k : Nat, e = (k : Int) + p := ⟨(e - p).toNat, by omega⟩
   rw [hk, p2_add, ← Rat.mul_assoc, ← nat_mul_p2] at hq
   have := nat_of_rat (p2_pos p) hq
   have h2 : n.natAbs * 1 ≤ n.natAbs * 2 ^ k := Nat.mul_le_mul_left _ (Nat.two_pow_pos k)
   omega
theorem no_low {n e : Int} (ho : n % 2 = 1) (h : e < -1074) : ∀ y, Fin64 y → fval y ≠ (n : Rat) * p2 e := by
 intro y hy hv
 obtain ⟨m, p, hm, hp, hd⟩ := fin_mag hy
 have hq := mag_of hd hv
 obtain ⟨k, hk⟩ : ∃ k : Nat, p = ((k + 1 : Nat) : Int) + e := ⟨(p - e - 1).toNat, by omega⟩
 rw [hk, p2_add, ← Rat.mul_assoc, ← nat_mul_p2] at hq
 have := nat_of_rat (p2_pos e) hq
 rw [Nat.pow_succ, ← Nat.mul_assoc] at this
 omega
theorem p2_log (m : Nat) (hm : m ≠ 0) : p2 ((Nat.log2 m : Nat) : Int) ≤ ((m : Nat) : Rat) := by
 rw [p2_nat]; exact Rat.natCast_le_natCast.2 (Nat.log2_self_le hm)
theorem no_high {n e : Int} (h0 : n ≠ 0) (h : 1024 ≤ e + ((Nat.log2 n.natAbs : Nat) : Int)) : ∀ y, Fin64 y → y < 18446744073709551616 → fval y ≠ (n : Rat) * p2 e := by
 intro y hy ly hv
 have ha := abs_total n (p2 e)
 have hX0 : (0 : Rat) ≤ ((n.natAbs : Nat) : Rat) * p2 e := Rat.mul_nonneg Rat.natCast_nonneg (Rat.le_of_lt (p2_pos _))
 have hl : p2 (e + ((Nat.log2 n.natAbs : Nat) : Int)) ≤ ((n.natAbs : Nat) : Rat) * p2 e := by
   rw [p2_add, Rat.mul_comm]
   exact Rat.mul_le_mul_of_nonneg_right (p2_log _ (by omega)) (Rat.le_of_lt (p2_pos _))
 have hm := p2_mono h
 have hy0 : fval y ≠ 0 := by
   rw [hv]
   intro e0
   have hp := p2_pos (e + ((Nat.log2 n.natAbs : Nat) : Int))
   rw [e0] at ha
   split at ha <;> grind
 obtain ⟨b1, _⟩ := fin_bounds hy ly hy0 (X := ((n.natAbs : Nat) : Rat) * p2 e) (by
   rw [hv]
   split at ha
   · right; rw [ha]; grind
   · left; rw [ha]) hX0
 grind
set_option maxRecDepth 100000 in
theorem word_exists (m : Nat) (e : Int) (hm : m ≠ 0) (h53 : m < 9007199254740992) (he : -1074 ≤ e) (hh : e + ((Nat.log2 m : Nat) : Int) ≤ 1023) : ∃ r, r < 9218868437227405312 ∧ fval r = ((m : Nat) : Rat) * p2 e := by
 obtain ⟨p, hp⟩ : ∃ p, Nat.log2 m = p := ⟨_, rfl⟩
 have a1 := Nat.log2_self_le hm
 have a2 : m < 2 ^ (Nat.log2 m + 1) := Nat.lt_log2_self
 have a3 : Nat.log2 m < 53 := (Nat.log2_lt hm).2 h53
 rw [hp] at a1 a2 a3 hh
 by_cases h : e + (p : Int) < -1022
 · obtain ⟨j, hj⟩ : ∃ j : Nat, e = (j : Int) + -1074 := ⟨(e + 1074).toNat, by omega⟩
   have hk : m * 2 ^ j < 4503599627370496 := by
     have b := Nat.mul_lt_mul_of_pos_right a2 (Nat.two_pow_pos j)
     rw [← Nat.pow_add] at b
     have c : 2 ^ (p + 1 + j) ≤ 2 ^ 52 := Nat.pow_le_pow_right (by omega) (by omega)
     omega
   obtain ⟨q, hq⟩ : ∃ q, m * 2 ^ j = q := ⟨_, rfl⟩
   rw [hq] at hk
   clear a1 a2
   have q1 : q < 9218868437227405312 := Nat.lt_trans hk (by decide)
   have q2 : q ≤ 9007199254740992 := Nat.le_of_lt (Nat.lt_trans hk (by decide))
   have := fval_rung 0 q q2 (Or.inl rfl) (by rw [Nat.zero_mul, Nat.zero_add]; exact q1)
   refine ⟨0 * 4503599627370496 + q, by rw [Nat.zero_mul, Nat.zero_add]; exact q1, this.trans ?_⟩
   rw [← hq, nat_mul_p2, hj, p2_add, Rat.mul_assoc]
   rfl
 · obtain ⟨j, hj⟩ : ∃ j : Nat, j + p = 52 := ⟨52 - p, by omega⟩
   obtain ⟨T, hT⟩ : ∃ T : Nat, (T : Int) = e + (p : Int) + 1022 := ⟨(e + (p : Int) + 1022).toNat, by omega⟩
   have b1 := Nat.mul_le_mul_right (2 ^ j) a1
   have b2 := Nat.mul_lt_mul_of_pos_right a2 (Nat.two_pow_pos j)
   rw [← Nat.pow_add, show p + j = 52 by omega] at b1
   rw [← Nat.pow_add, show p + 1 + j = 53 by omega] at b2
   obtain ⟨q, hq⟩ : ∃ q, m * 2 ^ j = q := ⟨_, rfl⟩
   rw [hq] at b1 b2
   clear a1 a2
   have hT2 : T ≤ 2045 := by omega
   have q1 : T * 4503599627370496 + q < 9218868437227405312 := by
     have := Nat.mul_le_mul_right 4503599627370496 hT2
     clear hj hT h hh he hp a3 h53 hm hq
     omega
   have := fval_rung T q (Nat.le_of_lt b2) (Or.inr b1) q1
   refine ⟨T * 4503599627370496 + q, q1, this.trans ?_⟩
   rw [← hq, nat_mul_p2]
   unfold U
   rw [Rat.mul_assoc, ← p2_add]
   congr 2
   omega
theorem word_signed (n e : Int) (h0 : n ≠ 0) (h53 : n.natAbs < 9007199254740992) (he : -1074 ≤ e) (hh : e + ((Nat.log2 n.natAbs : Nat) : Int) ≤ 1023) : ∃ z, Fin64 z ∧ z < 18446744073709551616 ∧ fval z = (n : Rat) * p2 e ∧ fval z ≠ 0 := by
 obtain ⟨r, hr, hv⟩ := word_exists n.natAbs e (by omega) h53 he hh
 have ha := abs_total n (p2 e)
 have hp : 0 < ((n.natAbs : Nat) : Rat) * p2 e := Rat.mul_pos (Rat.natCast_pos.2 (by omega)) (p2_pos _)
 split at ha
 · refine ⟨9223372036854775808 + r, by unfold Fin64 frung; omega, by omega, ?_, ?_⟩
   · rw [fval_word hr, hv, ha]; grind
   · rw [fval_word hr, hv]; grind
 · exact ⟨r, by unfold Fin64 frung; omega, by omega, by rw [hv, ha], by rw [hv]; grind⟩
def TimesR (n e : Int) (x : Nat) (ok : Bool) : Prop :=
 (ok = true ∧ Fin64 x ∧ x < 18446744073709551616 ∧ fval x = (n : Rat) * p2 e ∧ (n = 0 → x = 0)) ∨ (ok = false ∧ x = 0 ∧ ∀ y, Fin64 y → y < 18446744073709551616 → fval y ≠ (n : Rat) * p2 e)
theorem odd_val {n n' e : Int} {k : Nat} (h : OddOf n n' k) : (n : Rat) * p2 e = (n' : Rat) * p2 (e + (k : Nat)) := by
 rw [h.1, Rat.intCast_mul, Int.add_comm, p2_add, p2_nat, Rat.mul_assoc]
 rfl
set_option maxHeartbeats 2000000 in
theorem times_any (n e : Int) (hn : InR n) (he : InR e) :
   ∃ x ok, TimesR n e x ok ∧ ∀ w, Tab w → Calls Tryd.prog 65 #[.int .i64 n, .int .i64 e] w fun r w' => r = .returned (.tuple #[.float .f64 x, .bool ok]) ∧ w' = w := by
 by_cases h0 : n = 0
 · subst h0
   refine ⟨0, true, Or.inl ⟨rfl, fin_zero, by omega, by rw [fval_zero]; show (0 : Rat) = 0 * _; grind, fun _ => rfl⟩, fun w hT => ?_⟩
   clear hT
   go_enter Tryd.func65, Tryd.ntmps65
   go_wp2
   go_ret2
   exact ⟨rfl, rfl⟩
 by_cases h1 : 1023 < e
 · refine ⟨0, false, Or.inr ⟨rfl, rfl, no_high h0 (by omega)⟩, fun w hT => ?_⟩
   clear hT
   go_enter Tryd.func65, Tryd.ntmps65
   go_wp2
   go_ret2
   exact ⟨rfl, rfl⟩
 obtain ⟨n', k, ho, hc⟩ := odd_any n e h0 hn he.1 (by omega)
 obtain ⟨he1, he2⟩ := he
 have hval := odd_val (e := e) ho
 have hodd := ho.2.1
 have hk := ho.2.2
 have hn' : n'.natAbs ≤ 9223372036854775808 ∧ n' ≠ 0 := by
   refine ⟨?_, by omega⟩
   have e1 := congrArg Int.natAbs ho.1
   rw [Int.natAbs_mul, Int.natAbs_natCast] at e1
   have e2 : n'.natAbs * 1 ≤ n'.natAbs * 2 ^ k := Nat.mul_le_mul_left _ (Nat.two_pow_pos k)
   have := hn.1
   have := hn.2
   omega
 have hn1 : -9223372036854775807 ≤ n' := by omega
 have hn2 : n' ≤ 9223372036854775807 := by omega
 obtain ⟨L, hL⟩ : ∃ L : Nat, Nat.log2 n'.natAbs + 1 = L := ⟨_, rfl⟩
 have hLb : L ≤ 64 := by
   have := (Nat.log2_lt (n := n'.natAbs) (k := 64) (by omega)).2 (by omega)
   omega
 have HL : Hid (∀ w, Calls Tryd.prog 71 #[.int .u64 (max n' (-n'))] w fun e w' => e = .returned (.int .i64 (L : Nat)) ∧ w' = w) := fun w => by
   have := len64_any (n'.natAbs : Nat) w (by omega) (by omega)
   rw [Int.toNat_natCast, hL] at this
   rw [show max n' (-n') = (n'.natAbs : Nat) by rw [Int.max_def]; split <;> omega]
   exact this
 obtain ⟨ek, hek⟩ : ∃ ek : Int, e + (k : Nat) = ek := ⟨_, rfl⟩
 rw [hek] at hc hval
 have hek1 : -9223372036854775808 ≤ ek := by omega
 have hek2 : ek ≤ 1086 := by omega
 have HC : Hid (∀ w, Tab w → Calls Tryd.prog 70 #[.int .i64 n, .int .i64 e] w fun r w' => r = .returned (.tuple #[.int .i64 n', .int .i64 ek]) ∧ w' = w) := hc
 have hno : ∀ (P : Prop), (P → ∀ y, Fin64 y → y < 18446744073709551616 → fval y ≠ (n' : Rat) * p2 ek) → P → TimesR n e 0 false := fun P h hP => Or.inr ⟨rfl, rfl, by rw [hval]; exact h hP⟩
 have HW : Hid (L = Nat.log2 n'.natAbs + 1) := hL.symm
 have H53 : Hid (53 < L ↔ 9007199254740992 ≤ n'.natAbs) := by
   show 53 < L ↔ 9007199254740992 ≤ n'.natAbs
   have := Nat.log2_lt (n := n'.natAbs) (k := 53) (by omega)
   omega
 have HV := Lib.hid hval
 clear hval hc hL hek ho
 have HLi : (L : Int) ≤ 64 := by omega
 by_cases hA : 53 < L
 · refine ⟨0, false, hno _ (fun _ y hy _ => no_big hodd (H53.out.1 hA) y hy) hA, fun w hT => ?_⟩
   have HT : Hid (Tab w) := hT
   clear hno hT
   go_enter Tryd.func65, Tryd.ntmps65
   go_wp2_with (first
     | (go_at_call 70; refine (HC.out _ HT.out).mono ?_; rintro e w' ⟨rfl, rfl⟩)
     | (go_at_call 71; refine (HL.out _).mono ?_; rintro e w' ⟨rfl, rfl⟩))
   go_ret2
   exact ⟨rfl, rfl⟩
 by_cases hB : ek < -1074
 · refine ⟨0, false, hno _ (fun _ y hy _ => no_low hodd hB y hy) hB, fun w hT => ?_⟩
   have HT : Hid (Tab w) := hT
   clear hno hT
   go_enter Tryd.func65, Tryd.ntmps65
   go_wp2_with (first
     | (go_at_call 70; refine (HC.out _ HT.out).mono ?_; rintro e w' ⟨rfl, rfl⟩)
     | (go_at_call 71; refine (HL.out _).mono ?_; rintro e w' ⟨rfl, rfl⟩))
   go_ret2
   exact ⟨rfl, rfl⟩
 by_cases hD : 1023 < ek + (L : Int) - 1
 · refine ⟨0, false, hno _ (fun _ => no_high hn'.2 (by have := HW.out; omega)) hD, fun w hT => ?_⟩
   have HT : Hid (Tab w) := hT
   clear hno hT
   go_enter Tryd.func65, Tryd.ntmps65
   go_wp2_with (first
     | (go_at_call 70; refine (HC.out _ HT.out).mono ?_; rintro e w' ⟨rfl, rfl⟩)
     | (go_at_call 71; refine (HL.out _).mono ?_; rintro e w' ⟨rfl, rfl⟩))
   go_ret2
   exact ⟨rfl, rfl⟩
 obtain ⟨z, fz, lz, vz, z0⟩ := word_signed n' ek hn'.2 (by have := H53.out; omega) (by omega) (by have := HW.out; omega)
 refine ⟨z, true, Or.inl ⟨rfl, fz, lz, by rw [vz, HV.out], fun h => absurd h h0⟩, fun w hT => ?_⟩
 obtain ⟨ff, lf, vf⟩ := fwJ_val (n := n') (by have := H53.out; omega) (by have := H53.out; omega)
 have HX : Hid (∀ w, Calls Tryd.prog 72 #[.float .f64 (floatOfInt .f64 n'), .int .i64 ek] w fun e w' => e = .returned (.float .f64 z) ∧ w' = w) := fun w => Ldexp_val (fwJ n') z ek w ff lf fz lz (by rw [vz, vf]) z0 (by omega) (by omega)
 have HT : Hid (Tab w) := hT
 clear hT hno ff lf vf fz lz vz z0
 go_enter Tryd.func65, Tryd.ntmps65
 go_wp2_with (first
     | (go_at_call 70; refine (HC.out _ HT.out).mono ?_; rintro e w' ⟨rfl, rfl⟩)
     | (go_at_call 71; refine (HL.out _).mono ?_; rintro e w' ⟨rfl, rfl⟩)
     | (go_at_call 72; refine (HX.out _).mono ?_; rintro e w' ⟨rfl, rfl⟩))
 go_ret2
 exact ⟨rfl, rfl⟩
end

/- Package digits: Float (a text is cut at its b), Text. -/
section
set_option maxRecDepth 100000
open Go.RowKit Go.Shelf Go.Lib
set_option maxHeartbeats 1000000 in
theorem indexByte_any (s : ByteArray) (c : Int) (w : World) :
   Calls Tryd.prog 60 #[.string s, .int .u8 c] w fun e w' => e = .returned (.int .i64 (indexByte s.data.toList c.toNat.toUInt8)) ∧ w' = w := by
 go_enter Tryd.func60, Tryd.ntmps60
 go_wp2
 rw [run_callFunc_extern Tryd.func67 (by kernel_rfl) (by kernel_rfl) (by kernel_rfl) (e := Extern.BytealgIndexByte.indexByte) (by kernel_rfl), Lib.run_indexByteString]
 simp only [Result.andThen]
 rw [Oper.upon_value]
 go_wp2
 go_ret
 exact ⟨rfl, rfl⟩
set_option maxHeartbeats 1000000 in
theorem index_any (s : ByteArray) (w : World) :
   Calls Tryd.prog 50 #[.string s, .string ⟨#[98]⟩] w fun e w' => e = .returned (.int .i64 (indexByte s.data.toList 98)) ∧ w' = w := by
 have HI : Hid (∀ w, Calls Tryd.prog 60 #[.string s, .int .u8 98] w fun e w' => e = .returned (.int .i64 (indexByte s.data.toList 98)) ∧ w' = w) := fun w => indexByte_any s 98 w
 have HS : Hid (s.toList = s.data.toList) := Lib.toList_data s
 by_cases h : s.data.toList = [98]
 · have h1 : ([98] == s.toList) = true := by rw [HS.out, h]; rfl
   have h2 : indexByte s.data.toList 98 = 0 := by rw [h]; rfl
   rw [h2]
   clear h2 h
   go_enter Tryd.func50, Tryd.ntmps50
   go_wp2_with (first | (go_at_call 60; refine (HI.out _).mono ?_; rintro e w' ⟨rfl, rfl⟩))
   go_ret
   exact ⟨rfl, rfl⟩
 · have h1 : ([98] == s.toList) = false := by rw [HS.out, beq_eq_false_iff_ne]; exact fun e => h e.symm
   clear h
   go_enter Tryd.func50, Tryd.ntmps50
   go_wp2_with (first | (go_at_call 60; refine (HI.out _).mono ?_; rintro e w' ⟨rfl, rfl⟩))
   go_ret
   exact ⟨rfl, rfl⟩
def cutV (s : ByteArray) : Value := match cutb s.data.toList with
 | none => .tuple #[.string s, .string ⟨#[]⟩, .bool false]
 | some (h, t) => .tuple #[sv h, sv t, .bool true]
set_option maxHeartbeats 1000000 in
theorem cutlite_any (s : ByteArray) (w : World) (hs : s.size ≤ 1000000) :
   Calls Tryd.prog 39 #[.string s, .string ⟨#[98]⟩] w fun e w' => e = .returned (cutV s) ∧ Below w.heap.size w w' := by
 have HI : Hid (∀ w, Calls Tryd.prog 50 #[.string s, .string ⟨#[98]⟩] w fun e w' => e = .returned (.int .i64 (indexByte s.data.toList 98)) ∧ w' = w) := fun w => index_any s w
 have hsz := Lib.size_eq s
 rcases cutb_index s.data.toList with ⟨e1, e2⟩ | ⟨i, e2, hi, e1⟩
 · rw [e2] at HI
   have hv : cutV s = .tuple #[.string s, .string ⟨#[]⟩, .bool false] := by unfold cutV; rw [e1]
   rw [hv]
   clear e1 e2 hv
   go_enter Tryd.func39, Tryd.ntmps39
   go_wp2_with (first
     | (go_at_call 50; refine (HI.out _).mono ?_; rintro e w' ⟨rfl, rfl⟩))
   go_ret3
   exact ⟨rfl, Below.refl _ _⟩
 · rw [e2] at HI
   have hv : cutV s = .tuple #[.string (s.extract 0 i), .string (s.extract (i + 1) s.size), .bool true] := by
     unfold cutV
     rw [e1, Lib.extract_eq, Lib.extract_eq]
     show Value.tuple #[sv _, sv _, _] = _
     rw [List.drop_zero, Nat.sub_zero, List.take_of_length_le (l := s.data.toList.drop (i + 1)) (by rw [List.length_drop]; omega)]
   rw [hv]
   rw [← hsz] at hi
   have c1 : (0 : Int) ≤ (i : Int) := by omega
   have c2 : (i : Int) ≤ (s.size : Int) := by omega
   have c3 : (0 : Int) ≤ (i : Int) + 1 := by omega
   have c4 : (i : Int) + 1 ≤ (s.size : Int) := by omega
   clear e1 e2 hv hsz
   go_enter Tryd.func39, Tryd.ntmps39
   go_wp2_with (first
     | (go_at_call 50; refine (HI.out _).mono ?_; rintro e w' ⟨rfl, rfl⟩))
   go_region
   go_wp2
   go_ret3
   exact ⟨rfl, rfl, rfl, rfl, Nat.le_refl _, fun _ _ => rfl⟩
set_option maxHeartbeats 1000000 in
theorem cut_any (s : ByteArray) (w : World) (hs : s.size ≤ 1000000) :
   Calls Tryd.prog 28 #[.string s, .string ⟨#[98]⟩] w fun e w' => e = .returned (cutV s) ∧ Below w.heap.size w w' := by
 obtain ⟨a, b, c, hv⟩ : ∃ a b c, cutV s = .tuple #[a, b, c] := by
   unfold cutV
   split
   · exact ⟨_, _, _, rfl⟩
   · exact ⟨_, _, _, rfl⟩
 have HI : Hid (∀ w, Calls Tryd.prog 39 #[.string s, .string ⟨#[98]⟩] w fun e w' => e = .returned (.tuple #[a, b, c]) ∧ Below w.heap.size w w') := fun w => by
   have := cutlite_any s w hs
   rwa [hv] at this
 rw [hv]
 clear hv
 go_enter Tryd.func28, Tryd.ntmps28
 go_wp2_with (first
   | (go_at_call 39; refine (HI.out _).mono ?_; rintro e w' ⟨rfl, hb⟩))
 go_ret3
 exact ⟨rfl, hb⟩
def FloatR (l : List UInt8) (x : Nat) (er : Int) : Prop :=
 (rdTell l = none ∧ x = 0 ∧ er = 4) ∨ ∃ n e ok, rdTell l = some (n, e) ∧ TimesR n e x ok ∧ er = if ok then 0 else 10
theorem int_sv (l : List UInt8) (w : World) (hs : l.length ≤ 1000000) :
   Calls Tryd.prog 44 #[sv l] w fun e w' => e = .returned (intR (rdInt l)) ∧ w' = w := int_any ⟨l.toArray⟩ w (by rw [Lib.size_eq]; exact hs)
theorem rd_zero : rdInt [48] = some 0 := by decide
def hd8 (l : List UInt8) : List UInt8 := match cutb l with | none => l | some p => p.1
def tl8 (l : List UInt8) : List UInt8 := match cutb l with | none => [48] | some p => p.2
theorem tell8 (l : List UInt8) : rdTell l = (rdInt (hd8 l)).bind fun n => (rdInt (tl8 l)).map fun e => (n, e) := by
 unfold rdTell hd8 tl8
 cases cutb l with
 | none =>
   simp only []
   rw [rd_zero]
   cases rdInt l <;> rfl
 | some p => rfl
set_option maxHeartbeats 2000000 in
theorem float_core (s : ByteArray) (hs : ¬ 400 < s.size) (f : Bool) (vh vt tt : ByteArray) (n1 e1 n2 e2 : Int) (x : Nat) (ok : Bool) (w : World) (hT : Tab w)
   (hC : ∀ w, Calls Tryd.prog 28 #[.string s, .string ⟨#[98]⟩] w fun e w' => e = .returned (.tuple #[.string vh, .string vt, .bool f]) ∧ Below w.heap.size w w')
   (htt : tt = if f then vt else ⟨#[48]⟩)
   (h1 : ∀ w, Calls Tryd.prog 44 #[.string vh] w fun e w' => e = .returned (.tuple #[.int .i64 n1, .int .i64 e1]) ∧ w' = w)
   (h2 : ∀ w, Calls Tryd.prog 44 #[.string tt] w fun e w' => e = .returned (.tuple #[.int .i64 n2, .int .i64 e2]) ∧ w' = w)
   (he1 : e1 = 0 ∨ e1 = 4) (he2 : e2 = 0 ∨ e2 = 4)
   (h3 : e1 = 0 ∧ e2 = 0 → ∀ w, Tab w → Calls Tryd.prog 65 #[.int .i64 n1, .int .i64 n2] w fun r w' => r = .returned (.tuple #[.float .f64 x, .bool ok]) ∧ w' = w) (hx : ok = false → x = 0) :
   Calls Tryd.prog 56 #[.string s] w fun r w' => r = .returned (.tuple #[.float .f64 (if e1 = 0 ∧ e2 = 0 then x else 0), .int .i64 (if e1 = 0 ∧ e2 = 0 then (if ok then 0 else 10) else 4)]) ∧ Below w.heap.size w w' := by
 have HT : Hid (Tab w) := hT
 have HC : Hid (∀ w, Calls Tryd.prog 28 #[.string s, .string ⟨#[98]⟩] w fun e w' => e = .returned (.tuple #[.string vh, .string vt, .bool f]) ∧ Below w.heap.size w w') := hC
 have H1 : Hid (∀ w, Calls Tryd.prog 44 #[.string vh] w fun e w' => e = .returned (.tuple #[.int .i64 n1, .int .i64 e1]) ∧ w' = w) := h1
 have H2 : Hid (∀ w, Calls Tryd.prog 44 #[.string tt] w fun e w' => e = .returned (.tuple #[.int .i64 n2, .int .i64 e2]) ∧ w' = w) := h2
 clear hC h1 h2 hT
 by_cases hb : e1 = 0 ∧ e2 = 0
 · have H3 : Hid (∀ w, Tab w → Calls Tryd.prog 65 #[.int .i64 n1, .int .i64 n2] w fun r w' => r = .returned (.tuple #[.float .f64 x, .bool ok]) ∧ w' = w) := h3 hb
   obtain ⟨rfl, rfl⟩ := hb
   rw [if_pos ⟨rfl, rfl⟩, if_pos ⟨rfl, rfl⟩]
   clear h3 he1 he2
   cases ok
   · obtain rfl := hx rfl
     rw [if_neg (by decide)]
     cases f
     · obtain rfl : tt = ⟨#[48]⟩ := htt
       go_enter Tryd.func56, Tryd.ntmps56
       go_wp2_with (first | (go_at_call 28; refine (HC.out _).mono ?_; rintro e wc ⟨rfl, hb⟩; have HB := Lib.hid hb; clear hb; refine Hid.out ?_))
       refine Lib.hid ?_
       go_wp2_with fail
       refine (H1.out _).mono ?_
       rintro e w' ⟨rfl, rfl⟩
       go_wp2_with fail
       refine (H2.out _).mono ?_
       rintro e w' ⟨rfl, rfl⟩
       go_wp2_with (first | (go_at_call 65; refine (H3.out _ (HT.out.later HB.out)).mono ?_; rintro e w' ⟨rfl, rfl⟩))
       go_ret2
       exact ⟨rfl, HB.out⟩
     · obtain rfl : tt = vt := htt
       go_enter Tryd.func56, Tryd.ntmps56
       go_wp2_with (first | (go_at_call 28; refine (HC.out _).mono ?_; rintro e wc ⟨rfl, hb⟩; have HB := Lib.hid hb; clear hb; refine Hid.out ?_))
       refine Lib.hid ?_
       go_wp2_with fail
       refine (H1.out _).mono ?_
       rintro e w' ⟨rfl, rfl⟩
       go_wp2_with fail
       refine (H2.out _).mono ?_
       rintro e w' ⟨rfl, rfl⟩
       go_wp2_with (first | (go_at_call 65; refine (H3.out _ (HT.out.later HB.out)).mono ?_; rintro e w' ⟨rfl, rfl⟩))
       go_ret2
       exact ⟨rfl, HB.out⟩
   · rw [if_pos rfl]
     clear hx
     cases f
     · obtain rfl : tt = ⟨#[48]⟩ := htt
       go_enter Tryd.func56, Tryd.ntmps56
       go_wp2_with (first | (go_at_call 28; refine (HC.out _).mono ?_; rintro e wc ⟨rfl, hb⟩; have HB := Lib.hid hb; clear hb; refine Hid.out ?_))
       refine Lib.hid ?_
       go_wp2_with fail
       refine (H1.out _).mono ?_
       rintro e w' ⟨rfl, rfl⟩
       go_wp2_with fail
       refine (H2.out _).mono ?_
       rintro e w' ⟨rfl, rfl⟩
       go_wp2_with (first | (go_at_call 65; refine (H3.out _ (HT.out.later HB.out)).mono ?_; rintro e w' ⟨rfl, rfl⟩))
       go_ret2
       exact ⟨rfl, HB.out⟩
     · obtain rfl : tt = vt := htt
       go_enter Tryd.func56, Tryd.ntmps56
       go_wp2_with (first | (go_at_call 28; refine (HC.out _).mono ?_; rintro e wc ⟨rfl, hb⟩; have HB := Lib.hid hb; clear hb; refine Hid.out ?_))
       refine Lib.hid ?_
       go_wp2_with fail
       refine (H1.out _).mono ?_
       rintro e w' ⟨rfl, rfl⟩
       go_wp2_with fail
       refine (H2.out _).mono ?_
       rintro e w' ⟨rfl, rfl⟩
       go_wp2_with (first | (go_at_call 65; refine (H3.out _ (HT.out.later HB.out)).mono ?_; rintro e w' ⟨rfl, rfl⟩))
       go_ret2
       exact ⟨rfl, HB.out⟩
 · rw [if_neg hb, if_neg hb]
   clear h3 hx
   cases f
   · obtain rfl : tt = ⟨#[48]⟩ := htt
     rcases he1 with rfl | rfl <;> rcases he2 with rfl | rfl
     · exact absurd ⟨rfl, rfl⟩ hb
     all_goals
       clear hb
       go_enter Tryd.func56, Tryd.ntmps56
       go_wp2_with (first | (go_at_call 28; refine (HC.out _).mono ?_; rintro e wc ⟨rfl, hb⟩; have HB := Lib.hid hb; clear hb; refine Hid.out ?_))
       refine Lib.hid ?_
       go_wp2_with fail
       refine (H1.out _).mono ?_
       rintro e w' ⟨rfl, rfl⟩
       go_wp2_with fail
       refine (H2.out _).mono ?_
       rintro e w' ⟨rfl, rfl⟩
       go_wp2_with fail
       go_ret2
       exact ⟨rfl, HB.out⟩
   · obtain rfl : tt = vt := htt
     rcases he1 with rfl | rfl <;> rcases he2 with rfl | rfl
     · exact absurd ⟨rfl, rfl⟩ hb
     all_goals
       clear hb
       go_enter Tryd.func56, Tryd.ntmps56
       go_wp2_with (first | (go_at_call 28; refine (HC.out _).mono ?_; rintro e wc ⟨rfl, hb⟩; have HB := Lib.hid hb; clear hb; refine Hid.out ?_))
       refine Lib.hid ?_
       go_wp2_with fail
       refine (H1.out _).mono ?_
       rintro e w' ⟨rfl, rfl⟩
       go_wp2_with fail
       refine (H2.out _).mono ?_
       rintro e w' ⟨rfl, rfl⟩
       go_wp2_with fail
       go_ret2
       exact ⟨rfl, HB.out⟩
theorem int_parts (o : Option Int) : ∃ n e, intR o = .tuple #[.int .i64 n, .int .i64 e] ∧ ((e = 0 ∧ o = some n) ∨ (e = 4 ∧ n = 0 ∧ o = none)) := by
 cases o with
 | none => exact ⟨0, 4, rfl, Or.inr ⟨rfl, rfl, rfl⟩⟩
 | some n => exact ⟨n, 0, rfl, Or.inl ⟨rfl, rfl⟩⟩
theorem cutV_parts (s : ByteArray) : ∃ vh vt f, cutV s = .tuple #[.string vh, .string vt, .bool f] ∧ vh.data.toList = hd8 s.data.toList ∧ (if f then vt else ⟨#[48]⟩ : ByteArray).data.toList = tl8 s.data.toList ∧ vh.size ≤ s.size + 1 ∧ (if f then vt else ⟨#[48]⟩ : ByteArray).size ≤ s.size + 1 := by
 unfold cutV hd8 tl8
 cases h : cutb s.data.toList with
 | none => exact ⟨s, ⟨#[]⟩, false, rfl, rfl, rfl, by omega, by show 1 ≤ _; omega⟩
 | some p =>
   obtain ⟨a, b⟩ := p
   have e := congrArg List.length (cutb_some h)
   rw [← Lib.size_eq, List.length_append, List.length_cons] at e
   exact ⟨⟨a.toArray⟩, ⟨b.toArray⟩, true, rfl, rfl, rfl, by rw [Lib.size_eq]; show a.length ≤ _; omega, by rw [Lib.size_eq]; show b.length ≤ _; omega⟩
set_option maxHeartbeats 2000000 in
theorem float_any (s : ByteArray) (hs : s.size ≤ 900000) :
   ∃ x er, FloatR s.data.toList x er ∧ ∀ w, Tab w → Calls Tryd.prog 56 #[.string s] w fun r w' => r = .returned (.tuple #[.float .f64 x, .int .i64 er]) ∧ Below w.heap.size w w' := by
 by_cases h4 : 400 < s.size
 · refine ⟨0, 4, Or.inl ⟨?_, rfl, rfl⟩, fun w hT => ?_⟩
   · cases h : rdTell s.data.toList with
     | none => rfl
     | some p => have := tell_length h; rw [← Lib.size_eq] at this; omega
   · clear hT
     go_enter Tryd.func56, Tryd.ntmps56
     go_wp2
     go_ret2
     exact ⟨rfl, Below.refl _ _⟩
 · obtain ⟨vh, vt, f, hv, hh, ht, hl1, hl2⟩ := cutV_parts s
   obtain ⟨n1, e1, q1, p1⟩ := int_parts (rdInt (hd8 s.data.toList))
   obtain ⟨n2, e2, q2, p2'⟩ := int_parts (rdInt (tl8 s.data.toList))
   have hc : ∀ w, Calls Tryd.prog 28 #[.string s, .string ⟨#[98]⟩] w fun e w' => e = .returned (.tuple #[.string vh, .string vt, .bool f]) ∧ Below w.heap.size w w' := fun w => by
     have := cut_any s w (by omega)
     rwa [hv] at this
   have h1 : ∀ w, Calls Tryd.prog 44 #[.string vh] w fun e w' => e = .returned (.tuple #[.int .i64 n1, .int .i64 e1]) ∧ w' = w := fun w => by
     have := int_any vh w (by omega)
     rwa [hh, q1] at this
   have h2 : ∀ w, Calls Tryd.prog 44 #[.string (if f then vt else ⟨#[48]⟩)] w fun e w' => e = .returned (.tuple #[.int .i64 n2, .int .i64 e2]) ∧ w' = w := fun w => by
     have := int_any (if f then vt else ⟨#[48]⟩) w (by omega)
     rwa [ht, q2] at this
   have he1 : e1 = 0 ∨ e1 = 4 := by rcases p1 with ⟨h, _⟩ | ⟨h, _⟩ <;> simp [h]
   have he2 : e2 = 0 ∨ e2 = 4 := by rcases p2' with ⟨h, _⟩ | ⟨h, _⟩ <;> simp [h]
   have htell := tell8 s.data.toList
   by_cases hb : e1 = 0 ∧ e2 = 0
   · have o1 : rdInt (hd8 s.data.toList) = some n1 := by
       rcases p1 with ⟨_, h⟩ | ⟨h, _, _⟩
       · exact h
       · omega
     have o2 : rdInt (tl8 s.data.toList) = some n2 := by
       rcases p2' with ⟨_, h⟩ | ⟨h, _, _⟩
       · exact h
       · omega
     obtain ⟨x, ok, hx, hcl⟩ := times_any n1 n2 (itoa_rd o1).1 (itoa_rd o2).1
     refine ⟨x, if ok then 0 else 10, Or.inr ⟨n1, n2, ok, by rw [htell, o1, o2]; rfl, hx, rfl⟩, fun w hT => ?_⟩
     have := float_core s h4 f vh vt _ n1 e1 n2 e2 x ok w hT hc rfl h1 h2 he1 he2 (fun _ => hcl) (fun h => by
       rcases hx with ⟨h', _⟩ | ⟨_, h', _⟩
       · rw [h] at h'; cases h'
       · exact h')
     rw [if_pos hb, if_pos hb] at this
     exact this
   · refine ⟨0, 4, Or.inl ⟨?_, rfl, rfl⟩, fun w hT => ?_⟩
     · rw [htell]
       rcases p1 with ⟨a1, a2⟩ | ⟨a1, _, a2⟩
       · rcases p2' with ⟨b1, b2⟩ | ⟨b1, _, b2⟩
         · exact absurd ⟨a1, b1⟩ hb
         · rw [a2, b2]; rfl
       · rw [a2]; rfl
     · have := float_core s h4 f vh vt _ n1 e1 n2 e2 0 false w hT hc rfl h1 h2 he1 he2 (fun h => absurd h hb) (fun _ => rfl)
       rw [if_neg hb, if_neg hb] at this
       exact this
end

/- Package digits: Text. -/
section
set_option maxRecDepth 100000
open Go.RowKit Go.Shelf Go.Lib
def TextR (x : Nat) (l : List UInt8) : Prop :=
 (¬ Fin64 x ∧ l = []) ∨ (Fin64 x ∧ ((∃ k : Int, fval x = (k : Rat) ∧ -9007199254740992 < k ∧ k < 9007199254740992 ∧ l = itoa k) ∨
   ((¬ ∃ k : Int, fval x = (k : Rat) ∧ -9007199254740992 < k ∧ k < 9007199254740992) ∧ ∃ n e : Int, n % 2 = 1 ∧ -9007199254740992 < n ∧ n < 9007199254740992 ∧ -3000 ≤ e ∧ e ≤ 3000 ∧ fval x = (n : Rat) * p2 e ∧ l = itoa n ++ 98 :: itoa e)))
theorem ret_s {a b : ByteArray} (h : a = b) : Ending.returned (.string a) = .returned (.string b) := by rw [h]
end

/- Package digits: what follows of the contracts, and the statements' helper awake. -/
section
set_option maxRecDepth 100000
open Go.RowKit Go.Shelf Go.Lib
theorem FloatR.ok {l : List UInt8} {x v : Nat} {er n e : Int} (h : FloatR l x er) (ht : rdTell l = some (n, e)) (fv : Fin64 v) (lv : v < 18446744073709551616) (hv : fval v = (n : Rat) * p2 e) (h0 : n = 0 → v = 0) : x = v ∧ er = 0 := by
 rcases h with ⟨h1, _⟩ | ⟨n', e', ok, h1, h2, h3⟩
 · rw [h1] at ht; cases ht
 rw [h1] at ht
 simp at ht
 obtain ⟨rfl, rfl⟩ := ht
 rcases h2 with ⟨rfl, fx, lx, vx, z⟩ | ⟨rfl, _, hn⟩
 · refine ⟨?_, h3⟩
   by_cases hz : n' = 0
   · rw [z hz, h0 hz]
   · refine fval_inj fx fv lx lv (by rw [vx, hv]) ?_
     rw [vx]
     intro e0
     have hp := p2_pos e'
     have hn0 : (n' : Rat) = 0 := by
       rcases Rat.mul_eq_zero.1 e0 with h | h
       · exact h
       · rw [h] at hp; exact absurd hp Rat.lt_irrefl
     exact hz (Rat.intCast_inj.1 (hn0.trans rfl))
 · exact absurd hv (hn v fv lv)
theorem FloatR.no {l : List UInt8} {x : Nat} {er n e : Int} (h : FloatR l x er) (ht : rdTell l = some (n, e)) (hn : ∀ y, Fin64 y → y < 18446744073709551616 → fval y ≠ (n : Rat) * p2 e) : x = 0 ∧ er = 10 := by
 rcases h with ⟨h1, _⟩ | ⟨n', e', ok, h1, h2, h3⟩
 · rw [h1] at ht; cases ht
 rw [h1] at ht
 simp at ht
 obtain ⟨rfl, rfl⟩ := ht
 rcases h2 with ⟨rfl, fx, lx, vx, z⟩ | ⟨rfl, hx, _⟩
 · exact absurd vx (hn x fx lx)
 · exact ⟨hx, h3⟩
theorem FloatR.form {l : List UInt8} {x : Nat} {er : Int} (h : FloatR l x er) (ht : rdTell l = none) : x = 0 ∧ er = 4 := by
 rcases h with ⟨_, h⟩ | ⟨n', e', ok, h1, _⟩
 · exact h
 · rw [h1] at ht; cases ht
theorem odd_uniq {n n' e e' : Int} (h1 : n % 2 = 1) (h2 : n' % 2 = 1) (h : (n : Rat) * p2 e = (n' : Rat) * p2 e') : n = n' ∧ e = e' := by
 have key : ∀ {n n' e e' : Int}, n % 2 = 1 → n' % 2 = 1 → (n : Rat) * p2 e = (n' : Rat) * p2 e' → e ≤ e' → n = n' ∧ e = e' := by
   intro n n' e e' h1 h2 h hle
   obtain ⟨k, hk⟩ : ∃ k : Nat, e' = (k : Int) + e := ⟨(e' - e).toNat, by omega⟩
   rw [hk, p2_add, ← Rat.mul_assoc, p2_nat] at h
   have h' : (n : Rat) * p2 e = ((n' * ((2 ^ k : Nat) : Int) : Int) : Rat) * p2 e := by rw [h, Rat.intCast_mul]; rfl
   have := int_eq (p2_pos e) h'
   cases k with
   | zero => exact ⟨by rw [this, Nat.pow_zero]; omega, by omega⟩
   | succ k =>
     exfalso
     rw [Nat.pow_succ, Int.natCast_mul, ← Int.mul_assoc] at this
     omega
 rcases Int.le_total e e' with hl | hl
 · exact key h1 h2 h hl
 · have := key h2 h1 h.symm hl
   exact ⟨this.1.symm, this.2.symm⟩
theorem TextR.whole {x : Nat} {l : List UInt8} (h : TextR x l) (hx : Fin64 x) {k : Int} (hk : fval x = (k : Rat)) (h1 : -9007199254740992 < k) (h2 : k < 9007199254740992) : l = itoa k := by
 rcases h with ⟨h, _⟩ | ⟨_, ⟨k', e, _, _, hl⟩ | ⟨h, _⟩⟩
 · exact absurd hx h
 · rw [hl, Rat.intCast_inj.1 (e.symm.trans hk)]
 · exact absurd ⟨k, hk, h1, h2⟩ h
theorem TextR.odd {x : Nat} {l : List UInt8} (h : TextR x l) (hx : Fin64 x) {n e : Int} (ho : n % 2 = 1) (hv : fval x = (n : Rat) * p2 e) (hn : ¬ ∃ k : Int, fval x = (k : Rat) ∧ -9007199254740992 < k ∧ k < 9007199254740992) : l = itoa n ++ 98 :: itoa e := by
 rcases h with ⟨h, _⟩ | ⟨_, ⟨k', e', g1, g2, _⟩ | ⟨_, n', e', ho', _, _, _, _, hv', hl⟩⟩
 · exact absurd hx h
 · exact absurd ⟨k', e', g1, g2⟩ hn
 · obtain ⟨rfl, rfl⟩ := odd_uniq ho ho' (hv.symm.trans hv')
   exact hl
theorem TextR.tell {x : Nat} {l : List UInt8} (h : TextR x l) (hx : Fin64 x) : ∃ n e, rdTell l = some (n, e) ∧ fval x = (n : Rat) * p2 e ∧ l.length ≤ 43 := by
 rcases h with ⟨h, _⟩ | ⟨_, ⟨k, e, h1, h2, rfl⟩ | ⟨_, n, e, _, h1, h2, h3, h4, hv, rfl⟩⟩
 · exact absurd hx h
 · have ht := tell_whole (n := k) ⟨by omega, by omega⟩
   exact ⟨k, 0, ht, by rw [e, p2_zero, Rat.mul_one], tell_length ht⟩
 · have ht := tell_both (n := n) (e := e) ⟨by omega, by omega⟩ ⟨by omega, by omega⟩
   exact ⟨n, e, ht, hv, tell_length ht⟩
theorem TextR.same {x y : Nat} {l r : List UInt8} (hl : TextR x l) (hr : TextR y r) (hx : Fin64 x) : l = r ↔ (Fin64 y ∧ fval x = fval y) := by
 constructor
 · rintro rfl
   obtain ⟨n, e, ht, hv, _⟩ := hl.tell hx
   by_cases hy : Fin64 y
   · obtain ⟨n', e', ht', hv', _⟩ := hr.tell hy
     rw [ht] at ht'
     simp at ht'
     obtain ⟨rfl, rfl⟩ := ht'
     exact ⟨hy, by rw [hv, hv']⟩
   · exfalso
     rcases hr with ⟨_, rfl⟩ | ⟨h, _⟩
     · rw [show rdTell [] = none by decide] at ht; cases ht
     · exact hy h
 · rintro ⟨hy, he⟩
   rcases hr with ⟨h, _⟩ | ⟨_, ⟨k, e, h1, h2, rfl⟩ | ⟨hn, n, e, ho, h1, h2, h3, h4, hv, rfl⟩⟩
   · exact absurd hy h
   · exact hl.whole hx (by rw [he, e]) h1 h2
   · exact hl.odd hx ho (by rw [he, hv]) (by rw [he]; exact hn)
end

/- Package expand: lists of its own; a list that grows; a list turned about. -/
section
open Go.RowKit
def f64s (bs : List Nat) : List Value := bs.map (Value.float .f64)
theorem infoF : (Tryd.prog.info? 39).map (fun i => (i.zero, i.size, i.bytes)) = some (some (.float .f64 0), 1, 8) := by kernel_rfl
theorem undF : Tryd.prog.underlying 36 = some (.slice 39) := by kernel_rfl
structure Fr (w : World) (B : Nat) (v : Value) (bs : List Nat) : Prop where
 own : w.ownsRow B 39 1 v bs.length (f64s bs)
 word : ∀ b ∈ bs, b < 18446744073709551616
theorem Fr.fs {w : World} {B : Nat} {v : Value} {bs : List Nat} (h : Fr w B v bs) : Fs w v bs := by
 refine ⟨?_, h.word⟩
 rcases h.own.2 with ⟨h1, h2⟩ | ⟨g, cap, cur, h1, h2, h3, h4, h5, _⟩
 · exact ⟨none, 0, by rw [h1, h2], by omega, by omega, Or.inl (List.eq_nil_of_length_eq_zero h2)⟩
 · refine ⟨_, cap, h1, h4, by unfold maxLen at h5; omega, Or.inr ⟨g, 0, rfl, fun k hk => ?_⟩⟩
   have := h.own.cells (g := g) (by rw [h1]; rfl) k (.float .f64 (bs.getD k 0)) (by simp [f64s, List.getD, hk])
   rwa [show (⟨g, 0, none⟩ : Addr).add k = ⟨g, 0 + k, none⟩ by unfold Addr.add; split <;> simp_all] at this
theorem Fr.mono {w : World} {B B' : Nat} {v : Value} {bs : List Nat} (h : Fr w B v bs) (hB : B' ≤ B) : Fr w B' v bs := by
 refine ⟨⟨h.own.1, ?_⟩, h.word⟩
 rcases h.own.2 with h1 | ⟨g, cap, cur, h1, h2, h3⟩
 · exact Or.inl h1
 · exact Or.inr ⟨g, cap, cur, h1, by omega, h3⟩
theorem Fr.later {w w' : World} {B : Nat} {v : Value} {bs : List Nat} (h : Fr w B v bs) (hb : Below w.heap.size w w') : Fr w' B v bs := by
 refine ⟨⟨h.own.1, ?_⟩, h.word⟩
 rcases h.own.2 with h1 | ⟨g, cap, cur, h1, h2, h3, h4⟩
 · exact Or.inl h1
 · refine Or.inr ⟨g, cap, cur, h1, h2, ?_, h4⟩
   rw [hb.block g (Array.getElem?_eq_some_iff.1 h3).1]; exact h3
theorem Fr.nil (w : World) (B : Nat) : Fr w B (.slice none 0 0) [] := ⟨World.ownsRow_nil w B _ 1, fun b hb => by cases hb⟩
theorem Fr.low {w : World} {B : Nat} {v : Value} {bs : List Nat} (h : Fr w B v bs) {a : Addr} (hb : a.block < B) (x : Value) : Fr (w.setCell a x) B v bs :=
 ⟨ownsRow_setCell_below h.own hb x, h.word⟩
def gw (bs : List Nat) (x : Nat) : List Nat := if frung x = 0 then bs else bs ++ [x]
end

/- Package expand: the next float of two lists. -/
section
open Go.RowKit
attribute [local go_sem ↓] Go.wp_at_zero Go.wp_at_succ
end

/- The laws DigitsBack, DigitsTwice, DigitsWhole. (gen_ji.py) -/
section
open Go.RowKit Go.Shelf Go.Lib
theorem sv_eq (l r : List UInt8) : (l == r) = decide (l = r) := by
 by_cases h : l = r
 · rw [decide_eq_true h, h]; simp
 · rw [decide_eq_false h, beq_eq_false_iff_ne]; exact h
end

/- The document's side of layer 8: Show. -/
section
open Go.RowKit Go.Shelf Go.Lib
theorem cat_minusI (a : List UInt8) : (⟨#[45]⟩ : ByteArray) ++ ⟨a.toArray⟩ = ⟨(45 :: a).toArray⟩ := by
 apply ByteArray.ext
 simp [ByteArray.data_append]
theorem cat_two (a b : List UInt8) : (⟨a.toArray⟩ : ByteArray) ++ ⟨b.toArray⟩ = ⟨(a ++ b).toArray⟩ := by
 apply ByteArray.ext
 simp [ByteArray.data_append]
set_option maxHeartbeats 1000000 in
set_option maxRecDepth 100000 in
theorem refShow_one (u : Nat) (hu : u < 10) (w : World) : Calls Tryd.prog 17 #[.int .i64 (u : Nat)] w fun e w' => e = .returned (sv (decDigits u)) ∧ Below w.heap.size w w' := by
 have h1 : (u : Int) < 10 := by omega
 have hcv : (convert 90 9 (.slice (some ⟨w.heap.size, 0, none⟩) 1 1)).run Tryd.prog (w.alloc (.cells #[.int .u8 (48 + (u : Int))] 5)) = .ok (.string ⟨(decDigits u).toArray⟩) (w.alloc (.cells #[.int .u8 (48 + (u : Int))] 5)) := by
   rw [decDigits_one hu]
   refine run_convert_bytes_back _ _ _ 5 _ 1 [UInt8.ofNat (48 + u)] Tryd.underlying90 Tryd.underlying5 Tryd.underlying9 (fun j hj => ?_)
   obtain rfl : j = 0 := by simpa using hj
   have e : (((UInt8.ofNat (48 + u)).toNat : Nat) : Int) = 48 + (u : Int) := by rw [UInt8.toNat_ofNat']; omega
   show World.cell? _ _ = some (.int .u8 (((UInt8.ofNat (48 + u)).toNat : Nat) : Int))
   rw [e]
   simp [Addr.add, World.cell?_alloc_new]
 generalize decDigits u = l at *
 go_enter Tryd.func17, Tryd.ntmps17
 go_wp2
 go_ret
 exact ⟨rfl, (Below.refl _ _).alloc (Nat.le_refl _) _⟩
set_option maxHeartbeats 1000000 in
set_option maxRecDepth 100000 in
theorem refShow_nat : ∀ (u : Nat), u ≤ 9223372036854775807 → ∀ w, Calls Tryd.prog 17 #[.int .i64 (u : Nat)] w fun e w' => e = .returned (sv (decDigits u)) ∧ Below w.heap.size w w' := by
 intro u
 induction u using Nat.strongRecOn with
 | _ u ih =>
   intro hu w
   by_cases h : u < 10
   · exact refShow_one u h w
   · have HI : Hid (∀ w, Calls Tryd.prog 17 #[.int .i64 ((u : Int).tdiv 10)] w fun e w' => e = .returned (sv (decDigits (u / 10))) ∧ Below w.heap.size w w') := fun w => by
       have := ih (u / 10) (by omega) (by omega) w
       rwa [show ((u : Int).tdiv 10) = ((u / 10 : Nat) : Int) by rw [Int.tdiv_eq_ediv_of_nonneg (by omega)]; omega]
     have HJ : Hid (∀ w, Calls Tryd.prog 17 #[.int .i64 ((u : Int).tmod 10)] w fun e w' => e = .returned (sv [UInt8.ofNat (48 + u % 10)]) ∧ Below w.heap.size w w') := fun w => by
       have := refShow_one (u % 10) (by omega) w
       rw [decDigits_one (by omega)] at this
       rwa [show ((u : Int).tmod 10) = ((u % 10 : Nat) : Int) by rw [Int.tmod_eq_emod_of_nonneg (by omega)]; omega]
     have hl : (decDigits (u / 10)).length ≤ 21 := by
       have := itoa_length_le ((u / 10 : Nat) : Int) (by omega) (by omega)
       rwa [itoa_nonneg] at this
     have hd : decDigits u = decDigits (u / 10) ++ [UInt8.ofNat (48 + u % 10)] := by rw [decDigits, dif_neg h]
     rw [hd]
     clear ih hd
     have h1 : ¬ (u : Int) < 10 := by omega
     have h2 : (u : Int) ≤ 9223372036854775807 := by omega
     generalize decDigits (u / 10) = l at *
     generalize UInt8.ofNat (48 + u % 10) = c at *
     go_enter Tryd.func17, Tryd.ntmps17
     go_wp2_with fail
     refine (HI.out _).mono ?_
     rintro e w1 ⟨rfl, hb1⟩
     have HB1 := Lib.hid hb1
     clear hb1
     go_wp2_with fail
     refine (HJ.out _).mono ?_
     rintro e w2 ⟨rfl, hb2⟩
     have HB2 := Lib.hid hb2
     clear hb2
     go_wp2
     go_ret
     exact ⟨ret_s (cat_two l [c]), HB1.out.trans (HB2.out.mono HB1.out.size)⟩
set_option maxHeartbeats 1000000 in
set_option maxRecDepth 100000 in
theorem refShow_any (n : Int) (hn : InR n) (w : World) : Calls Tryd.prog 17 #[.int .i64 n] w fun e w' => e = .returned (sv (itoa n)) ∧ Below w.heap.size w w' := by
 obtain ⟨n1, n2⟩ := hn
 by_cases h : n < 0
 · by_cases hm : n = -9223372036854775808
   · subst hm
     rw [show itoa (-9223372036854775808) = [45, 57, 50, 50, 51, 51, 55, 50, 48, 51, 54, 56, 53, 52, 55, 55, 53, 56, 48, 56] from (itoa_rd (n := -9223372036854775808) (by decide +kernel)).2]
     go_enter Tryd.func17, Tryd.ntmps17
     go_wp2
     go_ret
     exact ⟨rfl, Below.refl _ _⟩
   · obtain ⟨u, rfl⟩ : ∃ u : Nat, n = -(u : Int) := ⟨n.natAbs, by omega⟩
     rw [itoa_neg u (by omega)]
     have HI : Hid (∀ w, Calls Tryd.prog 17 #[.int .i64 (u : Nat)] w fun e w' => e = .returned (sv (decDigits u)) ∧ Below w.heap.size w w') := fun w => refShow_nat u (by omega) w
     have hl : (decDigits u).length ≤ 21 := by
       have := itoa_length_le (u : Int) (by omega) (by omega)
       rwa [itoa_nonneg] at this
     have hb : (-(u : Int) == -9223372036854775808) = false := by rw [beq_eq_false_iff_ne]; exact hm
     generalize decDigits u = l at *
     go_enter Tryd.func17, Tryd.ntmps17
     go_wp2_with fail
     refine (HI.out _).mono ?_
     rintro e w1 ⟨rfl, hb1⟩
     go_wp2
     go_ret
     exact ⟨ret_s (cat_minusI l), hb1⟩
 · obtain ⟨u, rfl⟩ : ∃ u : Nat, n = (u : Int) := ⟨n.toNat, by omega⟩
   rw [itoa_nonneg]
   exact refShow_nat u (by omega) w
end

/- The reference's Rounds: is a float the one nearest to a number? -/
section
open Go.RowKit
attribute [local go_sem ↓] Go.wp_at_zero Go.wp_at_succ
theorem BoxN.later {w w' : World} {b : Nat} {S E : Int} {sv : Value} (h : BoxN w b S sv E) (hb : Below w.heap.size w w') : BoxN w' b S sv E := h.block (hb.block _ h.cells.2.2.2.2)
theorem BoxN.set3 {W : World} {b : Nat} {S E S' E' : Int} {sv sv' : Value} (h : BoxN W b S sv E) : BoxN (((W.setCell ⟨b, 0, none⟩ (.int .i64 S')).setCell ⟨b, 1, none⟩ sv').setCell ⟨b, 2, none⟩ (.int .i64 E')) b S' sv' E' := by
 unfold BoxN at *
 simp [World.setCell, Array.getElem?_modify, h]
theorem BoxN.new (W : World) (S E : Int) (sv : Value) : BoxN (W.alloc (.cells #[.int .i64 S, sv, .int .i64 E] 67)) W.heap.size S sv E := heap_alloc_new W _
theorem below_num3 {w W : World} {b : Nat} (h : Below w.heap.size w W) (hb : w.heap.size ≤ b) (x y z : Value) : Below w.heap.size w (((W.setCell ⟨b, 0, none⟩ x).setCell ⟨b, 1, none⟩ y).setCell ⟨b, 2, none⟩ z) := ((h.setCell hb _).setCell hb _).setCell hb _
end
end Go.Proofs.YtgfloegaoofbbaaDoor
