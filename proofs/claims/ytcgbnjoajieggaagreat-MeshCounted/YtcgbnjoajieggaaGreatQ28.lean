/- Own texts, put together: Ob. -/
import Derived.Test.YtcgbnjoajieggaaGreatQ15
import Derived.Test.YtcgbnjoajieggaaGreatQ26
/- Which coordinates may be: math.Trunc, grid.stands. -/
namespace Go.Proofs.YtcgbnjoajieggaaGreat
open Go.RowKit
def trw (b : Nat) : Nat := FloatKind.f64.encode ((FloatKind.f64.decode b).integral .zero)
theorem run_trunc (b : Nat) (h : Fin64 b) (w : World) : (callFunc 165 #[.float .f64 b]).run Tryz.prog w = .ok (.value (.float .f64 (trw b))) w := by
 rw [run_callFunc_extern Tryz.func165 (by kernel_rfl) (by kernel_rfl) (by kernel_rfl) (e := Extern.MathFloor.toIntegral "math.archTrunc" .zero) (by kernel_rfl)]
 have e : FloatKind.f64.decode b = .number (fneg b) (fmag (frung b)) (fpl (frung b)) := read_fin h
 have key : Extern.MathFloor.toIntegral "math.archTrunc" .zero #[.float .f64 b] = pure (.float .f64 (trw b)) := by
   unfold trw
   show (match FloatKind.f64.decode b with | .nan _ _ => _ | d => (pure (Value.float .f64 (FloatKind.f64.encode (d.integral .zero))) : Sem Value)) = _
   rw [e]
 rw [key]
 rfl
theorem M_one {q : Rat} : M 1 q ↔ ∃ k : Int, q = (k : Rat) := by
 constructor
 · rintro ⟨k, e⟩; exact ⟨k, by rw [e]; grind⟩
 · rintro ⟨k, e⟩; exact ⟨k, by rw [e]; grind⟩
theorem cut_shift (s : Bool) (n d : Nat) : Ieee.Toward.zero.cut s n d = n >>> d := by
 unfold Ieee.Toward.cut
 simp only [Bool.toNat_false, Nat.add_zero, Nat.one_shiftLeft, Nat.shiftRight_eq_div_pow]
 rcases Nat.lt_or_ge (n.log2 + 2) d with h | h
 · have h1 : n < 2 ^ (n.log2 + 1) := Nat.lt_log2_self
   have h2 : n < 2 ^ (n.log2 + 2) := Nat.lt_of_lt_of_le h1 (Nat.pow_le_pow_right (by omega) (by omega))
   have h3 : n < 2 ^ d := Nat.lt_of_lt_of_le h1 (Nat.pow_le_pow_right (by omega) (by omega))
   rw [Nat.min_eq_right (by omega), Nat.div_eq_of_lt h2, Nat.div_eq_of_lt h3]
 · rw [Nat.min_eq_left h]
theorem cut_val (m : Nat) (i : Int) (hm : m ≤ 9007199254740992) : ∃ n : Nat, (m <<< i.toNat) >>> (-i).toNat = n ∧ ((n : Nat) : Rat) ≤ (m : Rat) * p2 i ∧ (((n : Nat) : Rat) = (m : Rat) * p2 i ∨ n ≤ 9007199254740992) ∧ ((∃ z : Int, (m : Rat) * p2 i = (z : Rat)) → ((n : Nat) : Rat) = (m : Rat) * p2 i) := by
 rcases Int.le_total 0 i with h | h
 · have e1 : (-i).toNat = 0 := by omega
   have e2 : i = ((i.toNat : Nat) : Int) := by omega
   generalize i.toNat = k at *
   subst e2
   rw [e1]
   have : ((m <<< k >>> 0 : Nat) : Rat) = (m : Rat) * p2 (k : Int) := by
     rw [Nat.shiftRight_zero, Nat.shiftLeft_eq, p2_nat, Rat.natCast_mul]
   exact ⟨_, rfl, by rw [this]; exact Rat.le_refl, Or.inl this, fun _ => this⟩
 · have e1 : i.toNat = 0 := by omega
   have e2 : i = -(((-i).toNat : Nat) : Int) := by omega
   generalize (-i).toNat = k at *
   subst e2
   rw [e1, Nat.shiftLeft_zero, Nat.shiftRight_eq_div_pow]
   have hp := p2_neg (k : Int)
   rw [p2_nat] at hp
   have hpos : (0 : Rat) < p2 (-(k : Int)) := p2_pos _
   refine ⟨_, rfl, ?_, Or.inr ?_, ?_⟩
   · have h1 : ((m / 2 ^ k * 2 ^ k : Nat) : Rat) ≤ (m : Rat) := Rat.natCast_le_natCast.2 (Nat.div_mul_le_self _ _)
     rw [Rat.natCast_mul] at h1
     have h2 := Rat.mul_le_mul_of_nonneg_right h1 (Rat.le_of_lt hpos)
     generalize ((m / 2 ^ k : Nat) : Rat) = n at *
     generalize ((2 ^ k : Nat) : Rat) = t at *
     generalize p2 (-(k : Int)) = p at *
     have : n * t * p = n := by rw [Rat.mul_assoc, Rat.mul_comm t p, hp, Rat.mul_one]
     rw [this] at h2
     exact h2
   · exact Nat.le_trans (Nat.div_le_self _ _) hm
   · rintro ⟨z, hz⟩
     have h3 : (m : Rat) = ((z * (2 ^ k : Nat) : Int) : Rat) := by
       rw [Rat.intCast_mul, ← hz, show (((2 ^ k : Nat) : Int) : Rat) = ((2 ^ k : Nat) : Rat) from rfl]
       generalize ((2 ^ k : Nat) : Rat) = t at *
       generalize p2 (-(k : Int)) = p at *
       rw [Rat.mul_assoc, hp, Rat.mul_one]
     have h4 : (m : Int) = z * (2 ^ k : Nat) := by
       have : ((m : Int) : Rat) = ((z * (2 ^ k : Nat) : Int) : Rat) := h3
       exact Rat.intCast_inj.1 this
     have h5 : (2 ^ k : Nat) ∣ m := by
       have : ((2 ^ k : Nat) : Int) ∣ (m : Int) := ⟨z, by rw [h4, Int.mul_comm]⟩
       exact Int.natCast_dvd_natCast.1 this
     have h6 : ((m / 2 ^ k * 2 ^ k : Nat) : Rat) = (m : Rat) := by rw [Nat.div_mul_cancel h5]
     rw [Rat.natCast_mul] at h6
     generalize ((m / 2 ^ k : Nat) : Rat) = n at *
     generalize ((2 ^ k : Nat) : Rat) = t at *
     generalize p2 (-(k : Int)) = p at *
     rw [← h6, Rat.mul_assoc, Rat.mul_comm t p, hp, Rat.mul_one]
theorem trw_val {b : Nat} (h : Fin64 b) (hq : Lim (fval b)) : Fin64 (trw b) ∧ trw b < 18446744073709551616 ∧ (fval (trw b) = fval b ↔ M 1 (fval b)) := by
 have e : FloatKind.f64.decode b = .number (fneg b) (fmag (frung b)) (fpl (frung b)) := read_fin h
 have hm : fmag (frung b) ≤ 9007199254740992 := Nat.le_of_lt (fmag_lt _)
 obtain ⟨n, hn, h1, h2, h3⟩ := cut_val (fmag (frung b)) (fpl (frung b)) hm
 have hv := fval_eq b
 have et : trw b = Ieee.double.write (.number (fneg b) n 0) := by
   unfold trw
   rw [e]
   show Ieee.double.write (.number (fneg b) (Ieee.Toward.zero.cut (fneg b) (fmag (frung b) <<< (fpl (frung b)).toNat) (-fpl (frung b)).toNat) 0) = _
   rw [cut_shift, hn]
 have hF := fc_word h
 clear hn e
 generalize ((fmag (frung b) : Nat) : Rat) * p2 (fpl (frung b)) = X at *
 have hX : X < p2 1023 := by
   have h4 := hq.1
   have h5 := hq.2
   rw [hv] at h4 h5
   revert h4 h5
   unfold sgn1
   cases fneg b
   · rw [if_neg (by decide)]; grind
   · rw [if_pos rfl]; grind
 have n0 : (0 : Rat) ≤ ((n : Nat) : Rat) := Rat.natCast_nonneg
 obtain ⟨r, er, fr, lr, hr⟩ := write_rv (fneg b) n 0 (by rw [p2_zero, Rat.mul_one]; grind)
 rw [p2_zero, Rat.mul_one] at hr
 have ev : fval r = sgn1 (fneg b) * ((n : Nat) : Rat) := by
   apply hr.rn.exact
   rcases h2 with h2 | h2
   · rw [h2, ← hv]
     obtain ⟨S, m, c⟩ := hF
     exact c.f
   · have : F ((n : Int) : Rat) := F_int n (by omega) (by omega)
     unfold sgn1
     cases fneg b
     · rw [if_neg (by decide), Rat.one_mul]
       exact this
     · rw [if_pos rfl]
       have := this.neg
       rwa [show -((n : Int) : Rat) = -1 * ((n : Nat) : Rat) by show -((n : Nat) : Rat) = _; grind] at this
 rw [et, er]
 refine ⟨fr, lr, ?_⟩
 rw [M_one, ev, hv]
 constructor
 · intro e1
   rw [← e1]
   unfold sgn1
   cases fneg b
   · exact ⟨n, by rw [if_neg (by decide), Rat.one_mul]; rfl⟩
   · exact ⟨-(n : Int), by rw [Rat.intCast_neg, if_pos rfl]; show _ = -((n : Nat) : Rat); grind⟩
 · rintro ⟨k, ek⟩
   rw [h3]
   revert ek
   unfold sgn1
   cases fneg b
   · intro ek
     rw [if_neg (by decide), Rat.one_mul] at ek
     exact ⟨k, ek⟩
   · intro ek
     rw [if_pos rfl] at ek
     exact ⟨-k, by rw [Rat.intCast_neg, ← ek]; grind⟩
def Crd (x : Nat) : Prop := frung x ≤ 5057542381537067008 ∧ M (U 974) (fval x)
theorem crd_fin {x : Nat} (h : frung x ≤ 5057542381537067008) : Fin64 x := by unfold Fin64; omega
theorem top100 : fval 5057542381537067008 = U 1174 := by
 have := fval_rung 1122 4503599627370496 (by omega) (Or.inr (by omega)) (by omega)
 rw [show (1122 * 4503599627370496 + 4503599627370496 : Nat) = 5057542381537067008 from rfl] at this
 have h := U_52 1122
 rw [this]
 exact h.symm
theorem crd_ab {x : Nat} (h : frung x ≤ 5057542381537067008) : ab (fval x) ≤ U 1174 := by
 rw [← ab_fval x (crd_fin h), ← top100]
 rcases Nat.lt_or_ge (frung x) 5057542381537067008 with h1 | h1
 · exact Rat.le_of_lt (fval_lt h1 (by omega))
 · rw [show frung x = 5057542381537067008 by omega]; exact Rat.le_refl
theorem run_mul_nan (a b : Nat) (h : floatBits .mul .f64 a b = none) (w : World) : (binOp .mul 33 (.float .f64 a) (.float .f64 b)).run Tryz.prog w = .ok (.float .f64 (nanW a b w)) w.drew := by
 have h' : FloatKind.f64.format.mul a b = none := h
 simp [binOp, Op.floatArith, h', nanW, Question.forced]
theorem trunc_any (b : Nat) (w : World) (h : Fin64 b) : Calls Tryz.prog 127 #[.float .f64 b] w fun e w' => e = .returned (.float .f64 (trw b)) ∧ w' = w := by
 have r1 := run_trunc b h
 clear h
 go_enter Tryz.func127, Tryz.ntmps127
 go_wp2
 go_ret
 exact ⟨rfl, rfl⟩
theorem steps_val {x : Nat} (h : frung x ≤ 5057542381537067008) : ∃ r, floatBits .mul .f64 x 5057542381537067008 = some r ∧ Fin64 r ∧ r < 18446744073709551616 ∧ fval r = fval x * U 1174 ∧ Lim (fval r) := by
 have fx := crd_fin h
 have hb := crd_ab h
 have hu := U_mulX' (s := 1174) (t := 1174) (r := 1274) (by omega)
 have h0 := U_pos 1174
 have hl : ab (fval x * U 1174) ≤ U 1274 := by
   rw [ab_mul, show ab (U 1174) = U 1174 by unfold ab; rw [if_neg (by grind)], ← hu]
   exact Rat.mul_le_mul_of_nonneg_right hb (Rat.le_of_lt h0)
 have hL : Lim (fval x * U 1174) := by
   have h3 : U 1274 < p2 1023 := by unfold U; exact p2_lt (by omega)
   have := ab_le.1 hl
   exact ⟨by grind, by grind⟩
 have hL' := hL
 rw [← top100] at hL'
 obtain ⟨r, er, fr, lr, hr⟩ := mul_bits fx (b := 5057542381537067008) (by unfold Fin64 frung; omega) hL'
 rw [top100] at hr
 have ev : fval r = fval x * U 1174 := by
   apply hr.rn.exact
   obtain ⟨S, m, c⟩ := fc_word fx
   refine ⟨S + 100, m, ?_, by have := c.m1; omega, by have := c.m2; omega⟩
   rw [← U_mulX' (s := S) (t := 1174) (r := S + 100) (by omega), ← Rat.mul_assoc, ← c.hz]
 exact ⟨r, er, fr, lr, ev, by rw [ev]; exact hL⟩
theorem steps_one {q : Rat} : M 1 (q * U 1174) ↔ M (U 974) q := by
 have hu := U_mulX' (s := 974) (t := 1174) (r := 1074) (by omega)
 have h1 : U 1074 = 1 := by unfold U; exact p2_zero
 rw [h1] at hu
 constructor
 · rintro ⟨k, e⟩
   refine ⟨k, ?_⟩
   have : q * U 1174 * U 974 = (k : Rat) * U 974 := by rw [e, Rat.mul_one]
   rw [← this, Rat.mul_assoc, Rat.mul_comm (U 1174), hu, Rat.mul_one]
 · rintro ⟨k, e⟩
   refine ⟨k, ?_⟩
   rw [e, Rat.mul_assoc, hu]
set_option maxRecDepth 100000 in
set_option maxHeartbeats 1000000 in
theorem stands_any (x : Nat) (w : World) (hx : x < 18446744073709551616) : Calls Tryz.prog 95 #[.float .f64 x] w fun e w' => (∃ t, e = .returned (.bool t) ∧ (t = true ↔ Crd x)) ∧ Below w.heap.size w w' := by
 have q1 := leq_word (r := frung x) (c := 5057542381537067008) (by unfold frung; omega) (by omega)
 have HA : Hid (∀ w, Calls Tryz.prog 96 #[.float .f64 x] w fun e w' => e = .returned (.float .f64 (frung x)) ∧ w' = w) := fun w => abs_any x w hx
 clear hx
 by_cases h : frung x ≤ 5057542381537067008
 · rw [decide_eq_true h] at q1
   obtain ⟨r, er, fr, lr, ev, hL⟩ := steps_val h
   have rs : ∀ w, (binOp .mul 33 (.float .f64 x) (.float .f64 5057542381537067008)).run Tryz.prog w = .ok (.float .f64 r) w := fun w => run_float_arith w .mul _ .f64 _ _ _ er
   have HT : Hid (∀ w, Calls Tryz.prog 127 #[.float .f64 r] w fun e w' => e = .returned (.float .f64 (trw r)) ∧ w' = w) := fun w => trunc_any r w fr
   obtain ⟨t1, t2, t3⟩ := trw_val fr hL
   obtain ⟨d, hd⟩ : ∃ d, (FloatKind.f64.format.order (trw r) r == some .eq) = d := ⟨_, rfl⟩
   have HD : Hid (d = true ↔ Crd x) := by
     rw [← hd, order_val t1 fr]
     have key : (fval (trw r) = fval r) ↔ Crd x := by
       rw [t3, ev, steps_one]
       exact ⟨fun a => ⟨h, a⟩, fun a => a.2⟩
     constructor
     · intro a
       apply key.1
       apply Classical.byContradiction
       intro hne
       revert a
       rw [if_neg hne]
       split <;> exact fun a => absurd a (by decide)
     · intro a
       have := key.2 a
       rw [this, if_neg Rat.lt_irrefl, if_pos rfl]; rfl
   clear er fr lr ev hL t1 t2 t3 h
   generalize trw r = tr at *
   generalize frung x = fx at *
   go_enter Tryz.func95, Tryz.ntmps95
   go_wp2_with fail
   refine (HA.out _).mono ?_
   rintro e w1 ⟨rfl, rfl⟩
   go_wp2_with fail
   refine (HT.out _).mono ?_
   rintro e w1 ⟨rfl, rfl⟩
   go_wp2
   go_ret
   exact ⟨⟨d, rfl, HD.out⟩, Below.refl _ _⟩
 · rw [decide_eq_false h] at q1
   have HN : Hid (¬ Crd x) := fun a => h a.1
   clear h
   generalize frung x = fx at *
   cases hm : floatBits .mul .f64 x 5057542381537067008 with
   | none =>
     have rs := run_mul_nan x 5057542381537067008 hm
     clear hm
     go_enter Tryz.func95, Tryz.ntmps95
     go_wp2_with fail
     refine (HA.out _).mono ?_
     rintro e w1 ⟨rfl, rfl⟩
     go_wp2
     go_ret
     exact ⟨⟨false, rfl, by simp; exact HN.out⟩, (Below.refl _ w).drew⟩
   | some r =>
     have rs : ∀ w, (binOp .mul 33 (.float .f64 x) (.float .f64 5057542381537067008)).run Tryz.prog w = .ok (.float .f64 r) w := fun w => run_float_arith w .mul _ .f64 _ _ _ hm
     clear hm
     go_enter Tryz.func95, Tryz.ntmps95
     go_wp2_with fail
     refine (HA.out _).mono ?_
     rintro e w1 ⟨rfl, rfl⟩
     go_wp2
     go_ret
     exact ⟨⟨false, rfl, by simp; exact HN.out⟩, Below.refl _ _⟩
end Go.Proofs.YtcgbnjoajieggaaGreat
