/- Own texts, put together: Xe Ha Hc Xf Xg Ob Jb Xh Xi Xj Xk Xl Xm. -/
import Derived.Test.YtgoadpnoagaflaaDoorQ14
import Derived.Test.YtgoadpnoagaflaaDoorQ19
import Derived.Test.YtgoadpnoagaflaaDoorQ23
import Derived.Test.YtgoadpnoagaflaaDoorQ26
import Derived.Test.YtgoadpnoagaflaaDoorQ29
import Derived.Deep.AppendLies
import Derived.OwnWalk
import Derived.Maps.AppendAt
namespace Go.Proofs.YtgoadpnoagaflaaDoor
/- The lowest bit of a float, as package expand tells it. -/
section
open Go.RowKit
end

/- How many bits a float has; that two numbers are the same. -/
section
open Go.RowKit
attribute [local go_sem ↓] Go.wp_at_zero Go.wp_at_succ
theorem run_store_float (P : Program) (w : World) (a : Addr) (m : Mode) (k : FloatKind) (b : Nat) : (store a (.float k b) m).run P w = stored P w a (.float k b) m := run_store P w a _ m rfl
theorem Rf.agg {w : World} {v : Value} {q : Rat} (h : Rf w v q) : ∃ S a n c E, v = .agg #[.int .i64 S, .slice a n c, .int .i64 E] := by
 obtain ⟨S, a, n, c, E, h, _⟩ := h.sgn
 exact ⟨S, a, n, c, E, h⟩
end

/- A number and the floats about the one nearest to it: plain facts. Nextafter. -/
section
open Go.RowKit
end

/- Which lists of floats may be, as package expand tells it. -/
section
open Go.RowKit
structure Fs (w : World) (s : Value) (bs : List Nat) : Prop where
 form : ∃ a c, s = .slice a bs.length c ∧ bs.length ≤ c ∧ c ≤ 9223372036854775807 ∧ (bs = [] ∨ ∃ g off, a = some ⟨g, off, none⟩ ∧ ∀ k, k < bs.length → w.cell? ⟨g, off + k, none⟩ = some (.float .f64 (bs.getD k 0)))
 word : ∀ b ∈ bs, b < 18446744073709551616
theorem Fs.later {w w' : World} {s : Value} {bs : List Nat} (h : Fs w s bs) (hb : Below w.heap.size w w') : Fs w' s bs := by
 obtain ⟨⟨a, c, hs, hc, hm, hf⟩, h2⟩ := h
 refine ⟨⟨a, c, hs, hc, hm, ?_⟩, h2⟩
 rcases hf with hf | ⟨g, off, ha, hf⟩
 · exact Or.inl hf
 · exact Or.inr ⟨g, off, ha, fun k hk => box_cell hb (hf k hk)⟩
def MayAt (lo hi : Nat) (bs : List Nat) (i : Nat) : Prop := lo ≤ frung (bs.getD i 0) ∧ frung (bs.getD i 0) ≤ hi ∧ frung (bs.getD i 0) ≠ 0 ∧ (0 < i → Lo (fval (bs.getD (i - 1) 0)) (fval (bs.getD i 0)))
def MayP (lo hi : Nat) (bs : List Nat) : Prop := bs.length ≤ 64 ∧ ∀ i, i < bs.length → MayAt lo hi bs i
theorem ab_fval (b : Nat) (h : Fin64 b) : fval (frung b) = ab (fval b) := by
 have h1 := fval_nonneg (r := frung b) h
 unfold ab
 rcases fval_abs b with e | e <;> rw [e] <;> split <;> grind
end

/- Package expand: whether a list may be, its last float, its sign, a list that grows. -/
section
open Go.RowKit
def lastW (bs : List Nat) : Nat := bs.getD (bs.length - 1) 0
end

/- Which coordinates may be: math.Trunc, grid.stands. -/
section
open Go.RowKit
def trw (b : Nat) : Nat := FloatKind.f64.encode ((FloatKind.f64.decode b).integral .zero)
theorem run_trunc (b : Nat) (h : Fin64 b) (w : World) : (callFunc 97 #[.float .f64 b]).run Tryd.prog w = .ok (.value (.float .f64 (trw b))) w := by
 rw [run_callFunc_extern Tryd.func97 (by kernel_rfl) (by kernel_rfl) (by kernel_rfl) (e := Extern.MathFloor.toIntegral "math.archTrunc" .zero) (by kernel_rfl)]
 have e : FloatKind.f64.decode b = .number (fneg b) (fmag (frung b)) (fpl (frung b)) := read_fin h
 have key : Extern.MathFloor.toIntegral "math.archTrunc" .zero #[.float .f64 b] = pure (.float .f64 (trw b)) := by
   unfold trw
   show (match FloatKind.f64.decode b with | .nan _ _ => _ | d => (pure (Value.float .f64 (FloatKind.f64.encode (d.integral .zero))) : Sem Value)) = _
   rw [e]
 rw [key]
 rfl
theorem M_one {q : Rat} : M 1 q ↔ ∃ k : Int, q = (k : Rat) := by
 constructor
 · rintro ⟨k, e⟩; exact ⟨k, by rw [e]; grind⟩
 · rintro ⟨k, e⟩; exact ⟨k, by rw [e]; grind⟩
theorem cut_shift (s : Bool) (n d : Nat) : Ieee.Toward.zero.cut s n d = n >>> d := by
 unfold Ieee.Toward.cut
 simp only [Bool.toNat_false, Nat.add_zero, Nat.one_shiftLeft, Nat.shiftRight_eq_div_pow]
 rcases Nat.lt_or_ge (n.log2 + 2) d with h | h
 · have h1 : n < 2 ^ (n.log2 + 1) := Nat.lt_log2_self
   have h2 : n < 2 ^ (n.log2 + 2) := Nat.lt_of_lt_of_le h1 (Nat.pow_le_pow_right (by omega) (by omega))
   have h3 : n < 2 ^ d := Nat.lt_of_lt_of_le h1 (Nat.pow_le_pow_right (by omega) (by omega))
   rw [Nat.min_eq_right (by omega), Nat.div_eq_of_lt h2, Nat.div_eq_of_lt h3]
 · rw [Nat.min_eq_left h]
theorem cut_val (m : Nat) (i : Int) (hm : m ≤ 9007199254740992) : ∃ n : Nat, (m <<< i.toNat) >>> (-i).toNat = n ∧ ((n : Nat) : Rat) ≤ (m : Rat) * p2 i ∧ (((n : Nat) : Rat) = (m : Rat) * p2 i ∨ n ≤ 9007199254740992) ∧ ((∃ z : Int, (m : Rat) * p2 i = (z : Rat)) → ((n : Nat) : Rat) = (m : Rat) * p2 i) := by
 rcases Int.le_total 0 i with h | h
 · have e1 : (-i).toNat = 0 := by omega
   have e2 : i = ((i.toNat : Nat) : Int) := by omega
   generalize i.toNat = k at *
   subst e2
   rw [e1]
   have : ((m <<< k >>> 0 : Nat) : Rat) = (m : Rat) * p2 (k : Int) := by
     rw [Nat.shiftRight_zero, Nat.shiftLeft_eq, p2_nat, Rat.natCast_mul]
   exact ⟨_, rfl, by rw [this]; exact Rat.le_refl, Or.inl this, fun _ => this⟩
 · have e1 : i.toNat = 0 := by omega
   have e2 : i = -(((-i).toNat : Nat) : Int) := by omega
   generalize (-i).toNat = k at *
   subst e2
   rw [e1, Nat.shiftLeft_zero, Nat.shiftRight_eq_div_pow]
   have hp := p2_neg (k : Int)
   rw [p2_nat] at hp
   have hpos : (0 : Rat) < p2 (-(k : Int)) := p2_pos _
   refine ⟨_, rfl, ?_, Or.inr ?_, ?_⟩
   · have h1 : ((m / 2 ^ k * 2 ^ k : Nat) : Rat) ≤ (m : Rat) := Rat.natCast_le_natCast.2 (Nat.div_mul_le_self _ _)
     rw [Rat.natCast_mul] at h1
     have h2 := Rat.mul_le_mul_of_nonneg_right h1 (Rat.le_of_lt hpos)
     generalize ((m / 2 ^ k : Nat) : Rat) = n at *
     generalize ((2 ^ k : Nat) : Rat) = t at *
     generalize p2 (-(k : Int)) = p at *
     have : n * t * p = n := by rw [Rat.mul_assoc, Rat.mul_comm t p, hp, Rat.mul_one]
     rw [this] at h2
     exact h2
   · exact Nat.le_trans (Nat.div_le_self _ _) hm
   · rintro ⟨z, hz⟩
     have h3 : (m : Rat) = ((z * (2 ^ k : Nat) : Int) : Rat) := by
       rw [Rat.intCast_mul, ← hz, show (((2 ^ k : Nat) : Int) : Rat) = ((2 ^ k : Nat) : Rat) from rfl]
       generalize ((2 ^ k : Nat) : Rat) = t at *
       generalize p2 (-(k : Int)) = p at *
       rw [Rat.mul_assoc, hp, Rat.mul_one]
     have h4 : (m : Int) = z * (2 ^ k : Nat) := by
       have : ((m : Int) : Rat) = ((z * (2 ^ k : Nat) : Int) : Rat) := h3
       exact Rat.intCast_inj.1 this
     have h5 : (2 ^ k : Nat) ∣ m := by
       have : ((2 ^ k : Nat) : Int) ∣ (m : Int) := ⟨z, by rw [h4, Int.mul_comm]⟩
       exact Int.natCast_dvd_natCast.1 this
     have h6 : ((m / 2 ^ k * 2 ^ k : Nat) : Rat) = (m : Rat) := by rw [Nat.div_mul_cancel h5]
     rw [Rat.natCast_mul] at h6
     generalize ((m / 2 ^ k : Nat) : Rat) = n at *
     generalize ((2 ^ k : Nat) : Rat) = t at *
     generalize p2 (-(k : Int)) = p at *
     rw [← h6, Rat.mul_assoc, Rat.mul_comm t p, hp, Rat.mul_one]
theorem trw_val {b : Nat} (h : Fin64 b) (hq : Lim (fval b)) : Fin64 (trw b) ∧ trw b < 18446744073709551616 ∧ (fval (trw b) = fval b ↔ M 1 (fval b)) := by
 have e : FloatKind.f64.decode b = .number (fneg b) (fmag (frung b)) (fpl (frung b)) := read_fin h
 have hm : fmag (frung b) ≤ 9007199254740992 := Nat.le_of_lt (fmag_lt _)
 obtain ⟨n, hn, h1, h2, h3⟩ := cut_val (fmag (frung b)) (fpl (frung b)) hm
 have hv := fval_eq b
 have et : trw b = Ieee.double.write (.number (fneg b) n 0) := by
   unfold trw
   rw [e]
   show Ieee.double.write (.number (fneg b) (Ieee.Toward.zero.cut (fneg b) (fmag (frung b) <<< (fpl (frung b)).toNat) (-fpl (frung b)).toNat) 0) = _
   rw [cut_shift, hn]
 have hF := fc_word h
 clear hn e
 generalize ((fmag (frung b) : Nat) : Rat) * p2 (fpl (frung b)) = X at *
 have hX : X < p2 1023 := by
   have h4 := hq.1
   have h5 := hq.2
   rw [hv] at h4 h5
   revert h4 h5
   unfold sgn1
   cases fneg b
   · rw [if_neg (by decide)]; grind
   · rw [if_pos rfl]; grind
 have n0 : (0 : Rat) ≤ ((n : Nat) : Rat) := Rat.natCast_nonneg
 obtain ⟨r, er, fr, lr, hr⟩ := write_rv (fneg b) n 0 (by rw [p2_zero, Rat.mul_one]; grind)
 rw [p2_zero, Rat.mul_one] at hr
 have ev : fval r = sgn1 (fneg b) * ((n : Nat) : Rat) := by
   apply hr.rn.exact
   rcases h2 with h2 | h2
   · rw [h2, ← hv]
     obtain ⟨S, m, c⟩ := hF
     exact c.f
   · have : F ((n : Int) : Rat) := F_int n (by omega) (by omega)
     unfold sgn1
     cases fneg b
     · rw [if_neg (by decide), Rat.one_mul]
       exact this
     · rw [if_pos rfl]
       have := this.neg
       rwa [show -((n : Int) : Rat) = -1 * ((n : Nat) : Rat) by show -((n : Nat) : Rat) = _; grind] at this
 rw [et, er]
 refine ⟨fr, lr, ?_⟩
 rw [M_one, ev, hv]
 constructor
 · intro e1
   rw [← e1]
   unfold sgn1
   cases fneg b
   · exact ⟨n, by rw [if_neg (by decide), Rat.one_mul]; rfl⟩
   · exact ⟨-(n : Int), by rw [Rat.intCast_neg, if_pos rfl]; show _ = -((n : Nat) : Rat); grind⟩
 · rintro ⟨k, ek⟩
   rw [h3]
   revert ek
   unfold sgn1
   cases fneg b
   · intro ek
     rw [if_neg (by decide), Rat.one_mul] at ek
     exact ⟨k, ek⟩
   · intro ek
     rw [if_pos rfl] at ek
     exact ⟨-k, by rw [Rat.intCast_neg, ← ek]; grind⟩
def Crd (x : Nat) : Prop := frung x ≤ 5057542381537067008 ∧ M (U 974) (fval x)
theorem trunc_any (b : Nat) (w : World) (h : Fin64 b) : Calls Tryd.prog 78 #[.float .f64 b] w fun e w' => e = .returned (.float .f64 (trw b)) ∧ w' = w := by
 have r1 := run_trunc b h
 clear h
 go_enter Tryd.func78, Tryd.ntmps78
 go_wp2
 go_ret
 exact ⟨rfl, rfl⟩
theorem steps_one {q : Rat} : M 1 (q * U 1174) ↔ M (U 974) q := by
 have hu := U_mulX' (s := 974) (t := 1174) (r := 1074) (by omega)
 have h1 : U 1074 = 1 := by unfold U; exact p2_zero
 rw [h1] at hu
 constructor
 · rintro ⟨k, e⟩
   refine ⟨k, ?_⟩
   have : q * U 1174 * U 974 = (k : Rat) * U 974 := by rw [e, Rat.mul_one]
   rw [← this, Rat.mul_assoc, Rat.mul_comm (U 1174), hu, Rat.mul_one]
 · rintro ⟨k, e⟩
   refine ⟨k, ?_⟩
   rw [e, Rat.mul_assoc, hu]
end

/- Floats by their values: a float is told by its number; what is a float is written exactly; products and conversions that are floats. -/
section
open Go.RowKit
theorem fval_sgn {a : Nat} (ha : Fin64 a) (la : a < 18446744073709551616) : (a = frung a ∧ fval a = fval (frung a)) ∨ (a = 9223372036854775808 + frung a ∧ fval a = -fval (frung a)) := by
 rcases Nat.lt_or_ge a 9223372036854775808 with h | h
 · left
   have e : frung a = a := by unfold frung; omega
   rw [e]; exact ⟨rfl, rfl⟩
 · right
   have e : a = 9223372036854775808 + frung a := by unfold frung; omega
   refine ⟨e, ?_⟩
   have := fval_word (r := frung a) ha
   rw [← this, ← e]
theorem rung_inj {r s : Nat} (hr : r < 9218868437227405312) (hs : s < 9218868437227405312) (h : fval r = fval s) : r = s := by
 rcases Nat.lt_trichotomy r s with a | a | a
 · have := fval_lt a hs; grind
 · exact a
 · have := fval_lt a hr; grind
theorem fval_inj {a b : Nat} (ha : Fin64 a) (hb : Fin64 b) (la : a < 18446744073709551616) (lb : b < 18446744073709551616) (h : fval a = fval b) (h0 : fval a ≠ 0) : a = b := by
 have na := fval_nonneg (r := frung a) ha
 have nb := fval_nonneg (r := frung b) hb
 rcases fval_sgn ha la with ⟨e1, v1⟩ | ⟨e1, v1⟩ <;> rcases fval_sgn hb lb with ⟨e2, v2⟩ | ⟨e2, v2⟩
 · have := rung_inj ha hb (by rw [← v1, ← v2]; exact h)
   omega
 · exfalso; grind
 · exfalso; grind
 · have := rung_inj ha hb (by grind)
   omega
theorem near_finJ {q : Rat} {r : Nat} (h : Near q r) (hq : q < 18014398509481983 * p2 970) : r < 9218868437227405312 := by
 rcases h with ⟨rfl, rfl⟩ | ⟨_, T, k, hl, hh, e⟩
 · omega
 · have hb := kept_bounds hl hh
   have hT : T ≤ 2045 := by
     rcases hl.1 with h | h
     · omega
     · have e1 : ((9007199254740992 : Int) : Rat) * p2 ((T : Int) - 1075) = p2 ((T : Int) - 1022) := by
         rw [show (T : Int) - 1022 = ((T : Int) - 1075) + ((53 : Nat) : Int) by omega, p2_add, p2_nat, Rat.mul_comm]; rfl
       rw [e1] at h
       have e2 : (18014398509481983 : Rat) * p2 970 ≤ p2 1024 := by
         have h1 : p2 1024 = 18014398509481984 * p2 970 := by
           rw [show (1024 : Int) = ((54 : Nat) : Int) + 970 by omega, p2_add, p2_nat]; rfl
         have := p2_pos 970
         rw [h1]
         grind
       have := p2_lt_iff.1 (lt_of_le_lt h (lt_of_lt_le hq e2))
       omega
   rcases Nat.lt_or_ge T 2045 with h | h
   · omega
   · obtain rfl : T = 2045 := by omega
     have s1 := hh.1
     rw [show ((2045 : Nat) : Int) - 1075 = 970 from rfl] at s1
     have s2 : ((2 * (k : Int) - 1 : Int) : Rat) * p2 970 < ((18014398509481983 : Int) : Rat) * p2 970 := lt_of_le_lt s1 hq
     have s3 := int_lt (p2_pos 970) s2
     omega
theorem max_val : fval 9218868437227405311 = 18014398509481982 * p2 970 := by
 rw [(fval_pos_lt (r := 9218868437227405311) (by omega)).1]
 rw [show fmag 9218868437227405311 = 9007199254740991 by decide, show fpl 9218868437227405311 = 1 + 970 by decide, p2_add, p2_one]
 have : ((9007199254740991 : Nat) : Rat) = 9007199254740991 := rfl
 rw [this]; grind
theorem write_exact {s : Bool} {m z : Nat} {place : Int} (hz : Fin64 z) (lz : z < 18446744073709551616) (h : fval z = sgn1 s * ((m : Nat) * p2 place)) (h0 : fval z ≠ 0) : Ieee.double.write (.number s m place) = z := by
 have hm : m ≠ 0 := by
   intro e
   apply h0
   rw [h, e, show ((0 : Nat) : Rat) = 0 from rfl]
   grind
 obtain ⟨r, e, hn⟩ := nearest_near s m place hm
 show Ieee.double.nearest s m place = z
 rw [e]
 have hX0 := (near_nonneg hn).1
 obtain ⟨S, c, hf⟩ := fc_word hz
 have hF := hf.f
 have hmax := fval_le_max (r := frung z) hz
 have hr0 := fval_nonneg (r := frung z) hz
 rw [max_val] at hmax
 have h970 := p2_pos 970
 have hXne : ((m : Nat) : Rat) * p2 place ≠ 0 := by
   intro e; apply h0; rw [h, e]; grind
 have fin : ∀ q : Rat, q = ((m : Nat) : Rat) * p2 place → q = fval (frung z) → F q → r = frung z := by
   intro q e1 e2 hq
   rw [← e1] at hn
   have hb : r < 9218868437227405312 := near_finJ hn (by rw [e2]; grind)
   obtain ⟨T, k, R⟩ := near_rnd hn hb
   have := R.exact hq
   exact rung_inj hb hz (by rw [this, e2])
 generalize hX : ((m : Nat) : Rat) * p2 place = X at *
 rcases fval_sgn hz lz with ⟨ez, ev⟩ | ⟨ez, ev⟩
 · cases s
   · have e2 : X = fval (frung z) := by rw [← ev, h]; simp [sgn1]
     have := fin X rfl e2 (by rw [e2, ← ev]; exact hF)
     rw [word_false]; omega
   · exfalso
     rw [ev] at h
     simp [sgn1] at h
     grind
 · cases s
   · exfalso
     rw [ev] at h
     simp [sgn1] at h
     grind
   · have e2 : X = fval (frung z) := by
       have : -fval (frung z) = -1 * X := by rw [← ev, h]; simp [sgn1]
       grind
     have := fin X rfl e2 (by
       have hn := hF.neg
       rw [ev] at hn
       rw [e2]
       rwa [show - -fval (frung z) = fval (frung z) by grind] at hn)
     rw [Ieee.Format.word, d_sw, if_pos rfl, this]
     exact ez.symm
theorem mul_exact {a b z : Nat} (ha : Fin64 a) (hb : Fin64 b) (hz : Fin64 z) (lz : z < 18446744073709551616) (h : fval z = fval a * fval b) (h0 : fval z ≠ 0) : Ieee.double.mul a b = some z := by
 show ((Ieee.double.read a).product (Ieee.double.read b)).map Ieee.double.write = some z
 rw [read_fin ha, read_fin hb]
 unfold Ieee.Datum.product
 simp only [Option.map_some]
 have e : fval a * fval b = sgn1 (fneg a ^^ fneg b) * (((fmag (frung a) * fmag (frung b) : Nat) : Rat) * p2 (fpl (frung a) + fpl (frung b))) := by
   rw [fval_eq a, fval_eq b, p2_add, Rat.natCast_mul]
   generalize ((fmag (frung a) : Nat) : Rat) = m
   generalize ((fmag (frung b) : Nat) : Rat) = n
   generalize p2 (fpl (frung a)) = u
   generalize p2 (fpl (frung b)) = v
   cases fneg a <;> cases fneg b <;> simp [sgn1] <;> grind
 rw [e] at h
 rw [write_exact hz lz h h0]
theorem toInt_exact {z : Nat} {k : Int} (hz : Fin64 z) (h : fval z = (k : Rat)) : Ieee.Datum.toInt .zero (FloatKind.f64.decode z) = some k := by
 have e : FloatKind.f64.decode z = .number (fneg z) (fmag (frung z)) (fpl (frung z)) := read_fin hz
 rw [e]
 show some (Ieee.signed (fneg z) (Ieee.Toward.zero.cut (fneg z) (fmag (frung z) <<< (fpl (frung z)).toNat) (-fpl (frung z)).toNat) 0) = _
 rw [cut_shift]
 obtain ⟨n, hn, _, _, h3⟩ := cut_val (fmag (frung z)) (fpl (frung z)) (Nat.le_of_lt (fmag_lt _))
 rw [hn]
 have hv := fval_eq z
 generalize ((fmag (frung z) : Nat) : Rat) * p2 (fpl (frung z)) = X at *
 rw [hv] at h
 congr 1
 unfold Ieee.signed
 rw [Nat.shiftLeft_zero]
 revert h
 unfold sgn1
 cases fneg z
 · rw [if_neg (by decide), if_neg (by decide), Rat.one_mul]
   intro h
   have := h3 ⟨k, h⟩
   rw [h] at this
   exact Rat.intCast_inj.1 (show ((n : Int) : Rat) = (k : Rat) from this)
 · rw [if_pos rfl, if_pos rfl]
   intro h
   have hX : X = ((-k : Int) : Rat) := by rw [Rat.intCast_neg]; grind
   have := h3 ⟨-k, hX⟩
   rw [hX] at this
   have t := Rat.intCast_inj.1 (show ((n : Int) : Rat) = ((-k : Int) : Rat) from this)
   omega
theorem conv_int {z : Nat} {k : Int} (hz : Fin64 z) (h : fval z = (k : Rat)) (h1 : -9223372036854775808 ≤ k) (h2 : k ≤ 9223372036854775807) : floatToIntVal .f64 z .i64 = some k := by
 unfold floatToIntVal
 rw [toInt_exact hz h]
 have h3 : IntKind.i64.min = -9223372036854775808 := by decide
 have h4 : IntKind.i64.max = 9223372036854775807 := by decide
 simp only [h3, h4]
 rw [if_pos ⟨h1, h2⟩]
def fwJ (n : Int) : Nat := floatOfInt .f64 n
theorem fwJ_val {n : Int} (h1 : -9007199254740992 ≤ n) (h2 : n ≤ 9007199254740992) : Fin64 (fwJ n) ∧ fwJ n < 18446744073709551616 ∧ fval (fwJ n) = (n : Rat) := by
 have hq : ((n.natAbs : Nat) : Rat) * p2 0 < p2 1023 := by
   rw [p2_zero, Rat.mul_one]
   have a : ((n.natAbs : Nat) : Rat) ≤ ((9007199254740992 : Nat) : Rat) := Rat.natCast_le_natCast.2 (by omega)
   have b : ((9007199254740992 : Nat) : Rat) = p2 53 := by rw [show (53 : Int) = ((53 : Nat) : Int) from rfl, p2_nat]
   have c : p2 53 < p2 1023 := p2_lt (by omega)
   rw [b] at a
   grind
 obtain ⟨r, er, fr, lr, hr⟩ := write_rv (decide (n < 0)) n.natAbs 0 hq
 have e : fwJ n = r := er
 have hv : sgn1 (decide (n < 0)) * (((n.natAbs : Nat) : Rat) * p2 0) = (n : Rat) := by
   rw [p2_zero, Rat.mul_one]
   unfold sgn1
   by_cases h : n < 0
   · rw [decide_eq_true h, if_pos rfl]
     have : ((n.natAbs : Nat) : Rat) = ((-n : Int) : Rat) := by
       rw [show ((n.natAbs : Nat) : Rat) = ((n.natAbs : Int) : Rat) from rfl, show (n.natAbs : Int) = -n by omega]
     rw [this, Rat.intCast_neg]; grind
   · rw [decide_eq_false h, if_neg (by decide), Rat.one_mul]
     rw [show ((n.natAbs : Nat) : Rat) = ((n.natAbs : Int) : Rat) from rfl, show (n.natAbs : Int) = n by omega]
 rw [hv] at hr
 rw [e]
 exact ⟨fr, lr, hr.rn.exact (F_int n h1 h2)⟩
theorem trw_full {b : Nat} (h : Fin64 b) (lb : b < 18446744073709551616) : Fin64 (trw b) ∧ trw b < 18446744073709551616 ∧ (fval (trw b) = fval b ↔ M 1 (fval b)) := by
 by_cases hq : Lim (fval b)
 · exact trw_val h hq
 · have hv := fval_eq b
   have hp : 0 ≤ fpl (frung b) := by
     apply Classical.byContradiction
     intro hp
     apply hq
     have hm : ((fmag (frung b) : Nat) : Rat) < p2 53 := by
       rw [show (53 : Int) = ((53 : Nat) : Int) from rfl, p2_nat]
       exact Rat.natCast_lt_natCast.2 (fmag_lt _)
     have hu : p2 (fpl (frung b)) ≤ 1 := by rw [← p2_zero]; exact p2_mono (by omega)
     have hu0 := p2_pos (fpl (frung b))
     have hm0 : (0 : Rat) ≤ ((fmag (frung b) : Nat) : Rat) := Rat.natCast_nonneg
     have hX : ((fmag (frung b) : Nat) : Rat) * p2 (fpl (frung b)) < p2 1023 := by
       have a := Rat.mul_le_mul_of_nonneg_left hu hm0
       rw [Rat.mul_one] at a
       have c : p2 53 < p2 1023 := p2_lt (by omega)
       grind
     have hX0 : 0 ≤ ((fmag (frung b) : Nat) : Rat) * p2 (fpl (frung b)) := Rat.mul_nonneg hm0 (Rat.le_of_lt hu0)
     rw [hv]
     generalize ((fmag (frung b) : Nat) : Rat) * p2 (fpl (frung b)) = X at *
     unfold Lim sgn1
     cases fneg b
     · rw [if_neg (by decide)]; constructor <;> grind
     · rw [if_pos rfl]; constructor <;> grind
   obtain ⟨k, hk⟩ : ∃ k : Nat, fpl (frung b) = (k : Int) := ⟨(fpl (frung b)).toNat, by omega⟩
   have hb0 : fval b ≠ 0 := by
     intro e
     apply hq
     rw [e]
     exact ⟨p2_pos _, by have := p2_pos 1023; grind⟩
   have et : trw b = b := by
     unfold trw
     rw [show FloatKind.f64.decode b = .number (fneg b) (fmag (frung b)) (fpl (frung b)) from read_fin h]
     show Ieee.double.write (.number (fneg b) (Ieee.Toward.zero.cut (fneg b) (fmag (frung b) <<< (fpl (frung b)).toNat) (-fpl (frung b)).toNat) 0) = _
     rw [cut_shift, hk, show (-(k : Int)).toNat = 0 by omega, Int.toNat_natCast, Nat.shiftRight_zero, Nat.shiftLeft_eq]
     refine write_exact h lb ?_ hb0
     rw [hv, hk, p2_zero, Rat.mul_one, nat_mul_p2]
   rw [et]
   refine ⟨h, lb, iff_of_true rfl ?_⟩
   rw [M_one, hv, hk, p2_nat]
   unfold sgn1
   cases fneg b
   · exact ⟨((fmag (frung b) * 2 ^ k : Nat) : Int), by rw [if_neg (by decide), Rat.one_mul, ← Rat.natCast_mul]; rfl⟩
   · exact ⟨-((fmag (frung b) * 2 ^ k : Nat) : Int), by rw [if_pos rfl, Rat.intCast_neg, ← Rat.natCast_mul]; show -1 * (((fmag (frung b) * 2 ^ k : Nat) : Int) : Rat) = _; grind⟩
end

/- Package expand: lists of its own; a list that grows; a list turned about. -/
section
open Go.RowKit
def f64s (bs : List Nat) : List Value := bs.map (Value.float .f64)
structure Fr (w : World) (B : Nat) (v : Value) (bs : List Nat) : Prop where
 own : w.ownsRow B 35 1 v bs.length (f64s bs)
 word : ∀ b ∈ bs, b < 18446744073709551616
theorem Fr.fs {w : World} {B : Nat} {v : Value} {bs : List Nat} (h : Fr w B v bs) : Fs w v bs := by
 refine ⟨?_, h.word⟩
 rcases h.own.2 with ⟨h1, h2⟩ | ⟨g, cap, cur, h1, h2, h3, h4, h5, _⟩
 · exact ⟨none, 0, by rw [h1, h2], by omega, by omega, Or.inl (List.eq_nil_of_length_eq_zero h2)⟩
 · refine ⟨_, cap, h1, h4, by unfold maxLen at h5; omega, Or.inr ⟨g, 0, rfl, fun k hk => ?_⟩⟩
   have := h.own.cells (g := g) (by rw [h1]; rfl) k (.float .f64 (bs.getD k 0)) (by simp [f64s, List.getD, hk])
   rwa [show (⟨g, 0, none⟩ : Addr).add k = ⟨g, 0 + k, none⟩ by unfold Addr.add; split <;> simp_all] at this
theorem Fr.mono {w : World} {B B' : Nat} {v : Value} {bs : List Nat} (h : Fr w B v bs) (hB : B' ≤ B) : Fr w B' v bs := by
 refine ⟨⟨h.own.1, ?_⟩, h.word⟩
 rcases h.own.2 with h1 | ⟨g, cap, cur, h1, h2, h3⟩
 · exact Or.inl h1
 · exact Or.inr ⟨g, cap, cur, h1, by omega, h3⟩
theorem Fr.later {w w' : World} {B : Nat} {v : Value} {bs : List Nat} (h : Fr w B v bs) (hb : Below w.heap.size w w') : Fr w' B v bs := by
 refine ⟨⟨h.own.1, ?_⟩, h.word⟩
 rcases h.own.2 with h1 | ⟨g, cap, cur, h1, h2, h3, h4⟩
 · exact Or.inl h1
 · refine Or.inr ⟨g, cap, cur, h1, h2, ?_, h4⟩
   rw [hb.block g (Array.getElem?_eq_some_iff.1 h3).1]; exact h3
theorem Fr.nil (w : World) (B : Nat) : Fr w B (.slice none 0 0) [] := ⟨World.ownsRow_nil w B _ 1, fun b hb => by cases hb⟩
theorem Fr.low {w : World} {B : Nat} {v : Value} {bs : List Nat} (h : Fr w B v bs) {a : Addr} (hb : a.block < B) (x : Value) : Fr (w.setCell a x) B v bs :=
 ⟨ownsRow_setCell_below h.own hb x, h.word⟩
def gw (bs : List Nat) (x : Nat) : List Nat := if frung x = 0 then bs else bs ++ [x]
end

/- Package expand: the next float of two lists. -/
section
open Go.RowKit
attribute [local go_sem ↓] Go.wp_at_zero Go.wp_at_succ
end

/- Package expand: the next float of two lists, whatever they are; what rises. -/
section
open Go.RowKit
def Box1 (w : World) (b : Nat) (v : Value) : Prop := w.heap[b]? = some (.cells #[v] 32 (0, 0))
theorem Box1.cell {w : World} {b : Nat} {v : Value} (h : Box1 w b v) : w.cell? ⟨b, 0, none⟩ = some v := by
 unfold Box1 at h
 simp [World.cell?, h]
theorem Box1.frozen {w : World} {b : Nat} {v : Value} (h : Box1 w b v) : w.frozen? ⟨b, 0, none⟩ = false := by
 unfold Box1 at h
 simp [World.frozen?, h]
theorem Box1.set {w : World} {b : Nat} {v : Value} (h : Box1 w b v) (u : Value) : Box1 (w.setCell ⟨b, 0, none⟩ u) b u := by
 unfold Box1 at *
 simp [World.setCell, Array.getElem?_modify, h]
theorem Box1.other {w : World} {b : Nat} {v : Value} (h : Box1 w b v) {a : Addr} (hne : b ≠ a.block) (u : Value) : Box1 (w.setCell a u) b v := by
 unfold Box1 at *
 rw [Below.heap_setCell w a u b hne]; exact h
theorem Box1.later {B : Nat} {w w' : World} {b : Nat} {v : Value} (h : Box1 w b v) (hb : Below B w w') (hl : b < B) : Box1 w' b v := by
 unfold Box1 at *
 rw [hb.block b hl]; exact h
theorem Box1.lt {w : World} {b : Nat} {v : Value} (h : Box1 w b v) : b < w.heap.size := (Array.getElem?_eq_some_iff.1 h).1
theorem Fs.tail {w : World} {g off n c x : Nat} {re : List Nat} {ao : Option Addr} (h : Fs w (.slice (some ⟨g, off, none⟩) (n + 1) c) (x :: re)) (ha : (if c = 1 then some (⟨g, off, none⟩ : Addr) else some ⟨g, off + 1, none⟩) = ao) : Fs w (.slice ao n (c - 1)) re := by
 obtain ⟨⟨a, c', e, hc, hm, hf⟩, hw⟩ := h
 cases e
 refine ⟨⟨ao, c - 1, rfl, by simp at hc; omega, by omega, ?_⟩, fun b hb => hw b (by simp [hb])⟩
 rcases hf with hf | ⟨g', off', e, hf⟩
 · cases hf
 · cases e
   by_cases h0 : re = []
   · exact Or.inl h0
   · right
     have : 0 < re.length := List.length_pos_iff.2 h0
     simp at hc
     rw [if_neg (by omega)] at ha
     refine ⟨g, off + 1, ha.symm, fun k hk => ?_⟩
     have := hf (k + 1) (by simp; omega)
     rw [show off + 1 + k = off + (k + 1) by omega, this]
     simp [List.getD]
theorem Fs.head {w : World} {s : Value} {x : Nat} {re : List Nat} (h : Fs w s (x :: re)) : ∃ g off c, s = .slice (some ⟨g, off, none⟩) (re.length + 1) c ∧ re.length + 1 ≤ c ∧ c ≤ 9223372036854775807 ∧ w.cell? ⟨g, off, none⟩ = some (.float .f64 x) := by
 obtain ⟨⟨a, c', e, hc, hm, hf⟩, hw⟩ := h
 rcases hf with hf | ⟨g, off, e2, hf⟩
 · cases hf
 · subst e2
   refine ⟨g, off, c', e, by simpa using hc, hm, ?_⟩
   have := hf 0 (by simp)
   simpa [List.getD] using this
theorem Fs.none {w : World} {s : Value} (h : Fs w s []) : ∃ a c, s = .slice a 0 c := by
 obtain ⟨⟨a, c', e, _⟩, _⟩ := h
 exact ⟨a, c', e⟩
def vals (bs : List Nat) : List Rat := bs.map fval
structure Up (N : Nat) (bs : List Nat) : Prop where
 ex : Ex (vals bs)
 fin : ∀ b ∈ bs, Fin64 b
 lim : ∀ b ∈ bs, ab (fval b) < U N
theorem F_fval {b : Nat} (h : Fin64 b) : F (fval b) := by
 obtain ⟨S, m, c⟩ := fc_word h
 exact c.f
theorem vals_gw (bs : List Nat) (x : Nat) : vals (gw bs x) = grownR (vals bs) (fval x) := by
 have hz : fval x = 0 ↔ frung x = 0 := fval_zero_iff
 unfold gw grownR
 by_cases h : frung x = 0
 · rw [if_pos h, if_pos (hz.2 h)]
 · rw [if_neg h, if_neg (fun e => h (hz.1 e))]; simp [vals]
theorem ab_rung {x y : Nat} (hx : Fin64 x) (hy : Fin64 y) (h : frung x ≤ frung y) : ab (fval x) ≤ ab (fval y) := by
 rw [← ab_fval x hx, ← ab_fval y hy]
 rcases Nat.lt_or_ge (frung x) (frung y) with h1 | h1
 · exact Rat.le_of_lt (fval_lt h1 hy)
 · rw [show frung x = frung y by omega]; exact Rat.le_refl
theorem tame_of {a : Nat} (h : Fin64 a) (hl : ab (fval a) ≤ U 2074) : frung a ≤ 9110782046170513408 := by
 rcases Nat.lt_or_ge 9110782046170513408 (frung a) with h1 | h1
 · exfalso
   have := fval_lt h1 h
   rw [tame_top, ab_fval a h] at this
   rw [show U 2074 = p2 1000 from rfl] at hl
   grind
 · exact h1
end

/- Package expand: two lists joined. -/
section
open Go.RowKit
theorem JInv.bounds {N : Nat} {de re df rf outs : List Rat} {Q q : Rat} (I : JInv N de re df rf outs Q q) : ab Q ≤ U (N + 2) ∧ ab q ≤ 3 * U N := by
 obtain ⟨T, k, R⟩ := I.rq
 have h1 := I.size
 have h2 := U_succ N
 have h3 := U_succ (N + 1)
 have h4 := U_pos N
 refine ⟨R.le_pow' (by rw [show N + 2 = N + 1 + 1 by omega]; grind), ?_⟩
 have := R.rest_le
 rw [show Q + q - Q = q by grind] at this
 grind
theorem Fr.drew {w : World} {B : Nat} {v : Value} {bs : List Nat} (h : Fr w B v bs) : Fr w.drew B v bs := ⟨h.own.drew, h.word⟩
structure JW (w : World) (es fs de re df rf outs : List Nat) (v : Value) (wr : World) : Prop where
 box : ∃ se sf, Box1 wr w.heap.size se ∧ Box1 wr (w.heap.size + 1) sf ∧ Fs w se re ∧ Fs w sf rf
 e1 : es = de ++ re
 e2 : fs = df ++ rf
 row : Fr wr (w.heap.size + 2) v outs
 bel : Below w.heap.size w wr
 siz : w.heap.size + 2 ≤ wr.heap.size
theorem JW.done {w : World} {es fs de re df rf outs : List Nat} {v : Value} {wr wr' : World} (h : JW w es fs de re df rf outs v wr) (hb : Below wr.heap.size wr wr') : JW w es fs de re df rf outs v wr' := by
 obtain ⟨se, sf, b1, b2, f1, f2⟩ := h.box
 exact ⟨⟨se, sf, b1.later hb b1.lt, b2.later hb b2.lt, f1, f2⟩, h.e1, h.e2, h.row.later hb, h.bel.trans (hb.mono h.bel.size), Nat.le_trans h.siz hb.size⟩
theorem JW.grown {w : World} {es fs de re df rf outs outs' : List Nat} {v v' : Value} {wr wr' : World} (h : JW w es fs de re df rf outs v wr) (hr : Fr wr' (w.heap.size + 2) v' outs') (hb : Below (w.heap.size + 2) wr wr') : JW w es fs de re df rf outs' v' wr' := by
 obtain ⟨se, sf, b1, b2, f1, f2⟩ := h.box
 exact ⟨⟨se, sf, b1.later hb (by omega), b2.later hb (by omega), f1, f2⟩, h.e1, h.e2, hr, h.bel.trans (hb.mono (by omega)), Nat.le_trans h.siz hb.size⟩
theorem JW.left {w : World} {es fs de re df rf outs : List Nat} {x : Nat} {v s : Value} {wr : World} (h : JW w es fs de (x :: re) df rf outs v wr) (hs : Fs w s re) : JW w es fs (de ++ [x]) re df rf outs v (wr.setCell ⟨w.heap.size, 0, none⟩ s).drew.drew := by
 obtain ⟨se, sf, b1, b2, f1, f2⟩ := h.box
 exact ⟨⟨s, sf, b1.set s, b2.other (by simp) s, hs, f2⟩, by rw [h.e1]; simp, h.e2, (h.row.low (a := ⟨_, 0, none⟩) (by simp) s).drew.drew, (h.bel.setCell (by simp) s).drew.drew, by have := h.siz; simpa [World.setCell] using this⟩
theorem JW.right {w : World} {es fs de re df rf outs : List Nat} {x : Nat} {v s : Value} {wr : World} (h : JW w es fs de re df (x :: rf) outs v wr) (hs : Fs w s rf) : JW w es fs de re (df ++ [x]) rf outs v (wr.setCell ⟨w.heap.size + 1, 0, none⟩ s).drew.drew := by
 obtain ⟨se, sf, b1, b2, f1, f2⟩ := h.box
 exact ⟨⟨se, s, b1.other (by simp) s, b2.set s, f1, hs⟩, h.e1, by rw [h.e2]; simp, (h.row.low (a := ⟨_, 0, none⟩) (by simp) s).drew.drew, (h.bel.setCell (by simp) s).drew.drew, by have := h.siz; simpa [World.setCell] using this⟩
def nzw (x : Nat) : Nat := if frung x = 0 then 0 else 1
theorem nzw_le (x : Nat) : nzw x ≤ 1 := by unfold nzw; split <;> omega
theorem nzw_zero {x : Nat} (h : fval x = 0) : nzw x = 0 := by unfold nzw; rw [if_pos (fval_zero_iff.1 h)]
theorem val_nzw {x : Nat} (h : nzw x = 0) : fval x = 0 := by
 unfold nzw at h
 split at h
 · exact fval_zero_iff.2 (by assumption)
 · omega
theorem gw_len (bs : List Nat) (x : Nat) : (gw bs x).length = bs.length + nzw x := by unfold gw nzw; split <;> simp
structure JS (N : Nat) (de re df rf outs : List Nat) (Q q : Nat) : Prop where
 inv : JInv N (vals de) (vals re) (vals df) (vals rf) (vals outs) (fval Q) (fval q)
 fin : Fin64 Q ∧ Fin64 q ∧ Q < 18446744073709551616 ∧ q < 18446744073709551616
 fo : ∀ b ∈ outs, Fin64 b
 fe : ∀ b ∈ re, Fin64 b
 ff : ∀ b ∈ rf, Fin64 b
 cnt : outs.length + nzw q + nzw Q ≤ de.length + df.length
theorem head_min {g : Nat} {l : List Nat} (hf : ∀ b ∈ l, Fin64 b) (hg : Fin64 g) (hx : Ex (vals l)) (h : ∀ y, l.head? = some y → frung g ≤ frung y) : ∀ y ∈ vals l, ab (fval g) ≤ ab y := by
 intro y hy
 cases l with
 | nil => simp [vals] at hy
 | cons a l =>
   have h1 := ab_rung hg (hf a (by simp)) (h a rfl)
   simp only [vals, List.map_cons, List.mem_cons] at hy
   rcases hy with rfl | hy
   · exact h1
   · have h2 := (List.pairwise_cons.1 hx.1).1 y hy
     have h3 := h2.lt (hx.2 y (by simp [vals]; exact Or.inr (by simpa using hy)))
     grind
theorem rv_rnd {q x : Rat} (h : RV q x) : ∃ T k, Rnd q x T k := h.rn
theorem JS.step {N : Nat} {de re df rf outs : List Nat} {Q q g R h Q' q' : Nat} (hN : N ≤ 2070) (I : JS N de (g :: re) df rf outs Q q) (hm : ∀ y, rf.head? = some y → frung g ≤ frung y)
   (p1 : Pair (TameW g q) (fval g + fval q) R h) (p2 : Pair (TameW Q R) (fval Q + fval R) Q' q') : JS N (de ++ [g]) re df rf (gw outs h) Q' q' := by
 obtain ⟨iQ, iq⟩ := I.inv.bounds
 have hg := I.fe g (by simp)
 have bg : ab (fval g) < U N := (I.inv.b1 (fval g) (by simp [vals])).2
 have u1 := U_succ N
 have u2 := U_succ (N + 1)
 have u3 : U (N + 2) ≤ U 2074 := U_mono (by omega)
 have u0 := U_pos N
 have eN : U (N + 2) = U (N + 1 + 1) := rfl
 have t1 : TameW g q := ⟨tame_of hg (by grind), tame_of I.fin.2.1 (by grind)⟩
 obtain ⟨fR, fh, lR, lh, ⟨_, r1, e1⟩ | ⟨c, _⟩⟩ := p1
 · obtain ⟨T1, k1, R1⟩ := rv_rnd r1
   have bR : ab (fval R) ≤ U (N + 2) := R1.le_pow' (by have := ab_add (fval g) (fval q); grind)
   have t2 : TameW Q R := ⟨tame_of I.fin.1 (by grind), tame_of fR (by grind)⟩
   obtain ⟨fQ', fq', lQ', lq', ⟨_, r2, e2⟩ | ⟨c, _⟩⟩ := p2
   · obtain ⟨T2, k2, R2⟩ := rv_rnd r2
     have hmin := head_min I.ff hg I.inv.e2.right hm
     have J := I.inv.step (g := fval g) (re := vals re) hmin R1 e1 (F_fval fh) R2 e2 (F_fval fq')
     refine ⟨?_, ⟨fQ', fq', lQ', lq'⟩, ?_, fun b hb => I.fe b (by simp [hb]), I.ff, ?_⟩
     · rw [vals_gw, show vals (de ++ [g]) = vals de ++ [fval g] by simp [vals]]; exact J
     · intro b hb
       unfold gw at hb
       split at hb
       · exact I.fo b hb
       · rcases List.mem_append.1 hb with hb | hb
         · exact I.fo b hb
         · rw [List.mem_singleton.1 hb]; exact fh
     · have c0 := I.cnt
       have a1 : nzw q = 0 → nzw h = 0 := fun hq => by
         have z := val_nzw hq
         have x := r1.rn.exact (by rw [z, show fval g + 0 = fval g by grind]; exact F_fval hg)
         exact nzw_zero (by grind)
       have a2 : nzw Q = 0 → nzw q' = 0 := fun hq => by
         have z := val_nzw hq
         have x := r2.rn.exact (by rw [z, show 0 + fval R = fval R by grind]; exact F_fval fR)
         exact nzw_zero (by grind)
       have b1 := nzw_le h
       have b2 := nzw_le q'
       have b3 := nzw_le Q'
       rw [gw_len, List.length_append, List.length_singleton]
       omega
   · exact absurd t2 c
 · exact absurd t1 c
theorem JS.start {N : Nat} {es fs : List Nat} (h1 : Up N es) (h2 : Up N fs) : JS N [] es [] fs [] 0 0 :=
 ⟨by
   rw [fval0]
   exact JInv.start h1.ex h2.ex (fun x hx => by obtain ⟨b, hb, rfl⟩ := List.mem_map.1 hx; exact ⟨F_fval (h1.fin b hb), h1.lim b hb⟩) (fun x hx => by obtain ⟨b, hb, rfl⟩ := List.mem_map.1 hx; exact ⟨F_fval (h2.fin b hb), h2.lim b hb⟩),
  ⟨fin0, fin0, by omega, by omega⟩, by simp, h1.fin, h2.fin, by decide⟩
theorem gw_mem {bs : List Nat} {x b : Nat} (h : b ∈ gw bs x) : b ∈ bs ∨ b = x := by
 unfold gw at h
 split at h
 · exact Or.inl h
 · rcases List.mem_append.1 h with h | h
   · exact Or.inl h
   · exact Or.inr (List.mem_singleton.1 h)
theorem gw_length (bs : List Nat) (x : Nat) : (gw bs x).length ≤ bs.length + 1 := by unfold gw; split <;> simp
theorem JS.done {N : Nat} {de df outs : List Nat} {Q q : Nat} (I : JS N de [] df [] outs Q q) : Up (N + 3) (gw (gw outs q) Q) ∧ (vals (gw (gw outs q) Q)).sum = (vals de).sum + (vals df).sum ∧ (gw (gw outs q) Q).length ≤ de.length + df.length := by
 obtain ⟨h1, h2, h3⟩ := JInv.done I.inv
 obtain ⟨iQ, iq⟩ := I.inv.bounds
 have u1 := U_succ N
 have u2 := U_succ (N + 1)
 have u3 := U_succ (N + 2)
 have u0 := U_pos N
 have eN : U (N + 2) = U (N + 1 + 1) := rfl
 have eM : U (N + 3) = U (N + 2 + 1) := rfl
 rw [← vals_gw, ← vals_gw] at h1 h2
 refine ⟨⟨h1, fun b hb => ?_, fun b hb => ?_⟩, h2, ?_⟩
 · rcases gw_mem hb with hb | rfl
   · rcases gw_mem hb with hb | rfl
     · exact I.fo b hb
     · exact I.fin.2.1
   · exact I.fin.1
 · rcases gw_mem hb with hb | rfl
   · rcases gw_mem hb with hb | rfl
     · have := (I.inv.b3 (fval b) (by simp [vals]; exact ⟨b, hb, rfl⟩)).2
       grind
     · grind
   · grind
 · have := I.cnt
   rw [gw_len, gw_len]
   omega
end

/- Package expand: the walk of joined. -/
section
open Go.RowKit
theorem below_step {w a b : World} (h : Below w.heap.size w a) (h2 : Below a.heap.size a b) : Below w.heap.size w b := h.trans (h2.mono h.size)
end

/- Package expand: a list times a float. -/
section
open Go.RowKit
def SafeB (b : Nat) : Prop := 2580562586483294208 ≤ frung b ∧ frung b ≤ 6633802251116740608
theorem safe_low : fval 2580562586483294208 = U 624 := by
 rw [(fval_pos_lt (by omega)).1, show fmag 2580562586483294208 = 4503599627370496 by decide, show fpl 2580562586483294208 = -502 by decide]
 unfold U
 rw [show ((624 : Nat) : Int) - 1074 = -502 + ((52 : Nat) : Int) by omega, p2_add, p2_nat, Rat.mul_comm]
theorem SafeB.fin {b : Nat} (h : SafeB b) : Fin64 b := by unfold Fin64; have := h.2; omega
theorem SafeB.ab {b : Nat} (h : SafeB b) : U 624 ≤ ab (fval b) ∧ Go.Proofs.YtgoadpnoagaflaaDoor.ab (fval b) ≤ U 1524 := by
 rw [← ab_fval b h.fin, ← safe_low, show U 1524 = p2 450 from rfl, ← safe_top]
 have f := h.fin
 unfold Fin64 at f
 constructor
 · rcases Nat.lt_or_ge 2580562586483294208 (frung b) with e | e
   · exact Rat.le_of_lt (fval_lt e f)
   · rw [show frung b = 2580562586483294208 by have := h.1; omega]; exact Rat.le_refl
 · rcases Nat.lt_or_ge (frung b) 6633802251116740608 with e | e
   · exact Rat.le_of_lt (fval_lt e (by omega))
   · rw [show frung b = 6633802251116740608 by have := h.2; omega]; exact Rat.le_refl
theorem SafeB.unit {b : Nat} (h : SafeB b) : ∃ B, 572 ≤ B ∧ B ≤ 1472 ∧ M (U B) (fval b) ∧ Go.Proofs.YtgoadpnoagaflaaDoor.ab (fval b) < U (B + 53) := by
 obtain ⟨a1, a2⟩ := h.ab
 have f := F_fval h.fin
 have hb0 : fval b ≠ 0 := by
   intro e
   rw [e] at a1
   have := U_pos 624
   rw [show Go.Proofs.YtgoadpnoagaflaaDoor.ab 0 = 0 by unfold Go.Proofs.YtgoadpnoagaflaaDoor.ab; grind] at a1
   grind
 obtain ⟨K, _, k1, k2⟩ := binade (F.mult0 f) hb0
 have h1 : 624 ≤ K := by
   have : U 624 < U (K + 1) := by grind
   have := U_lt_iff.1 this
   omega
 have h2 : K ≤ 1524 := by
   have : U K ≤ U 1524 := by grind
   exact U_le_iff.1 this
 exact ⟨K - 52, by omega, by omega, f.mult k1, by rw [show K - 52 + 53 = K + 1 by omega]; exact k2⟩
structure SS (b B : Nat) (de re outs : List Nat) (Q : Nat) : Prop where
 inv : SInv (fval b) B (vals de) (vals re) (vals outs) (fval Q)
 fin : Fin64 Q ∧ Q < 18446744073709551616
 fo : ∀ x ∈ outs, Fin64 x
 sd : ∀ x ∈ de, SafeB x
 sr : ∀ x ∈ re, SafeB x
 cnt : outs.length ≤ 2 * de.length
theorem SS.start {b B : Nat} {es : List Nat} (h : Ex (vals es)) (hs : ∀ x ∈ es, SafeB x) : SS b B [] es [] 0 :=
 ⟨by rw [fval0]; exact SInv.start h (fun x hx => by obtain ⟨y, hy, rfl⟩ := List.mem_map.1 hx; exact ⟨F_fval (hs y hy).fin, (hs y hy).ab.1⟩), ⟨fin0, by omega⟩, by simp, by simp, hs, by simp⟩
theorem SS.lim {b B : Nat} {de re outs : List Nat} {Q : Nat} (I : SS b B de re outs Q) (hB : 572 ≤ B ∧ B ≤ 1472) : ab (fval Q) ≤ U 1976 ∧ ∀ x ∈ outs, ab (fval x) < U 1976 := by
 have hd : ∀ d ∈ vals de, ab d < U 1525 := fun d hd => by
   obtain ⟨y, hy, rfl⟩ := List.mem_map.1 hd
   have := (I.sd y hy).ab.2
   have := U_lt_iff.2 (show 1524 < 1525 by omega)
   grind
 constructor
 · have h1 := I.inv.qb 1525 hd (by omega)
   rw [U_mulX' (r := B + 504) (by omega)] at h1
   have := U_mono (show B + 504 ≤ 1976 by omega)
   grind
 · intro x hx
   have h1 := I.inv.hb 1525 hd (by omega) (fval x) (by simp [vals]; exact ⟨x, hx, rfl⟩)
   rw [U_mulX' (r := B + 451) (by omega)] at h1
   have := U_mono (show B + 451 ≤ 1976 by omega)
   grind
theorem SS.step {b B : Nat} {de re outs : List Nat} {Q x T t Q1 h1 Q2 h2 : Nat} (I : SS b B de (x :: re) outs Q) (hb : SafeB b) (hB : 572 ≤ B ∧ B ≤ 1472) (mb : M (U B) (fval b)) (bb : ab (fval b) < U (B + 53))
   (p0 : Pair (SafeP x b) (fval x * fval b) T t) (p1 : Pair (TameW Q t) (fval Q + fval t) Q1 h1) (p2 : Pair (TameW T Q1) (fval T + fval Q1) Q2 h2) : SS b B (de ++ [x]) re (gw (gw outs h1) h2) Q2 := by
 have sx := I.sr x (by simp)
 have lQ := (I.lim hB).1
 have m1 := U_lt_iff.2 (show 1974 < 1975 by omega)
 have u5 := U_succ 1975
 have u6 := U_succ 1976
 have u7 := U_succ 1977
 have u4 := U_succ 1974
 have up := U_pos 1974
 have lt : U 1978 ≤ U 2074 := U_mono (by omega)
 have lxb : ab (fval x * fval b) ≤ U 1974 := by
   rw [ab_mul, ← U_mulX' (s := 1524) (t := 1524) (r := 1974) (by omega)]
   have g1 := Rat.mul_le_mul_of_nonneg_right sx.ab.2 (ab_nonneg (fval b))
   have g2 := Rat.mul_le_mul_of_nonneg_left hb.ab.2 (Rat.le_of_lt (U_pos 1524))
   grind
 obtain ⟨fT, ft, lT, l_t, ⟨_, r0, e0⟩ | ⟨c, _⟩⟩ := p0
 · obtain ⟨T0, k0, R0⟩ := rv_rnd r0
   have bT : ab (fval T) ≤ U 1974 := R0.le_pow' lxb
   have bt : ab (fval t) ≤ U 1974 := by
     have := R0.rest_le
     rw [show fval x * fval b - fval T = fval t by grind] at this
     grind
   have t1 : TameW Q t := ⟨tame_of I.fin.1 (by grind), tame_of ft (by grind)⟩
   obtain ⟨fQ1, fh1, lQ1, lh1, ⟨_, r1, e1⟩ | ⟨c, _⟩⟩ := p1
   · obtain ⟨T1, k1, R1⟩ := rv_rnd r1
     have bQ1 : ab (fval Q1) ≤ U 1977 := R1.le_pow' (by have := ab_add (fval Q) (fval t); grind)
     have t2 : TameW T Q1 := ⟨tame_of fT (by grind), tame_of fQ1 (by grind)⟩
     obtain ⟨fQ2, fh2, lQ2, lh2, ⟨_, r2, e2⟩ | ⟨c, _⟩⟩ := p2
     · obtain ⟨T2, k2, R2⟩ := rv_rnd r2
       have J := I.inv.step (x := fval x) (re := vals re) hB.1 mb bb R0 e0 (F_fval ft) R1 e1 (F_fval fh1) R2 e2 (F_fval fh2)
       refine ⟨?_, ⟨fQ2, lQ2⟩, ?_, ?_, fun y hy => I.sr y (by simp [hy]), ?_⟩
       · rw [vals_gw, vals_gw, show vals (de ++ [x]) = vals de ++ [fval x] by simp [vals]]; exact J
       · intro y hy
         rcases gw_mem hy with hy | rfl
         · rcases gw_mem hy with hy | rfl
           · exact I.fo y hy
           · exact fh1
         · exact fh2
       · intro y hy
         rcases List.mem_append.1 hy with hy | hy
         · exact I.sd y hy
         · rw [List.mem_singleton.1 hy]; exact sx
       · have g1 := gw_length (gw outs h1) h2
         have g2 := gw_length outs h1
         have := I.cnt
         simp
         omega
     · exact absurd t2 c
   · exact absurd t1 c
 · exact absurd ⟨Or.inr sx, Or.inr hb⟩ c
theorem SS.done {b B : Nat} {de outs : List Nat} {Q : Nat} (I : SS b B de [] outs Q) (hB : 572 ≤ B ∧ B ≤ 1472) : Up 1977 (gw outs Q) ∧ (vals (gw outs Q)).sum = (vals de).sum * fval b ∧ (gw outs Q).length ≤ 2 * de.length + 1 := by
 obtain ⟨h1, h2, h3⟩ := SInv.done I.inv
 rw [← vals_gw] at h1 h2
 obtain ⟨l1, l2⟩ := I.lim hB
 have m1 := U_lt_iff.2 (show 1976 < 1977 by omega)
 refine ⟨⟨h1, fun y hy => ?_, fun y hy => ?_⟩, h2, ?_⟩
 · rcases gw_mem hy with hy | rfl
   · exact I.fo y hy
   · exact I.fin.1
 · rcases gw_mem hy with hy | rfl
   · have := l2 y hy
     grind
   · grind
 · have g2 := gw_length outs Q
   have := I.cnt
   omega
structure SW (w : World) (es de re outs : List Nat) (v : Value) (wr : World) : Prop where
 e1 : es = de ++ re
 row : Fr wr w.heap.size v outs
 bel : Below w.heap.size w wr
theorem SW.done {w wr wr' : World} {es de re outs : List Nat} {v : Value} (h : SW w es de re outs v wr) (hb : Below wr.heap.size wr wr') : SW w es de re outs v wr' := ⟨h.e1, h.row.later hb, h.bel.trans (hb.mono h.bel.size)⟩
theorem SW.grown {w wr wr' : World} {es de re outs outs' : List Nat} {v v' : Value} (h : SW w es de re outs v wr) (hr : Fr wr' w.heap.size v' outs') (hb : Below w.heap.size wr wr') : SW w es de re outs' v' wr' := ⟨h.e1, hr, h.bel.trans hb⟩
end
end Go.Proofs.YtgoadpnoagaflaaDoor
