/- Own texts, put together: Oa Et Ew Eh Ex Xe Ha Hc Xf Xg Ob. -/
import Derived.Test.YtgoadpnoagaflaaDoorQ6
import Derived.Test.YtgoadpnoagaflaaDoorQ19
import Derived.Test.YtgoadpnoagaflaaDoorQ24
import Derived.Test.YtgoadpnoagaflaaDoorQ25
import Derived.Test.YtgoadpnoagaflaaDoorQ26
import Derived.Deep.AppendLies
import Derived.OwnWalk
import Derived.Maps.AppendAt
namespace Go.Proofs.YtgoadpnoagaflaaDoor
/- Signs that are told fast, and differences as lists: plain facts. -/
section
theorem RN.rel {q x : Rat} {t : Nat} (h : RN q x) (hm : M (U t) q) : 9007199254740992 * ab (q - x) ≤ ab x := by
 obtain ⟨T, k, R⟩ := h
 rcases Nat.lt_or_ge t T with ht | ht
 · have hu := U_pos T
   have h1 := R.h1
   have h2 := R.h2
   have hx := R.hx
   have hd : 2 * ab (q - x) ≤ U T := by
     have : ab (q - x) ≤ U T / 2 := ab_le.2 ⟨by grind, by grind⟩
     grind
   have hk : 4503599627370496 * U T ≤ ab x := by
     rcases R.h3 with h | h | h
     · omega
     · have : (4503599627370495 : Int) < k := by
         apply cast_lt hu
         rw [← hx, show ((4503599627370495 : Int) : Rat) = 4503599627370495 from rfl]
         grind
       have h3 : (4503599627370496 : Int) ≤ k := by omega
       have h4 : ((4503599627370496 : Int) : Rat) * U T ≤ (k : Rat) * U T := Rat.mul_le_mul_of_nonneg_right (Rat.intCast_le_intCast.2 h3) (Rat.le_of_lt hu)
       rw [← hx, show ((4503599627370496 : Int) : Rat) = 4503599627370496 from rfl] at h4
       exact le_ab.2 (Or.inl h4)
     · have : k < (-4503599627370495 : Int) := by
         apply cast_lt hu
         rw [← hx, show ((-4503599627370495 : Int) : Rat) = -4503599627370495 from rfl]
         grind
       have h3 : k ≤ (-4503599627370496 : Int) := by omega
       have h4 : (k : Rat) * U T ≤ ((-4503599627370496 : Int) : Rat) * U T := Rat.mul_le_mul_of_nonneg_right (Rat.intCast_le_intCast.2 h3) (Rat.le_of_lt hu)
       rw [← hx, show ((-4503599627370496 : Int) : Rat) = -4503599627370496 from rfl] at h4
       exact le_ab.2 (Or.inr (by grind))
   grind
 · have e := R.mult (hm.down ht)
   subst e
   rw [show x - x = 0 by grind, show ab 0 = 0 by unfold ab; grind]
   have := ab_nonneg x
   grind
theorem F_int (n : Int) (h1 : -9007199254740992 ≤ n) (h2 : n ≤ 9007199254740992) : F (n : Rat) :=
 ⟨1074, n, by rw [show U 1074 = 1 from by unfold U; exact p2_zero]; grind, h1, h2⟩
theorem RN.lo {q x y : Rat} (h : RN q x) (e : x + y = q) : Lo y x := by
 obtain ⟨T, k, R⟩ := h
 have hu := U_pos T
 have h1 := R.h1
 have h2 := R.h2
 exact ⟨T, ab_lt.2 ⟨by grind, by grind⟩, R.m⟩
end

/- Sums of tame words: what is rounded off is told exactly. -/
section
theorem fval_abs (b : Nat) : (fval b = fval (frung b) ∨ fval b = -fval (frung b)) := by
 have e1 : frung (frung b) = frung b := by unfold frung; omega
 have e2 : fneg (frung b) = false := by unfold fneg frung; simp
 rw [fval_eq b, fval_eq (frung b), e1, e2]
 generalize ((fmag (frung b) : Nat) : Rat) * p2 (fpl (frung b)) = z
 cases fneg b <;> simp [sgn1] <;> grind
theorem tame_top : fval 9110782046170513408 = p2 1000 := by
 rw [(fval_pos_lt (by omega)).1, show fmag 9110782046170513408 = 4503599627370496 by decide, show fpl 9110782046170513408 = 948 by decide]
 rw [show (1000 : Int) = 948 + ((52 : Nat) : Int) by omega, p2_add, p2_nat, Rat.mul_comm]
end

/- Products of safe words: what is rounded off is told exactly. -/
section
theorem safe_top : fval 6633802251116740608 = p2 450 := by
 rw [(fval_pos_lt (by omega)).1, show fmag 6633802251116740608 = 4503599627370496 by decide, show fpl 6633802251116740608 = 398 by decide]
 rw [show (450 : Int) = 398 + ((52 : Nat) : Int) by omega, p2_add, p2_nat, Rat.mul_comm]
end

/- awake: the examples. -/
section
open Go.RowKit
theorem ex1 : TwoSum 4845873199050653696 4607182418800017408 4845873199050653696 0 4845873199050653696 4607182418800017408 0 4607182418800017408 := ⟨by decide +kernel, by decide +kernel, by decide +kernel, by decide +kernel, by decide +kernel, by decide +kernel⟩
end

/- What Sum, Diff and Prod answer, and what follows of it. -/
section
open Go.RowKit
def Pair (dom : Prop) (q : Rat) (x y : Nat) : Prop :=
 Fin64 x ∧ Fin64 y ∧ x < 18446744073709551616 ∧ y < 18446744073709551616 ∧ ((dom ∧ RV q (fval x) ∧ fval x + fval y = q) ∨ (¬ dom ∧ x = 0 ∧ y = 0))
def TameW (a b : Nat) : Prop := frung a ≤ 9110782046170513408 ∧ frung b ≤ 9110782046170513408
def SafeP (a b : Nat) : Prop := SafeW (frung a) ∧ SafeW (frung b)
end

/- The lowest bit of a float, as package expand tells it. -/
section
open Go.RowKit
end

/- How many bits a float has; that two numbers are the same. -/
section
open Go.RowKit
attribute [local go_sem ↓] Go.wp_at_zero Go.wp_at_succ
theorem run_store_float (P : Program) (w : World) (a : Addr) (m : Mode) (k : FloatKind) (b : Nat) : (store a (.float k b) m).run P w = stored P w a (.float k b) m := run_store P w a _ m rfl
theorem Rf.agg {w : World} {v : Value} {q : Rat} (h : Rf w v q) : ∃ S a n c E, v = .agg #[.int .i64 S, .slice a n c, .int .i64 E] := by
 obtain ⟨S, a, n, c, E, h, _⟩ := h.sgn
 exact ⟨S, a, n, c, E, h⟩
end

/- A number and the floats about the one nearest to it: plain facts. Nextafter. -/
section
open Go.RowKit
end

/- Which lists of floats may be, as package expand tells it. -/
section
open Go.RowKit
structure Fs (w : World) (s : Value) (bs : List Nat) : Prop where
 form : ∃ a c, s = .slice a bs.length c ∧ bs.length ≤ c ∧ c ≤ 9223372036854775807 ∧ (bs = [] ∨ ∃ g off, a = some ⟨g, off, none⟩ ∧ ∀ k, k < bs.length → w.cell? ⟨g, off + k, none⟩ = some (.float .f64 (bs.getD k 0)))
 word : ∀ b ∈ bs, b < 18446744073709551616
theorem Fs.later {w w' : World} {s : Value} {bs : List Nat} (h : Fs w s bs) (hb : Below w.heap.size w w') : Fs w' s bs := by
 obtain ⟨⟨a, c, hs, hc, hm, hf⟩, h2⟩ := h
 refine ⟨⟨a, c, hs, hc, hm, ?_⟩, h2⟩
 rcases hf with hf | ⟨g, off, ha, hf⟩
 · exact Or.inl hf
 · exact Or.inr ⟨g, off, ha, fun k hk => box_cell hb (hf k hk)⟩
def MayAt (lo hi : Nat) (bs : List Nat) (i : Nat) : Prop := lo ≤ frung (bs.getD i 0) ∧ frung (bs.getD i 0) ≤ hi ∧ frung (bs.getD i 0) ≠ 0 ∧ (0 < i → Lo (fval (bs.getD (i - 1) 0)) (fval (bs.getD i 0)))
def MayP (lo hi : Nat) (bs : List Nat) : Prop := bs.length ≤ 64 ∧ ∀ i, i < bs.length → MayAt lo hi bs i
theorem ab_fval (b : Nat) (h : Fin64 b) : fval (frung b) = ab (fval b) := by
 have h1 := fval_nonneg (r := frung b) h
 unfold ab
 rcases fval_abs b with e | e <;> rw [e] <;> split <;> grind
end

/- Package expand: whether a list may be, its last float, its sign, a list that grows. -/
section
open Go.RowKit
def lastW (bs : List Nat) : Nat := bs.getD (bs.length - 1) 0
end

/- Which coordinates may be: math.Trunc, grid.stands. -/
section
open Go.RowKit
def trw (b : Nat) : Nat := FloatKind.f64.encode ((FloatKind.f64.decode b).integral .zero)
theorem run_trunc (b : Nat) (h : Fin64 b) (w : World) : (callFunc 97 #[.float .f64 b]).run Tryd.prog w = .ok (.value (.float .f64 (trw b))) w := by
 rw [run_callFunc_extern Tryd.func97 (by kernel_rfl) (by kernel_rfl) (by kernel_rfl) (e := Extern.MathFloor.toIntegral "math.archTrunc" .zero) (by kernel_rfl)]
 have e : FloatKind.f64.decode b = .number (fneg b) (fmag (frung b)) (fpl (frung b)) := read_fin h
 have key : Extern.MathFloor.toIntegral "math.archTrunc" .zero #[.float .f64 b] = pure (.float .f64 (trw b)) := by
   unfold trw
   show (match FloatKind.f64.decode b with | .nan _ _ => _ | d => (pure (Value.float .f64 (FloatKind.f64.encode (d.integral .zero))) : Sem Value)) = _
   rw [e]
 rw [key]
 rfl
theorem M_one {q : Rat} : M 1 q ↔ ∃ k : Int, q = (k : Rat) := by
 constructor
 · rintro ⟨k, e⟩; exact ⟨k, by rw [e]; grind⟩
 · rintro ⟨k, e⟩; exact ⟨k, by rw [e]; grind⟩
theorem cut_shift (s : Bool) (n d : Nat) : Ieee.Toward.zero.cut s n d = n >>> d := by
 unfold Ieee.Toward.cut
 simp only [Bool.toNat_false, Nat.add_zero, Nat.one_shiftLeft, Nat.shiftRight_eq_div_pow]
 rcases Nat.lt_or_ge (n.log2 + 2) d with h | h
 · have h1 : n < 2 ^ (n.log2 + 1) := Nat.lt_log2_self
   have h2 : n < 2 ^ (n.log2 + 2) := Nat.lt_of_lt_of_le h1 (Nat.pow_le_pow_right (by omega) (by omega))
   have h3 : n < 2 ^ d := Nat.lt_of_lt_of_le h1 (Nat.pow_le_pow_right (by omega) (by omega))
   rw [Nat.min_eq_right (by omega), Nat.div_eq_of_lt h2, Nat.div_eq_of_lt h3]
 · rw [Nat.min_eq_left h]
theorem cut_val (m : Nat) (i : Int) (hm : m ≤ 9007199254740992) : ∃ n : Nat, (m <<< i.toNat) >>> (-i).toNat = n ∧ ((n : Nat) : Rat) ≤ (m : Rat) * p2 i ∧ (((n : Nat) : Rat) = (m : Rat) * p2 i ∨ n ≤ 9007199254740992) ∧ ((∃ z : Int, (m : Rat) * p2 i = (z : Rat)) → ((n : Nat) : Rat) = (m : Rat) * p2 i) := by
 rcases Int.le_total 0 i with h | h
 · have e1 : (-i).toNat = 0 := by omega
   have e2 : i = ((i.toNat : Nat) : Int) := by omega
   generalize i.toNat = k at *
   subst e2
   rw [e1]
   have : ((m <<< k >>> 0 : Nat) : Rat) = (m : Rat) * p2 (k : Int) := by
     rw [Nat.shiftRight_zero, Nat.shiftLeft_eq, p2_nat, Rat.natCast_mul]
   exact ⟨_, rfl, by rw [this]; exact Rat.le_refl, Or.inl this, fun _ => this⟩
 · have e1 : i.toNat = 0 := by omega
   have e2 : i = -(((-i).toNat : Nat) : Int) := by omega
   generalize (-i).toNat = k at *
   subst e2
   rw [e1, Nat.shiftLeft_zero, Nat.shiftRight_eq_div_pow]
   have hp := p2_neg (k : Int)
   rw [p2_nat] at hp
   have hpos : (0 : Rat) < p2 (-(k : Int)) := p2_pos _
   refine ⟨_, rfl, ?_, Or.inr ?_, ?_⟩
   · have h1 : ((m / 2 ^ k * 2 ^ k : Nat) : Rat) ≤ (m : Rat) := Rat.natCast_le_natCast.2 (Nat.div_mul_le_self _ _)
     rw [Rat.natCast_mul] at h1
     have h2 := Rat.mul_le_mul_of_nonneg_right h1 (Rat.le_of_lt hpos)
     generalize ((m / 2 ^ k : Nat) : Rat) = n at *
     generalize ((2 ^ k : Nat) : Rat) = t at *
     generalize p2 (-(k : Int)) = p at *
     have : n * t * p = n := by rw [Rat.mul_assoc, Rat.mul_comm t p, hp, Rat.mul_one]
     rw [this] at h2
     exact h2
   · exact Nat.le_trans (Nat.div_le_self _ _) hm
   · rintro ⟨z, hz⟩
     have h3 : (m : Rat) = ((z * (2 ^ k : Nat) : Int) : Rat) := by
       rw [Rat.intCast_mul, ← hz, show (((2 ^ k : Nat) : Int) : Rat) = ((2 ^ k : Nat) : Rat) from rfl]
       generalize ((2 ^ k : Nat) : Rat) = t at *
       generalize p2 (-(k : Int)) = p at *
       rw [Rat.mul_assoc, hp, Rat.mul_one]
     have h4 : (m : Int) = z * (2 ^ k : Nat) := by
       have : ((m : Int) : Rat) = ((z * (2 ^ k : Nat) : Int) : Rat) := h3
       exact Rat.intCast_inj.1 this
     have h5 : (2 ^ k : Nat) ∣ m := by
       have : ((2 ^ k : Nat) : Int) ∣ (m : Int) := ⟨z, by rw [h4, Int.mul_comm]⟩
       exact Int.natCast_dvd_natCast.1 this
     have h6 : ((m / 2 ^ k * 2 ^ k : Nat) : Rat) = (m : Rat) := by rw [Nat.div_mul_cancel h5]
     rw [Rat.natCast_mul] at h6
     generalize ((m / 2 ^ k : Nat) : Rat) = n at *
     generalize ((2 ^ k : Nat) : Rat) = t at *
     generalize p2 (-(k : Int)) = p at *
     rw [← h6, Rat.mul_assoc, Rat.mul_comm t p, hp, Rat.mul_one]
theorem trw_val {b : Nat} (h : Fin64 b) (hq : Lim (fval b)) : Fin64 (trw b) ∧ trw b < 18446744073709551616 ∧ (fval (trw b) = fval b ↔ M 1 (fval b)) := by
 have e : FloatKind.f64.decode b = .number (fneg b) (fmag (frung b)) (fpl (frung b)) := read_fin h
 have hm : fmag (frung b) ≤ 9007199254740992 := Nat.le_of_lt (fmag_lt _)
 obtain ⟨n, hn, h1, h2, h3⟩ := cut_val (fmag (frung b)) (fpl (frung b)) hm
 have hv := fval_eq b
 have et : trw b = Ieee.double.write (.number (fneg b) n 0) := by
   unfold trw
   rw [e]
   show Ieee.double.write (.number (fneg b) (Ieee.Toward.zero.cut (fneg b) (fmag (frung b) <<< (fpl (frung b)).toNat) (-fpl (frung b)).toNat) 0) = _
   rw [cut_shift, hn]
 have hF := fc_word h
 clear hn e
 generalize ((fmag (frung b) : Nat) : Rat) * p2 (fpl (frung b)) = X at *
 have hX : X < p2 1023 := by
   have h4 := hq.1
   have h5 := hq.2
   rw [hv] at h4 h5
   revert h4 h5
   unfold sgn1
   cases fneg b
   · rw [if_neg (by decide)]; grind
   · rw [if_pos rfl]; grind
 have n0 : (0 : Rat) ≤ ((n : Nat) : Rat) := Rat.natCast_nonneg
 obtain ⟨r, er, fr, lr, hr⟩ := write_rv (fneg b) n 0 (by rw [p2_zero, Rat.mul_one]; grind)
 rw [p2_zero, Rat.mul_one] at hr
 have ev : fval r = sgn1 (fneg b) * ((n : Nat) : Rat) := by
   apply hr.rn.exact
   rcases h2 with h2 | h2
   · rw [h2, ← hv]
     obtain ⟨S, m, c⟩ := hF
     exact c.f
   · have : F ((n : Int) : Rat) := F_int n (by omega) (by omega)
     unfold sgn1
     cases fneg b
     · rw [if_neg (by decide), Rat.one_mul]
       exact this
     · rw [if_pos rfl]
       have := this.neg
       rwa [show -((n : Int) : Rat) = -1 * ((n : Nat) : Rat) by show -((n : Nat) : Rat) = _; grind] at this
 rw [et, er]
 refine ⟨fr, lr, ?_⟩
 rw [M_one, ev, hv]
 constructor
 · intro e1
   rw [← e1]
   unfold sgn1
   cases fneg b
   · exact ⟨n, by rw [if_neg (by decide), Rat.one_mul]; rfl⟩
   · exact ⟨-(n : Int), by rw [Rat.intCast_neg, if_pos rfl]; show _ = -((n : Nat) : Rat); grind⟩
 · rintro ⟨k, ek⟩
   rw [h3]
   revert ek
   unfold sgn1
   cases fneg b
   · intro ek
     rw [if_neg (by decide), Rat.one_mul] at ek
     exact ⟨k, ek⟩
   · intro ek
     rw [if_pos rfl] at ek
     exact ⟨-k, by rw [Rat.intCast_neg, ← ek]; grind⟩
def Crd (x : Nat) : Prop := frung x ≤ 5057542381537067008 ∧ M (U 974) (fval x)
theorem trunc_any (b : Nat) (w : World) (h : Fin64 b) : Calls Tryd.prog 78 #[.float .f64 b] w fun e w' => e = .returned (.float .f64 (trw b)) ∧ w' = w := by
 have r1 := run_trunc b h
 clear h
 go_enter Tryd.func78, Tryd.ntmps78
 go_wp2
 go_ret
 exact ⟨rfl, rfl⟩
theorem steps_one {q : Rat} : M 1 (q * U 1174) ↔ M (U 974) q := by
 have hu := U_mulX' (s := 974) (t := 1174) (r := 1074) (by omega)
 have h1 : U 1074 = 1 := by unfold U; exact p2_zero
 rw [h1] at hu
 constructor
 · rintro ⟨k, e⟩
   refine ⟨k, ?_⟩
   have : q * U 1174 * U 974 = (k : Rat) * U 974 := by rw [e, Rat.mul_one]
   rw [← this, Rat.mul_assoc, Rat.mul_comm (U 1174), hu, Rat.mul_one]
 · rintro ⟨k, e⟩
   refine ⟨k, ?_⟩
   rw [e, Rat.mul_assoc, hu]
end
end Go.Proofs.YtgoadpnoagaflaaDoor
