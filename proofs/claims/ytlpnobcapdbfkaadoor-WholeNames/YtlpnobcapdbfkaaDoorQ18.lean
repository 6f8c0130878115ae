/- Own texts, put together: Lf Lg Lo Hr Lp Hs Ht. -/
import Derived.Test.YtlpnobcapdbfkaaDoorQ3
import Derived.Test.YtlpnobcapdbfkaaDoorQ17
namespace Go.Proofs.YtlpnobcapdbfkaaDoor
/- What the laws of order and of the ring ask, in plain numbers. -/
section
theorem cmpR_self (p : Rat) : cmpR p p = 0 := by unfold cmpR; rw [if_neg Rat.lt_irrefl, if_neg Rat.lt_irrefl]
theorem sgnR_zero : sgnR 0 = 0 := by unfold sgnR; exact cmpR_self 0
end

/- The floats of greater numbers are not less. -/
section
end

/- What the law of order asks of the highest and lowest bit, in plain numbers. -/
section
theorem odd_ge {q : Rat} {l m : Int} (h : q = ((2 * m + 1 : Int) : Rat) * p2 l) : p2 l ≤ q ∨ p2 l ≤ -q := by
 have hp := p2_pos l
 rcases Int.le_total 0 m with hm | hm
 · left
   have : (1 : Rat) ≤ ((2 * m + 1 : Int) : Rat) := by
     rw [show (1 : Rat) = ((1 : Int) : Rat) from rfl]; exact Rat.intCast_le_intCast.2 (by omega)
   have := Rat.mul_le_mul_of_nonneg_right this (Rat.le_of_lt hp)
   rw [h]; grind
 · rcases (by omega : m = 0 ∨ m < 0) with e | e
   · subst e
     left
     rw [h, show ((2 * 0 + 1 : Int) : Rat) = 1 from rfl]; grind
   · right
     have : ((2 * m + 1 : Int) : Rat) ≤ (-1 : Rat) := by
       rw [show (-1 : Rat) = ((-1 : Int) : Rat) from rfl]; exact Rat.intCast_le_intCast.2 (by omega)
     have := Rat.mul_le_mul_of_nonneg_right this (Rat.le_of_lt hp)
     rw [h]; grind
theorem oneK_bd (k : Int) : Bd (1 + k) (0 + k) (((1 : Int) : Rat) * p2 k) :=
 Bd.shift (h := 1) (l := 0) ⟨by rw [p2_one]; decide +kernel, by rw [p2_one]; decide +kernel, 1, by rw [p2_zero]; decide +kernel⟩ k
theorem high_zero {h : Int} (hh : HighOf 0 h) : h = 0 := by
 rcases hh with ⟨_, e⟩ | ⟨e, _⟩
 · exact e
 · exact absurd rfl e
theorem low_zero {l : Int} (hl : LowOf 0 l) : l = 0 := by
 rcases hl with ⟨_, e⟩ | ⟨m, e⟩
 · exact e
 · have := odd_ge e
   have := p2_pos l
   grind
end

/- WholeNames: the numbers, and what is told of them. -/
section
open Go.RowKit
theorem op2_yes' {f : Rat → Rat → Rat} {p q : Rat} {y : Option Rat} (h : Op2 f (some p) (some q) y) (hm : May (f p q)) : y = some (f p q) := by
 rcases h with ⟨p', q', e1, e2, h⟩ | ⟨h, _⟩
 · cases e1; cases e2
   rcases h with ⟨_, h⟩ | ⟨h, _⟩
   · exact h
   · exact absurd hm h
 · rcases h with h | h <;> cases h
theorem op2_not {f : Rat → Rat → Rat} {p q : Rat} {y : Option Rat} (h : Op2 f (some p) (some q) y) (hm : ¬ May (f p q)) : y = none := by
 rcases h with ⟨p', q', e1, e2, h⟩ | ⟨h, _⟩
 · cases e1; cases e2
   rcases h with ⟨h, _⟩ | ⟨_, h⟩
   · exact absurd h hm
   · exact h
 · rcases h with h | h <;> cases h
theorem op2_nil {f : Rat → Rat → Rat} {a b y : Option Rat} (h : Op2 f a b y) (hn : a = none ∨ b = none) : y = none := by
 rcases h with ⟨p', q', e1, e2, h⟩ | ⟨_, h⟩
 · rcases hn with h | h
   · rw [e1] at h; cases h
   · rw [e2] at h; cases h
 · exact h
theorem shiftX_not {k : Int} {p : Rat} {x : Option Rat} (h : ShiftX k (some p) x) (hm : ¬ May (p * p2 k)) : x = none := by
 rcases h with ⟨_, h1, h⟩ | ⟨h, _⟩
 · cases h1
   rcases h with ⟨h, _⟩ | ⟨_, h⟩
   · exact absurd h hm
   · exact h
 · cases h
theorem shiftX_nil {k : Int} {x : Option Rat} (h : ShiftX k none x) : x = none := by
 rcases h with ⟨_, h1, _⟩ | ⟨_, h⟩
 · cases h1
 · exact h
def pw (k : Int) : Rat := ((1 : Int) : Rat) * p2 k
theorem pw_eq (k : Int) : pw k = p2 k := by unfold pw; rw [show ((1 : Int) : Rat) = 1 from rfl]; grind
theorem pw_pos (k : Int) : 0 < pw k := by rw [pw_eq]; exact p2_pos k
theorem pw_lt {a b : Int} (h : a < b) : pw a < pw b := by rw [pw_eq, pw_eq]; exact p2_lt h
theorem pw_may {k : Int} (h1 : -65536 ≤ k) (h2 : k ≤ 65536) : May (pw k) := (oneK_bd k).may (by omega) (by omega)
theorem pw_big {k : Int} (h : 65537 ≤ k) : ¬ May (pw k) := by
 intro hm
 have h1 := hm.1
 rw [pw_eq] at h1
 have := p2_lt_iff.1 h1
 omega
theorem pw_fine {k : Int} (h : k ≤ -65537) : ¬ May (pw k) := by
 rintro ⟨_, _, n, hn⟩
 rw [pw_eq] at hn
 have h0 := p2_pos k
 have h1 := p2_lt (a := k) (b := -65536) (by omega)
 have hp := p2_pos (-65536)
 have a : ((0 : Int) : Rat) * p2 (-65536) < (n : Rat) * p2 (-65536) := by rw [← hn, show ((0 : Int) : Rat) = 0 from rfl]; grind
 have b : (n : Rat) * p2 (-65536) < ((1 : Int) : Rat) * p2 (-65536) := by rw [← hn, show ((1 : Int) : Rat) = 1 from rfl]; grind
 have a' := int_lt hp a
 have b' := int_lt hp b
 omega
theorem pw_double (k : Int) : pw k + pw k = pw (k + 1) := by
 rw [pw_eq, pw_eq, p2_add, p2_one]; grind
theorem pw_mul (a b : Int) : pw a * pw b = pw (a + b) := by rw [pw_eq, pw_eq, pw_eq, p2_add]
theorem half_is : fval 4602678819172646912 = pw (-1) := by
 show n05 = _
 rw [n05_eq, pw_eq, p2m (-1) 1 rfl]; decide +kernel
theorem grid_add {p q : Rat} (h1 : May p) (h2 : May q) (l1 : p + q < p2 65537) (l2 : -p2 65537 < p + q) : May (p + q) := by
 obtain ⟨_, _, m, e1⟩ := h1
 obtain ⟨_, _, n, e2⟩ := h2
 exact ⟨l1, l2, m + n, by rw [Rat.intCast_add]; grind⟩
theorem m_top_low : May (pw 65536 + pw (-65536)) := by
 have h1 := pw_lt (a := -65536) (b := 65536) (by omega)
 have h2 := pw_double 65536
 have h3 := pw_eq (65536 + 1)
 have h4 := pw_pos 65536
 have h5 := pw_pos (-65536)
 have h6 : pw (65536 + 1) = p2 65537 := h3
 refine grid_add (pw_may (by omega) (by omega)) (pw_may (by omega) (by omega)) ?_ ?_ <;> grind
theorem m_back : pw 65536 + pw (-65536) - pw 65536 = pw (-65536) := by grind
theorem no_top_top : ¬ May (pw 65536 + pw 65536) := by rw [pw_double]; exact pw_big (by omega)
theorem no_top_two : ¬ May (pw 65536 * ((2 : Int) : Rat)) := by
 rw [show ((2 : Int) : Rat) = pw 1 by rw [pw_eq, p2_one]; rfl, pw_mul]; exact pw_big (by omega)
theorem m_top_mul : pw 65536 * pw (-65536) = pw 0 := by rw [pw_mul]; rfl
theorem no_low_half : ¬ May (pw (-65536) * fval 4602678819172646912) := by rw [half_is, pw_mul]; exact pw_fine (by omega)
theorem near_mk {q : Rat} (T k : Nat) (r : Nat) (hq : 0 < q) (hl : Last q T) (hh : Half q (p2 ((T : Int) - 1075)) k) (hr : r = min (T * 4503599627370496 + k) 9218868437227405312) : Near q r := Or.inr ⟨hq, T, k, hl, hh, hr⟩
theorem float_pos {q : Rat} {f r : Nat} (h : FloatOf q f) (hq : 0 < q) (hn : Near q r) : f = r := by
 rcases h with ⟨_, h⟩ | ⟨h, _⟩
 · exact near_fun h hn
 · exfalso; grind
theorem float_neg {q : Rat} {f r : Nat} (h : FloatOf (-q) f) (hq : 0 < q) (hn : Near q r) (hr : r ≠ 0) : f = 9223372036854775808 + r := by
 rcases h with ⟨h, _⟩ | ⟨_, s, h, e⟩
 · exfalso; grind
 · rw [show -(-q) = q by grind] at h
   have := near_fun h hn
   subst this
   rw [e, if_neg hr]
theorem in_units (n : Nat) (k e : Int) (h : k = (n : Int) + e) : pw k = ((2 ^ n : Nat) : Rat) * p2 e := by
 rw [pw_eq, h, p2_add, p2_nat]
theorem f_top {f : Nat} (h : FloatOf (pw 65536) f) : f = 9218868437227405312 := by
 refine float_pos h (pw_pos _) (near_mk 66558 4503599627370496 _ (pw_pos _) ?_ ?_ (by omega))
 all_goals
   have hu := p2_pos (((66558 : Nat) : Int) - 1075)
   have e := in_units 53 65536 (((66558 : Nat) : Int) - 1075) (by omega)
   rw [show ((2 ^ 53 : Nat) : Rat) = 9007199254740992 from rfl] at e
   rw [e]
 · unfold Last
   rw [show ((9007199254740992 : Int) : Rat) = 9007199254740992 from rfl, show ((18014398509481984 : Int) : Rat) = 18014398509481984 from rfl]
   exact ⟨Or.inr Rat.le_refl, by grind⟩
 · unfold Half
   rw [show ((2 * ((4503599627370496 : Nat) : Int) - 1 : Int) : Rat) = 9007199254740991 from rfl, show ((2 * ((4503599627370496 : Nat) : Int) + 1 : Int) : Rat) = 9007199254740993 from rfl]
   exact ⟨by grind, by grind, fun _ => by omega, fun _ => by omega⟩
theorem f_top_neg {f : Nat} (h : FloatOf (-pw 65536) f) : f = 18442240474082181120 := by
 have h1 : FloatOf (pw 65536) 9218868437227405312 ∨ True := Or.inr trivial
 refine float_neg h (pw_pos _) (near_mk 66558 4503599627370496 9218868437227405312 (pw_pos _) ?_ ?_ (by omega)) (by omega)
 all_goals
   have hu := p2_pos (((66558 : Nat) : Int) - 1075)
   have e := in_units 53 65536 (((66558 : Nat) : Int) - 1075) (by omega)
   rw [show ((2 ^ 53 : Nat) : Rat) = 9007199254740992 from rfl] at e
   rw [e]
 · unfold Last
   rw [show ((9007199254740992 : Int) : Rat) = 9007199254740992 from rfl, show ((18014398509481984 : Int) : Rat) = 18014398509481984 from rfl]
   exact ⟨Or.inr Rat.le_refl, by grind⟩
 · unfold Half
   rw [show ((2 * ((4503599627370496 : Nat) : Int) - 1 : Int) : Rat) = 9007199254740991 from rfl, show ((2 * ((4503599627370496 : Nat) : Int) + 1 : Int) : Rat) = 9007199254740993 from rfl]
   exact ⟨by grind, by grind, fun _ => by omega, fun _ => by omega⟩
theorem near_low {q : Rat} (k r : Nat) (hq : 0 < q) (a : ((2 * (k : Int) - 1 : Int) : Rat) * p2 (-1075) ≤ q) (b : q ≤ ((2 * (k : Int) + 1 : Int) : Rat) * p2 (-1075)) (ta : q = ((2 * (k : Int) - 1 : Int) : Rat) * p2 (-1075) → k % 2 = 0) (tb : q = ((2 * (k : Int) + 1 : Int) : Rat) * p2 (-1075) → k % 2 = 0) (hk : k ≤ 1) (hr : r = k) : Near q r := by
 have hu := p2_pos (-1075)
 refine near_mk 0 k r hq ⟨Or.inl rfl, ?_⟩ ⟨a, b, ta, tb⟩ (by omega)
 have : ((2 * (k : Int) + 1 : Int) : Rat) * p2 (-1075) < ((18014398509481984 : Int) : Rat) * p2 (-1075) := Rat.mul_lt_mul_of_pos_right (Rat.intCast_lt_intCast.2 (by omega)) hu
 show q < ((18014398509481984 : Int) : Rat) * p2 (-1075)
 grind
theorem f_low {f : Nat} (h : FloatOf (pw (-65536)) f) : f = 0 := by
 have hu := p2_pos (-1075)
 have hp := pw_pos (-65536)
 have hl := pw_lt (a := -65536) (b := -1075) (by omega)
 rw [pw_eq (-1075)] at hl
 refine float_pos h hp (near_low 0 0 hp ?_ ?_ (fun _ => rfl) (fun _ => rfl) (by omega) rfl)
 · rw [show ((2 * ((0 : Nat) : Int) - 1 : Int) : Rat) = -1 from rfl]; grind
 · rw [show ((2 * ((0 : Nat) : Int) + 1 : Int) : Rat) = 1 from rfl]; grind
theorem u_pw (k : Int) : pw (k + 1) = 2 * pw k := by rw [← pw_double]; grind
theorem f_1074 {f : Nat} (h : FloatOf (pw (-1074)) f) : f = 1 := by
 have hu := p2_pos (-1075)
 have hp := pw_pos (-1074)
 have e : pw (-1074) = 2 * p2 (-1075) := by rw [← pw_eq]; exact u_pw (-1075)
 refine float_pos h hp (near_low 1 1 hp ?_ ?_ ?_ ?_ (by omega) rfl)
 all_goals
   first
     | rw [show ((2 * ((1 : Nat) : Int) - 1 : Int) : Rat) = 1 from rfl]
     | rw [show ((2 * ((1 : Nat) : Int) + 1 : Int) : Rat) = 3 from rfl]
   grind
theorem f_1075 {f : Nat} (h : FloatOf (pw (-1075)) f) : f = 0 := by
 have hu := p2_pos (-1075)
 have hp := pw_pos (-1075)
 have e : pw (-1075) = p2 (-1075) := pw_eq _
 refine float_pos h hp (near_low 0 0 hp ?_ ?_ (fun _ => rfl) (fun _ => rfl) (by omega) rfl)
 · rw [show ((2 * ((0 : Nat) : Int) - 1 : Int) : Rat) = -1 from rfl]; grind
 · rw [show ((2 * ((0 : Nat) : Int) + 1 : Int) : Rat) = 1 from rfl]; grind
theorem f_3_1076 {f : Nat} (h : FloatOf (((3 : Int) : Rat) * p2 (-1076)) f) : f = 1 := by
 have hu := p2_pos (-1076)
 have e : p2 (-1075) = 2 * p2 (-1076) := by rw [← pw_eq, ← pw_eq]; exact u_pw (-1076)
 rw [show ((3 : Int) : Rat) = 3 from rfl] at h
 have hp : 0 < 3 * p2 (-1076) := by grind
 refine float_pos h hp (near_low 1 1 hp ?_ ?_ ?_ ?_ (by omega) rfl)
 all_goals
   first
     | rw [show ((2 * ((1 : Nat) : Int) - 1 : Int) : Rat) = 1 from rfl]
     | rw [show ((2 * ((1 : Nat) : Int) + 1 : Int) : Rat) = 3 from rfl]
   rw [e]
   grind
theorem f_1075_low {f : Nat} (h : FloatOf (pw (-1075) + pw (-65536)) f) : f = 1 := by
 have hu := p2_pos (-1075)
 have h1 := pw_pos (-65536)
 have hl := pw_lt (a := -65536) (b := -1075) (by omega)
 rw [pw_eq (-1075)] at hl h
 have hp : 0 < p2 (-1075) + pw (-65536) := by grind
 refine float_pos h hp (near_low 1 1 hp ?_ ?_ ?_ ?_ (by omega) rfl)
 all_goals
   first
     | rw [show ((2 * ((1 : Nat) : Int) - 1 : Int) : Rat) = 1 from rfl]
     | rw [show ((2 * ((1 : Nat) : Int) + 1 : Int) : Rat) = 3 from rfl]
   grind
theorem near_high {q : Rat} (k r : Nat) (a : ((2 * (k : Int) - 1 : Int) : Rat) * p2 970 ≤ q) (b : q ≤ ((2 * (k : Int) + 1 : Int) : Rat) * p2 970) (ta : q = ((2 * (k : Int) - 1 : Int) : Rat) * p2 970 → k % 2 = 0) (tb : q = ((2 * (k : Int) + 1 : Int) : Rat) * p2 970 → k % 2 = 0) (c : 9007199254740992 * p2 970 ≤ q) (d : q < 18014398509481984 * p2 970) (hr : r = min (2045 * 4503599627370496 + k) 9218868437227405312) : Near q r := by
 have hu := p2_pos 970
 exact near_mk 2045 k r (by grind) ⟨Or.inr c, d⟩ ⟨a, b, ta, tb⟩ hr
theorem e1024 : pw 1024 = 18014398509481984 * p2 970 := in_units 54 1024 970 (by omega)
theorem e971 : pw 971 = 2 * p2 970 := by rw [← pw_eq]; exact u_pw 970
theorem e970 : pw 970 = p2 970 := pw_eq _
theorem f_max {f : Nat} (h : FloatOf (pw 1024 - pw 971) f) : f = 9218868437227405311 := by
 have hu := p2_pos 970
 rw [e1024, e971] at h
 refine float_pos h (by grind) (near_high 9007199254740991 _ ?_ ?_ ?_ ?_ (by grind) (by grind) (by omega))
 all_goals
   first
     | rw [show ((2 * ((9007199254740991 : Nat) : Int) - 1 : Int) : Rat) = 18014398509481981 from rfl]
     | rw [show ((2 * ((9007199254740991 : Nat) : Int) + 1 : Int) : Rat) = 18014398509481983 from rfl]
   grind
theorem f_over {f : Nat} (h : FloatOf (pw 1024 - pw 970) f) : f = 9218868437227405312 := by
 have hu := p2_pos 970
 rw [e1024, e970] at h
 refine float_pos h (by grind) (near_high 9007199254740992 _ ?_ ?_ (fun _ => by omega) (fun _ => by omega) (by grind) (by grind) (by omega))
 · rw [show ((2 * ((9007199254740992 : Nat) : Int) - 1 : Int) : Rat) = 18014398509481983 from rfl]; grind
 · rw [show ((2 * ((9007199254740992 : Nat) : Int) + 1 : Int) : Rat) = 18014398509481985 from rfl]; grind
theorem f_under {f : Nat} (h : FloatOf (pw 1024 - pw 970 - pw (-65536)) f) : f = 9218868437227405311 := by
 have hu := p2_pos 970
 have h1 := pw_pos (-65536)
 have hl := pw_lt (a := -65536) (b := 970) (by omega)
 rw [e970] at hl
 rw [e1024, e970] at h
 refine float_pos h (by grind) (near_high 9007199254740991 _ ?_ ?_ ?_ ?_ (by grind) (by grind) (by omega))
 all_goals
   first
     | rw [show ((2 * ((9007199254740991 : Nat) : Int) - 1 : Int) : Rat) = 18014398509481981 from rfl]
     | rw [show ((2 * ((9007199254740991 : Nat) : Int) + 1 : Int) : Rat) = 18014398509481983 from rfl]
   grind
theorem m_1024 {k : Int} (h1 : -65536 ≤ k) (h2 : k ≤ 1024) : May (pw 1024 - pw k) := by
 have a := pw_pos k
 have b := pw_pos 1024
 have c := pw_lt (a := 1024) (b := 65537) (by omega)
 have d := pw_lt (a := k) (b := 65537) (by omega)
 rw [pw_eq 65537] at c d
 rw [show pw 1024 - pw k = pw 1024 + -pw k by grind]
 exact grid_add (pw_may (by omega) (by omega)) (may_neg (pw_may h1 (by omega))) (by grind) (by grind)
theorem m_under : May (pw 1024 - pw 970 - pw (-65536)) := by
 have a := pw_pos 970
 have a' := pw_pos (-65536)
 have b := pw_pos 1024
 have c := pw_lt (a := 1024) (b := 65537) (by omega)
 have d := pw_lt (a := 970) (b := 1024) (by omega)
 have e := pw_lt (a := -65536) (b := 970) (by omega)
 rw [pw_eq 65537] at c
 rw [show pw 1024 - pw 970 - pw (-65536) = (pw 1024 - pw 970) + -pw (-65536) by grind]
 exact grid_add (m_1024 (by omega) (by omega)) (may_neg (pw_may (by omega) (by omega))) (by grind) (by grind)
theorem m_1075_low : May (pw (-1075) + pw (-65536)) := by
 have a := pw_pos (-1075)
 have a' := pw_pos (-65536)
 have d := pw_lt (a := -65536) (b := -1075) (by omega)
 have e := pw_lt (a := -1075 + 1) (b := 65537) (by omega)
 have g := u_pw (-1075)
 rw [pw_eq 65537] at e
 exact grid_add (pw_may (by omega) (by omega)) (pw_may (by omega) (by omega)) (by grind) (by grind)
theorem near_unit {q : Rat} (k r : Nat) (hq : 9007199254740992 ≤ q) (hl : q < 18014398509481984) (a : ((2 * (k : Int) - 1 : Int) : Rat) ≤ q) (b : q ≤ ((2 * (k : Int) + 1 : Int) : Rat)) (ta : q = ((2 * (k : Int) - 1 : Int) : Rat) → k % 2 = 0) (tb : q = ((2 * (k : Int) + 1 : Int) : Rat) → k % 2 = 0) (hr : r = min (1075 * 4503599627370496 + k) 9218868437227405312) : Near q r := by
 have e : p2 (((1075 : Nat) : Int) - 1075) = 1 := p2_zero
 refine near_mk 1075 k r (by grind) ⟨Or.inr ?_, ?_⟩ ?_ hr
 · rw [e, show ((9007199254740992 : Int) : Rat) = 9007199254740992 from rfl]; grind
 · rw [e, show ((18014398509481984 : Int) : Rat) = 18014398509481984 from rfl]; grind
 · unfold Half
   rw [e, Rat.mul_one, Rat.mul_one]
   exact ⟨a, b, ta, tb⟩
theorem f_big1 {f : Nat} (h : FloatOf (((9007199254740992 : Int) : Rat) + ((1 : Int) : Rat)) f) : f = 4845873199050653696 := by
 rw [show ((9007199254740992 : Int) : Rat) + ((1 : Int) : Rat) = 9007199254740993 by decide +kernel] at h
 refine float_pos h (by decide +kernel) (near_unit 4503599627370496 _ (by decide +kernel) (by decide +kernel) (by decide +kernel) (by decide +kernel) (fun _ => by omega) (fun _ => by omega) (by omega))
theorem f_big3 {f : Nat} (h : FloatOf (((9007199254740992 : Int) : Rat) + ((3 : Int) : Rat)) f) : f = 4845873199050653698 := by
 rw [show ((9007199254740992 : Int) : Rat) + ((3 : Int) : Rat) = 9007199254740995 by decide +kernel] at h
 refine float_pos h (by decide +kernel) (near_unit 4503599627370498 _ (by decide +kernel) (by decide +kernel) (by decide +kernel) (by decide +kernel) (fun _ => by omega) (fun _ => by omega) (by omega))
theorem f_one {f : Nat} (h : FloatOf (pw 0) f) : f = 4607182418800017408 := by
 refine float_pos h (pw_pos _) (near_mk 1022 4503599627370496 _ (pw_pos _) ?_ ?_ (by omega))
 all_goals
   have hu := p2_pos (((1022 : Nat) : Int) - 1075)
   have e := in_units 53 0 (((1022 : Nat) : Int) - 1075) (by omega)
   rw [show ((2 ^ 53 : Nat) : Rat) = 9007199254740992 from rfl] at e
   rw [e]
 · unfold Last
   rw [show ((9007199254740992 : Int) : Rat) = 9007199254740992 from rfl, show ((18014398509481984 : Int) : Rat) = 18014398509481984 from rfl]
   exact ⟨Or.inr Rat.le_refl, by grind⟩
 · unfold Half
   rw [show ((2 * ((4503599627370496 : Nat) : Int) - 1 : Int) : Rat) = 9007199254740991 from rfl, show ((2 * ((4503599627370496 : Nat) : Int) + 1 : Int) : Rat) = 9007199254740993 from rfl]
   exact ⟨by grind, by grind, fun _ => by omega, fun _ => by omega⟩
theorem f_min {f : Nat} (h : FloatOf (((-9223372036854775808 : Int) : Rat)) f) : f = 14114281232179134464 := by
 rw [show ((-9223372036854775808 : Int) : Rat) = -pw 63 by rw [in_units 63 63 0 rfl, p2_zero]; decide +kernel] at h
 refine float_neg h (pw_pos _) (near_mk 1085 4503599627370496 4890909195324358656 (pw_pos _) ?_ ?_ (by omega)) (by omega)
 all_goals
   have hu := p2_pos (((1085 : Nat) : Int) - 1075)
   have e := in_units 53 63 (((1085 : Nat) : Int) - 1075) (by omega)
   rw [show ((2 ^ 53 : Nat) : Rat) = 9007199254740992 from rfl] at e
   rw [e]
 · unfold Last
   rw [show ((9007199254740992 : Int) : Rat) = 9007199254740992 from rfl, show ((18014398509481984 : Int) : Rat) = 18014398509481984 from rfl]
   exact ⟨Or.inr Rat.le_refl, by grind⟩
 · unfold Half
   rw [show ((2 * ((4503599627370496 : Nat) : Int) - 1 : Int) : Rat) = 9007199254740991 from rfl, show ((2 * ((4503599627370496 : Nat) : Int) + 1 : Int) : Rat) = 9007199254740993 from rfl]
   exact ⟨by grind, by grind, fun _ => by omega, fun _ => by omega⟩
theorem h_12 {h : Int} (hh : HighOf ((12 : Int) : Rat) h) : h = 3 := by
 refine highOf_fun hh (Or.inr ⟨by decide +kernel, Or.inl ⟨?_, ?_⟩⟩)
 · rw [p2_of 3 3 rfl]; decide +kernel
 · rw [p2_of 4 (3 + 1) rfl]; decide +kernel
theorem l_12 {h : Int} (hh : LowOf ((12 : Int) : Rat) h) : h = 2 := by
 refine lowOf_fun hh (Or.inr ⟨1, ?_⟩)
 rw [p2_of 2 2 rfl]; decide +kernel
theorem f_nil {f : Nat} (h : FloatOf 0 f) : f = 0 := by
 rcases h with ⟨_, h⟩ | ⟨h, _⟩
 · exact near_zero h
 · exact absurd h Rat.lt_irrefl
end

/- A box that is written anew. -/
section
open Go
end

/- WholeNames: calls of package math; sixteen cells that are kept. -/
section
open Go.RowKit
attribute [local go_sem ↓] Go.wp_at_zero Go.wp_at_succ
theorem keep16 {w W W' : World} {p0 p1 p2 p3 p4 p5 p6 p7 p8 p9 p10 p11 p12 p13 p14 p15 : Addr} {x0 x1 x2 x3 x4 x5 x6 x7 x8 x9 x10 x11 x12 x13 x14 x15 : Value} (h : W.cell? p0 = some x0 ∧ W.cell? p1 = some x1 ∧ W.cell? p2 = some x2 ∧ W.cell? p3 = some x3 ∧ W.cell? p4 = some x4 ∧ W.cell? p5 = some x5 ∧ W.cell? p6 = some x6 ∧ W.cell? p7 = some x7 ∧ W.cell? p8 = some x8 ∧ W.cell? p9 = some x9 ∧ W.cell? p10 = some x10 ∧ W.cell? p11 = some x11 ∧ W.cell? p12 = some x12 ∧ W.cell? p13 = some x13 ∧ W.cell? p14 = some x14 ∧ W.cell? p15 = some x15 ∧ Below w.heap.size w W) (hb : Below W.heap.size W W') :
   W'.cell? p0 = some x0 ∧ W'.cell? p1 = some x1 ∧ W'.cell? p2 = some x2 ∧ W'.cell? p3 = some x3 ∧ W'.cell? p4 = some x4 ∧ W'.cell? p5 = some x5 ∧ W'.cell? p6 = some x6 ∧ W'.cell? p7 = some x7 ∧ W'.cell? p8 = some x8 ∧ W'.cell? p9 = some x9 ∧ W'.cell? p10 = some x10 ∧ W'.cell? p11 = some x11 ∧ W'.cell? p12 = some x12 ∧ W'.cell? p13 = some x13 ∧ W'.cell? p14 = some x14 ∧ W'.cell? p15 = some x15 ∧ Below w.heap.size w W' :=
 ⟨cell_later hb h.1, cell_later hb h.2.1, cell_later hb h.2.2.1, cell_later hb h.2.2.2.1, cell_later hb h.2.2.2.2.1, cell_later hb h.2.2.2.2.2.1, cell_later hb h.2.2.2.2.2.2.1, cell_later hb h.2.2.2.2.2.2.2.1, cell_later hb h.2.2.2.2.2.2.2.2.1, cell_later hb h.2.2.2.2.2.2.2.2.2.1, cell_later hb h.2.2.2.2.2.2.2.2.2.2.1, cell_later hb h.2.2.2.2.2.2.2.2.2.2.2.1, cell_later hb h.2.2.2.2.2.2.2.2.2.2.2.2.1, cell_later hb h.2.2.2.2.2.2.2.2.2.2.2.2.2.1, cell_later hb h.2.2.2.2.2.2.2.2.2.2.2.2.2.2.1, cell_later hb h.2.2.2.2.2.2.2.2.2.2.2.2.2.2.2.1, thru h.2.2.2.2.2.2.2.2.2.2.2.2.2.2.2.2 hb⟩
theorem keep16_bel {w W : World} {p0 p1 p2 p3 p4 p5 p6 p7 p8 p9 p10 p11 p12 p13 p14 p15 : Addr} {x0 x1 x2 x3 x4 x5 x6 x7 x8 x9 x10 x11 x12 x13 x14 x15 : Value} (h : W.cell? p0 = some x0 ∧ W.cell? p1 = some x1 ∧ W.cell? p2 = some x2 ∧ W.cell? p3 = some x3 ∧ W.cell? p4 = some x4 ∧ W.cell? p5 = some x5 ∧ W.cell? p6 = some x6 ∧ W.cell? p7 = some x7 ∧ W.cell? p8 = some x8 ∧ W.cell? p9 = some x9 ∧ W.cell? p10 = some x10 ∧ W.cell? p11 = some x11 ∧ W.cell? p12 = some x12 ∧ W.cell? p13 = some x13 ∧ W.cell? p14 = some x14 ∧ W.cell? p15 = some x15 ∧ Below w.heap.size w W) : Below w.heap.size w W := h.2.2.2.2.2.2.2.2.2.2.2.2.2.2.2.2
set_option maxRecDepth 100000 in
theorem infN (w : World) : Calls Tryd.prog 15 #[.int .i64 1] w fun e w' => e = .returned (.float .f64 9218868437227405312) ∧ Below w.heap.size w w' := by
 have b1 := run_frombits 9218868437227405312
 rw [show ((9218868437227405312 : Nat) : Int) = 9218868437227405312 from rfl] at b1
 go_enter Tryd.func15, Tryd.ntmps15
 go_wp2
 go_ret
 exact ⟨rfl, Below.refl _ _⟩
set_option maxRecDepth 100000 in
theorem ninfN (w : World) : Calls Tryd.prog 15 #[.int .i64 (-1)] w fun e w' => e = .returned (.float .f64 18442240474082181120) ∧ Below w.heap.size w w' := by
 have b1 := run_frombits 18442240474082181120
 rw [show ((18442240474082181120 : Nat) : Int) = 18442240474082181120 from rfl] at b1
 go_enter Tryd.func15, Tryd.ntmps15
 go_wp2
 go_ret
 exact ⟨rfl, Below.refl _ _⟩
set_option maxRecDepth 100000 in
theorem nanN (w : World) : Calls Tryd.prog 16 #[] w fun e w' => e = .returned (.float .f64 9221120237041090561) ∧ Below w.heap.size w w' := by
 have b1 := run_frombits 9221120237041090561
 rw [show ((9221120237041090561 : Nat) : Int) = 9221120237041090561 from rfl] at b1
 go_enter Tryd.func16, Tryd.ntmps16
 go_wp2
 go_ret
 exact ⟨rfl, Below.refl _ _⟩
set_option maxRecDepth 100000 in
theorem isInfN (w : World) : Calls Tryd.prog 17 #[.float .f64 9218868437227405312, .int .i64 1] w fun e w' => e = .returned (.bool true) ∧ Below w.heap.size w w' := by
 have o1 : FloatKind.f64.format.order 9218868437227405312 9218868437227405311 = some .gt := by decide +kernel
 go_enter Tryd.func17, Tryd.ntmps17
 go_wp2
 go_ret
 exact ⟨rfl, Below.refl _ _⟩
theorem run_negN (w : World) : (Op.unary .neg (.float .f64 18442240474082181120)).run Tryd.prog w = .ok (.float .f64 9218868437227405312) w := by
 show Result.ok (Value.float .f64 (Op.negFloat .f64 18442240474082181120)) w = _
 rw [show Op.negFloat .f64 18442240474082181120 = 9218868437227405312 by decide +kernel]
set_option maxRecDepth 100000 in
theorem isNinfN (w : World) : Calls Tryd.prog 17 #[.float .f64 18442240474082181120, .int .i64 (-1)] w fun e w' => e = .returned (.bool true) ∧ Below w.heap.size w w' := by
 have o1 : FloatKind.f64.format.order 9218868437227405312 9218868437227405311 = some .gt := by decide +kernel
 have rn := run_negN
 go_enter Tryd.func17, Tryd.ntmps17
 go_wp2
 go_ret
 exact ⟨rfl, Below.refl _ _⟩
theorem ok_yes (v : Value) (q : Rat) (w : World) (h : IsNum w v (some q)) : Calls Tryd.prog 7 #[v] w fun e w' => e = .returned (.bool true) ∧ Below w.heap.size w w' := ok_any v (some q) w h
theorem ok_no (v : Value) (w : World) (h : IsNum w v none) : Calls Tryd.prog 7 #[v] w fun e w' => e = .returned (.bool false) ∧ Below w.heap.size w w' := ok_any v none w h
theorem sign_nilN (v : Value) (x : Option Rat) (w : World) (h : IsNum w v x) (hx : x.getD 0 = 0) : Calls Tryd.prog 8 #[v] w fun e w' => e = .returned (.int .i64 0) ∧ Below w.heap.size w w' := by
 have := sign_any v x w h
 rwa [hx, sgnR_zero] at this
theorem cmp_nilN (va vb : Value) (a b : Option Rat) (w : World) (ha : IsNum w va a) (hb : IsNum w vb b) (h : CmpX a b = 0) : Calls Tryd.prog 12 #[va, vb] w fun e w' => e = .returned (.int .i64 0) ∧ Below w.heap.size w w' := by
 have := cmp_any va vb a b w ha hb
 rwa [h] at this
theorem m_back_may : May (pw 65536 + pw (-65536) - pw 65536) := by rw [m_back]; exact pw_may (by omega) (by omega)
theorem m_tl : May (pw 65536 * pw (-65536)) := by rw [m_top_mul]; exact pw_may (by omega) (by omega)
theorem f_tl {f : Nat} (h : FloatOf (pw 65536 * pw (-65536)) f) : f = 4607182418800017408 := by rw [m_top_mul] at h; exact f_one h
theorem m_zs {k : Int} {y : Option Rat} (h : ShiftX k (some 0) y) : y = some 0 := by
 have e : (0 : Rat) * p2 k = 0 := by grind
 have := shiftX_may h (by rw [e]; exact may_zero)
 rwa [e] at this
theorem m_3 : May (((3 : Int) : Rat) * p2 (-1076)) := ((int_bd 3 (by omega) (by omega)).shift (-1076)).may (by omega) (by omega)
theorem m_b1 : May (((9007199254740992 : Int) : Rat) + ((1 : Int) : Rat)) := ((int_bd 9007199254740992 (by omega) (by omega)).add (int_bd 1 (by omega) (by omega))).may (by omega) (by omega)
theorem m_b3 : May (((9007199254740992 : Int) : Rat) + ((3 : Int) : Rat)) := ((int_bd 9007199254740992 (by omega) (by omega)).add (int_bd 3 (by omega) (by omega))).may (by omega) (by omega)
theorem not_fin_inf : ¬ Fin64 9218868437227405312 := by unfold Fin64 frung; omega
theorem not_fin_ninf : ¬ Fin64 18442240474082181120 := by unfold Fin64 frung; omega
theorem not_fin_nan : ¬ Fin64 9221120237041090561 := by unfold Fin64 frung; omega
end

/- WholeNames: the law's walk. -/
section
open Go.RowKit
attribute [local go_sem ↓] Go.wp_at_zero Go.wp_at_succ
set_option maxRecDepth 100000 in
set_option maxHeartbeats 40000000 in
theorem names1_law (w : World) (hT : Tab w) : Calls Tryd.prog 3 #[] w fun e w' => e = .returned (.bool true) ∧ Below w.heap.size w w' := by
 have HT : Hid (Tab w) := hT
 clear hT
 have wz : IntKind.i64.wrap 0 = 0 := by decide
 have o0 : FloatKind.f64.format.order 0 0 = some .eq := by decide +kernel
 have o1 : FloatKind.f64.format.order 1 1 = some .eq := by decide +kernel
 have o2 : FloatKind.f64.format.order 4607182418800017408 4607182418800017408 = some .eq := by decide +kernel
 have o3 : FloatKind.f64.format.order 4845873199050653696 4845873199050653696 = some .eq := by decide +kernel
 have o4 : FloatKind.f64.format.order 4845873199050653698 4845873199050653698 = some .eq := by decide +kernel
 have o5 : FloatKind.f64.format.order 14114281232179134464 14114281232179134464 = some .eq := by decide +kernel
 have o6 : FloatKind.f64.format.order 9218868437227405311 9218868437227405311 = some .eq := by decide +kernel
 go_enter Tryd.func3, Tryd.ntmps3
 go_wp2_with fail
 refine (works_any _ HT.out).mono ?_
 rintro e w1 ⟨rfl, hb1⟩
 have HB1 : Hid (Below w.heap.size w w1) := hb1
 clear hb1
 go_wp2_with fail
 refine (int_any 1 _ (HT.out.later HB1.out) (by omega) (by omega)).mono ?_
 rintro e w2 ⟨v2, y2, rfl, hn2, hy2, hb2⟩
 obtain ⟨a2, n2, c2, low2, neg2, nn2, rfl, hn2⟩ := isNum_form hn2
 subst hy2
 have HB2 : Hid (Below w.heap.size w w2) := thru HB1.out hb2
 have HN2 : Hid (IsNum w2 (.agg #[.slice a2 n2 c2, .int .i64 low2, .bool neg2, .bool nn2]) (some ((1 : Int) : Rat))) := hn2
 clear hn2 hb2 HB1
 have HA : Hid (Below w2.heap.size w2 (w2.alloc (.cells #[.slice a2 n2 c2, .int .i64 low2, .bool neg2, .bool nn2] 27))) := (Below.refl _ _).alloc (Nat.le_refl _) _
 go_wp2_with fail
 refine (shift_any _ (some ((1 : Int) : Rat)) 65536 _ (HN2.out.later HA.out)).mono ?_
 rintro e w3 ⟨v3, y3, rfl, hn3, hy3, hb3⟩
 obtain ⟨a3, n3, c3, low3, neg3, nn3, rfl, hn3⟩ := isNum_form hn3
 have e3 : y3 = some (pw 65536) := shiftX_may hy3 (pw_may (by omega) (by omega))
 subst e3
 clear hy3
 have hc := thru HA.out hb3
 have q20 : w3.cell? ⟨w2.heap.size, 0, none⟩ = some (.slice a2 n2 c2) := cell_later hb3 (by go_simp)
 have q21 : w3.cell? ⟨w2.heap.size, 1, none⟩ = some (.int .i64 low2) := cell_later hb3 (by go_simp)
 have q22 : w3.cell? ⟨w2.heap.size, 2, none⟩ = some (.bool neg2) := cell_later hb3 (by go_simp)
 have q23 : w3.cell? ⟨w2.heap.size, 3, none⟩ = some (.bool nn2) := cell_later hb3 (by go_simp)
 have HB3 : Hid (Below w.heap.size w w3) := thru HB2.out hc
 have hs3 : w2.heap.size < w3.heap.size := by have := hb3.size; simp at this; omega
 have HN2 : Hid (IsNum w3 (.agg #[.slice a2 n2 c2, .int .i64 low2, .bool neg2, .bool nn2]) (some ((1 : Int) : Rat))) := HN2.out.later hc
 have HN3 : Hid (IsNum w3 (.agg #[.slice a3 n3 c3, .int .i64 low3, .bool neg3, .bool nn3]) (some (pw 65536))) := hn3
 clear hn3 hb3 hc HA HB2
 have HA : Hid (Below w3.heap.size w3 (w3.alloc (.cells #[.slice a3 n3 c3, .int .i64 low3, .bool neg3, .bool nn3] 27))) := (Below.refl _ _).alloc (Nat.le_refl _) _
 go_wp2_with fail
 refine (shift_any _ (some ((1 : Int) : Rat)) (-65536) _ (HN2.out.later HA.out)).mono ?_
 rintro e w4 ⟨v4, y4, rfl, hn4, hy4, hb4⟩
 obtain ⟨a4, n4, c4, low4, neg4, nn4, rfl, hn4⟩ := isNum_form hn4
 have e4 : y4 = some (pw (-65536)) := shiftX_may hy4 (pw_may (by omega) (by omega))
 subst e4
 clear hy4
 have hc := thru HA.out hb4
 have p20 : w4.cell? ⟨w2.heap.size, 0, none⟩ = some (.slice a2 n2 c2) := cell_later hc q20
 have p21 : w4.cell? ⟨w2.heap.size, 1, none⟩ = some (.int .i64 low2) := cell_later hc q21
 have p22 : w4.cell? ⟨w2.heap.size, 2, none⟩ = some (.bool neg2) := cell_later hc q22
 have p23 : w4.cell? ⟨w2.heap.size, 3, none⟩ = some (.bool nn2) := cell_later hc q23
 have p30 : w4.cell? ⟨w3.heap.size, 0, none⟩ = some (.slice a3 n3 c3) := cell_later hb4 (by go_simp)
 have p31 : w4.cell? ⟨w3.heap.size, 1, none⟩ = some (.int .i64 low3) := cell_later hb4 (by go_simp)
 have p32 : w4.cell? ⟨w3.heap.size, 2, none⟩ = some (.bool neg3) := cell_later hb4 (by go_simp)
 have p33 : w4.cell? ⟨w3.heap.size, 3, none⟩ = some (.bool nn3) := cell_later hb4 (by go_simp)
 have HB4 : Hid (Below w.heap.size w w4) := thru HB3.out hc
 have HN2 : Hid (IsNum w4 (.agg #[.slice a2 n2 c2, .int .i64 low2, .bool neg2, .bool nn2]) (some ((1 : Int) : Rat))) := HN2.out.later hc
 have HN3 : Hid (IsNum w4 (.agg #[.slice a3 n3 c3, .int .i64 low3, .bool neg3, .bool nn3]) (some (pw 65536))) := HN3.out.later hc
 have HN4 : Hid (IsNum w4 (.agg #[.slice a4 n4 c4, .int .i64 low4, .bool neg4, .bool nn4]) (some (pw (-65536)))) := hn4
 clear hn4 hb4 hc HA HB3 hs3 q20 q21 q22 q23
 go_wp2_with fail
 have hC : Below w4.heap.size w4 ((w4.alloc (.cells #[.slice a4 n4 c4, .int .i64 low4, .bool neg4, .bool nn4] 27)).alloc (.cells #[.slice none 0 0, .int .i64 0, .bool false, .bool false] 27)) := ((Below.refl _ _).alloc (Nat.le_refl _) _).alloc (by simp) _
 have z40 : ((w4.alloc (.cells #[.slice a4 n4 c4, .int .i64 low4, .bool neg4, .bool nn4] 27)).alloc (.cells #[.slice none 0 0, .int .i64 0, .bool false, .bool false] 27)).cell? ⟨w4.heap.size, 0, none⟩ = some (.slice a4 n4 c4) := by go_simp
 have z41 : ((w4.alloc (.cells #[.slice a4 n4 c4, .int .i64 low4, .bool neg4, .bool nn4] 27)).alloc (.cells #[.slice none 0 0, .int .i64 0, .bool false, .bool false] 27)).cell? ⟨w4.heap.size, 1, none⟩ = some (.int .i64 low4) := by go_simp
 have z42 : ((w4.alloc (.cells #[.slice a4 n4 c4, .int .i64 low4, .bool neg4, .bool nn4] 27)).alloc (.cells #[.slice none 0 0, .int .i64 0, .bool false, .bool false] 27)).cell? ⟨w4.heap.size, 2, none⟩ = some (.bool neg4) := by go_simp
 have z43 : ((w4.alloc (.cells #[.slice a4 n4 c4, .int .i64 low4, .bool neg4, .bool nn4] 27)).alloc (.cells #[.slice none 0 0, .int .i64 0, .bool false, .bool false] 27)).cell? ⟨w4.heap.size, 3, none⟩ = some (.bool nn4) := by go_simp
 have zz0 : ((w4.alloc (.cells #[.slice a4 n4 c4, .int .i64 low4, .bool neg4, .bool nn4] 27)).alloc (.cells #[.slice none 0 0, .int .i64 0, .bool false, .bool false] 27)).cell? ⟨w4.heap.size + 1, 0, none⟩ = some (.slice none 0 0) := by go_simp
 have zz1 : ((w4.alloc (.cells #[.slice a4 n4 c4, .int .i64 low4, .bool neg4, .bool nn4] 27)).alloc (.cells #[.slice none 0 0, .int .i64 0, .bool false, .bool false] 27)).cell? ⟨w4.heap.size + 1, 1, none⟩ = some (.int .i64 0) := by go_simp
 have zz2 : ((w4.alloc (.cells #[.slice a4 n4 c4, .int .i64 low4, .bool neg4, .bool nn4] 27)).alloc (.cells #[.slice none 0 0, .int .i64 0, .bool false, .bool false] 27)).cell? ⟨w4.heap.size + 1, 2, none⟩ = some (.bool false) := by go_simp
 have zz3 : ((w4.alloc (.cells #[.slice a4 n4 c4, .int .i64 low4, .bool neg4, .bool nn4] 27)).alloc (.cells #[.slice none 0 0, .int .i64 0, .bool false, .bool false] 27)).cell? ⟨w4.heap.size + 1, 3, none⟩ = some (.bool false) := by go_simp
 generalize ((w4.alloc (.cells #[.slice a4 n4 c4, .int .i64 low4, .bool neg4, .bool nn4] 27)).alloc (.cells #[.slice none 0 0, .int .i64 0, .bool false, .bool false] 27)) = wq at *
 have z20 : wq.cell? ⟨w2.heap.size, 0, none⟩ = some (.slice a2 n2 c2) := cell_later hC p20
 have z21 : wq.cell? ⟨w2.heap.size, 1, none⟩ = some (.int .i64 low2) := cell_later hC p21
 have z22 : wq.cell? ⟨w2.heap.size, 2, none⟩ = some (.bool neg2) := cell_later hC p22
 have z23 : wq.cell? ⟨w2.heap.size, 3, none⟩ = some (.bool nn2) := cell_later hC p23
 have z30 : wq.cell? ⟨w3.heap.size, 0, none⟩ = some (.slice a3 n3 c3) := cell_later hC p30
 have z31 : wq.cell? ⟨w3.heap.size, 1, none⟩ = some (.int .i64 low3) := cell_later hC p31
 have z32 : wq.cell? ⟨w3.heap.size, 2, none⟩ = some (.bool neg3) := cell_later hC p32
 have z33 : wq.cell? ⟨w3.heap.size, 3, none⟩ = some (.bool nn3) := cell_later hC p33
 have HBC : Hid (Below w.heap.size w wq) := thru HB4.out hC
 have HN2 : Hid (IsNum wq (.agg #[.slice a2 n2 c2, .int .i64 low2, .bool neg2, .bool nn2]) (some ((1 : Int) : Rat))) := HN2.out.later hC
 have HN3 : Hid (IsNum wq (.agg #[.slice a3 n3 c3, .int .i64 low3, .bool neg3, .bool nn3]) (some (pw 65536))) := HN3.out.later hC
 have HN4 : Hid (IsNum wq (.agg #[.slice a4 n4 c4, .int .i64 low4, .bool neg4, .bool nn4]) (some (pw (-65536)))) := HN4.out.later hC
 have HNz : Hid (IsNum wq (.agg #[.slice none 0 0, .int .i64 0, .bool false, .bool false]) (some (0 : Rat))) := isNum_zero _
 clear hC HB4 p20 p21 p22 p23 p30 p31 p32 p33
 refine wp_region_held_drew (S := (fun W => W.cell? ⟨w2.heap.size, 0, none⟩ = some (.slice a2 n2 c2) ∧ W.cell? ⟨w2.heap.size, 1, none⟩ = some (.int .i64 low2) ∧ W.cell? ⟨w2.heap.size, 2, none⟩ = some (.bool neg2) ∧ W.cell? ⟨w2.heap.size, 3, none⟩ = some (.bool nn2) ∧ W.cell? ⟨w3.heap.size, 0, none⟩ = some (.slice a3 n3 c3) ∧ W.cell? ⟨w3.heap.size, 1, none⟩ = some (.int .i64 low3) ∧ W.cell? ⟨w3.heap.size, 2, none⟩ = some (.bool neg3) ∧ W.cell? ⟨w3.heap.size, 3, none⟩ = some (.bool nn3) ∧ W.cell? ⟨w4.heap.size, 0, none⟩ = some (.slice a4 n4 c4) ∧ W.cell? ⟨w4.heap.size, 1, none⟩ = some (.int .i64 low4) ∧ W.cell? ⟨w4.heap.size, 2, none⟩ = some (.bool neg4) ∧ W.cell? ⟨w4.heap.size, 3, none⟩ = some (.bool nn4) ∧ W.cell? ⟨(w4.heap.size + 1), 0, none⟩ = some (.slice none 0 0) ∧ W.cell? ⟨(w4.heap.size + 1), 1, none⟩ = some (.int .i64 0) ∧ W.cell? ⟨(w4.heap.size + 1), 2, none⟩ = some (.bool false) ∧ W.cell? ⟨(w4.heap.size + 1), 3, none⟩ = some (.bool false) ∧ Below wq.heap.size wq W)) (by kernel_rfl) ⟨z20, z21, z22, z23, z30, z31, z32, z33, z40, z41, z42, z43, zz0, zz1, zz2, zz3, (Below.refl _ _).drew⟩ (fun hS => ?_)
 refine takB (i := 0) (d := some 16) (v := .agg #[.slice none 0 0, .int .i64 0, .bool false, .bool false]) hS ?_
 simp only [AP]
 refine call_at 1 (by kernel_rfl) (by kernel_rfl) ?_
 intro o ho
 replace ho := Option.some.inj (Eq.trans (Eq.symm ho) rfl)
 subst ho
 intro KF hK
 go_simp
 refine (ok_yes _ (0 : Rat) _ (HNz.out.later (keep16_bel hS))).mono ?_
 rintro e wx ⟨rfl, hbx⟩
 go_wp2_with fail
 refine hK.out _ _ (keep16 hS hbx) ?_
 clear hS hbx
 intro hS
 clear hK KF
 try simp only [AP]
 refine takB (i := 2) (d := some 18) (v := .bool false) hS ?_
 simp only [AP]
 refine takB (i := 3) (d := some 19) (v := .bool false) hS ?_
 simp only [AP]
 refine takB (i := 4) (d := some 20) (v := .agg #[.slice none 0 0, .int .i64 0, .bool false, .bool false]) hS ?_
 simp only [AP]
 refine call_at 5 (by kernel_rfl) (by kernel_rfl) ?_
 intro o ho
 replace ho := Option.some.inj (Eq.trans (Eq.symm ho) rfl)
 subst ho
 intro KF hK
 go_simp
 refine (sign_nilN _ (some (0 : Rat)) _ (HNz.out.later (keep16_bel hS)) rfl).mono ?_
 rintro e wx ⟨rfl, hbx⟩
 go_wp2_with fail
 refine hK.out _ _ (keep16 hS hbx) ?_
 clear hS hbx
 intro hS
 clear hK KF
 try simp only [AP]
 refine takB (i := 6) (d := some 22) (v := .bool false) hS ?_
 simp only [AP]
 refine takB (i := 7) (d := some 23) (v := .bool false) hS ?_
 simp only [AP]
 refine takB (i := 8) (d := some 24) (v := .bool false) hS ?_
 simp only [AP]
 refine takB (i := 9) (d := some 25) (v := .agg #[.slice none 0 0, .int .i64 0, .bool false, .bool false]) hS ?_
 simp only [AP]
 refine call_at 10 (by kernel_rfl) (by kernel_rfl) ?_
 intro o ho
 replace ho := Option.some.inj (Eq.trans (Eq.symm ho) rfl)
 subst ho
 intro KF hK
 go_simp
 refine (float_any _ (some (0 : Rat)) _ (HNz.out.later (keep16_bel hS))).mono ?_
 rintro e wx ⟨⟨f26, rfl, hf26⟩, hbx⟩
 have e26 : f26 = 0 := f_nil hf26
 subst e26
 clear hf26
 go_wp2_with fail
 refine hK.out _ _ (keep16 hS hbx) ?_
 clear hS hbx
 intro hS
 clear hK KF
 try simp only [AP]
 refine takB (i := 11) (d := some 27) (v := .bool false) hS ?_
 simp only [AP]
 as_aux_lemma =>
  refine takB (i := 12) (d := some 28) (v := .bool false) hS ?_
  simp only [AP]
  refine takB (i := 13) (d := some 29) (v := .bool false) hS ?_
  simp only [AP]
  refine takB (i := 14) (d := some 30) (v := .agg #[.slice a3 n3 c3, .int .i64 low3, .bool neg3, .bool nn3]) hS ?_
  simp only [AP]
  refine call_at 15 (by kernel_rfl) (by kernel_rfl) ?_
  intro o ho
  replace ho := Option.some.inj (Eq.trans (Eq.symm ho) rfl)
  subst ho
  intro KF hK
  go_simp
  refine (ok_yes _ (pw 65536) _ (HN3.out.later (keep16_bel hS))).mono ?_
  rintro e wx ⟨rfl, hbx⟩
  go_wp2_with fail
  refine hK.out _ _ (keep16 hS hbx) ?_
  clear hS hbx
  intro hS
  clear hK KF
  try simp only [AP]
  refine takB (i := 16) (d := some 32) (v := .bool false) hS ?_
  simp only [AP]
  refine takB (i := 17) (d := some 33) (v := .bool false) hS ?_
  simp only [AP]
  refine takB (i := 18) (d := some 34) (v := .bool false) hS ?_
  simp only [AP]
  refine takB (i := 19) (d := some 35) (v := .agg #[.slice a2 n2 c2, .int .i64 low2, .bool neg2, .bool nn2]) hS ?_
  simp only [AP]
  refine call_at 20 (by kernel_rfl) (by kernel_rfl) ?_
  intro o ho
  replace ho := Option.some.inj (Eq.trans (Eq.symm ho) rfl)
  subst ho
  intro KF hK
  go_simp
  refine (shift_any _ (some ((1 : Int) : Rat)) _ _ (HN2.out.later (keep16_bel hS))).mono ?_
  rintro e wx ⟨v36, y36, rfl, hn36, hy36, hbx⟩
  obtain ⟨a36, n36, c36, low36, neg36, nn36, rfl, hn36⟩ := isNum_form hn36
  have e36 : y36 = none := shiftX_not hy36 (pw_big (by omega))
  subst e36
  try clear hy36
  go_wp2_with fail
  refine hK.out _ _ (keep16 hS hbx) ?_
  clear hS hbx
  intro hS
  clear hK KF
  try simp only [AP]
  refine call_at 21 (by kernel_rfl) (by kernel_rfl) ?_
  intro o ho
  replace ho := Option.some.inj (Eq.trans (Eq.symm ho) rfl)
  subst ho
  intro KF hK
  go_simp
  refine (ok_no _ _ hn36).mono ?_
  rintro e wx ⟨rfl, hbx⟩
  clear hn36
  go_wp2_with fail
  refine hK.out _ _ (keep16 hS hbx) ?_
  clear hS hbx
  intro hS
  clear hK KF
  try simp only [AP]
  refine takB (i := 22) (d := some 38) (v := .bool false) hS ?_
  simp only [AP]
  refine takB (i := 23) (d := some 39) (v := .bool false) hS ?_
  simp only [AP]
  as_aux_lemma =>
   refine takB (i := 24) (d := some 40) (v := .agg #[.slice a4 n4 c4, .int .i64 low4, .bool neg4, .bool nn4]) hS ?_
   simp only [AP]
   refine call_at 25 (by kernel_rfl) (by kernel_rfl) ?_
   intro o ho
   replace ho := Option.some.inj (Eq.trans (Eq.symm ho) rfl)
   subst ho
   intro KF hK
   go_simp
   refine (ok_yes _ (pw (-65536)) _ (HN4.out.later (keep16_bel hS))).mono ?_
   rintro e wx ⟨rfl, hbx⟩
   go_wp2_with fail
   refine hK.out _ _ (keep16 hS hbx) ?_
   clear hS hbx
   intro hS
   clear hK KF
   try simp only [AP]
   refine takB (i := 26) (d := some 42) (v := .bool false) hS ?_
   simp only [AP]
   refine takB (i := 27) (d := some 43) (v := .bool false) hS ?_
   simp only [AP]
   refine takB (i := 28) (d := some 44) (v := .bool false) hS ?_
   simp only [AP]
   refine takB (i := 29) (d := some 45) (v := .agg #[.slice a2 n2 c2, .int .i64 low2, .bool neg2, .bool nn2]) hS ?_
   simp only [AP]
   refine call_at 30 (by kernel_rfl) (by kernel_rfl) ?_
   intro o ho
   replace ho := Option.some.inj (Eq.trans (Eq.symm ho) rfl)
   subst ho
   intro KF hK
   go_simp
   refine (shift_any _ (some ((1 : Int) : Rat)) _ _ (HN2.out.later (keep16_bel hS))).mono ?_
   rintro e wx ⟨v46, y46, rfl, hn46, hy46, hbx⟩
   obtain ⟨a46, n46, c46, low46, neg46, nn46, rfl, hn46⟩ := isNum_form hn46
   have e46 : y46 = none := shiftX_not hy46 (pw_fine (by omega))
   subst e46
   try clear hy46
   go_wp2_with fail
   refine hK.out _ _ (keep16 hS hbx) ?_
   clear hS hbx
   intro hS
   clear hK KF
   try simp only [AP]
   refine call_at 31 (by kernel_rfl) (by kernel_rfl) ?_
   intro o ho
   replace ho := Option.some.inj (Eq.trans (Eq.symm ho) rfl)
   subst ho
   intro KF hK
   go_simp
   refine (ok_no _ _ hn46).mono ?_
   rintro e wx ⟨rfl, hbx⟩
   clear hn46
   go_wp2_with fail
   refine hK.out _ _ (keep16 hS hbx) ?_
   clear hS hbx
   intro hS
   clear hK KF
   try simp only [AP]
   refine takB (i := 32) (d := some 48) (v := .bool false) hS ?_
   simp only [AP]
   refine takB (i := 33) (d := some 49) (v := .bool false) hS ?_
   simp only [AP]
   refine takB (i := 34) (d := some 50) (v := .agg #[.slice a2 n2 c2, .int .i64 low2, .bool neg2, .bool nn2]) hS ?_
   simp only [AP]
   refine call_at 35 (by kernel_rfl) (by kernel_rfl) ?_
   intro o ho
   replace ho := Option.some.inj (Eq.trans (Eq.symm ho) rfl)
   subst ho
   intro KF hK
   go_simp
   refine (shift_any _ (some ((1 : Int) : Rat)) _ _ (HN2.out.later (keep16_bel hS))).mono ?_
   rintro e wx ⟨v51, y51, rfl, hn51, hy51, hbx⟩
   obtain ⟨a51, n51, c51, low51, neg51, nn51, rfl, hn51⟩ := isNum_form hn51
   have e51 : y51 = none := shiftX_not hy51 (pw_big (by omega))
   subst e51
   try clear hy51
   go_wp2_with fail
   refine hK.out _ _ (keep16 hS hbx) ?_
   clear hS hbx
   intro hS
   clear hK KF
   try simp only [AP]
   as_aux_lemma =>
    refine call_at 36 (by kernel_rfl) (by kernel_rfl) ?_
    intro o ho
    replace ho := Option.some.inj (Eq.trans (Eq.symm ho) rfl)
    subst ho
    intro KF hK
    go_simp
    refine (ok_no _ _ hn51).mono ?_
    rintro e wx ⟨rfl, hbx⟩
    clear hn51
    go_wp2_with fail
    refine hK.out _ _ (keep16 hS hbx) ?_
    clear hS hbx
    intro hS
    clear hK KF
    try simp only [AP]
    refine takB (i := 37) (d := some 53) (v := .bool false) hS ?_
    simp only [AP]
    refine takB (i := 38) (d := some 54) (v := .bool false) hS ?_
    simp only [AP]
    refine takB (i := 39) (d := some 55) (v := .agg #[.slice a2 n2 c2, .int .i64 low2, .bool neg2, .bool nn2]) hS ?_
    simp only [AP]
    refine call_at 40 (by kernel_rfl) (by kernel_rfl) ?_
    intro o ho
    replace ho := Option.some.inj (Eq.trans (Eq.symm ho) rfl)
    subst ho
    intro KF hK
    go_simp
    refine (shift_any _ (some ((1 : Int) : Rat)) _ _ (HN2.out.later (keep16_bel hS))).mono ?_
    rintro e wx ⟨v56, y56, rfl, hn56, hy56, hbx⟩
    obtain ⟨a56, n56, c56, low56, neg56, nn56, rfl, hn56⟩ := isNum_form hn56
    have e56 : y56 = none := shiftX_not hy56 (pw_fine (by omega))
    subst e56
    try clear hy56
    go_wp2_with fail
    refine hK.out _ _ (keep16 hS hbx) ?_
    clear hS hbx
    intro hS
    clear hK KF
    try simp only [AP]
    refine call_at 41 (by kernel_rfl) (by kernel_rfl) ?_
    intro o ho
    replace ho := Option.some.inj (Eq.trans (Eq.symm ho) rfl)
    subst ho
    intro KF hK
    go_simp
    refine (ok_no _ _ hn56).mono ?_
    rintro e wx ⟨rfl, hbx⟩
    clear hn56
    go_wp2_with fail
    refine hK.out _ _ (keep16 hS hbx) ?_
    clear hS hbx
    intro hS
    clear hK KF
    try simp only [AP]
    refine takB (i := 42) (d := some 58) (v := .bool false) hS ?_
    simp only [AP]
    refine takB (i := 43) (d := some 59) (v := .bool false) hS ?_
    simp only [AP]
    refine takB (i := 44) (d := some 60) (v := .agg #[.slice none 0 0, .int .i64 0, .bool false, .bool false]) hS ?_
    simp only [AP]
    refine call_at 45 (by kernel_rfl) (by kernel_rfl) ?_
    intro o ho
    replace ho := Option.some.inj (Eq.trans (Eq.symm ho) rfl)
    subst ho
    intro KF hK
    go_simp
    refine (shift_any _ (some (0 : Rat)) _ _ (HNz.out.later (keep16_bel hS))).mono ?_
    rintro e wx ⟨v61, y61, rfl, hn61, hy61, hbx⟩
    obtain ⟨a61, n61, c61, low61, neg61, nn61, rfl, hn61⟩ := isNum_form hn61
    have e61 : y61 = some (0 : Rat) := m_zs hy61
    subst e61
    try clear hy61
    go_wp2_with fail
    refine hK.out _ _ (keep16 hS hbx) ?_
    clear hS hbx
    intro hS
    clear hK KF
    try simp only [AP]
    refine call_at 46 (by kernel_rfl) (by kernel_rfl) ?_
    intro o ho
    replace ho := Option.some.inj (Eq.trans (Eq.symm ho) rfl)
    subst ho
    intro KF hK
    go_simp
    refine (ok_yes _ (0 : Rat) _ hn61).mono ?_
    rintro e wx ⟨rfl, hbx⟩
    clear hn61
    go_wp2_with fail
    refine hK.out _ _ (keep16 hS hbx) ?_
    clear hS hbx
    intro hS
    clear hK KF
    try simp only [AP]
    refine takB (i := 47) (d := some 63) (v := .bool false) hS ?_
    simp only [AP]
    as_aux_lemma =>
     refine takB (i := 48) (d := some 64) (v := .bool false) hS ?_
     simp only [AP]
     refine takB (i := 49) (d := some 65) (v := .bool false) hS ?_
     simp only [AP]
     refine takB (i := 50) (d := some 66) (v := .agg #[.slice a3 n3 c3, .int .i64 low3, .bool neg3, .bool nn3]) hS ?_
     simp only [AP]
     refine takB (i := 51) (d := some 67) (v := .agg #[.slice a3 n3 c3, .int .i64 low3, .bool neg3, .bool nn3]) hS ?_
     simp only [AP]
     refine call_at 52 (by kernel_rfl) (by kernel_rfl) ?_
     intro o ho
     replace ho := Option.some.inj (Eq.trans (Eq.symm ho) rfl)
     subst ho
     intro KF hK
     go_simp
     refine (add_any _ _ (some (pw 65536)) (some (pw 65536)) _ (HN3.out.later (keep16_bel hS)) (HN3.out.later (keep16_bel hS)) (HT.out.later (thru HBC.out (keep16_bel hS)))).mono ?_
     rintro e wx ⟨v68, y68, rfl, hn68, hy68, hbx⟩
     obtain ⟨a68, n68, c68, low68, neg68, nn68, rfl, hn68⟩ := isNum_form hn68
     have e68 : y68 = none := op2_not hy68 no_top_top
     subst e68
     try clear hy68
     go_wp2_with fail
     refine hK.out _ _ (keep16 hS hbx) ?_
     clear hS hbx
     intro hS
     clear hK KF
     try simp only [AP]
     refine call_at 53 (by kernel_rfl) (by kernel_rfl) ?_
     intro o ho
     replace ho := Option.some.inj (Eq.trans (Eq.symm ho) rfl)
     subst ho
     intro KF hK
     go_simp
     refine (ok_no _ _ hn68).mono ?_
     rintro e wx ⟨rfl, hbx⟩
     clear hn68
     go_wp2_with fail
     refine hK.out _ _ (keep16 hS hbx) ?_
     clear hS hbx
     intro hS
     clear hK KF
     try simp only [AP]
     refine takB (i := 54) (d := some 70) (v := .bool false) hS ?_
     simp only [AP]
     refine takB (i := 55) (d := some 71) (v := .bool false) hS ?_
     simp only [AP]
     refine takB (i := 56) (d := some 72) (v := .agg #[.slice a3 n3 c3, .int .i64 low3, .bool neg3, .bool nn3]) hS ?_
     simp only [AP]
     refine takB (i := 57) (d := some 73) (v := .agg #[.slice a4 n4 c4, .int .i64 low4, .bool neg4, .bool nn4]) hS ?_
     simp only [AP]
     refine call_at 58 (by kernel_rfl) (by kernel_rfl) ?_
     intro o ho
     replace ho := Option.some.inj (Eq.trans (Eq.symm ho) rfl)
     subst ho
     intro KF hK
     go_simp
     refine (add_any _ _ (some (pw 65536)) (some (pw (-65536))) _ (HN3.out.later (keep16_bel hS)) (HN4.out.later (keep16_bel hS)) (HT.out.later (thru HBC.out (keep16_bel hS)))).mono ?_
     rintro e wx ⟨v74, y74, rfl, hn74, hy74, hbx⟩
     obtain ⟨a74, n74, c74, low74, neg74, nn74, rfl, hn74⟩ := isNum_form hn74
     have e74 : y74 = some (pw 65536 + pw (-65536)) := op2_yes' hy74 m_top_low
     subst e74
     try clear hy74
     go_wp2_with fail
     refine hK.out _ _ (keep16 hS hbx) ?_
     clear hS hbx
     intro hS
     clear hK KF
     try simp only [AP]
     refine call_at 59 (by kernel_rfl) (by kernel_rfl) ?_
     intro o ho
     replace ho := Option.some.inj (Eq.trans (Eq.symm ho) rfl)
     subst ho
     intro KF hK
     go_simp
     refine (ok_yes _ (pw 65536 + pw (-65536)) _ hn74).mono ?_
     rintro e wx ⟨rfl, hbx⟩
     clear hn74
     go_wp2_with fail
     refine hK.out _ _ (keep16 hS hbx) ?_
     clear hS hbx
     intro hS
     clear hK KF
     try simp only [AP]
     as_aux_lemma =>
      refine takB (i := 60) (d := some 76) (v := .bool false) hS ?_
      simp only [AP]
      refine takB (i := 61) (d := some 77) (v := .bool false) hS ?_
      simp only [AP]
      refine takB (i := 62) (d := some 78) (v := .bool false) hS ?_
      simp only [AP]
      refine takB (i := 63) (d := some 79) (v := .agg #[.slice a3 n3 c3, .int .i64 low3, .bool neg3, .bool nn3]) hS ?_
      simp only [AP]
      refine takB (i := 64) (d := some 80) (v := .agg #[.slice a4 n4 c4, .int .i64 low4, .bool neg4, .bool nn4]) hS ?_
      simp only [AP]
      refine takB (i := 66) (d := some 82) (v := .agg #[.slice a3 n3 c3, .int .i64 low3, .bool neg3, .bool nn3]) hS ?_
      simp only [AP]
      refine takB (i := 68) (d := some 84) (v := .agg #[.slice a4 n4 c4, .int .i64 low4, .bool neg4, .bool nn4]) hS ?_
      simp only [AP]
      refine call_at 65 (by kernel_rfl) (by kernel_rfl) ?_
      intro o ho
      replace ho := Option.some.inj (Eq.trans (Eq.symm ho) rfl)
      subst ho
      intro KF hK
      go_simp
      refine (add_any _ _ (some (pw 65536)) (some (pw (-65536))) _ (HN3.out.later (keep16_bel hS)) (HN4.out.later (keep16_bel hS)) (HT.out.later (thru HBC.out (keep16_bel hS)))).mono ?_
      rintro e wx ⟨v81, y81, rfl, hn81, hy81, hbx⟩
      obtain ⟨a81, n81, c81, low81, neg81, nn81, rfl, hn81⟩ := isNum_form hn81
      have e81 : y81 = some (pw 65536 + pw (-65536)) := op2_yes' hy81 m_top_low
      subst e81
      try clear hy81
      go_wp2_with fail
      refine hK.out _ _ (keep16 hS hbx) ?_
      clear hS hbx
      intro hS
      clear hK KF
      try simp only [AP]
      refine call_at 67 (by kernel_rfl) (by kernel_rfl) ?_
      intro o ho
      replace ho := Option.some.inj (Eq.trans (Eq.symm ho) rfl)
      subst ho
      intro KF hK
      go_simp
      refine (sub_any _ _ (some (pw 65536 + pw (-65536))) (some (pw 65536)) _ hn81 (HN3.out.later (keep16_bel hS)) (HT.out.later (thru HBC.out (keep16_bel hS)))).mono ?_
      rintro e wx ⟨v83, y83, rfl, hn83, hy83, hbx⟩
      obtain ⟨a83, n83, c83, low83, neg83, nn83, rfl, hn83⟩ := isNum_form hn83
      have e83 : y83 = some (pw 65536 + pw (-65536) - pw 65536) := op2_yes' hy83 m_back_may
      subst e83
      try clear hy83
      clear hn81
      go_wp2_with fail
      refine hK.out _ _ (keep16 hS hbx) ?_
      clear hS hbx
      intro hS
      clear hK KF
      try simp only [AP]
      refine call_at 69 (by kernel_rfl) (by kernel_rfl) ?_
      intro o ho
      replace ho := Option.some.inj (Eq.trans (Eq.symm ho) rfl)
      subst ho
      intro KF hK
      go_simp
      refine (cmp_nilN _ _ (some (pw 65536 + pw (-65536) - pw 65536)) (some (pw (-65536))) _ hn83 (HN4.out.later (keep16_bel hS)) (by show cmpR _ _ = 0; rw [m_back]; exact cmpR_self _)).mono ?_
      rintro e wx ⟨rfl, hbx⟩
      clear hn83
      go_wp2_with fail
      refine hK.out _ _ (keep16 hS hbx) ?_
      clear hS hbx
      intro hS
      clear hK KF
      try simp only [AP]
      refine takB (i := 70) (d := some 86) (v := .bool false) hS ?_
      simp only [AP]
      refine takB (i := 71) (d := some 87) (v := .bool false) hS ?_
      simp only [AP]
      as_aux_lemma =>
       refine takB (i := 72) (d := some 88) (v := .bool false) hS ?_
       simp only [AP]
       refine takB (i := 73) (d := some 89) (v := .agg #[.slice a3 n3 c3, .int .i64 low3, .bool neg3, .bool nn3]) hS ?_
       simp only [AP]
       refine call_at 74 (by kernel_rfl) (by kernel_rfl) ?_
       intro o ho
       replace ho := Option.some.inj (Eq.trans (Eq.symm ho) rfl)
       subst ho
       intro KF hK
       go_simp
       refine (int_any 2 _ (HT.out.later (thru HBC.out (keep16_bel hS))) (by omega) (by omega)).mono ?_
       rintro e wx ⟨v90, y90, rfl, hn90, hy90, hbx⟩
       obtain ⟨a90, n90, c90, low90, neg90, nn90, rfl, hn90⟩ := isNum_form hn90
       have e90 : y90 = some ((2 : Int) : Rat) := hy90
       subst e90
       try clear hy90
       go_wp2_with fail
       refine hK.out _ _ (keep16 hS hbx) ?_
       clear hS hbx
       intro hS
       clear hK KF
       try simp only [AP]
       refine call_at 75 (by kernel_rfl) (by kernel_rfl) ?_
       intro o ho
       replace ho := Option.some.inj (Eq.trans (Eq.symm ho) rfl)
       subst ho
       intro KF hK
       go_simp
       refine (mul_any _ _ (some (pw 65536)) (some ((2 : Int) : Rat)) _ (HN3.out.later (keep16_bel hS)) hn90 (HT.out.later (thru HBC.out (keep16_bel hS)))).mono ?_
       rintro e wx ⟨v91, y91, rfl, hn91, hy91, hbx⟩
       obtain ⟨a91, n91, c91, low91, neg91, nn91, rfl, hn91⟩ := isNum_form hn91
       have e91 : y91 = none := op2_not hy91 no_top_two
       subst e91
       try clear hy91
       clear hn90
       go_wp2_with fail
       refine hK.out _ _ (keep16 hS hbx) ?_
       clear hS hbx
       intro hS
       clear hK KF
       try simp only [AP]
       refine call_at 76 (by kernel_rfl) (by kernel_rfl) ?_
       intro o ho
       replace ho := Option.some.inj (Eq.trans (Eq.symm ho) rfl)
       subst ho
       intro KF hK
       go_simp
       refine (ok_no _ _ hn91).mono ?_
       rintro e wx ⟨rfl, hbx⟩
       clear hn91
       go_wp2_with fail
       refine hK.out _ _ (keep16 hS hbx) ?_
       clear hS hbx
       intro hS
       clear hK KF
       try simp only [AP]
       refine takB (i := 77) (d := some 93) (v := .bool false) hS ?_
       simp only [AP]
       refine takB (i := 78) (d := some 94) (v := .bool false) hS ?_
       simp only [AP]
       refine takB (i := 79) (d := some 95) (v := .agg #[.slice a3 n3 c3, .int .i64 low3, .bool neg3, .bool nn3]) hS ?_
       simp only [AP]
       refine takB (i := 80) (d := some 96) (v := .agg #[.slice a4 n4 c4, .int .i64 low4, .bool neg4, .bool nn4]) hS ?_
       simp only [AP]
       refine call_at 81 (by kernel_rfl) (by kernel_rfl) ?_
       intro o ho
       replace ho := Option.some.inj (Eq.trans (Eq.symm ho) rfl)
       subst ho
       intro KF hK
       go_simp
       refine (mul_any _ _ (some (pw 65536)) (some (pw (-65536))) _ (HN3.out.later (keep16_bel hS)) (HN4.out.later (keep16_bel hS)) (HT.out.later (thru HBC.out (keep16_bel hS)))).mono ?_
       rintro e wx ⟨v97, y97, rfl, hn97, hy97, hbx⟩
       obtain ⟨a97, n97, c97, low97, neg97, nn97, rfl, hn97⟩ := isNum_form hn97
       have e97 : y97 = some (pw 65536 * pw (-65536)) := op2_yes' hy97 m_tl
       subst e97
       try clear hy97
       go_wp2_with fail
       refine hK.out _ _ (keep16 hS hbx) ?_
       clear hS hbx
       intro hS
       clear hK KF
       try simp only [AP]
       refine call_at 82 (by kernel_rfl) (by kernel_rfl) ?_
       intro o ho
       replace ho := Option.some.inj (Eq.trans (Eq.symm ho) rfl)
       subst ho
       intro KF hK
       go_simp
       refine (ok_yes _ (pw 65536 * pw (-65536)) _ hn97).mono ?_
       rintro e wx ⟨rfl, hbx⟩
       clear hn97
       go_wp2_with fail
       refine hK.out _ _ (keep16 hS hbx) ?_
       clear hS hbx
       intro hS
       clear hK KF
       try simp only [AP]
       refine takB (i := 83) (d := some 99) (v := .bool false) hS ?_
       simp only [AP]
       as_aux_lemma =>
        refine takB (i := 84) (d := some 100) (v := .bool false) hS ?_
        simp only [AP]
        refine takB (i := 85) (d := some 101) (v := .bool false) hS ?_
        simp only [AP]
        refine takB (i := 86) (d := some 102) (v := .agg #[.slice a3 n3 c3, .int .i64 low3, .bool neg3, .bool nn3]) hS ?_
        simp only [AP]
        refine takB (i := 87) (d := some 103) (v := .agg #[.slice a4 n4 c4, .int .i64 low4, .bool neg4, .bool nn4]) hS ?_
        simp only [AP]
        refine call_at 88 (by kernel_rfl) (by kernel_rfl) ?_
        intro o ho
        replace ho := Option.some.inj (Eq.trans (Eq.symm ho) rfl)
        subst ho
        intro KF hK
        go_simp
        refine (mul_any _ _ (some (pw 65536)) (some (pw (-65536))) _ (HN3.out.later (keep16_bel hS)) (HN4.out.later (keep16_bel hS)) (HT.out.later (thru HBC.out (keep16_bel hS)))).mono ?_
        rintro e wx ⟨v104, y104, rfl, hn104, hy104, hbx⟩
        obtain ⟨a104, n104, c104, low104, neg104, nn104, rfl, hn104⟩ := isNum_form hn104
        have e104 : y104 = some (pw 65536 * pw (-65536)) := op2_yes' hy104 m_tl
        subst e104
        try clear hy104
        go_wp2_with fail
        refine hK.out _ _ (keep16 hS hbx) ?_
        clear hS hbx
        intro hS
        clear hK KF
        try simp only [AP]
        refine call_at 89 (by kernel_rfl) (by kernel_rfl) ?_
        intro o ho
        replace ho := Option.some.inj (Eq.trans (Eq.symm ho) rfl)
        subst ho
        intro KF hK
        go_simp
        refine (float_any _ (some (pw 65536 * pw (-65536))) _ hn104).mono ?_
        rintro e wx ⟨⟨f105, rfl, hf105⟩, hbx⟩
        have e105 : f105 = 4607182418800017408 := f_tl hf105
        subst e105
        clear hf105
        clear hn104
        go_wp2_with fail
        refine hK.out _ _ (keep16 hS hbx) ?_
        clear hS hbx
        intro hS
        clear hK KF
        try simp only [AP]
        refine takB (i := 90) (d := some 106) (v := .bool false) hS ?_
        simp only [AP]
        refine takB (i := 91) (d := some 107) (v := .bool false) hS ?_
        simp only [AP]
        refine takB (i := 92) (d := some 108) (v := .bool false) hS ?_
        simp only [AP]
        refine takB (i := 93) (d := some 109) (v := .agg #[.slice a4 n4 c4, .int .i64 low4, .bool neg4, .bool nn4]) hS ?_
        simp only [AP]
        refine call_at 94 (by kernel_rfl) (by kernel_rfl) ?_
        intro o ho
        replace ho := Option.some.inj (Eq.trans (Eq.symm ho) rfl)
        subst ho
        intro KF hK
        go_simp
        refine (of_fin 4602678819172646912 _ (HT.out.later (thru HBC.out (keep16_bel hS))) (by omega) fin05).mono ?_
        rintro e wx ⟨v110, y110, rfl, hn110, hy110, hbx⟩
        obtain ⟨a110, n110, c110, low110, neg110, nn110, rfl, hn110⟩ := isNum_form hn110
        have e110 : y110 = some (fval 4602678819172646912) := hy110
        subst e110
        try clear hy110
        go_wp2_with fail
        refine hK.out _ _ (keep16 hS hbx) ?_
        clear hS hbx
        intro hS
        clear hK KF
        try simp only [AP]
        refine call_at 95 (by kernel_rfl) (by kernel_rfl) ?_
        intro o ho
        replace ho := Option.some.inj (Eq.trans (Eq.symm ho) rfl)
        subst ho
        intro KF hK
        go_simp
        refine (mul_any _ _ (some (pw (-65536))) (some (fval 4602678819172646912)) _ (HN4.out.later (keep16_bel hS)) hn110 (HT.out.later (thru HBC.out (keep16_bel hS)))).mono ?_
        rintro e wx ⟨v111, y111, rfl, hn111, hy111, hbx⟩
        obtain ⟨a111, n111, c111, low111, neg111, nn111, rfl, hn111⟩ := isNum_form hn111
        have e111 : y111 = none := op2_not hy111 no_low_half
        subst e111
        try clear hy111
        clear hn110
        go_wp2_with fail
        refine hK.out _ _ (keep16 hS hbx) ?_
        clear hS hbx
        intro hS
        clear hK KF
        try simp only [AP]
        as_aux_lemma =>
         refine call_at 96 (by kernel_rfl) (by kernel_rfl) ?_
         intro o ho
         replace ho := Option.some.inj (Eq.trans (Eq.symm ho) rfl)
         subst ho
         intro KF hK
         go_simp
         refine (ok_no _ _ hn111).mono ?_
         rintro e wx ⟨rfl, hbx⟩
         clear hn111
         go_wp2_with fail
         refine hK.out _ _ (keep16 hS hbx) ?_
         clear hS hbx
         intro hS
         clear hK KF
         try simp only [AP]
         refine takB (i := 97) (d := some 113) (v := .bool false) hS ?_
         simp only [AP]
         refine wpAnyH_done (by kernel_rfl) ?_ _
         clear z20 z21 z22 z23 z30 z31 z32 z33 z40 z41 z42 z43 zz0 zz1 zz2 zz3
         have hS := keep16 hS (Below.refl _ _)
         obtain ⟨g0, g1, g2, g3, g4, g5, g6, g7, g8, g9, g10, g11, g12, g13, g14, g15, _⟩ := id hS
         go_wp2_with fail
         refine (infN _).mono ?_
         rintro e wx ⟨rfl, hbx⟩
         clear g0 g1 g2 g3 g4 g5 g6 g7 g8 g9 g10 g11 g12 g13 g14 g15
         have hS := keep16 hS hbx
         clear hbx
         obtain ⟨g0, g1, g2, g3, g4, g5, g6, g7, g8, g9, g10, g11, g12, g13, g14, g15, _⟩ := id hS
         go_wp2_with fail
         refine (of_not 9218868437227405312 _ (by omega) not_fin_inf).mono ?_
         rintro e wx ⟨v115, y115, rfl, hn115, hy115, hbx⟩
         obtain ⟨a115, n115, c115, low115, neg115, nn115, rfl, hn115⟩ := isNum_form hn115
         have e115 : y115 = none := hy115
         subst e115
         try clear hy115
         clear g0 g1 g2 g3 g4 g5 g6 g7 g8 g9 g10 g11 g12 g13 g14 g15
         have hS := keep16 hS hbx
         clear hbx
         obtain ⟨g0, g1, g2, g3, g4, g5, g6, g7, g8, g9, g10, g11, g12, g13, g14, g15, _⟩ := id hS
         go_wp2_with fail
         refine (ok_no _ _ hn115).mono ?_
         rintro e wx ⟨rfl, hbx⟩
         clear hn115
         clear g0 g1 g2 g3 g4 g5 g6 g7 g8 g9 g10 g11 g12 g13 g14 g15
         have hS := keep16 hS hbx
         clear hbx
         obtain ⟨g0, g1, g2, g3, g4, g5, g6, g7, g8, g9, g10, g11, g12, g13, g14, g15, _⟩ := id hS
         go_wp2_with fail
         refine (nanN _).mono ?_
         rintro e wx ⟨rfl, hbx⟩
         clear g0 g1 g2 g3 g4 g5 g6 g7 g8 g9 g10 g11 g12 g13 g14 g15
         have hS := keep16 hS hbx
         clear hbx
         obtain ⟨g0, g1, g2, g3, g4, g5, g6, g7, g8, g9, g10, g11, g12, g13, g14, g15, _⟩ := id hS
         go_wp2_with fail
         refine (of_not 9221120237041090561 _ (by omega) not_fin_nan).mono ?_
         rintro e wx ⟨v119, y119, rfl, hn119, hy119, hbx⟩
         obtain ⟨a119, n119, c119, low119, neg119, nn119, rfl, hn119⟩ := isNum_form hn119
         have e119 : y119 = none := hy119
         subst e119
         try clear hy119
         clear g0 g1 g2 g3 g4 g5 g6 g7 g8 g9 g10 g11 g12 g13 g14 g15
         have hS := keep16 hS hbx
         clear hbx
         obtain ⟨g0, g1, g2, g3, g4, g5, g6, g7, g8, g9, g10, g11, g12, g13, g14, g15, _⟩ := id hS
         go_wp2_with fail
         refine (ok_no _ _ hn119).mono ?_
         rintro e wx ⟨rfl, hbx⟩
         clear hn119
         clear g0 g1 g2 g3 g4 g5 g6 g7 g8 g9 g10 g11 g12 g13 g14 g15
         have hS := keep16 hS hbx
         clear hbx
         obtain ⟨g0, g1, g2, g3, g4, g5, g6, g7, g8, g9, g10, g11, g12, g13, g14, g15, _⟩ := id hS
         go_wp2_with fail
         refine (float_any _ (some (pw 65536)) _ (HN3.out.later (keep16_bel hS))).mono ?_
         rintro e wx ⟨⟨f124, rfl, hf124⟩, hbx⟩
         have e124 : f124 = 9218868437227405312 := f_top hf124
         subst e124
         clear hf124
         clear g0 g1 g2 g3 g4 g5 g6 g7 g8 g9 g10 g11 g12 g13 g14 g15
         have hS := keep16 hS hbx
         clear hbx
         obtain ⟨g0, g1, g2, g3, g4, g5, g6, g7, g8, g9, g10, g11, g12, g13, g14, g15, _⟩ := id hS
         go_wp2_with fail
         refine (isInfN _).mono ?_
         rintro e wx ⟨rfl, hbx⟩
         clear g0 g1 g2 g3 g4 g5 g6 g7 g8 g9 g10 g11 g12 g13 g14 g15
         have hS := keep16 hS hbx
         clear hbx
         obtain ⟨g0, g1, g2, g3, g4, g5, g6, g7, g8, g9, g10, g11, g12, g13, g14, g15, _⟩ := id hS
         go_wp2_with fail
         refine (neg_any _ (some (pw 65536)) _ (HN3.out.later (keep16_bel hS))).mono ?_
         rintro e wx ⟨v130, y130, rfl, hn130, hy130, hbx⟩
         obtain ⟨a130, n130, c130, low130, neg130, nn130, rfl, hn130⟩ := isNum_form hn130
         have e130 : y130 = some (-pw 65536) := hy130
         subst e130
         try clear hy130
         clear g0 g1 g2 g3 g4 g5 g6 g7 g8 g9 g10 g11 g12 g13 g14 g15
         have hS := keep16 hS hbx
         clear hbx
         obtain ⟨g0, g1, g2, g3, g4, g5, g6, g7, g8, g9, g10, g11, g12, g13, g14, g15, _⟩ := id hS
         go_wp2_with fail
         refine (float_any _ (some (-pw 65536)) _ hn130).mono ?_
         rintro e wx ⟨⟨f131, rfl, hf131⟩, hbx⟩
         have e131 : f131 = 18442240474082181120 := f_top_neg hf131
         subst e131
         clear hf131
         clear hn130
         clear g0 g1 g2 g3 g4 g5 g6 g7 g8 g9 g10 g11 g12 g13 g14 g15
         have hS := keep16 hS hbx
         clear hbx
         obtain ⟨g0, g1, g2, g3, g4, g5, g6, g7, g8, g9, g10, g11, g12, g13, g14, g15, _⟩ := id hS
         go_wp2_with fail
         refine (isNinfN _).mono ?_
         rintro e wx ⟨rfl, hbx⟩
         clear g0 g1 g2 g3 g4 g5 g6 g7 g8 g9 g10 g11 g12 g13 g14 g15
         have hS := keep16 hS hbx
         clear hbx
         obtain ⟨g0, g1, g2, g3, g4, g5, g6, g7, g8, g9, g10, g11, g12, g13, g14, g15, _⟩ := id hS
         go_wp2_with fail
         refine (float_any _ (some (pw (-65536))) _ (HN4.out.later (keep16_bel hS))).mono ?_
         rintro e wx ⟨⟨f137, rfl, hf137⟩, hbx⟩
         have e137 : f137 = 0 := f_low hf137
         subst e137
         clear hf137
         clear g0 g1 g2 g3 g4 g5 g6 g7 g8 g9 g10 g11 g12 g13 g14 g15
         have hS := keep16 hS hbx
         clear hbx
         obtain ⟨g0, g1, g2, g3, g4, g5, g6, g7, g8, g9, g10, g11, g12, g13, g14, g15, _⟩ := id hS
         go_wp2_with fail
         refine (ninfN _).mono ?_
         rintro e wx ⟨rfl, hbx⟩
         clear g0 g1 g2 g3 g4 g5 g6 g7 g8 g9 g10 g11 g12 g13 g14 g15
         have hS := keep16 hS hbx
         clear hbx
         obtain ⟨g0, g1, g2, g3, g4, g5, g6, g7, g8, g9, g10, g11, g12, g13, g14, g15, _⟩ := id hS
         go_wp2_with fail
         refine (of_not 18442240474082181120 _ (by omega) not_fin_ninf).mono ?_
         rintro e w141 ⟨v141, y141, rfl, hn141, hy141, hbx⟩
         obtain ⟨a141, n141, c141, low141, neg141, nn141, rfl, hn141⟩ := isNum_form hn141
         have e141 : y141 = none := hy141
         subst e141
         try clear hy141
         clear g0 g1 g2 g3 g4 g5 g6 g7 g8 g9 g10 g11 g12 g13 g14 g15
         have hS := keep16 hS hbx
         clear hbx
         obtain ⟨g0, g1, g2, g3, g4, g5, g6, g7, g8, g9, g10, g11, g12, g13, g14, g15, _⟩ := id hS
         go_wp2_with fail
         have hC : Below w141.heap.size w141 (w141.alloc (.cells #[.slice a141 n141 c141, .int .i64 low141, .bool neg141, .bool nn141] 27)) := (Below.refl _ _).alloc (Nat.le_refl _) _
         have zn0 : (w141.alloc (.cells #[.slice a141 n141 c141, .int .i64 low141, .bool neg141, .bool nn141] 27)).cell? ⟨w141.heap.size, 0, none⟩ = some (.slice a141 n141 c141) := by go_simp
         have zn1 : (w141.alloc (.cells #[.slice a141 n141 c141, .int .i64 low141, .bool neg141, .bool nn141] 27)).cell? ⟨w141.heap.size, 1, none⟩ = some (.int .i64 low141) := by go_simp
         have zn2 : (w141.alloc (.cells #[.slice a141 n141 c141, .int .i64 low141, .bool neg141, .bool nn141] 27)).cell? ⟨w141.heap.size, 2, none⟩ = some (.bool neg141) := by go_simp
         have zn3 : (w141.alloc (.cells #[.slice a141 n141 c141, .int .i64 low141, .bool neg141, .bool nn141] 27)).cell? ⟨w141.heap.size, 3, none⟩ = some (.bool nn141) := by go_simp
         have HNx : Hid (IsNum (w141.alloc (.cells #[.slice a141 n141 c141, .int .i64 low141, .bool neg141, .bool nn141] 27)) (.agg #[.slice a141 n141 c141, .int .i64 low141, .bool neg141, .bool nn141]) none) := hn141.later hC
         clear hn141
         generalize (w141.alloc (.cells #[.slice a141 n141 c141, .int .i64 low141, .bool neg141, .bool nn141] 27)) = wr at *
         have zb20 : wr.cell? ⟨w2.heap.size, 0, none⟩ = some (.slice a2 n2 c2) := cell_later hC g0
         have zb21 : wr.cell? ⟨w2.heap.size, 1, none⟩ = some (.int .i64 low2) := cell_later hC g1
         have zb22 : wr.cell? ⟨w2.heap.size, 2, none⟩ = some (.bool neg2) := cell_later hC g2
         have zb23 : wr.cell? ⟨w2.heap.size, 3, none⟩ = some (.bool nn2) := cell_later hC g3
         have zb40 : wr.cell? ⟨w4.heap.size, 0, none⟩ = some (.slice a4 n4 c4) := cell_later hC g8
         have zb41 : wr.cell? ⟨w4.heap.size, 1, none⟩ = some (.int .i64 low4) := cell_later hC g9
         have zb42 : wr.cell? ⟨w4.heap.size, 2, none⟩ = some (.bool neg4) := cell_later hC g10
         have zb43 : wr.cell? ⟨w4.heap.size, 3, none⟩ = some (.bool nn4) := cell_later hC g11
         have zbz0 : wr.cell? ⟨(w4.heap.size + 1), 0, none⟩ = some (.slice none 0 0) := cell_later hC g12
         have zbz1 : wr.cell? ⟨(w4.heap.size + 1), 1, none⟩ = some (.int .i64 0) := cell_later hC g13
         have zbz2 : wr.cell? ⟨(w4.heap.size + 1), 2, none⟩ = some (.bool false) := cell_later hC g14
         have zbz3 : wr.cell? ⟨(w4.heap.size + 1), 3, none⟩ = some (.bool false) := cell_later hC g15
         have HBD : Hid (Below w.heap.size w wr) := thru (thru HBC.out (keep16_bel hS)) hC
         have HN2 : Hid (IsNum wr (.agg #[.slice a2 n2 c2, .int .i64 low2, .bool neg2, .bool nn2]) (some ((1 : Int) : Rat))) := (HN2.out.later (keep16_bel hS)).later hC
         have HN4 : Hid (IsNum wr (.agg #[.slice a4 n4 c4, .int .i64 low4, .bool neg4, .bool nn4]) (some (pw (-65536)))) := (HN4.out.later (keep16_bel hS)).later hC
         have HNz : Hid (IsNum wr (.agg #[.slice none 0 0, .int .i64 0, .bool false, .bool false]) (some (0 : Rat))) := (HNz.out.later (keep16_bel hS)).later hC
         have HN141 := HNx
         clear HNx hS hC HBC g0 g1 g2 g3 g4 g5 g6 g7 g8 g9 g10 g11 g12 g13 g14 g15
         have HBC := HBD
         clear HBD
         refine wp_region_held_drew (S := (fun W => W.cell? ⟨w2.heap.size, 0, none⟩ = some (.slice a2 n2 c2) ∧ W.cell? ⟨w2.heap.size, 1, none⟩ = some (.int .i64 low2) ∧ W.cell? ⟨w2.heap.size, 2, none⟩ = some (.bool neg2) ∧ W.cell? ⟨w2.heap.size, 3, none⟩ = some (.bool nn2) ∧ W.cell? ⟨w4.heap.size, 0, none⟩ = some (.slice a4 n4 c4) ∧ W.cell? ⟨w4.heap.size, 1, none⟩ = some (.int .i64 low4) ∧ W.cell? ⟨w4.heap.size, 2, none⟩ = some (.bool neg4) ∧ W.cell? ⟨w4.heap.size, 3, none⟩ = some (.bool nn4) ∧ W.cell? ⟨(w4.heap.size + 1), 0, none⟩ = some (.slice none 0 0) ∧ W.cell? ⟨(w4.heap.size + 1), 1, none⟩ = some (.int .i64 0) ∧ W.cell? ⟨(w4.heap.size + 1), 2, none⟩ = some (.bool false) ∧ W.cell? ⟨(w4.heap.size + 1), 3, none⟩ = some (.bool false) ∧ W.cell? ⟨w141.heap.size, 0, none⟩ = some (.slice a141 n141 c141) ∧ W.cell? ⟨w141.heap.size, 1, none⟩ = some (.int .i64 low141) ∧ W.cell? ⟨w141.heap.size, 2, none⟩ = some (.bool neg141) ∧ W.cell? ⟨w141.heap.size, 3, none⟩ = some (.bool nn141) ∧ Below wr.heap.size wr W)) (by kernel_rfl) ⟨zb20, zb21, zb22, zb23, zb40, zb41, zb42, zb43, zbz0, zbz1, zbz2, zbz3, zn0, zn1, zn2, zn3, (Below.refl _ _).drew⟩ (fun hS => ?_)
         refine takB (i := 0) (d := some 142) (v := .agg #[.slice a141 n141 c141, .int .i64 low141, .bool neg141, .bool nn141]) hS ?_
         simp only [AP]
         refine takB (i := 1) (d := some 143) (v := .agg #[.slice a2 n2 c2, .int .i64 low2, .bool neg2, .bool nn2]) hS ?_
         simp only [AP]
         refine call_at 2 (by kernel_rfl) (by kernel_rfl) ?_
         intro o ho
         replace ho := Option.some.inj (Eq.trans (Eq.symm ho) rfl)
         subst ho
         intro KF hK
         go_simp
         refine (add_any _ _ none (some ((1 : Int) : Rat)) _ (HN141.out.later (keep16_bel hS)) (HN2.out.later (keep16_bel hS)) (HT.out.later (thru HBC.out (keep16_bel hS)))).mono ?_
         rintro e wx ⟨v144, y144, rfl, hn144, hy144, hbx⟩
         obtain ⟨a144, n144, c144, low144, neg144, nn144, rfl, hn144⟩ := isNum_form hn144
         have e144 : y144 = none := op2_nil hy144 (Or.inl rfl)
         subst e144
         try clear hy144
         go_wp2_with fail
         refine hK.out _ _ (keep16 hS hbx) ?_
         clear hS hbx
         intro hS
         clear hK KF
         try simp only [AP]
         refine call_at 3 (by kernel_rfl) (by kernel_rfl) ?_
         intro o ho
         replace ho := Option.some.inj (Eq.trans (Eq.symm ho) rfl)
         subst ho
         intro KF hK
         go_simp
         refine (ok_no _ _ hn144).mono ?_
         rintro e wx ⟨rfl, hbx⟩
         clear hn144
         go_wp2_with fail
         refine hK.out _ _ (keep16 hS hbx) ?_
         clear hS hbx
         intro hS
         clear hK KF
         try simp only [AP]
         refine takB (i := 4) (d := some 146) (v := .bool false) hS ?_
         simp only [AP]
         refine takB (i := 5) (d := some 147) (v := .agg #[.slice a2 n2 c2, .int .i64 low2, .bool neg2, .bool nn2]) hS ?_
         simp only [AP]
         refine takB (i := 6) (d := some 148) (v := .agg #[.slice a141 n141 c141, .int .i64 low141, .bool neg141, .bool nn141]) hS ?_
         simp only [AP]
         refine call_at 7 (by kernel_rfl) (by kernel_rfl) ?_
         intro o ho
         replace ho := Option.some.inj (Eq.trans (Eq.symm ho) rfl)
         subst ho
         intro KF hK
         go_simp
         refine (add_any _ _ (some ((1 : Int) : Rat)) none _ (HN2.out.later (keep16_bel hS)) (HN141.out.later (keep16_bel hS)) (HT.out.later (thru HBC.out (keep16_bel hS)))).mono ?_
         rintro e wx ⟨v149, y149, rfl, hn149, hy149, hbx⟩
         obtain ⟨a149, n149, c149, low149, neg149, nn149, rfl, hn149⟩ := isNum_form hn149
         have e149 : y149 = none := op2_nil hy149 (Or.inr rfl)
         subst e149
         try clear hy149
         go_wp2_with fail
         refine hK.out _ _ (keep16 hS hbx) ?_
         clear hS hbx
         intro hS
         clear hK KF
         try simp only [AP]
         refine call_at 8 (by kernel_rfl) (by kernel_rfl) ?_
         intro o ho
         replace ho := Option.some.inj (Eq.trans (Eq.symm ho) rfl)
         subst ho
         intro KF hK
         go_simp
         refine (ok_no _ _ hn149).mono ?_
         rintro e wx ⟨rfl, hbx⟩
         clear hn149
         go_wp2_with fail
         refine hK.out _ _ (keep16 hS hbx) ?_
         clear hS hbx
         intro hS
         clear hK KF
         try simp only [AP]
         refine takB (i := 9) (d := some 151) (v := .bool false) hS ?_
         simp only [AP]
         refine takB (i := 10) (d := some 152) (v := .bool false) hS ?_
         simp only [AP]
         refine takB (i := 11) (d := some 153) (v := .agg #[.slice a141 n141 c141, .int .i64 low141, .bool neg141, .bool nn141]) hS ?_
         simp only [AP]
         as_aux_lemma =>
          refine takB (i := 12) (d := some 154) (v := .agg #[.slice none 0 0, .int .i64 0, .bool false, .bool false]) hS ?_
          simp only [AP]
          refine call_at 13 (by kernel_rfl) (by kernel_rfl) ?_
          intro o ho
          replace ho := Option.some.inj (Eq.trans (Eq.symm ho) rfl)
          subst ho
          intro KF hK
          go_simp
          refine (add_any _ _ none (some (0 : Rat)) _ (HN141.out.later (keep16_bel hS)) (HNz.out.later (keep16_bel hS)) (HT.out.later (thru HBC.out (keep16_bel hS)))).mono ?_
          rintro e wx ⟨v155, y155, rfl, hn155, hy155, hbx⟩
          obtain ⟨a155, n155, c155, low155, neg155, nn155, rfl, hn155⟩ := isNum_form hn155
          have e155 : y155 = none := op2_nil hy155 (Or.inl rfl)
          subst e155
          try clear hy155
          go_wp2_with fail
          refine hK.out _ _ (keep16 hS hbx) ?_
          clear hS hbx
          intro hS
          clear hK KF
          try simp only [AP]
          refine call_at 14 (by kernel_rfl) (by kernel_rfl) ?_
          intro o ho
          replace ho := Option.some.inj (Eq.trans (Eq.symm ho) rfl)
          subst ho
          intro KF hK
          go_simp
          refine (ok_no _ _ hn155).mono ?_
          rintro e wx ⟨rfl, hbx⟩
          clear hn155
          go_wp2_with fail
          refine hK.out _ _ (keep16 hS hbx) ?_
          clear hS hbx
          intro hS
          clear hK KF
          try simp only [AP]
          refine takB (i := 15) (d := some 157) (v := .bool false) hS ?_
          simp only [AP]
          refine takB (i := 16) (d := some 158) (v := .bool false) hS ?_
          simp only [AP]
          refine takB (i := 17) (d := some 159) (v := .agg #[.slice none 0 0, .int .i64 0, .bool false, .bool false]) hS ?_
          simp only [AP]
          refine takB (i := 18) (d := some 160) (v := .agg #[.slice a141 n141 c141, .int .i64 low141, .bool neg141, .bool nn141]) hS ?_
          simp only [AP]
          refine call_at 19 (by kernel_rfl) (by kernel_rfl) ?_
          intro o ho
          replace ho := Option.some.inj (Eq.trans (Eq.symm ho) rfl)
          subst ho
          intro KF hK
          go_simp
          refine (add_any _ _ (some (0 : Rat)) none _ (HNz.out.later (keep16_bel hS)) (HN141.out.later (keep16_bel hS)) (HT.out.later (thru HBC.out (keep16_bel hS)))).mono ?_
          rintro e wx ⟨v161, y161, rfl, hn161, hy161, hbx⟩
          obtain ⟨a161, n161, c161, low161, neg161, nn161, rfl, hn161⟩ := isNum_form hn161
          have e161 : y161 = none := op2_nil hy161 (Or.inr rfl)
          subst e161
          try clear hy161
          go_wp2_with fail
          refine hK.out _ _ (keep16 hS hbx) ?_
          clear hS hbx
          intro hS
          clear hK KF
          try simp only [AP]
          refine call_at 20 (by kernel_rfl) (by kernel_rfl) ?_
          intro o ho
          replace ho := Option.some.inj (Eq.trans (Eq.symm ho) rfl)
          subst ho
          intro KF hK
          go_simp
          refine (ok_no _ _ hn161).mono ?_
          rintro e wx ⟨rfl, hbx⟩
          clear hn161
          go_wp2_with fail
          refine hK.out _ _ (keep16 hS hbx) ?_
          clear hS hbx
          intro hS
          clear hK KF
          try simp only [AP]
          refine takB (i := 21) (d := some 163) (v := .bool false) hS ?_
          simp only [AP]
          refine takB (i := 22) (d := some 164) (v := .bool false) hS ?_
          simp only [AP]
          refine takB (i := 23) (d := some 165) (v := .agg #[.slice a141 n141 c141, .int .i64 low141, .bool neg141, .bool nn141]) hS ?_
          simp only [AP]
          as_aux_lemma =>
           refine takB (i := 24) (d := some 166) (v := .agg #[.slice a141 n141 c141, .int .i64 low141, .bool neg141, .bool nn141]) hS ?_
           simp only [AP]
           refine call_at 25 (by kernel_rfl) (by kernel_rfl) ?_
           intro o ho
           replace ho := Option.some.inj (Eq.trans (Eq.symm ho) rfl)
           subst ho
           intro KF hK
           go_simp
           refine (sub_any _ _ none none _ (HN141.out.later (keep16_bel hS)) (HN141.out.later (keep16_bel hS)) (HT.out.later (thru HBC.out (keep16_bel hS)))).mono ?_
           rintro e wx ⟨v167, y167, rfl, hn167, hy167, hbx⟩
           obtain ⟨a167, n167, c167, low167, neg167, nn167, rfl, hn167⟩ := isNum_form hn167
           have e167 : y167 = none := op2_nil hy167 (Or.inl rfl)
           subst e167
           try clear hy167
           go_wp2_with fail
           refine hK.out _ _ (keep16 hS hbx) ?_
           clear hS hbx
           intro hS
           clear hK KF
           try simp only [AP]
           refine call_at 26 (by kernel_rfl) (by kernel_rfl) ?_
           intro o ho
           replace ho := Option.some.inj (Eq.trans (Eq.symm ho) rfl)
           subst ho
           intro KF hK
           go_simp
           refine (ok_no _ _ hn167).mono ?_
           rintro e wx ⟨rfl, hbx⟩
           clear hn167
           go_wp2_with fail
           refine hK.out _ _ (keep16 hS hbx) ?_
           clear hS hbx
           intro hS
           clear hK KF
           try simp only [AP]
           refine takB (i := 27) (d := some 169) (v := .bool false) hS ?_
           simp only [AP]
           refine takB (i := 28) (d := some 170) (v := .bool false) hS ?_
           simp only [AP]
           refine takB (i := 29) (d := some 171) (v := .agg #[.slice a2 n2 c2, .int .i64 low2, .bool neg2, .bool nn2]) hS ?_
           simp only [AP]
           refine takB (i := 30) (d := some 172) (v := .agg #[.slice a141 n141 c141, .int .i64 low141, .bool neg141, .bool nn141]) hS ?_
           simp only [AP]
           refine call_at 31 (by kernel_rfl) (by kernel_rfl) ?_
           intro o ho
           replace ho := Option.some.inj (Eq.trans (Eq.symm ho) rfl)
           subst ho
           intro KF hK
           go_simp
           refine (sub_any _ _ (some ((1 : Int) : Rat)) none _ (HN2.out.later (keep16_bel hS)) (HN141.out.later (keep16_bel hS)) (HT.out.later (thru HBC.out (keep16_bel hS)))).mono ?_
           rintro e wx ⟨v173, y173, rfl, hn173, hy173, hbx⟩
           obtain ⟨a173, n173, c173, low173, neg173, nn173, rfl, hn173⟩ := isNum_form hn173
           have e173 : y173 = none := op2_nil hy173 (Or.inr rfl)
           subst e173
           try clear hy173
           go_wp2_with fail
           refine hK.out _ _ (keep16 hS hbx) ?_
           clear hS hbx
           intro hS
           clear hK KF
           try simp only [AP]
           refine call_at 32 (by kernel_rfl) (by kernel_rfl) ?_
           intro o ho
           replace ho := Option.some.inj (Eq.trans (Eq.symm ho) rfl)
           subst ho
           intro KF hK
           go_simp
           refine (ok_no _ _ hn173).mono ?_
           rintro e wx ⟨rfl, hbx⟩
           clear hn173
           go_wp2_with fail
           refine hK.out _ _ (keep16 hS hbx) ?_
           clear hS hbx
           intro hS
           clear hK KF
           try simp only [AP]
           refine takB (i := 33) (d := some 175) (v := .bool false) hS ?_
           simp only [AP]
           refine takB (i := 34) (d := some 176) (v := .bool false) hS ?_
           simp only [AP]
           refine takB (i := 35) (d := some 177) (v := .agg #[.slice a141 n141 c141, .int .i64 low141, .bool neg141, .bool nn141]) hS ?_
           simp only [AP]
           as_aux_lemma =>
            refine takB (i := 36) (d := some 178) (v := .agg #[.slice none 0 0, .int .i64 0, .bool false, .bool false]) hS ?_
            simp only [AP]
            refine call_at 37 (by kernel_rfl) (by kernel_rfl) ?_
            intro o ho
            replace ho := Option.some.inj (Eq.trans (Eq.symm ho) rfl)
            subst ho
            intro KF hK
            go_simp
            refine (mul_any _ _ none (some (0 : Rat)) _ (HN141.out.later (keep16_bel hS)) (HNz.out.later (keep16_bel hS)) (HT.out.later (thru HBC.out (keep16_bel hS)))).mono ?_
            rintro e wx ⟨v179, y179, rfl, hn179, hy179, hbx⟩
            obtain ⟨a179, n179, c179, low179, neg179, nn179, rfl, hn179⟩ := isNum_form hn179
            have e179 : y179 = none := op2_nil hy179 (Or.inl rfl)
            subst e179
            try clear hy179
            go_wp2_with fail
            refine hK.out _ _ (keep16 hS hbx) ?_
            clear hS hbx
            intro hS
            clear hK KF
            try simp only [AP]
            refine call_at 38 (by kernel_rfl) (by kernel_rfl) ?_
            intro o ho
            replace ho := Option.some.inj (Eq.trans (Eq.symm ho) rfl)
            subst ho
            intro KF hK
            go_simp
            refine (ok_no _ _ hn179).mono ?_
            rintro e wx ⟨rfl, hbx⟩
            clear hn179
            go_wp2_with fail
            refine hK.out _ _ (keep16 hS hbx) ?_
            clear hS hbx
            intro hS
            clear hK KF
            try simp only [AP]
            refine takB (i := 39) (d := some 181) (v := .bool false) hS ?_
            simp only [AP]
            refine takB (i := 40) (d := some 182) (v := .bool false) hS ?_
            simp only [AP]
            refine takB (i := 41) (d := some 183) (v := .agg #[.slice a2 n2 c2, .int .i64 low2, .bool neg2, .bool nn2]) hS ?_
            simp only [AP]
            refine takB (i := 42) (d := some 184) (v := .agg #[.slice a141 n141 c141, .int .i64 low141, .bool neg141, .bool nn141]) hS ?_
            simp only [AP]
            refine call_at 43 (by kernel_rfl) (by kernel_rfl) ?_
            intro o ho
            replace ho := Option.some.inj (Eq.trans (Eq.symm ho) rfl)
            subst ho
            intro KF hK
            go_simp
            refine (mul_any _ _ (some ((1 : Int) : Rat)) none _ (HN2.out.later (keep16_bel hS)) (HN141.out.later (keep16_bel hS)) (HT.out.later (thru HBC.out (keep16_bel hS)))).mono ?_
            rintro e wx ⟨v185, y185, rfl, hn185, hy185, hbx⟩
            obtain ⟨a185, n185, c185, low185, neg185, nn185, rfl, hn185⟩ := isNum_form hn185
            have e185 : y185 = none := op2_nil hy185 (Or.inr rfl)
            subst e185
            try clear hy185
            go_wp2_with fail
            refine hK.out _ _ (keep16 hS hbx) ?_
            clear hS hbx
            intro hS
            clear hK KF
            try simp only [AP]
            refine call_at 44 (by kernel_rfl) (by kernel_rfl) ?_
            intro o ho
            replace ho := Option.some.inj (Eq.trans (Eq.symm ho) rfl)
            subst ho
            intro KF hK
            go_simp
            refine (ok_no _ _ hn185).mono ?_
            rintro e wx ⟨rfl, hbx⟩
            clear hn185
            go_wp2_with fail
            refine hK.out _ _ (keep16 hS hbx) ?_
            clear hS hbx
            intro hS
            clear hK KF
            try simp only [AP]
            refine takB (i := 45) (d := some 187) (v := .bool false) hS ?_
            simp only [AP]
            refine takB (i := 46) (d := some 188) (v := .bool false) hS ?_
            simp only [AP]
            refine takB (i := 47) (d := some 189) (v := .agg #[.slice a141 n141 c141, .int .i64 low141, .bool neg141, .bool nn141]) hS ?_
            simp only [AP]
            as_aux_lemma =>
             refine call_at 48 (by kernel_rfl) (by kernel_rfl) ?_
             intro o ho
             replace ho := Option.some.inj (Eq.trans (Eq.symm ho) rfl)
             subst ho
             intro KF hK
             go_simp
             refine (neg_any _ none _ (HN141.out.later (keep16_bel hS))).mono ?_
             rintro e wx ⟨v190, y190, rfl, hn190, hy190, hbx⟩
             obtain ⟨a190, n190, c190, low190, neg190, nn190, rfl, hn190⟩ := isNum_form hn190
             have e190 : y190 = none := hy190
             subst e190
             try clear hy190
             go_wp2_with fail
             refine hK.out _ _ (keep16 hS hbx) ?_
             clear hS hbx
             intro hS
             clear hK KF
             try simp only [AP]
             refine call_at 49 (by kernel_rfl) (by kernel_rfl) ?_
             intro o ho
             replace ho := Option.some.inj (Eq.trans (Eq.symm ho) rfl)
             subst ho
             intro KF hK
             go_simp
             refine (ok_no _ _ hn190).mono ?_
             rintro e wx ⟨rfl, hbx⟩
             clear hn190
             go_wp2_with fail
             refine hK.out _ _ (keep16 hS hbx) ?_
             clear hS hbx
             intro hS
             clear hK KF
             try simp only [AP]
             refine takB (i := 50) (d := some 192) (v := .bool false) hS ?_
             simp only [AP]
             refine takB (i := 51) (d := some 193) (v := .bool false) hS ?_
             simp only [AP]
             refine takB (i := 52) (d := some 194) (v := .agg #[.slice a141 n141 c141, .int .i64 low141, .bool neg141, .bool nn141]) hS ?_
             simp only [AP]
             refine call_at 53 (by kernel_rfl) (by kernel_rfl) ?_
             intro o ho
             replace ho := Option.some.inj (Eq.trans (Eq.symm ho) rfl)
             subst ho
             intro KF hK
             go_simp
             refine (shift_any _ none _ _ (HN141.out.later (keep16_bel hS))).mono ?_
             rintro e wx ⟨v195, y195, rfl, hn195, hy195, hbx⟩
             obtain ⟨a195, n195, c195, low195, neg195, nn195, rfl, hn195⟩ := isNum_form hn195
             have e195 : y195 = none := shiftX_nil hy195
             subst e195
             try clear hy195
             go_wp2_with fail
             refine hK.out _ _ (keep16 hS hbx) ?_
             clear hS hbx
             intro hS
             clear hK KF
             try simp only [AP]
             refine call_at 54 (by kernel_rfl) (by kernel_rfl) ?_
             intro o ho
             replace ho := Option.some.inj (Eq.trans (Eq.symm ho) rfl)
             subst ho
             intro KF hK
             go_simp
             refine (ok_no _ _ hn195).mono ?_
             rintro e wx ⟨rfl, hbx⟩
             clear hn195
             go_wp2_with fail
             refine hK.out _ _ (keep16 hS hbx) ?_
             clear hS hbx
             intro hS
             clear hK KF
             try simp only [AP]
             refine takB (i := 55) (d := some 197) (v := .bool false) hS ?_
             simp only [AP]
             refine takB (i := 56) (d := some 198) (v := .bool false) hS ?_
             simp only [AP]
             refine takB (i := 57) (d := some 199) (v := .agg #[.slice a141 n141 c141, .int .i64 low141, .bool neg141, .bool nn141]) hS ?_
             simp only [AP]
             refine takB (i := 58) (d := some 200) (v := .agg #[.slice a2 n2 c2, .int .i64 low2, .bool neg2, .bool nn2]) hS ?_
             simp only [AP]
             refine call_at 59 (by kernel_rfl) (by kernel_rfl) ?_
             intro o ho
             replace ho := Option.some.inj (Eq.trans (Eq.symm ho) rfl)
             subst ho
             intro KF hK
             go_simp
             refine (cmp_nilN _ _ none (some ((1 : Int) : Rat)) _ (HN141.out.later (keep16_bel hS)) (HN2.out.later (keep16_bel hS)) rfl).mono ?_
             rintro e wx ⟨rfl, hbx⟩
             go_wp2_with fail
             refine hK.out _ _ (keep16 hS hbx) ?_
             clear hS hbx
             intro hS
             clear hK KF
             try simp only [AP]
             as_aux_lemma =>
              refine takB (i := 60) (d := some 202) (v := .bool false) hS ?_
              simp only [AP]
              refine takB (i := 61) (d := some 203) (v := .bool false) hS ?_
              simp only [AP]
              refine takB (i := 62) (d := some 204) (v := .bool false) hS ?_
              simp only [AP]
              refine takB (i := 63) (d := some 205) (v := .agg #[.slice a2 n2 c2, .int .i64 low2, .bool neg2, .bool nn2]) hS ?_
              simp only [AP]
              refine takB (i := 64) (d := some 206) (v := .agg #[.slice a141 n141 c141, .int .i64 low141, .bool neg141, .bool nn141]) hS ?_
              simp only [AP]
              refine call_at 65 (by kernel_rfl) (by kernel_rfl) ?_
              intro o ho
              replace ho := Option.some.inj (Eq.trans (Eq.symm ho) rfl)
              subst ho
              intro KF hK
              go_simp
              refine (cmp_nilN _ _ (some ((1 : Int) : Rat)) none _ (HN2.out.later (keep16_bel hS)) (HN141.out.later (keep16_bel hS)) rfl).mono ?_
              rintro e wx ⟨rfl, hbx⟩
              go_wp2_with fail
              refine hK.out _ _ (keep16 hS hbx) ?_
              clear hS hbx
              intro hS
              clear hK KF
              try simp only [AP]
              refine takB (i := 66) (d := some 208) (v := .bool false) hS ?_
              simp only [AP]
              refine takB (i := 67) (d := some 209) (v := .bool false) hS ?_
              simp only [AP]
              refine takB (i := 68) (d := some 210) (v := .bool false) hS ?_
              simp only [AP]
              refine takB (i := 69) (d := some 211) (v := .agg #[.slice a141 n141 c141, .int .i64 low141, .bool neg141, .bool nn141]) hS ?_
              simp only [AP]
              refine call_at 70 (by kernel_rfl) (by kernel_rfl) ?_
              intro o ho
              replace ho := Option.some.inj (Eq.trans (Eq.symm ho) rfl)
              subst ho
              intro KF hK
              go_simp
              refine (sign_nilN _ none _ (HN141.out.later (keep16_bel hS)) rfl).mono ?_
              rintro e wx ⟨rfl, hbx⟩
              go_wp2_with fail
              refine hK.out _ _ (keep16 hS hbx) ?_
              clear hS hbx
              intro hS
              clear hK KF
              try simp only [AP]
              refine takB (i := 71) (d := some 213) (v := .bool false) hS ?_
              simp only [AP]
              as_aux_lemma =>
               refine takB (i := 72) (d := some 214) (v := .bool false) hS ?_
               simp only [AP]
               refine takB (i := 73) (d := some 215) (v := .bool false) hS ?_
               simp only [AP]
               refine takB (i := 74) (d := some 216) (v := .agg #[.slice a141 n141 c141, .int .i64 low141, .bool neg141, .bool nn141]) hS ?_
               simp only [AP]
               refine takB (i := 76) (d := some 218) (v := .agg #[.slice a141 n141 c141, .int .i64 low141, .bool neg141, .bool nn141]) hS ?_
               simp only [AP]
               refine call_at 75 (by kernel_rfl) (by kernel_rfl) ?_
               intro o ho
               replace ho := Option.some.inj (Eq.trans (Eq.symm ho) rfl)
               subst ho
               intro KF hK
               go_simp
               refine (high_any _ none _ (HN141.out.later (keep16_bel hS))).mono ?_
               rintro e wx ⟨⟨f217, rfl, hf217⟩, hbx⟩
               have e217 : f217 = 0 := high_zero hf217
               subst e217
               clear hf217
               go_wp2_with fail
               refine hK.out _ _ (keep16 hS hbx) ?_
               clear hS hbx
               intro hS
               clear hK KF
               try simp only [AP]
               refine call_at 77 (by kernel_rfl) (by kernel_rfl) ?_
               intro o ho
               replace ho := Option.some.inj (Eq.trans (Eq.symm ho) rfl)
               subst ho
               intro KF hK
               go_simp
               refine (low_any _ none _ (HN141.out.later (keep16_bel hS))).mono ?_
               rintro e wx ⟨⟨f219, rfl, hf219⟩, hbx⟩
               have e219 : f219 = 0 := low_zero hf219
               subst e219
               clear hf219
               go_wp2_with fail
               refine hK.out _ _ (keep16 hS hbx) ?_
               clear hS hbx
               intro hS
               clear hK KF
               try simp only [AP]
               refine takB (i := 78) (d := some 220) (v := .int .i64 0) hS ?_
               simp only [AP]
               refine takB (i := 79) (d := some 221) (v := .bool false) hS ?_
               simp only [AP]
               refine takB (i := 80) (d := some 222) (v := .bool false) hS ?_
               simp only [AP]
               refine takB (i := 81) (d := some 223) (v := .bool false) hS ?_
               simp only [AP]
               refine takB (i := 82) (d := some 224) (v := .agg #[.slice a141 n141 c141, .int .i64 low141, .bool neg141, .bool nn141]) hS ?_
               simp only [AP]
               refine call_at 83 (by kernel_rfl) (by kernel_rfl) ?_
               intro o ho
               replace ho := Option.some.inj (Eq.trans (Eq.symm ho) rfl)
               subst ho
               intro KF hK
               go_simp
               refine (float_any _ none _ (HN141.out.later (keep16_bel hS))).mono ?_
               rintro e wx ⟨⟨f225, rfl, hf225⟩, hbx⟩
               have e225 : f225 = 0 := f_nil hf225
               subst e225
               clear hf225
               go_wp2_with fail
               refine hK.out _ _ (keep16 hS hbx) ?_
               clear hS hbx
               intro hS
               clear hK KF
               try simp only [AP]
               as_aux_lemma =>
                refine takB (i := 84) (d := some 226) (v := .bool false) hS ?_
                simp only [AP]
                refine takB (i := 85) (d := some 227) (v := .bool false) hS ?_
                simp only [AP]
                refine wpAnyH_done (by kernel_rfl) ?_ _
                clear zb20 zb21 zb22 zb23 zb40 zb41 zb42 zb43 zbz0 zbz1 zbz2 zbz3 zn0 zn1 zn2 zn3
                have hS := keep16 hS (Below.refl _ _)
                obtain ⟨g0, g1, g2, g3, g4, g5, g6, g7, g8, g9, g10, g11, g12, g13, g14, g15, _⟩ := id hS
                go_wp2_with fail
                refine (int_any 9007199254740992 _ (HT.out.later (thru HBC.out (keep16_bel hS))) (by omega) (by omega)).mono ?_
                rintro e w228 ⟨v228, y228, rfl, hn228, hy228, hbx⟩
                obtain ⟨a228, n228, c228, low228, neg228, nn228, rfl, hn228⟩ := isNum_form hn228
                have e228 : y228 = some ((9007199254740992 : Int) : Rat) := hy228
                subst e228
                try clear hy228
                clear g0 g1 g2 g3 g4 g5 g6 g7 g8 g9 g10 g11 g12 g13 g14 g15
                have hS := keep16 hS hbx
                clear hbx
                obtain ⟨g0, g1, g2, g3, g4, g5, g6, g7, g8, g9, g10, g11, g12, g13, g14, g15, _⟩ := id hS
                go_wp2_with fail
                have hC : Below w228.heap.size w228 (w228.alloc (.cells #[.slice a228 n228 c228, .int .i64 low228, .bool neg228, .bool nn228] 27)) := (Below.refl _ _).alloc (Nat.le_refl _) _
                have zn0 : (w228.alloc (.cells #[.slice a228 n228 c228, .int .i64 low228, .bool neg228, .bool nn228] 27)).cell? ⟨w228.heap.size, 0, none⟩ = some (.slice a228 n228 c228) := by go_simp
                have zn1 : (w228.alloc (.cells #[.slice a228 n228 c228, .int .i64 low228, .bool neg228, .bool nn228] 27)).cell? ⟨w228.heap.size, 1, none⟩ = some (.int .i64 low228) := by go_simp
                have zn2 : (w228.alloc (.cells #[.slice a228 n228 c228, .int .i64 low228, .bool neg228, .bool nn228] 27)).cell? ⟨w228.heap.size, 2, none⟩ = some (.bool neg228) := by go_simp
                have zn3 : (w228.alloc (.cells #[.slice a228 n228 c228, .int .i64 low228, .bool neg228, .bool nn228] 27)).cell? ⟨w228.heap.size, 3, none⟩ = some (.bool nn228) := by go_simp
                have HNx : Hid (IsNum (w228.alloc (.cells #[.slice a228 n228 c228, .int .i64 low228, .bool neg228, .bool nn228] 27)) (.agg #[.slice a228 n228 c228, .int .i64 low228, .bool neg228, .bool nn228]) (some ((9007199254740992 : Int) : Rat))) := hn228.later hC
                clear hn228
                generalize (w228.alloc (.cells #[.slice a228 n228 c228, .int .i64 low228, .bool neg228, .bool nn228] 27)) = ws at *
                have zb20 : ws.cell? ⟨w2.heap.size, 0, none⟩ = some (.slice a2 n2 c2) := cell_later hC g0
                have zb21 : ws.cell? ⟨w2.heap.size, 1, none⟩ = some (.int .i64 low2) := cell_later hC g1
                have zb22 : ws.cell? ⟨w2.heap.size, 2, none⟩ = some (.bool neg2) := cell_later hC g2
                have zb23 : ws.cell? ⟨w2.heap.size, 3, none⟩ = some (.bool nn2) := cell_later hC g3
                have zb40 : ws.cell? ⟨w4.heap.size, 0, none⟩ = some (.slice a4 n4 c4) := cell_later hC g4
                have zb41 : ws.cell? ⟨w4.heap.size, 1, none⟩ = some (.int .i64 low4) := cell_later hC g5
                have zb42 : ws.cell? ⟨w4.heap.size, 2, none⟩ = some (.bool neg4) := cell_later hC g6
                have zb43 : ws.cell? ⟨w4.heap.size, 3, none⟩ = some (.bool nn4) := cell_later hC g7
                have zbz0 : ws.cell? ⟨(w4.heap.size + 1), 0, none⟩ = some (.slice none 0 0) := cell_later hC g8
                have zbz1 : ws.cell? ⟨(w4.heap.size + 1), 1, none⟩ = some (.int .i64 0) := cell_later hC g9
                have zbz2 : ws.cell? ⟨(w4.heap.size + 1), 2, none⟩ = some (.bool false) := cell_later hC g10
                have zbz3 : ws.cell? ⟨(w4.heap.size + 1), 3, none⟩ = some (.bool false) := cell_later hC g11
                have HBD : Hid (Below w.heap.size w ws) := thru (thru HBC.out (keep16_bel hS)) hC
                have HN2 : Hid (IsNum ws (.agg #[.slice a2 n2 c2, .int .i64 low2, .bool neg2, .bool nn2]) (some ((1 : Int) : Rat))) := (HN2.out.later (keep16_bel hS)).later hC
                have HN4 : Hid (IsNum ws (.agg #[.slice a4 n4 c4, .int .i64 low4, .bool neg4, .bool nn4]) (some (pw (-65536)))) := (HN4.out.later (keep16_bel hS)).later hC
                have HNz : Hid (IsNum ws (.agg #[.slice none 0 0, .int .i64 0, .bool false, .bool false]) (some (0 : Rat))) := (HNz.out.later (keep16_bel hS)).later hC
                have HN228 := HNx
                clear HNx hS hC HBC g0 g1 g2 g3 g4 g5 g6 g7 g8 g9 g10 g11 g12 g13 g14 g15
                have HBC := HBD
                clear HBD
                refine wp_region_held_drew (S := (fun W => W.cell? ⟨w2.heap.size, 0, none⟩ = some (.slice a2 n2 c2) ∧ W.cell? ⟨w2.heap.size, 1, none⟩ = some (.int .i64 low2) ∧ W.cell? ⟨w2.heap.size, 2, none⟩ = some (.bool neg2) ∧ W.cell? ⟨w2.heap.size, 3, none⟩ = some (.bool nn2) ∧ W.cell? ⟨w4.heap.size, 0, none⟩ = some (.slice a4 n4 c4) ∧ W.cell? ⟨w4.heap.size, 1, none⟩ = some (.int .i64 low4) ∧ W.cell? ⟨w4.heap.size, 2, none⟩ = some (.bool neg4) ∧ W.cell? ⟨w4.heap.size, 3, none⟩ = some (.bool nn4) ∧ W.cell? ⟨(w4.heap.size + 1), 0, none⟩ = some (.slice none 0 0) ∧ W.cell? ⟨(w4.heap.size + 1), 1, none⟩ = some (.int .i64 0) ∧ W.cell? ⟨(w4.heap.size + 1), 2, none⟩ = some (.bool false) ∧ W.cell? ⟨(w4.heap.size + 1), 3, none⟩ = some (.bool false) ∧ W.cell? ⟨w228.heap.size, 0, none⟩ = some (.slice a228 n228 c228) ∧ W.cell? ⟨w228.heap.size, 1, none⟩ = some (.int .i64 low228) ∧ W.cell? ⟨w228.heap.size, 2, none⟩ = some (.bool neg228) ∧ W.cell? ⟨w228.heap.size, 3, none⟩ = some (.bool nn228) ∧ Below ws.heap.size ws W)) (by kernel_rfl) ⟨zb20, zb21, zb22, zb23, zb40, zb41, zb42, zb43, zbz0, zbz1, zbz2, zbz3, zn0, zn1, zn2, zn3, (Below.refl _ _).drew⟩ (fun hS => ?_)
                refine takB (i := 0) (d := some 229) (v := .agg #[.slice a228 n228 c228, .int .i64 low228, .bool neg228, .bool nn228]) hS ?_
                simp only [AP]
                refine takB (i := 1) (d := some 230) (v := .agg #[.slice a2 n2 c2, .int .i64 low2, .bool neg2, .bool nn2]) hS ?_
                simp only [AP]
                refine call_at 2 (by kernel_rfl) (by kernel_rfl) ?_
                intro o ho
                replace ho := Option.some.inj (Eq.trans (Eq.symm ho) rfl)
                subst ho
                intro KF hK
                go_simp
                refine (add_any _ _ (some ((9007199254740992 : Int) : Rat)) (some ((1 : Int) : Rat)) _ (HN228.out.later (keep16_bel hS)) (HN2.out.later (keep16_bel hS)) (HT.out.later (thru HBC.out (keep16_bel hS)))).mono ?_
                rintro e wx ⟨v231, y231, rfl, hn231, hy231, hbx⟩
                obtain ⟨a231, n231, c231, low231, neg231, nn231, rfl, hn231⟩ := isNum_form hn231
                have e231 : y231 = some (((9007199254740992 : Int) : Rat) + ((1 : Int) : Rat)) := op2_yes' hy231 m_b1
                subst e231
                try clear hy231
                go_wp2_with fail
                refine hK.out _ _ (keep16 hS hbx) ?_
                clear hS hbx
                intro hS
                clear hK KF
                try simp only [AP]
                refine call_at 3 (by kernel_rfl) (by kernel_rfl) ?_
                intro o ho
                replace ho := Option.some.inj (Eq.trans (Eq.symm ho) rfl)
                subst ho
                intro KF hK
                go_simp
                refine (float_any _ (some (((9007199254740992 : Int) : Rat) + ((1 : Int) : Rat))) _ hn231).mono ?_
                rintro e wx ⟨⟨f232, rfl, hf232⟩, hbx⟩
                have e232 : f232 = 4845873199050653696 := f_big1 hf232
                subst e232
                clear hf232
                clear hn231
                go_wp2_with fail
                refine hK.out _ _ (keep16 hS hbx) ?_
                clear hS hbx
                intro hS
                clear hK KF
                try simp only [AP]
                refine takB (i := 4) (d := some 233) (v := .bool true) hS ?_
                simp only [AP]
                refine takB (i := 5) (d := some 234) (v := .bool true) hS ?_
                simp only [AP]
                refine takB (i := 6) (d := some 235) (v := .agg #[.slice a228 n228 c228, .int .i64 low228, .bool neg228, .bool nn228]) hS ?_
                simp only [AP]
                refine call_at 7 (by kernel_rfl) (by kernel_rfl) ?_
                intro o ho
                replace ho := Option.some.inj (Eq.trans (Eq.symm ho) rfl)
                subst ho
                intro KF hK
                go_simp
                refine (int_any 3 _ (HT.out.later (thru HBC.out (keep16_bel hS))) (by omega) (by omega)).mono ?_
                rintro e wx ⟨v236, y236, rfl, hn236, hy236, hbx⟩
                obtain ⟨a236, n236, c236, low236, neg236, nn236, rfl, hn236⟩ := isNum_form hn236
                have e236 : y236 = some ((3 : Int) : Rat) := hy236
                subst e236
                try clear hy236
                go_wp2_with fail
                refine hK.out _ _ (keep16 hS hbx) ?_
                clear hS hbx
                intro hS
                clear hK KF
                try simp only [AP]
                refine call_at 8 (by kernel_rfl) (by kernel_rfl) ?_
                intro o ho
                replace ho := Option.some.inj (Eq.trans (Eq.symm ho) rfl)
                subst ho
                intro KF hK
                go_simp
                refine (add_any _ _ (some ((9007199254740992 : Int) : Rat)) (some ((3 : Int) : Rat)) _ (HN228.out.later (keep16_bel hS)) hn236 (HT.out.later (thru HBC.out (keep16_bel hS)))).mono ?_
                rintro e wx ⟨v237, y237, rfl, hn237, hy237, hbx⟩
                obtain ⟨a237, n237, c237, low237, neg237, nn237, rfl, hn237⟩ := isNum_form hn237
                have e237 : y237 = some (((9007199254740992 : Int) : Rat) + ((3 : Int) : Rat)) := op2_yes' hy237 m_b3
                subst e237
                try clear hy237
                clear hn236
                go_wp2_with fail
                refine hK.out _ _ (keep16 hS hbx) ?_
                clear hS hbx
                intro hS
                clear hK KF
                try simp only [AP]
                refine call_at 9 (by kernel_rfl) (by kernel_rfl) ?_
                intro o ho
                replace ho := Option.some.inj (Eq.trans (Eq.symm ho) rfl)
                subst ho
                intro KF hK
                go_simp
                refine (float_any _ (some (((9007199254740992 : Int) : Rat) + ((3 : Int) : Rat))) _ hn237).mono ?_
                rintro e wx ⟨⟨f238, rfl, hf238⟩, hbx⟩
                have e238 : f238 = 4845873199050653698 := f_big3 hf238
                subst e238
                clear hf238
                clear hn237
                go_wp2_with fail
                refine hK.out _ _ (keep16 hS hbx) ?_
                clear hS hbx
                intro hS
                clear hK KF
                try simp only [AP]
                refine takB (i := 10) (d := some 239) (v := .bool true) hS ?_
                simp only [AP]
                refine takB (i := 11) (d := some 240) (v := .bool true) hS ?_
                simp only [AP]
                as_aux_lemma =>
                 refine takB (i := 12) (d := some 241) (v := .bool true) hS ?_
                 simp only [AP]
                 refine call_at 13 (by kernel_rfl) (by kernel_rfl) ?_
                 intro o ho
                 replace ho := Option.some.inj (Eq.trans (Eq.symm ho) rfl)
                 subst ho
                 intro KF hK
                 go_simp
                 refine (int_any 12 _ (HT.out.later (thru HBC.out (keep16_bel hS))) (by omega) (by omega)).mono ?_
                 rintro e wx ⟨v242, y242, rfl, hn242, hy242, hbx⟩
                 obtain ⟨a242, n242, c242, low242, neg242, nn242, rfl, hn242⟩ := isNum_form hn242
                 have e242 : y242 = some ((12 : Int) : Rat) := hy242
                 subst e242
                 try clear hy242
                 go_wp2_with fail
                 refine hK.out _ _ (keep16 hS hbx) ?_
                 clear hS hbx
                 intro hS
                 clear hK KF
                 try simp only [AP]
                 refine call_at 14 (by kernel_rfl) (by kernel_rfl) ?_
                 intro o ho
                 replace ho := Option.some.inj (Eq.trans (Eq.symm ho) rfl)
                 subst ho
                 intro KF hK
                 go_simp
                 refine (high_any _ (some ((12 : Int) : Rat)) _ hn242).mono ?_
                 rintro e wx ⟨⟨f243, rfl, hf243⟩, hbx⟩
                 have e243 : f243 = 3 := h_12 hf243
                 subst e243
                 clear hf243
                 clear hn242
                 go_wp2_with fail
                 refine hK.out _ _ (keep16 hS hbx) ?_
                 clear hS hbx
                 intro hS
                 clear hK KF
                 try simp only [AP]
                 refine takB (i := 15) (d := some 244) (v := .bool true) hS ?_
                 simp only [AP]
                 refine takB (i := 16) (d := some 245) (v := .bool true) hS ?_
                 simp only [AP]
                 refine takB (i := 17) (d := some 246) (v := .bool true) hS ?_
                 simp only [AP]
                 refine call_at 18 (by kernel_rfl) (by kernel_rfl) ?_
                 intro o ho
                 replace ho := Option.some.inj (Eq.trans (Eq.symm ho) rfl)
                 subst ho
                 intro KF hK
                 go_simp
                 refine (int_any 12 _ (HT.out.later (thru HBC.out (keep16_bel hS))) (by omega) (by omega)).mono ?_
                 rintro e wx ⟨v247, y247, rfl, hn247, hy247, hbx⟩
                 obtain ⟨a247, n247, c247, low247, neg247, nn247, rfl, hn247⟩ := isNum_form hn247
                 have e247 : y247 = some ((12 : Int) : Rat) := hy247
                 subst e247
                 try clear hy247
                 go_wp2_with fail
                 refine hK.out _ _ (keep16 hS hbx) ?_
                 clear hS hbx
                 intro hS
                 clear hK KF
                 try simp only [AP]
                 refine call_at 19 (by kernel_rfl) (by kernel_rfl) ?_
                 intro o ho
                 replace ho := Option.some.inj (Eq.trans (Eq.symm ho) rfl)
                 subst ho
                 intro KF hK
                 go_simp
                 refine (low_any _ (some ((12 : Int) : Rat)) _ hn247).mono ?_
                 rintro e wx ⟨⟨f248, rfl, hf248⟩, hbx⟩
                 have e248 : f248 = 2 := l_12 hf248
                 subst e248
                 clear hf248
                 clear hn247
                 go_wp2_with fail
                 refine hK.out _ _ (keep16 hS hbx) ?_
                 clear hS hbx
                 intro hS
                 clear hK KF
                 try simp only [AP]
                 refine takB (i := 20) (d := some 249) (v := .bool true) hS ?_
                 simp only [AP]
                 refine takB (i := 21) (d := some 250) (v := .bool true) hS ?_
                 simp only [AP]
                 refine takB (i := 22) (d := some 251) (v := .bool true) hS ?_
                 simp only [AP]
                 refine call_at 23 (by kernel_rfl) (by kernel_rfl) ?_
                 intro o ho
                 replace ho := Option.some.inj (Eq.trans (Eq.symm ho) rfl)
                 subst ho
                 intro KF hK
                 go_simp
                 refine (int_any (-9223372036854775808) _ (HT.out.later (thru HBC.out (keep16_bel hS))) (by omega) (by omega)).mono ?_
                 rintro e wx ⟨v252, y252, rfl, hn252, hy252, hbx⟩
                 obtain ⟨a252, n252, c252, low252, neg252, nn252, rfl, hn252⟩ := isNum_form hn252
                 have e252 : y252 = some ((-9223372036854775808 : Int) : Rat) := hy252
                 subst e252
                 try clear hy252
                 go_wp2_with fail
                 refine hK.out _ _ (keep16 hS hbx) ?_
                 clear hS hbx
                 intro hS
                 clear hK KF
                 try simp only [AP]
                 as_aux_lemma =>
                  refine call_at 24 (by kernel_rfl) (by kernel_rfl) ?_
                  intro o ho
                  replace ho := Option.some.inj (Eq.trans (Eq.symm ho) rfl)
                  subst ho
                  intro KF hK
                  go_simp
                  refine (float_any _ (some ((-9223372036854775808 : Int) : Rat)) _ hn252).mono ?_
                  rintro e wx ⟨⟨f253, rfl, hf253⟩, hbx⟩
                  have e253 : f253 = 14114281232179134464 := f_min hf253
                  subst e253
                  clear hf253
                  clear hn252
                  go_wp2_with fail
                  refine hK.out _ _ (keep16 hS hbx) ?_
                  clear hS hbx
                  intro hS
                  clear hK KF
                  try simp only [AP]
                  refine takB (i := 25) (d := some 254) (v := .bool true) hS ?_
                  simp only [AP]
                  refine takB (i := 26) (d := some 255) (v := .bool true) hS ?_
                  simp only [AP]
                  refine takB (i := 27) (d := some 256) (v := .bool true) hS ?_
                  simp only [AP]
                  refine takB (i := 28) (d := some 257) (v := .agg #[.slice a2 n2 c2, .int .i64 low2, .bool neg2, .bool nn2]) hS ?_
                  simp only [AP]
                  refine call_at 29 (by kernel_rfl) (by kernel_rfl) ?_
                  intro o ho
                  replace ho := Option.some.inj (Eq.trans (Eq.symm ho) rfl)
                  subst ho
                  intro KF hK
                  go_simp
                  refine (shift_any _ (some ((1 : Int) : Rat)) _ _ (HN2.out.later (keep16_bel hS))).mono ?_
                  rintro e wx ⟨v258, y258, rfl, hn258, hy258, hbx⟩
                  obtain ⟨a258, n258, c258, low258, neg258, nn258, rfl, hn258⟩ := isNum_form hn258
                  have e258 : y258 = some (pw (-1074)) := shiftX_may hy258 (pw_may (by omega) (by omega))
                  subst e258
                  try clear hy258
                  go_wp2_with fail
                  refine hK.out _ _ (keep16 hS hbx) ?_
                  clear hS hbx
                  intro hS
                  clear hK KF
                  try simp only [AP]
                  refine call_at 30 (by kernel_rfl) (by kernel_rfl) ?_
                  intro o ho
                  replace ho := Option.some.inj (Eq.trans (Eq.symm ho) rfl)
                  subst ho
                  intro KF hK
                  go_simp
                  refine (float_any _ (some (pw (-1074))) _ hn258).mono ?_
                  rintro e wx ⟨⟨f259, rfl, hf259⟩, hbx⟩
                  have e259 : f259 = 1 := f_1074 hf259
                  subst e259
                  clear hf259
                  clear hn258
                  go_wp2_with fail
                  refine hK.out _ _ (keep16 hS hbx) ?_
                  clear hS hbx
                  intro hS
                  clear hK KF
                  try simp only [AP]
                  refine takB (i := 31) (d := some 260) (v := .bool true) hS ?_
                  simp only [AP]
                  refine takB (i := 32) (d := some 261) (v := .bool true) hS ?_
                  simp only [AP]
                  refine takB (i := 33) (d := some 262) (v := .bool true) hS ?_
                  simp only [AP]
                  refine takB (i := 34) (d := some 263) (v := .agg #[.slice a2 n2 c2, .int .i64 low2, .bool neg2, .bool nn2]) hS ?_
                  simp only [AP]
                  refine call_at 35 (by kernel_rfl) (by kernel_rfl) ?_
                  intro o ho
                  replace ho := Option.some.inj (Eq.trans (Eq.symm ho) rfl)
                  subst ho
                  intro KF hK
                  go_simp
                  refine (shift_any _ (some ((1 : Int) : Rat)) _ _ (HN2.out.later (keep16_bel hS))).mono ?_
                  rintro e wx ⟨v264, y264, rfl, hn264, hy264, hbx⟩
                  obtain ⟨a264, n264, c264, low264, neg264, nn264, rfl, hn264⟩ := isNum_form hn264
                  have e264 : y264 = some (pw (-1075)) := shiftX_may hy264 (pw_may (by omega) (by omega))
                  subst e264
                  try clear hy264
                  go_wp2_with fail
                  refine hK.out _ _ (keep16 hS hbx) ?_
                  clear hS hbx
                  intro hS
                  clear hK KF
                  try simp only [AP]
                  as_aux_lemma =>
                   refine call_at 36 (by kernel_rfl) (by kernel_rfl) ?_
                   intro o ho
                   replace ho := Option.some.inj (Eq.trans (Eq.symm ho) rfl)
                   subst ho
                   intro KF hK
                   go_simp
                   refine (float_any _ (some (pw (-1075))) _ hn264).mono ?_
                   rintro e wx ⟨⟨f265, rfl, hf265⟩, hbx⟩
                   have e265 : f265 = 0 := f_1075 hf265
                   subst e265
                   clear hf265
                   clear hn264
                   go_wp2_with fail
                   refine hK.out _ _ (keep16 hS hbx) ?_
                   clear hS hbx
                   intro hS
                   clear hK KF
                   try simp only [AP]
                   refine takB (i := 37) (d := some 266) (v := .bool true) hS ?_
                   simp only [AP]
                   refine takB (i := 38) (d := some 267) (v := .bool true) hS ?_
                   simp only [AP]
                   refine takB (i := 39) (d := some 268) (v := .bool true) hS ?_
                   simp only [AP]
                   refine call_at 40 (by kernel_rfl) (by kernel_rfl) ?_
                   intro o ho
                   replace ho := Option.some.inj (Eq.trans (Eq.symm ho) rfl)
                   subst ho
                   intro KF hK
                   go_simp
                   refine (int_any 3 _ (HT.out.later (thru HBC.out (keep16_bel hS))) (by omega) (by omega)).mono ?_
                   rintro e wx ⟨v269, y269, rfl, hn269, hy269, hbx⟩
                   obtain ⟨a269, n269, c269, low269, neg269, nn269, rfl, hn269⟩ := isNum_form hn269
                   have e269 : y269 = some ((3 : Int) : Rat) := hy269
                   subst e269
                   try clear hy269
                   go_wp2_with fail
                   refine hK.out _ _ (keep16 hS hbx) ?_
                   clear hS hbx
                   intro hS
                   clear hK KF
                   try simp only [AP]
                   refine call_at 41 (by kernel_rfl) (by kernel_rfl) ?_
                   intro o ho
                   replace ho := Option.some.inj (Eq.trans (Eq.symm ho) rfl)
                   subst ho
                   intro KF hK
                   go_simp
                   refine (shift_any _ (some ((3 : Int) : Rat)) _ _ hn269).mono ?_
                   rintro e wx ⟨v270, y270, rfl, hn270, hy270, hbx⟩
                   obtain ⟨a270, n270, c270, low270, neg270, nn270, rfl, hn270⟩ := isNum_form hn270
                   have e270 : y270 = some (((3 : Int) : Rat) * p2 (-1076)) := shiftX_may hy270 m_3
                   subst e270
                   try clear hy270
                   clear hn269
                   go_wp2_with fail
                   refine hK.out _ _ (keep16 hS hbx) ?_
                   clear hS hbx
                   intro hS
                   clear hK KF
                   try simp only [AP]
                   refine call_at 42 (by kernel_rfl) (by kernel_rfl) ?_
                   intro o ho
                   replace ho := Option.some.inj (Eq.trans (Eq.symm ho) rfl)
                   subst ho
                   intro KF hK
                   go_simp
                   refine (float_any _ (some (((3 : Int) : Rat) * p2 (-1076))) _ hn270).mono ?_
                   rintro e wx ⟨⟨f271, rfl, hf271⟩, hbx⟩
                   have e271 : f271 = 1 := f_3_1076 hf271
                   subst e271
                   clear hf271
                   clear hn270
                   go_wp2_with fail
                   refine hK.out _ _ (keep16 hS hbx) ?_
                   clear hS hbx
                   intro hS
                   clear hK KF
                   try simp only [AP]
                   refine takB (i := 43) (d := some 272) (v := .bool true) hS ?_
                   simp only [AP]
                   refine takB (i := 44) (d := some 273) (v := .bool true) hS ?_
                   simp only [AP]
                   refine takB (i := 45) (d := some 274) (v := .bool true) hS ?_
                   simp only [AP]
                   refine takB (i := 46) (d := some 275) (v := .agg #[.slice a2 n2 c2, .int .i64 low2, .bool neg2, .bool nn2]) hS ?_
                   simp only [AP]
                   refine takB (i := 48) (d := some 277) (v := .agg #[.slice a4 n4 c4, .int .i64 low4, .bool neg4, .bool nn4]) hS ?_
                   simp only [AP]
                   as_aux_lemma =>
                    refine call_at 47 (by kernel_rfl) (by kernel_rfl) ?_
                    intro o ho
                    replace ho := Option.some.inj (Eq.trans (Eq.symm ho) rfl)
                    subst ho
                    intro KF hK
                    go_simp
                    refine (shift_any _ (some ((1 : Int) : Rat)) _ _ (HN2.out.later (keep16_bel hS))).mono ?_
                    rintro e wx ⟨v276, y276, rfl, hn276, hy276, hbx⟩
                    obtain ⟨a276, n276, c276, low276, neg276, nn276, rfl, hn276⟩ := isNum_form hn276
                    have e276 : y276 = some (pw (-1075)) := shiftX_may hy276 (pw_may (by omega) (by omega))
                    subst e276
                    try clear hy276
                    go_wp2_with fail
                    refine hK.out _ _ (keep16 hS hbx) ?_
                    clear hS hbx
                    intro hS
                    clear hK KF
                    try simp only [AP]
                    refine call_at 49 (by kernel_rfl) (by kernel_rfl) ?_
                    intro o ho
                    replace ho := Option.some.inj (Eq.trans (Eq.symm ho) rfl)
                    subst ho
                    intro KF hK
                    go_simp
                    refine (add_any _ _ (some (pw (-1075))) (some (pw (-65536))) _ hn276 (HN4.out.later (keep16_bel hS)) (HT.out.later (thru HBC.out (keep16_bel hS)))).mono ?_
                    rintro e wx ⟨v278, y278, rfl, hn278, hy278, hbx⟩
                    obtain ⟨a278, n278, c278, low278, neg278, nn278, rfl, hn278⟩ := isNum_form hn278
                    have e278 : y278 = some (pw (-1075) + pw (-65536)) := op2_yes' hy278 m_1075_low
                    subst e278
                    try clear hy278
                    clear hn276
                    go_wp2_with fail
                    refine hK.out _ _ (keep16 hS hbx) ?_
                    clear hS hbx
                    intro hS
                    clear hK KF
                    try simp only [AP]
                    refine call_at 50 (by kernel_rfl) (by kernel_rfl) ?_
                    intro o ho
                    replace ho := Option.some.inj (Eq.trans (Eq.symm ho) rfl)
                    subst ho
                    intro KF hK
                    go_simp
                    refine (float_any _ (some (pw (-1075) + pw (-65536))) _ hn278).mono ?_
                    rintro e wx ⟨⟨f279, rfl, hf279⟩, hbx⟩
                    have e279 : f279 = 1 := f_1075_low hf279
                    subst e279
                    clear hf279
                    clear hn278
                    go_wp2_with fail
                    refine hK.out _ _ (keep16 hS hbx) ?_
                    clear hS hbx
                    intro hS
                    clear hK KF
                    try simp only [AP]
                    refine takB (i := 51) (d := some 280) (v := .bool true) hS ?_
                    simp only [AP]
                    refine takB (i := 52) (d := some 281) (v := .bool true) hS ?_
                    simp only [AP]
                    refine takB (i := 53) (d := some 282) (v := .bool true) hS ?_
                    simp only [AP]
                    refine takB (i := 54) (d := some 283) (v := .agg #[.slice a2 n2 c2, .int .i64 low2, .bool neg2, .bool nn2]) hS ?_
                    simp only [AP]
                    refine takB (i := 56) (d := some 285) (v := .agg #[.slice a2 n2 c2, .int .i64 low2, .bool neg2, .bool nn2]) hS ?_
                    simp only [AP]
                    refine call_at 55 (by kernel_rfl) (by kernel_rfl) ?_
                    intro o ho
                    replace ho := Option.some.inj (Eq.trans (Eq.symm ho) rfl)
                    subst ho
                    intro KF hK
                    go_simp
                    refine (shift_any _ (some ((1 : Int) : Rat)) _ _ (HN2.out.later (keep16_bel hS))).mono ?_
                    rintro e wx ⟨v284, y284, rfl, hn284, hy284, hbx⟩
                    obtain ⟨a284, n284, c284, low284, neg284, nn284, rfl, hn284⟩ := isNum_form hn284
                    have e284 : y284 = some (pw 1024) := shiftX_may hy284 (pw_may (by omega) (by omega))
                    subst e284
                    try clear hy284
                    go_wp2_with fail
                    refine hK.out _ _ (keep16 hS hbx) ?_
                    clear hS hbx
                    intro hS
                    clear hK KF
                    try simp only [AP]
                    refine call_at 57 (by kernel_rfl) (by kernel_rfl) ?_
                    intro o ho
                    replace ho := Option.some.inj (Eq.trans (Eq.symm ho) rfl)
                    subst ho
                    intro KF hK
                    go_simp
                    refine (shift_any _ (some ((1 : Int) : Rat)) _ _ (HN2.out.later (keep16_bel hS))).mono ?_
                    rintro e wx ⟨v286, y286, rfl, hn286, hy286, hbx⟩
                    obtain ⟨a286, n286, c286, low286, neg286, nn286, rfl, hn286⟩ := isNum_form hn286
                    have e286 : y286 = some (pw 971) := shiftX_may hy286 (pw_may (by omega) (by omega))
                    subst e286
                    try clear hy286
                    have hn284 := hn284.later hbx
                    go_wp2_with fail
                    refine hK.out _ _ (keep16 hS hbx) ?_
                    clear hS hbx
                    intro hS
                    clear hK KF
                    try simp only [AP]
                    refine call_at 58 (by kernel_rfl) (by kernel_rfl) ?_
                    intro o ho
                    replace ho := Option.some.inj (Eq.trans (Eq.symm ho) rfl)
                    subst ho
                    intro KF hK
                    go_simp
                    refine (sub_any _ _ (some (pw 1024)) (some (pw 971)) _ hn284 hn286 (HT.out.later (thru HBC.out (keep16_bel hS)))).mono ?_
                    rintro e wx ⟨v287, y287, rfl, hn287, hy287, hbx⟩
                    obtain ⟨a287, n287, c287, low287, neg287, nn287, rfl, hn287⟩ := isNum_form hn287
                    have e287 : y287 = some (pw 1024 - pw 971) := op2_yes' hy287 (m_1024 (by omega) (by omega))
                    subst e287
                    try clear hy287
                    clear hn284
                    clear hn286
                    go_wp2_with fail
                    refine hK.out _ _ (keep16 hS hbx) ?_
                    clear hS hbx
                    intro hS
                    clear hK KF
                    try simp only [AP]
                    refine call_at 59 (by kernel_rfl) (by kernel_rfl) ?_
                    intro o ho
                    replace ho := Option.some.inj (Eq.trans (Eq.symm ho) rfl)
                    subst ho
                    intro KF hK
                    go_simp
                    refine (float_any _ (some (pw 1024 - pw 971)) _ hn287).mono ?_
                    rintro e wx ⟨⟨f288, rfl, hf288⟩, hbx⟩
                    have e288 : f288 = 9218868437227405311 := f_max hf288
                    subst e288
                    clear hf288
                    clear hn287
                    go_wp2_with fail
                    refine hK.out _ _ (keep16 hS hbx) ?_
                    clear hS hbx
                    intro hS
                    clear hK KF
                    try simp only [AP]
                    as_aux_lemma =>
                     refine takB (i := 60) (d := some 289) (v := .bool true) hS ?_
                     simp only [AP]
                     refine takB (i := 61) (d := some 290) (v := .bool true) hS ?_
                     simp only [AP]
                     refine takB (i := 62) (d := some 291) (v := .bool true) hS ?_
                     simp only [AP]
                     refine takB (i := 63) (d := some 292) (v := .agg #[.slice a2 n2 c2, .int .i64 low2, .bool neg2, .bool nn2]) hS ?_
                     simp only [AP]
                     refine takB (i := 65) (d := some 294) (v := .agg #[.slice a2 n2 c2, .int .i64 low2, .bool neg2, .bool nn2]) hS ?_
                     simp only [AP]
                     refine call_at 64 (by kernel_rfl) (by kernel_rfl) ?_
                     intro o ho
                     replace ho := Option.some.inj (Eq.trans (Eq.symm ho) rfl)
                     subst ho
                     intro KF hK
                     go_simp
                     refine (shift_any _ (some ((1 : Int) : Rat)) _ _ (HN2.out.later (keep16_bel hS))).mono ?_
                     rintro e wx ⟨v293, y293, rfl, hn293, hy293, hbx⟩
                     obtain ⟨a293, n293, c293, low293, neg293, nn293, rfl, hn293⟩ := isNum_form hn293
                     have e293 : y293 = some (pw 1024) := shiftX_may hy293 (pw_may (by omega) (by omega))
                     subst e293
                     try clear hy293
                     go_wp2_with fail
                     refine hK.out _ _ (keep16 hS hbx) ?_
                     clear hS hbx
                     intro hS
                     clear hK KF
                     try simp only [AP]
                     refine call_at 66 (by kernel_rfl) (by kernel_rfl) ?_
                     intro o ho
                     replace ho := Option.some.inj (Eq.trans (Eq.symm ho) rfl)
                     subst ho
                     intro KF hK
                     go_simp
                     refine (shift_any _ (some ((1 : Int) : Rat)) _ _ (HN2.out.later (keep16_bel hS))).mono ?_
                     rintro e wx ⟨v295, y295, rfl, hn295, hy295, hbx⟩
                     obtain ⟨a295, n295, c295, low295, neg295, nn295, rfl, hn295⟩ := isNum_form hn295
                     have e295 : y295 = some (pw 970) := shiftX_may hy295 (pw_may (by omega) (by omega))
                     subst e295
                     try clear hy295
                     have hn293 := hn293.later hbx
                     go_wp2_with fail
                     refine hK.out _ _ (keep16 hS hbx) ?_
                     clear hS hbx
                     intro hS
                     clear hK KF
                     try simp only [AP]
                     refine call_at 67 (by kernel_rfl) (by kernel_rfl) ?_
                     intro o ho
                     replace ho := Option.some.inj (Eq.trans (Eq.symm ho) rfl)
                     subst ho
                     intro KF hK
                     go_simp
                     refine (sub_any _ _ (some (pw 1024)) (some (pw 970)) _ hn293 hn295 (HT.out.later (thru HBC.out (keep16_bel hS)))).mono ?_
                     rintro e wx ⟨v296, y296, rfl, hn296, hy296, hbx⟩
                     obtain ⟨a296, n296, c296, low296, neg296, nn296, rfl, hn296⟩ := isNum_form hn296
                     have e296 : y296 = some (pw 1024 - pw 970) := op2_yes' hy296 (m_1024 (by omega) (by omega))
                     subst e296
                     try clear hy296
                     clear hn293
                     clear hn295
                     go_wp2_with fail
                     refine hK.out _ _ (keep16 hS hbx) ?_
                     clear hS hbx
                     intro hS
                     clear hK KF
                     try simp only [AP]
                     refine call_at 68 (by kernel_rfl) (by kernel_rfl) ?_
                     intro o ho
                     replace ho := Option.some.inj (Eq.trans (Eq.symm ho) rfl)
                     subst ho
                     intro KF hK
                     go_simp
                     refine (float_any _ (some (pw 1024 - pw 970)) _ hn296).mono ?_
                     rintro e wx ⟨⟨f297, rfl, hf297⟩, hbx⟩
                     have e297 : f297 = 9218868437227405312 := f_over hf297
                     subst e297
                     clear hf297
                     clear hn296
                     go_wp2_with fail
                     refine hK.out _ _ (keep16 hS hbx) ?_
                     clear hS hbx
                     intro hS
                     clear hK KF
                     try simp only [AP]
                     refine call_at 69 (by kernel_rfl) (by kernel_rfl) ?_
                     intro o ho
                     replace ho := Option.some.inj (Eq.trans (Eq.symm ho) rfl)
                     subst ho
                     intro KF hK
                     go_simp
                     refine (isInfN _).mono ?_
                     rintro e wx ⟨rfl, hbx⟩
                     go_wp2_with fail
                     refine hK.out _ _ (keep16 hS hbx) ?_
                     clear hS hbx
                     intro hS
                     clear hK KF
                     try simp only [AP]
                     refine takB (i := 70) (d := some 299) (v := .bool true) hS ?_
                     simp only [AP]
                     refine takB (i := 71) (d := some 300) (v := .bool true) hS ?_
                     simp only [AP]
                     as_aux_lemma =>
                      refine takB (i := 72) (d := some 301) (v := .agg #[.slice a2 n2 c2, .int .i64 low2, .bool neg2, .bool nn2]) hS ?_
                      simp only [AP]
                      refine takB (i := 74) (d := some 303) (v := .agg #[.slice a2 n2 c2, .int .i64 low2, .bool neg2, .bool nn2]) hS ?_
                      simp only [AP]
                      refine takB (i := 77) (d := some 306) (v := .agg #[.slice a4 n4 c4, .int .i64 low4, .bool neg4, .bool nn4]) hS ?_
                      simp only [AP]
                      refine call_at 73 (by kernel_rfl) (by kernel_rfl) ?_
                      intro o ho
                      replace ho := Option.some.inj (Eq.trans (Eq.symm ho) rfl)
                      subst ho
                      intro KF hK
                      go_simp
                      refine (shift_any _ (some ((1 : Int) : Rat)) _ _ (HN2.out.later (keep16_bel hS))).mono ?_
                      rintro e wx ⟨v302, y302, rfl, hn302, hy302, hbx⟩
                      obtain ⟨a302, n302, c302, low302, neg302, nn302, rfl, hn302⟩ := isNum_form hn302
                      have e302 : y302 = some (pw 1024) := shiftX_may hy302 (pw_may (by omega) (by omega))
                      subst e302
                      try clear hy302
                      go_wp2_with fail
                      refine hK.out _ _ (keep16 hS hbx) ?_
                      clear hS hbx
                      intro hS
                      clear hK KF
                      try simp only [AP]
                      refine call_at 75 (by kernel_rfl) (by kernel_rfl) ?_
                      intro o ho
                      replace ho := Option.some.inj (Eq.trans (Eq.symm ho) rfl)
                      subst ho
                      intro KF hK
                      go_simp
                      refine (shift_any _ (some ((1 : Int) : Rat)) _ _ (HN2.out.later (keep16_bel hS))).mono ?_
                      rintro e wx ⟨v304, y304, rfl, hn304, hy304, hbx⟩
                      obtain ⟨a304, n304, c304, low304, neg304, nn304, rfl, hn304⟩ := isNum_form hn304
                      have e304 : y304 = some (pw 970) := shiftX_may hy304 (pw_may (by omega) (by omega))
                      subst e304
                      try clear hy304
                      have hn302 := hn302.later hbx
                      go_wp2_with fail
                      refine hK.out _ _ (keep16 hS hbx) ?_
                      clear hS hbx
                      intro hS
                      clear hK KF
                      try simp only [AP]
                      refine call_at 76 (by kernel_rfl) (by kernel_rfl) ?_
                      intro o ho
                      replace ho := Option.some.inj (Eq.trans (Eq.symm ho) rfl)
                      subst ho
                      intro KF hK
                      go_simp
                      refine (sub_any _ _ (some (pw 1024)) (some (pw 970)) _ hn302 hn304 (HT.out.later (thru HBC.out (keep16_bel hS)))).mono ?_
                      rintro e wx ⟨v305, y305, rfl, hn305, hy305, hbx⟩
                      obtain ⟨a305, n305, c305, low305, neg305, nn305, rfl, hn305⟩ := isNum_form hn305
                      have e305 : y305 = some (pw 1024 - pw 970) := op2_yes' hy305 (m_1024 (by omega) (by omega))
                      subst e305
                      try clear hy305
                      clear hn302
                      clear hn304
                      go_wp2_with fail
                      refine hK.out _ _ (keep16 hS hbx) ?_
                      clear hS hbx
                      intro hS
                      clear hK KF
                      try simp only [AP]
                      refine call_at 78 (by kernel_rfl) (by kernel_rfl) ?_
                      intro o ho
                      replace ho := Option.some.inj (Eq.trans (Eq.symm ho) rfl)
                      subst ho
                      intro KF hK
                      go_simp
                      refine (sub_any _ _ (some (pw 1024 - pw 970)) (some (pw (-65536))) _ hn305 (HN4.out.later (keep16_bel hS)) (HT.out.later (thru HBC.out (keep16_bel hS)))).mono ?_
                      rintro e wx ⟨v307, y307, rfl, hn307, hy307, hbx⟩
                      obtain ⟨a307, n307, c307, low307, neg307, nn307, rfl, hn307⟩ := isNum_form hn307
                      have e307 : y307 = some (pw 1024 - pw 970 - pw (-65536)) := op2_yes' hy307 m_under
                      subst e307
                      try clear hy307
                      clear hn305
                      go_wp2_with fail
                      refine hK.out _ _ (keep16 hS hbx) ?_
                      clear hS hbx
                      intro hS
                      clear hK KF
                      try simp only [AP]
                      refine call_at 79 (by kernel_rfl) (by kernel_rfl) ?_
                      intro o ho
                      replace ho := Option.some.inj (Eq.trans (Eq.symm ho) rfl)
                      subst ho
                      intro KF hK
                      go_simp
                      refine (float_any _ (some (pw 1024 - pw 970 - pw (-65536))) _ hn307).mono ?_
                      rintro e wx ⟨⟨f308, rfl, hf308⟩, hbx⟩
                      have e308 : f308 = 9218868437227405311 := f_under hf308
                      subst e308
                      clear hf308
                      clear hn307
                      go_wp2_with fail
                      refine hK.out _ _ (keep16 hS hbx) ?_
                      clear hS hbx
                      intro hS
                      clear hK KF
                      try simp only [AP]
                      refine takB (i := 80) (d := some 309) (v := .bool true) hS ?_
                      simp only [AP]
                      refine takB (i := 81) (d := some 310) (v := .bool true) hS ?_
                      simp only [AP]
                      refine takB (i := 82) (d := some 0) (v := .bool true) hS ?_
                      simp only [Act.put, List.setIfInBounds_toArray, List.set_cons_zero]
                      refine wpAnyH_done (by kernel_rfl) ?_ _
                      go_wp2
                      go_ret
                      exact ⟨rfl, thru HBC.out (keep16_bel hS)⟩
end
end Go.Proofs.YtlpnobcapdbfkaaDoor
