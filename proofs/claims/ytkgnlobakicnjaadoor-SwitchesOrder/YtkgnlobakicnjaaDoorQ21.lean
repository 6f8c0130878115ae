/- Own texts, put together: Je Jf Jg Jh Yc Yy Yd Ye Yr. -/
import Derived.Test.YtkgnlobakicnjaaDoorQ5
import Derived.Test.YtkgnlobakicnjaaDoorQ9
import Derived.Test.YtkgnlobakicnjaaDoorQ19
import Derived.Test.YtkgnlobakicnjaaDoorQ20
import Derived.RegionTactic
import Derived.Laws.StructEq
import Derived.Deep.MidRow
import Derived.Maps.Own
namespace Go.Proofs.YtkgnlobakicnjaaDoor
/- Package digits: odd, times. -/
section
open Go.RowKit Go.Shelf Go.Lib
def OddOf (n n' : Int) (k : Nat) : Prop := n = n' * ((2 ^ k : Nat) : Int) ∧ n' % 2 = 1 ∧ k < 64
theorem odd_math (n : Int) (h0 : n ≠ 0) (hn : InR n) : ∃ n' : Int, OddOf n n' (ctz 64 (n % 18446744073709551616).toNat) ∧ n / ((2 ^ ctz 64 (n % 18446744073709551616).toNat : Nat) : Int) = n' ∧ (n % 18446744073709551616).toNat ≠ 0 ∧ (n % 18446744073709551616).toNat < 18446744073709551616 := by
 obtain ⟨x, hx⟩ : ∃ x : Nat, (n % 18446744073709551616).toNat = x := ⟨_, rfl⟩
 obtain ⟨h1, h2⟩ := hn
 have hx0 : x ≠ 0 := by omega
 have hxl : x < 18446744073709551616 := by omega
 rw [hx]
 obtain ⟨m, e, hc⟩ := ctz_spec x hxl hx0
 obtain ⟨c, hcc⟩ : ∃ c, ctz 64 x = c := ⟨_, rfl⟩
 rw [hcc] at e hc ⊢
 have hp : (0 : Int) < ((2 ^ c : Nat) : Int) := by have := Nat.two_pow_pos c; omega
 have h64 : (2 ^ c * 2 ^ (64 - c) : Nat) = 18446744073709551616 := by rw [← Nat.pow_add, show c + (64 - c) = 64 by omega]
 obtain ⟨d, hd⟩ : ∃ d, 64 - c = d + 1 := ⟨63 - c, by omega⟩
 rw [hd, Nat.pow_succ] at h64
 obtain ⟨P, hP⟩ : ∃ P, 2 ^ c = P := ⟨_, rfl⟩
 rw [hP] at e hp h64
 generalize 2 ^ d = D at *
 have key : ∃ n', n = n' * (P : Int) ∧ n' % 2 = 1 := by
   by_cases h : n < 0
   · refine ⟨2 * (m : Int) + 1 - 2 * (D : Int), ?_, by omega⟩
     have e1 : n = (x : Int) - 18446744073709551616 := by omega
     have e2 : (x : Int) = (P : Int) * (2 * (m : Int) + 1) := by rw [e, Int.natCast_mul, show ((2 * m + 1 : Nat) : Int) = 2 * (m : Int) + 1 by omega]
     have e3 : (P : Int) * ((D : Int) * 2) = 18446744073709551616 := by rw [show (D : Int) * 2 = ((D * 2 : Nat) : Int) by omega, ← Int.natCast_mul, h64]; rfl
     rw [e1, e2, ← e3]
     rw [Int.sub_mul, Int.mul_comm (P : Int) (2 * (m : Int) + 1), Int.mul_comm (P : Int) ((D : Int) * 2), Int.mul_comm (D : Int) 2]
   · refine ⟨2 * (m : Int) + 1, ?_, by omega⟩
     have e1 : n = (x : Int) := by omega
     have e2 : (x : Int) = (P : Int) * (2 * (m : Int) + 1) := by rw [e, Int.natCast_mul, show ((2 * m + 1 : Nat) : Int) = 2 * (m : Int) + 1 by omega]
     rw [e1, e2, Int.mul_comm]
 obtain ⟨n', k1, k2⟩ := key
 exact ⟨n', ⟨by rw [hP]; exact k1, k2, hc⟩, by rw [hP, k1]; exact Int.mul_ediv_cancel _ (by omega), hx0, hxl⟩
set_option maxHeartbeats 1000000 in
theorem odd_any (n e : Int) (h0 : n ≠ 0) (hn : InR n) (he1 : -9223372036854775808 ≤ e) (he2 : e ≤ 4611686018427387904) :
   ∃ n' k, OddOf n n' k ∧ ∀ w, Tab w → Calls Tryd.prog 58 #[.int .i64 n, .int .i64 e] w fun r w' => r = .returned (.tuple #[.int .i64 n', .int .i64 (e + (k : Nat))]) ∧ w' = w := by
 obtain ⟨n', ho, hdiv, hx0, hxl⟩ := odd_math n h0 hn
 obtain ⟨x, hx⟩ : ∃ x : Nat, (n % 18446744073709551616).toNat = x := ⟨_, rfl⟩
 rw [hx] at ho hdiv hx0 hxl
 obtain ⟨c, hcc⟩ : ∃ c, ctz 64 x = c := ⟨_, rfl⟩
 have HZ : Hid (∀ w, Tab w → Calls Tryd.prog 83 #[.int .u64 x] w fun e w' => e = .returned (.int .i64 (c : Nat)) ∧ w' = w) := fun w hT => by have := tz64_any x hxl hx0 w hT; rwa [hcc] at this
 rw [hcc] at ho hdiv
 refine ⟨n', c, ho, fun w hT => ?_⟩
 have HT : Hid (Tab w) := hT
 have hc := ho.2.2
 have hxe : IntKind.u64.wrap n = (x : Int) := by rw [IntKind.wrap_u64]; omega
 have HO := Lib.hid ho
 have HD := Lib.hid hdiv
 clear ho hdiv hx hcc hx0 hxl h0 hn hT
 go_enter Tryd.func58, Tryd.ntmps58
 go_wp2_with (first
   | (go_at_call 83; refine (HZ.out _ HT.out).mono ?_; rintro e w' ⟨rfl, rfl⟩))
 go_ret2
 exact ⟨ret_ii1 (by rw [← HD.out, Int.natCast_pow]; rfl), rfl⟩
theorem nat_of_rat {a b : Nat} {u : Rat} (hu : 0 < u) (h : ((a : Nat) : Rat) * u = ((b : Nat) : Rat) * u) : a = b := by
 have := int_eq hu (show ((a : Int) : Rat) * u = ((b : Int) : Rat) * u from h)
 omega
theorem fin_mag {y : Nat} (_hy : Fin64 y) : ∃ (m : Nat) (p : Int), m < 9007199254740992 ∧ -1074 ≤ p ∧ (fval y = (m : Rat) * p2 p ∨ fval y = -((m : Rat) * p2 p)) := by
 refine ⟨fmag (frung y), fpl (frung y), fmag_lt _, by unfold fpl; split <;> omega, ?_⟩
 rw [fval_eq]
 unfold sgn1
 cases fneg y
 · left; rw [if_neg (by decide), Rat.one_mul]
 · right; rw [if_pos rfl]; grind
theorem mag_of {n : Int} {e : Int} {m : Nat} {p : Int} {v : Rat} (h1 : v = (m : Rat) * p2 p ∨ v = -((m : Rat) * p2 p)) (h2 : v = (n : Rat) * p2 e) : ((m : Nat) : Rat) * p2 p = ((n.natAbs : Nat) : Rat) * p2 e := by
 have ha := abs_total n (p2 e)
 have hm : (0 : Rat) ≤ ((m : Nat) : Rat) * p2 p := Rat.mul_nonneg Rat.natCast_nonneg (Rat.le_of_lt (p2_pos _))
 have hn : (0 : Rat) ≤ ((n.natAbs : Nat) : Rat) * p2 e := Rat.mul_nonneg Rat.natCast_nonneg (Rat.le_of_lt (p2_pos _))
 generalize ((m : Nat) : Rat) * p2 p = X at *
 generalize ((n.natAbs : Nat) : Rat) * p2 e = Y at *
 generalize (n : Rat) * p2 e = Z at *
 split at ha <;> rcases h1 with h1 | h1 <;> grind
theorem no_big {n e : Int} (ho : n % 2 = 1) (h : 9007199254740992 ≤ n.natAbs) : ∀ y, Fin64 y → fval y ≠ (n : Rat) * p2 e := by
 intro y hy hv
 obtain ⟨m, p, hm, hp, hd⟩ := fin_mag hy
 have hq := mag_of hd hv
 rcases Int.le_total e p with h1 | h1
 · obtain ⟨k, hk⟩ : ∃ k : Nat, p = (k : Int) + e := ⟨(p - e).toNat, by omega⟩
   rw [hk, p2_add, ← Rat.mul_assoc, ← nat_mul_p2] at hq
   have := nat_of_rat (p2_pos e) hq
   cases k with
   | zero => rw [Nat.pow_zero] at this; omega
   | succ k => rw [Nat.pow_succ, ← Nat.mul_assoc] at this; omega
 · obtain ⟨k, hk⟩ : ∃ k : Nat, e = (k : Int) + p := ⟨(e - p).toNat, by omega⟩
   rw [hk, p2_add, ← Rat.mul_assoc, ← nat_mul_p2] at hq
   have := nat_of_rat (p2_pos p) hq
   have h2 : n.natAbs * 1 ≤ n.natAbs * 2 ^ k := Nat.mul_le_mul_left _ (Nat.two_pow_pos k)
   omega
theorem no_low {n e : Int} (ho : n % 2 = 1) (h : e < -1074) : ∀ y, Fin64 y → fval y ≠ (n : Rat) * p2 e := by
 intro y hy hv
 obtain ⟨m, p, hm, hp, hd⟩ := fin_mag hy
 have hq := mag_of hd hv
 obtain ⟨k, hk⟩ : ∃ k : Nat, p = ((k + 1 : Nat) : Int) + e := ⟨(p - e - 1).toNat, by omega⟩
 rw [hk, p2_add, ← Rat.mul_assoc, ← nat_mul_p2] at hq
 have := nat_of_rat (p2_pos e) hq
 rw [Nat.pow_succ, ← Nat.mul_assoc] at this
 omega
theorem p2_log (m : Nat) (hm : m ≠ 0) : p2 ((Nat.log2 m : Nat) : Int) ≤ ((m : Nat) : Rat) := by
 rw [p2_nat]; exact Rat.natCast_le_natCast.2 (Nat.log2_self_le hm)
theorem no_high {n e : Int} (h0 : n ≠ 0) (h : 1024 ≤ e + ((Nat.log2 n.natAbs : Nat) : Int)) : ∀ y, Fin64 y → y < 18446744073709551616 → fval y ≠ (n : Rat) * p2 e := by
 intro y hy ly hv
 have ha := abs_total n (p2 e)
 have hX0 : (0 : Rat) ≤ ((n.natAbs : Nat) : Rat) * p2 e := Rat.mul_nonneg Rat.natCast_nonneg (Rat.le_of_lt (p2_pos _))
 have hl : p2 (e + ((Nat.log2 n.natAbs : Nat) : Int)) ≤ ((n.natAbs : Nat) : Rat) * p2 e := by
   rw [p2_add, Rat.mul_comm]
   exact Rat.mul_le_mul_of_nonneg_right (p2_log _ (by omega)) (Rat.le_of_lt (p2_pos _))
 have hm := p2_mono h
 have hy0 : fval y ≠ 0 := by
   rw [hv]
   intro e0
   have hp := p2_pos (e + ((Nat.log2 n.natAbs : Nat) : Int))
   rw [e0] at ha
   split at ha <;> grind
 obtain ⟨b1, _⟩ := fin_bounds hy ly hy0 (X := ((n.natAbs : Nat) : Rat) * p2 e) (by
   rw [hv]
   split at ha
   · right; rw [ha]; grind
   · left; rw [ha]) hX0
 grind
set_option maxRecDepth 100000 in
theorem word_exists (m : Nat) (e : Int) (hm : m ≠ 0) (h53 : m < 9007199254740992) (he : -1074 ≤ e) (hh : e + ((Nat.log2 m : Nat) : Int) ≤ 1023) : ∃ r, r < 9218868437227405312 ∧ fval r = ((m : Nat) : Rat) * p2 e := by
 obtain ⟨p, hp⟩ : ∃ p, Nat.log2 m = p := ⟨_, rfl⟩
 have a1 := Nat.log2_self_le hm
 have a2 : m < 2 ^ (Nat.log2 m + 1) := Nat.lt_log2_self
 have a3 : Nat.log2 m < 53 := (Nat.log2_lt hm).2 h53
 rw [hp] at a1 a2 a3 hh
 by_cases h : e + (p : Int) < -1022
 · obtain ⟨j, hj⟩ : ∃ j : Nat, e = (j : Int) + -1074 := ⟨(e + 1074).toNat, by omega⟩
   have hk : m * 2 ^ j < 4503599627370496 := by
     have b := Nat.mul_lt_mul_of_pos_right a2 (Nat.two_pow_pos j)
     rw [← Nat.pow_add] at b
     have c : 2 ^ (p + 1 + j) ≤ 2 ^ 52 := Nat.pow_le_pow_right (by omega) (by omega)
     omega
   obtain ⟨q, hq⟩ : ∃ q, m * 2 ^ j = q := ⟨_, rfl⟩
   rw [hq] at hk
   clear a1 a2
   have q1 : q < 9218868437227405312 := Nat.lt_trans hk (by decide)
   have q2 : q ≤ 9007199254740992 := Nat.le_of_lt (Nat.lt_trans hk (by decide))
   have := fval_rung 0 q q2 (Or.inl rfl) (by rw [Nat.zero_mul, Nat.zero_add]; exact q1)
   refine ⟨0 * 4503599627370496 + q, by rw [Nat.zero_mul, Nat.zero_add]; exact q1, this.trans ?_⟩
   rw [← hq, nat_mul_p2, hj, p2_add, Rat.mul_assoc]
   rfl
 · obtain ⟨j, hj⟩ : ∃ j : Nat, j + p = 52 := ⟨52 - p, by omega⟩
   obtain ⟨T, hT⟩ : ∃ T : Nat, (T : Int) = e + (p : Int) + 1022 := ⟨(e + (p : Int) + 1022).toNat, by omega⟩
   have b1 := Nat.mul_le_mul_right (2 ^ j) a1
   have b2 := Nat.mul_lt_mul_of_pos_right a2 (Nat.two_pow_pos j)
   rw [← Nat.pow_add, show p + j = 52 by omega] at b1
   rw [← Nat.pow_add, show p + 1 + j = 53 by omega] at b2
   obtain ⟨q, hq⟩ : ∃ q, m * 2 ^ j = q := ⟨_, rfl⟩
   rw [hq] at b1 b2
   clear a1 a2
   have hT2 : T ≤ 2045 := by omega
   have q1 : T * 4503599627370496 + q < 9218868437227405312 := by
     have := Nat.mul_le_mul_right 4503599627370496 hT2
     clear hj hT h hh he hp a3 h53 hm hq
     omega
   have := fval_rung T q (Nat.le_of_lt b2) (Or.inr b1) q1
   refine ⟨T * 4503599627370496 + q, q1, this.trans ?_⟩
   rw [← hq, nat_mul_p2]
   unfold U
   rw [Rat.mul_assoc, ← p2_add]
   congr 2
   omega
theorem word_signed (n e : Int) (h0 : n ≠ 0) (h53 : n.natAbs < 9007199254740992) (he : -1074 ≤ e) (hh : e + ((Nat.log2 n.natAbs : Nat) : Int) ≤ 1023) : ∃ z, Fin64 z ∧ z < 18446744073709551616 ∧ fval z = (n : Rat) * p2 e ∧ fval z ≠ 0 := by
 obtain ⟨r, hr, hv⟩ := word_exists n.natAbs e (by omega) h53 he hh
 have ha := abs_total n (p2 e)
 have hp : 0 < ((n.natAbs : Nat) : Rat) * p2 e := Rat.mul_pos (Rat.natCast_pos.2 (by omega)) (p2_pos _)
 split at ha
 · refine ⟨9223372036854775808 + r, by unfold Fin64 frung; omega, by omega, ?_, ?_⟩
   · rw [fval_word hr, hv, ha]; grind
   · rw [fval_word hr, hv]; grind
 · exact ⟨r, by unfold Fin64 frung; omega, by omega, by rw [hv, ha], by rw [hv]; grind⟩
def TimesR (n e : Int) (x : Nat) (ok : Bool) : Prop :=
 (ok = true ∧ Fin64 x ∧ x < 18446744073709551616 ∧ fval x = (n : Rat) * p2 e ∧ (n = 0 → x = 0)) ∨ (ok = false ∧ x = 0 ∧ ∀ y, Fin64 y → y < 18446744073709551616 → fval y ≠ (n : Rat) * p2 e)
theorem odd_val {n n' e : Int} {k : Nat} (h : OddOf n n' k) : (n : Rat) * p2 e = (n' : Rat) * p2 (e + (k : Nat)) := by
 rw [h.1, Rat.intCast_mul, Int.add_comm, p2_add, p2_nat, Rat.mul_assoc]
 rfl
set_option maxHeartbeats 2000000 in
theorem times_any (n e : Int) (hn : InR n) (he : InR e) :
   ∃ x ok, TimesR n e x ok ∧ ∀ w, Tab w → Calls Tryd.prog 105 #[.int .i64 n, .int .i64 e] w fun r w' => r = .returned (.tuple #[.float .f64 x, .bool ok]) ∧ w' = w := by
 by_cases h0 : n = 0
 · subst h0
   refine ⟨0, true, Or.inl ⟨rfl, fin_zero, by omega, by rw [fval_zero]; show (0 : Rat) = 0 * _; grind, fun _ => rfl⟩, fun w hT => ?_⟩
   clear hT
   go_enter Tryd.func105, Tryd.ntmps105
   go_wp2
   go_ret2
   exact ⟨rfl, rfl⟩
 by_cases h1 : 1023 < e
 · refine ⟨0, false, Or.inr ⟨rfl, rfl, no_high h0 (by omega)⟩, fun w hT => ?_⟩
   clear hT
   go_enter Tryd.func105, Tryd.ntmps105
   go_wp2
   go_ret2
   exact ⟨rfl, rfl⟩
 obtain ⟨n', k, ho, hc⟩ := odd_any n e h0 hn he.1 (by omega)
 obtain ⟨he1, he2⟩ := he
 have hval := odd_val (e := e) ho
 have hodd := ho.2.1
 have hk := ho.2.2
 have hn' : n'.natAbs ≤ 9223372036854775808 ∧ n' ≠ 0 := by
   refine ⟨?_, by omega⟩
   have e1 := congrArg Int.natAbs ho.1
   rw [Int.natAbs_mul, Int.natAbs_natCast] at e1
   have e2 : n'.natAbs * 1 ≤ n'.natAbs * 2 ^ k := Nat.mul_le_mul_left _ (Nat.two_pow_pos k)
   have := hn.1
   have := hn.2
   omega
 have hn1 : -9223372036854775807 ≤ n' := by omega
 have hn2 : n' ≤ 9223372036854775807 := by omega
 obtain ⟨L, hL⟩ : ∃ L : Nat, Nat.log2 n'.natAbs + 1 = L := ⟨_, rfl⟩
 have hLb : L ≤ 64 := by
   have := (Nat.log2_lt (n := n'.natAbs) (k := 64) (by omega)).2 (by omega)
   omega
 have HL : Hid (∀ w, Calls Tryd.prog 119 #[.int .u64 (max n' (-n'))] w fun e w' => e = .returned (.int .i64 (L : Nat)) ∧ w' = w) := fun w => by
   have := len64_any (n'.natAbs : Nat) w (by omega) (by omega)
   rw [Int.toNat_natCast, hL] at this
   rw [show max n' (-n') = (n'.natAbs : Nat) by rw [Int.max_def]; split <;> omega]
   exact this
 obtain ⟨ek, hek⟩ : ∃ ek : Int, e + (k : Nat) = ek := ⟨_, rfl⟩
 rw [hek] at hc hval
 have hek1 : -9223372036854775808 ≤ ek := by omega
 have hek2 : ek ≤ 1086 := by omega
 have HC : Hid (∀ w, Tab w → Calls Tryd.prog 58 #[.int .i64 n, .int .i64 e] w fun r w' => r = .returned (.tuple #[.int .i64 n', .int .i64 ek]) ∧ w' = w) := hc
 have hno : ∀ (P : Prop), (P → ∀ y, Fin64 y → y < 18446744073709551616 → fval y ≠ (n' : Rat) * p2 ek) → P → TimesR n e 0 false := fun P h hP => Or.inr ⟨rfl, rfl, by rw [hval]; exact h hP⟩
 have HW : Hid (L = Nat.log2 n'.natAbs + 1) := hL.symm
 have H53 : Hid (53 < L ↔ 9007199254740992 ≤ n'.natAbs) := by
   show 53 < L ↔ 9007199254740992 ≤ n'.natAbs
   have := Nat.log2_lt (n := n'.natAbs) (k := 53) (by omega)
   omega
 have HV := Lib.hid hval
 clear hval hc hL hek ho
 have HLi : (L : Int) ≤ 64 := by omega
 by_cases hA : 53 < L
 · refine ⟨0, false, hno _ (fun _ y hy _ => no_big hodd (H53.out.1 hA) y hy) hA, fun w hT => ?_⟩
   have HT : Hid (Tab w) := hT
   clear hno hT
   go_enter Tryd.func105, Tryd.ntmps105
   go_wp2_with (first
     | (go_at_call 58; refine (HC.out _ HT.out).mono ?_; rintro e w' ⟨rfl, rfl⟩)
     | (go_at_call 119; refine (HL.out _).mono ?_; rintro e w' ⟨rfl, rfl⟩))
   go_ret2
   exact ⟨rfl, rfl⟩
 by_cases hB : ek < -1074
 · refine ⟨0, false, hno _ (fun _ y hy _ => no_low hodd hB y hy) hB, fun w hT => ?_⟩
   have HT : Hid (Tab w) := hT
   clear hno hT
   go_enter Tryd.func105, Tryd.ntmps105
   go_wp2_with (first
     | (go_at_call 58; refine (HC.out _ HT.out).mono ?_; rintro e w' ⟨rfl, rfl⟩)
     | (go_at_call 119; refine (HL.out _).mono ?_; rintro e w' ⟨rfl, rfl⟩))
   go_ret2
   exact ⟨rfl, rfl⟩
 by_cases hD : 1023 < ek + (L : Int) - 1
 · refine ⟨0, false, hno _ (fun _ => no_high hn'.2 (by have := HW.out; omega)) hD, fun w hT => ?_⟩
   have HT : Hid (Tab w) := hT
   clear hno hT
   go_enter Tryd.func105, Tryd.ntmps105
   go_wp2_with (first
     | (go_at_call 58; refine (HC.out _ HT.out).mono ?_; rintro e w' ⟨rfl, rfl⟩)
     | (go_at_call 119; refine (HL.out _).mono ?_; rintro e w' ⟨rfl, rfl⟩))
   go_ret2
   exact ⟨rfl, rfl⟩
 obtain ⟨z, fz, lz, vz, z0⟩ := word_signed n' ek hn'.2 (by have := H53.out; omega) (by omega) (by have := HW.out; omega)
 refine ⟨z, true, Or.inl ⟨rfl, fz, lz, by rw [vz, HV.out], fun h => absurd h h0⟩, fun w hT => ?_⟩
 obtain ⟨ff, lf, vf⟩ := fwJ_val (n := n') (by have := H53.out; omega) (by have := H53.out; omega)
 have HX : Hid (∀ w, Calls Tryd.prog 59 #[.float .f64 (floatOfInt .f64 n'), .int .i64 ek] w fun e w' => e = .returned (.float .f64 z) ∧ w' = w) := fun w => Ldexp_val (fwJ n') z ek w ff lf fz lz (by rw [vz, vf]) z0 (by omega) (by omega)
 have HT : Hid (Tab w) := hT
 clear hT hno ff lf vf fz lz vz z0
 go_enter Tryd.func105, Tryd.ntmps105
 go_wp2_with (first
     | (go_at_call 58; refine (HC.out _ HT.out).mono ?_; rintro e w' ⟨rfl, rfl⟩)
     | (go_at_call 119; refine (HL.out _).mono ?_; rintro e w' ⟨rfl, rfl⟩)
     | (go_at_call 59; refine (HX.out _).mono ?_; rintro e w' ⟨rfl, rfl⟩))
 go_ret2
 exact ⟨rfl, rfl⟩
end

/- Package digits: Float (a text is cut at its b), Text. -/
section
set_option maxRecDepth 100000
open Go.RowKit Go.Shelf Go.Lib
set_option maxHeartbeats 1000000 in
theorem indexByte_any (s : ByteArray) (c : Int) (w : World) :
   Calls Tryd.prog 107 #[.string s, .int .u8 c] w fun e w' => e = .returned (.int .i64 (indexByte s.data.toList c.toNat.toUInt8)) ∧ w' = w := by
 go_enter Tryd.func107, Tryd.ntmps107
 go_wp2
 rw [run_callFunc_extern Tryd.func120 (by kernel_rfl) (by kernel_rfl) (by kernel_rfl) (e := Extern.BytealgIndexByte.indexByte) (by kernel_rfl), Lib.run_indexByteString]
 simp only [Result.andThen]
 rw [Oper.upon_value]
 go_wp2
 go_ret
 exact ⟨rfl, rfl⟩
set_option maxHeartbeats 1000000 in
theorem index_any (s : ByteArray) (w : World) :
   Calls Tryd.prog 95 #[.string s, .string ⟨#[98]⟩] w fun e w' => e = .returned (.int .i64 (indexByte s.data.toList 98)) ∧ w' = w := by
 have HI : Hid (∀ w, Calls Tryd.prog 107 #[.string s, .int .u8 98] w fun e w' => e = .returned (.int .i64 (indexByte s.data.toList 98)) ∧ w' = w) := fun w => indexByte_any s 98 w
 have HS : Hid (s.toList = s.data.toList) := Lib.toList_data s
 by_cases h : s.data.toList = [98]
 · have h1 : ([98] == s.toList) = true := by rw [HS.out, h]; rfl
   have h2 : indexByte s.data.toList 98 = 0 := by rw [h]; rfl
   rw [h2]
   clear h2 h
   go_enter Tryd.func95, Tryd.ntmps95
   go_wp2_with (first | (go_at_call 107; refine (HI.out _).mono ?_; rintro e w' ⟨rfl, rfl⟩))
   go_ret
   exact ⟨rfl, rfl⟩
 · have h1 : ([98] == s.toList) = false := by rw [HS.out, beq_eq_false_iff_ne]; exact fun e => h e.symm
   clear h
   go_enter Tryd.func95, Tryd.ntmps95
   go_wp2_with (first | (go_at_call 107; refine (HI.out _).mono ?_; rintro e w' ⟨rfl, rfl⟩))
   go_ret
   exact ⟨rfl, rfl⟩
def cutV (s : ByteArray) : Value := match cutb s.data.toList with
 | none => .tuple #[.string s, .string ⟨#[]⟩, .bool false]
 | some (h, t) => .tuple #[sv h, sv t, .bool true]
set_option maxHeartbeats 1000000 in
theorem cutlite_any (s : ByteArray) (w : World) (hs : s.size ≤ 1000000) :
   Calls Tryd.prog 72 #[.string s, .string ⟨#[98]⟩] w fun e w' => e = .returned (cutV s) ∧ Below w.heap.size w w' := by
 have HI : Hid (∀ w, Calls Tryd.prog 95 #[.string s, .string ⟨#[98]⟩] w fun e w' => e = .returned (.int .i64 (indexByte s.data.toList 98)) ∧ w' = w) := fun w => index_any s w
 have hsz := Lib.size_eq s
 rcases cutb_index s.data.toList with ⟨e1, e2⟩ | ⟨i, e2, hi, e1⟩
 · rw [e2] at HI
   have hv : cutV s = .tuple #[.string s, .string ⟨#[]⟩, .bool false] := by unfold cutV; rw [e1]
   rw [hv]
   clear e1 e2 hv
   go_enter Tryd.func72, Tryd.ntmps72
   go_wp2_with (first
     | (go_at_call 95; refine (HI.out _).mono ?_; rintro e w' ⟨rfl, rfl⟩))
   go_ret3
   exact ⟨rfl, Below.refl _ _⟩
 · rw [e2] at HI
   have hv : cutV s = .tuple #[.string (s.extract 0 i), .string (s.extract (i + 1) s.size), .bool true] := by
     unfold cutV
     rw [e1, Lib.extract_eq, Lib.extract_eq]
     show Value.tuple #[sv _, sv _, _] = _
     rw [List.drop_zero, Nat.sub_zero, List.take_of_length_le (l := s.data.toList.drop (i + 1)) (by rw [List.length_drop]; omega)]
   rw [hv]
   rw [← hsz] at hi
   have c1 : (0 : Int) ≤ (i : Int) := by omega
   have c2 : (i : Int) ≤ (s.size : Int) := by omega
   have c3 : (0 : Int) ≤ (i : Int) + 1 := by omega
   have c4 : (i : Int) + 1 ≤ (s.size : Int) := by omega
   clear e1 e2 hv hsz
   go_enter Tryd.func72, Tryd.ntmps72
   go_wp2_with (first
     | (go_at_call 95; refine (HI.out _).mono ?_; rintro e w' ⟨rfl, rfl⟩))
   go_region
   go_wp2
   go_ret3
   exact ⟨rfl, rfl, rfl, rfl, Nat.le_refl _, fun _ _ => rfl⟩
set_option maxHeartbeats 1000000 in
theorem cut_any (s : ByteArray) (w : World) (hs : s.size ≤ 1000000) :
   Calls Tryd.prog 47 #[.string s, .string ⟨#[98]⟩] w fun e w' => e = .returned (cutV s) ∧ Below w.heap.size w w' := by
 obtain ⟨a, b, c, hv⟩ : ∃ a b c, cutV s = .tuple #[a, b, c] := by
   unfold cutV
   split
   · exact ⟨_, _, _, rfl⟩
   · exact ⟨_, _, _, rfl⟩
 have HI : Hid (∀ w, Calls Tryd.prog 72 #[.string s, .string ⟨#[98]⟩] w fun e w' => e = .returned (.tuple #[a, b, c]) ∧ Below w.heap.size w w') := fun w => by
   have := cutlite_any s w hs
   rwa [hv] at this
 rw [hv]
 clear hv
 go_enter Tryd.func47, Tryd.ntmps47
 go_wp2_with (first
   | (go_at_call 72; refine (HI.out _).mono ?_; rintro e w' ⟨rfl, hb⟩))
 go_ret3
 exact ⟨rfl, hb⟩
def FloatR (l : List UInt8) (x : Nat) (er : Int) : Prop :=
 (rdTell l = none ∧ x = 0 ∧ er = 4) ∨ ∃ n e ok, rdTell l = some (n, e) ∧ TimesR n e x ok ∧ er = if ok then 0 else 10
theorem rd_zero : rdInt [48] = some 0 := by decide
def hd8 (l : List UInt8) : List UInt8 := match cutb l with | none => l | some p => p.1
def tl8 (l : List UInt8) : List UInt8 := match cutb l with | none => [48] | some p => p.2
theorem tell8 (l : List UInt8) : rdTell l = (rdInt (hd8 l)).bind fun n => (rdInt (tl8 l)).map fun e => (n, e) := by
 unfold rdTell hd8 tl8
 cases cutb l with
 | none =>
   simp only []
   rw [rd_zero]
   cases rdInt l <;> rfl
 | some p => rfl
set_option maxHeartbeats 2000000 in
theorem float_core (s : ByteArray) (hs : ¬ 400 < s.size) (f : Bool) (vh vt tt : ByteArray) (n1 e1 n2 e2 : Int) (x : Nat) (ok : Bool) (w : World) (hT : Tab w)
   (hC : ∀ w, Calls Tryd.prog 47 #[.string s, .string ⟨#[98]⟩] w fun e w' => e = .returned (.tuple #[.string vh, .string vt, .bool f]) ∧ Below w.heap.size w w')
   (htt : tt = if f then vt else ⟨#[48]⟩)
   (h1 : ∀ w, Calls Tryd.prog 77 #[.string vh] w fun e w' => e = .returned (.tuple #[.int .i64 n1, .int .i64 e1]) ∧ w' = w)
   (h2 : ∀ w, Calls Tryd.prog 77 #[.string tt] w fun e w' => e = .returned (.tuple #[.int .i64 n2, .int .i64 e2]) ∧ w' = w)
   (he1 : e1 = 0 ∨ e1 = 4) (he2 : e2 = 0 ∨ e2 = 4)
   (h3 : e1 = 0 ∧ e2 = 0 → ∀ w, Tab w → Calls Tryd.prog 105 #[.int .i64 n1, .int .i64 n2] w fun r w' => r = .returned (.tuple #[.float .f64 x, .bool ok]) ∧ w' = w) (hx : ok = false → x = 0) :
   Calls Tryd.prog 91 #[.string s] w fun r w' => r = .returned (.tuple #[.float .f64 (if e1 = 0 ∧ e2 = 0 then x else 0), .int .i64 (if e1 = 0 ∧ e2 = 0 then (if ok then 0 else 10) else 4)]) ∧ Below w.heap.size w w' := by
 have HT : Hid (Tab w) := hT
 have HC : Hid (∀ w, Calls Tryd.prog 47 #[.string s, .string ⟨#[98]⟩] w fun e w' => e = .returned (.tuple #[.string vh, .string vt, .bool f]) ∧ Below w.heap.size w w') := hC
 have H1 : Hid (∀ w, Calls Tryd.prog 77 #[.string vh] w fun e w' => e = .returned (.tuple #[.int .i64 n1, .int .i64 e1]) ∧ w' = w) := h1
 have H2 : Hid (∀ w, Calls Tryd.prog 77 #[.string tt] w fun e w' => e = .returned (.tuple #[.int .i64 n2, .int .i64 e2]) ∧ w' = w) := h2
 clear hC h1 h2 hT
 by_cases hb : e1 = 0 ∧ e2 = 0
 · have H3 : Hid (∀ w, Tab w → Calls Tryd.prog 105 #[.int .i64 n1, .int .i64 n2] w fun r w' => r = .returned (.tuple #[.float .f64 x, .bool ok]) ∧ w' = w) := h3 hb
   obtain ⟨rfl, rfl⟩ := hb
   rw [if_pos ⟨rfl, rfl⟩, if_pos ⟨rfl, rfl⟩]
   clear h3 he1 he2
   cases ok
   · obtain rfl := hx rfl
     rw [if_neg (by decide)]
     cases f
     · obtain rfl : tt = ⟨#[48]⟩ := htt
       go_enter Tryd.func91, Tryd.ntmps91
       go_wp2_with (first | (go_at_call 47; refine (HC.out _).mono ?_; rintro e wc ⟨rfl, hb⟩; have HB := Lib.hid hb; clear hb; refine Hid.out ?_))
       refine Lib.hid ?_
       go_wp2_with fail
       refine (H1.out _).mono ?_
       rintro e w' ⟨rfl, rfl⟩
       go_wp2_with fail
       refine (H2.out _).mono ?_
       rintro e w' ⟨rfl, rfl⟩
       go_wp2_with (first | (go_at_call 105; refine (H3.out _ (HT.out.later HB.out)).mono ?_; rintro e w' ⟨rfl, rfl⟩))
       go_ret2
       exact ⟨rfl, HB.out⟩
     · obtain rfl : tt = vt := htt
       go_enter Tryd.func91, Tryd.ntmps91
       go_wp2_with (first | (go_at_call 47; refine (HC.out _).mono ?_; rintro e wc ⟨rfl, hb⟩; have HB := Lib.hid hb; clear hb; refine Hid.out ?_))
       refine Lib.hid ?_
       go_wp2_with fail
       refine (H1.out _).mono ?_
       rintro e w' ⟨rfl, rfl⟩
       go_wp2_with fail
       refine (H2.out _).mono ?_
       rintro e w' ⟨rfl, rfl⟩
       go_wp2_with (first | (go_at_call 105; refine (H3.out _ (HT.out.later HB.out)).mono ?_; rintro e w' ⟨rfl, rfl⟩))
       go_ret2
       exact ⟨rfl, HB.out⟩
   · rw [if_pos rfl]
     clear hx
     cases f
     · obtain rfl : tt = ⟨#[48]⟩ := htt
       go_enter Tryd.func91, Tryd.ntmps91
       go_wp2_with (first | (go_at_call 47; refine (HC.out _).mono ?_; rintro e wc ⟨rfl, hb⟩; have HB := Lib.hid hb; clear hb; refine Hid.out ?_))
       refine Lib.hid ?_
       go_wp2_with fail
       refine (H1.out _).mono ?_
       rintro e w' ⟨rfl, rfl⟩
       go_wp2_with fail
       refine (H2.out _).mono ?_
       rintro e w' ⟨rfl, rfl⟩
       go_wp2_with (first | (go_at_call 105; refine (H3.out _ (HT.out.later HB.out)).mono ?_; rintro e w' ⟨rfl, rfl⟩))
       go_ret2
       exact ⟨rfl, HB.out⟩
     · obtain rfl : tt = vt := htt
       go_enter Tryd.func91, Tryd.ntmps91
       go_wp2_with (first | (go_at_call 47; refine (HC.out _).mono ?_; rintro e wc ⟨rfl, hb⟩; have HB := Lib.hid hb; clear hb; refine Hid.out ?_))
       refine Lib.hid ?_
       go_wp2_with fail
       refine (H1.out _).mono ?_
       rintro e w' ⟨rfl, rfl⟩
       go_wp2_with fail
       refine (H2.out _).mono ?_
       rintro e w' ⟨rfl, rfl⟩
       go_wp2_with (first | (go_at_call 105; refine (H3.out _ (HT.out.later HB.out)).mono ?_; rintro e w' ⟨rfl, rfl⟩))
       go_ret2
       exact ⟨rfl, HB.out⟩
 · rw [if_neg hb, if_neg hb]
   clear h3 hx
   cases f
   · obtain rfl : tt = ⟨#[48]⟩ := htt
     rcases he1 with rfl | rfl <;> rcases he2 with rfl | rfl
     · exact absurd ⟨rfl, rfl⟩ hb
     all_goals
       clear hb
       go_enter Tryd.func91, Tryd.ntmps91
       go_wp2_with (first | (go_at_call 47; refine (HC.out _).mono ?_; rintro e wc ⟨rfl, hb⟩; have HB := Lib.hid hb; clear hb; refine Hid.out ?_))
       refine Lib.hid ?_
       go_wp2_with fail
       refine (H1.out _).mono ?_
       rintro e w' ⟨rfl, rfl⟩
       go_wp2_with fail
       refine (H2.out _).mono ?_
       rintro e w' ⟨rfl, rfl⟩
       go_wp2_with fail
       go_ret2
       exact ⟨rfl, HB.out⟩
   · obtain rfl : tt = vt := htt
     rcases he1 with rfl | rfl <;> rcases he2 with rfl | rfl
     · exact absurd ⟨rfl, rfl⟩ hb
     all_goals
       clear hb
       go_enter Tryd.func91, Tryd.ntmps91
       go_wp2_with (first | (go_at_call 47; refine (HC.out _).mono ?_; rintro e wc ⟨rfl, hb⟩; have HB := Lib.hid hb; clear hb; refine Hid.out ?_))
       refine Lib.hid ?_
       go_wp2_with fail
       refine (H1.out _).mono ?_
       rintro e w' ⟨rfl, rfl⟩
       go_wp2_with fail
       refine (H2.out _).mono ?_
       rintro e w' ⟨rfl, rfl⟩
       go_wp2_with fail
       go_ret2
       exact ⟨rfl, HB.out⟩
theorem int_parts (o : Option Int) : ∃ n e, intR o = .tuple #[.int .i64 n, .int .i64 e] ∧ ((e = 0 ∧ o = some n) ∨ (e = 4 ∧ n = 0 ∧ o = none)) := by
 cases o with
 | none => exact ⟨0, 4, rfl, Or.inr ⟨rfl, rfl, rfl⟩⟩
 | some n => exact ⟨n, 0, rfl, Or.inl ⟨rfl, rfl⟩⟩
theorem cutV_parts (s : ByteArray) : ∃ vh vt f, cutV s = .tuple #[.string vh, .string vt, .bool f] ∧ vh.data.toList = hd8 s.data.toList ∧ (if f then vt else ⟨#[48]⟩ : ByteArray).data.toList = tl8 s.data.toList ∧ vh.size ≤ s.size + 1 ∧ (if f then vt else ⟨#[48]⟩ : ByteArray).size ≤ s.size + 1 := by
 unfold cutV hd8 tl8
 cases h : cutb s.data.toList with
 | none => exact ⟨s, ⟨#[]⟩, false, rfl, rfl, rfl, by omega, by show 1 ≤ _; omega⟩
 | some p =>
   obtain ⟨a, b⟩ := p
   have e := congrArg List.length (cutb_some h)
   rw [← Lib.size_eq, List.length_append, List.length_cons] at e
   exact ⟨⟨a.toArray⟩, ⟨b.toArray⟩, true, rfl, rfl, rfl, by rw [Lib.size_eq]; show a.length ≤ _; omega, by rw [Lib.size_eq]; show b.length ≤ _; omega⟩
set_option maxHeartbeats 2000000 in
theorem float_any (s : ByteArray) (hs : s.size ≤ 900000) :
   ∃ x er, FloatR s.data.toList x er ∧ ∀ w, Tab w → Calls Tryd.prog 91 #[.string s] w fun r w' => r = .returned (.tuple #[.float .f64 x, .int .i64 er]) ∧ Below w.heap.size w w' := by
 by_cases h4 : 400 < s.size
 · refine ⟨0, 4, Or.inl ⟨?_, rfl, rfl⟩, fun w hT => ?_⟩
   · cases h : rdTell s.data.toList with
     | none => rfl
     | some p => have := tell_length h; rw [← Lib.size_eq] at this; omega
   · clear hT
     go_enter Tryd.func91, Tryd.ntmps91
     go_wp2
     go_ret2
     exact ⟨rfl, Below.refl _ _⟩
 · obtain ⟨vh, vt, f, hv, hh, ht, hl1, hl2⟩ := cutV_parts s
   obtain ⟨n1, e1, q1, p1⟩ := int_parts (rdInt (hd8 s.data.toList))
   obtain ⟨n2, e2, q2, p2'⟩ := int_parts (rdInt (tl8 s.data.toList))
   have hc : ∀ w, Calls Tryd.prog 47 #[.string s, .string ⟨#[98]⟩] w fun e w' => e = .returned (.tuple #[.string vh, .string vt, .bool f]) ∧ Below w.heap.size w w' := fun w => by
     have := cut_any s w (by omega)
     rwa [hv] at this
   have h1 : ∀ w, Calls Tryd.prog 77 #[.string vh] w fun e w' => e = .returned (.tuple #[.int .i64 n1, .int .i64 e1]) ∧ w' = w := fun w => by
     have := int_any vh w (by omega)
     rwa [hh, q1] at this
   have h2 : ∀ w, Calls Tryd.prog 77 #[.string (if f then vt else ⟨#[48]⟩)] w fun e w' => e = .returned (.tuple #[.int .i64 n2, .int .i64 e2]) ∧ w' = w := fun w => by
     have := int_any (if f then vt else ⟨#[48]⟩) w (by omega)
     rwa [ht, q2] at this
   have he1 : e1 = 0 ∨ e1 = 4 := by rcases p1 with ⟨h, _⟩ | ⟨h, _⟩ <;> simp [h]
   have he2 : e2 = 0 ∨ e2 = 4 := by rcases p2' with ⟨h, _⟩ | ⟨h, _⟩ <;> simp [h]
   have htell := tell8 s.data.toList
   by_cases hb : e1 = 0 ∧ e2 = 0
   · have o1 : rdInt (hd8 s.data.toList) = some n1 := by
       rcases p1 with ⟨_, h⟩ | ⟨h, _, _⟩
       · exact h
       · omega
     have o2 : rdInt (tl8 s.data.toList) = some n2 := by
       rcases p2' with ⟨_, h⟩ | ⟨h, _, _⟩
       · exact h
       · omega
     obtain ⟨x, ok, hx, hcl⟩ := times_any n1 n2 (itoa_rd o1).1 (itoa_rd o2).1
     refine ⟨x, if ok then 0 else 10, Or.inr ⟨n1, n2, ok, by rw [htell, o1, o2]; rfl, hx, rfl⟩, fun w hT => ?_⟩
     have := float_core s h4 f vh vt _ n1 e1 n2 e2 x ok w hT hc rfl h1 h2 he1 he2 (fun _ => hcl) (fun h => by
       rcases hx with ⟨h', _⟩ | ⟨_, h', _⟩
       · rw [h] at h'; cases h'
       · exact h')
     rw [if_pos hb, if_pos hb] at this
     exact this
   · refine ⟨0, 4, Or.inl ⟨?_, rfl, rfl⟩, fun w hT => ?_⟩
     · rw [htell]
       rcases p1 with ⟨a1, a2⟩ | ⟨a1, _, a2⟩
       · rcases p2' with ⟨b1, b2⟩ | ⟨b1, _, b2⟩
         · exact absurd ⟨a1, b1⟩ hb
         · rw [a2, b2]; rfl
       · rw [a2]; rfl
     · have := float_core s h4 f vh vt _ n1 e1 n2 e2 0 false w hT hc rfl h1 h2 he1 he2 (fun h => absurd h hb) (fun _ => rfl)
       rw [if_neg hb, if_neg hb] at this
       exact this
end

/- Package digits: Text. -/
section
set_option maxRecDepth 100000
open Go.RowKit Go.Shelf Go.Lib
def TextR (x : Nat) (l : List UInt8) : Prop :=
 (¬ Fin64 x ∧ l = []) ∨ (Fin64 x ∧ ((∃ k : Int, fval x = (k : Rat) ∧ -9007199254740992 < k ∧ k < 9007199254740992 ∧ l = itoa k) ∨
   ((¬ ∃ k : Int, fval x = (k : Rat) ∧ -9007199254740992 < k ∧ k < 9007199254740992) ∧ ∃ n e : Int, n % 2 = 1 ∧ -9007199254740992 < n ∧ n < 9007199254740992 ∧ -3000 ≤ e ∧ e ≤ 3000 ∧ fval x = (n : Rat) * p2 e ∧ l = itoa n ++ 98 :: itoa e)))
theorem cat_b (a b : List UInt8) : (⟨a.toArray⟩ : ByteArray) ++ ⟨#[98]⟩ ++ ⟨b.toArray⟩ = ⟨(a ++ 98 :: b).toArray⟩ := by
 apply ByteArray.ext
 simp [ByteArray.data_append]
theorem ret_s {a b : ByteArray} (h : a = b) : Ending.returned (.string a) = .returned (.string b) := by rw [h]
theorem p53_val : fval 4845873199050653696 = 9007199254740992 := by
 rw [(fval_pos_lt (r := 4845873199050653696) (by omega)).1, show fmag 4845873199050653696 = 4503599627370496 by decide, show fpl 4845873199050653696 = 1 by decide, p2_one]
 have : ((4503599627370496 : Nat) : Rat) = 4503599627370496 := rfl
 rw [this]; grind
theorem lt53 {x : Nat} (hx : Fin64 x) : (FloatKind.f64.format.order (x % 9223372036854775808) 4845873199050653696 == some .lt) = decide (fval (frung x) < 9007199254740992) := by
 show (Ieee.double.order (frung x) 4845873199050653696 == some .lt) = _
 have hf : Fin64 (frung x) := by unfold Fin64 frung at *; omega
 rw [order_fin hf (by unfold Fin64 frung; decide), p53_val]
 by_cases h : fval (frung x) < 9007199254740992
 · rw [if_pos h, decide_eq_true h]; rfl
 · rw [if_neg h, decide_eq_false h]; split <;> rfl
theorem whole_iff {x : Nat} (hx : Fin64 x) (lx : x < 18446744073709551616) : (∃ k : Int, fval x = (k : Rat) ∧ -9007199254740992 < k ∧ k < 9007199254740992) ↔ (M 1 (fval x) ∧ fval (frung x) < 9007199254740992) := by
 have hn := fval_nonneg (r := frung x) hx
 have c1 : ((9007199254740992 : Int) : Rat) = 9007199254740992 := rfl
 have c2 : ((-9007199254740992 : Int) : Rat) = -9007199254740992 := rfl
 rw [M_one]
 constructor
 · rintro ⟨k, e, h1, h2⟩
   have g1 : ((-9007199254740992 : Int) : Rat) < (k : Rat) := Rat.intCast_lt_intCast.2 h1
   have g2 : (k : Rat) < ((9007199254740992 : Int) : Rat) := Rat.intCast_lt_intCast.2 h2
   refine ⟨⟨k, e⟩, ?_⟩
   rcases fval_sgn hx lx with ⟨_, v⟩ | ⟨_, v⟩ <;> grind
 · rintro ⟨⟨k, e⟩, h⟩
   refine ⟨k, e, ?_, ?_⟩
   · apply Rat.intCast_lt_intCast.1
     rw [c2]
     rcases fval_sgn hx lx with ⟨_, v⟩ | ⟨_, v⟩ <;> grind
   · apply Rat.intCast_lt_intCast.1
     rw [c1]
     rcases fval_sgn hx lx with ⟨_, v⟩ | ⟨_, v⟩ <;> grind
theorem eqT {x : Nat} (hx : Fin64 x) (lx : x < 18446744073709551616) : (FloatKind.f64.format.order (trw x) x == some .eq) = decide (fval (trw x) = fval x) := by
 show (Ieee.double.order (trw x) x == some .eq) = _
 rw [order_fin (trw_full hx lx).1 hx]
 by_cases h : fval (trw x) = fval x
 · rw [decide_eq_true h, h, if_neg Rat.lt_irrefl, if_pos rfl]; rfl
 · rw [decide_eq_false h, if_neg h]; split <;> rfl
theorem conv_run {z : Nat} {k : Int} (hz : Fin64 z) (h : fval z = (k : Rat)) (h1 : -9223372036854775808 ≤ k) (h2 : k ≤ 9223372036854775807) : ∀ w, (convert 39 3 (.float .f64 z)).run Tryd.prog w = .ok (.int .i64 k) w := fun w => run_convert_float_int w _ _ _ _ _ _ (by rw [Tryd.underlying39]; rfl) Tryd.underlying3 (conv_int hz h h1 h2)
set_option maxHeartbeats 2000000 in
set_option maxRecDepth 100000 in
theorem text_any (x : Nat) (lx : x < 18446744073709551616) : ∃ l, TextR x l ∧ ∀ w, T8 w → Calls Tryd.prog 21 #[.float .f64 x] w fun r w' => r = .returned (sv l) ∧ Below w.heap.size w w' := by
 have HN : Hid (∀ w, Calls Tryd.prog 53 #[.float .f64 x] w fun e w' => e = .returned (.bool (isnan x)) ∧ w' = w) := fun w => isNaN_any x w
 have HI : Hid (∀ w, Calls Tryd.prog 54 #[.float .f64 x, .int .i64 0] w fun e w' => e = .returned (.bool (isinf x)) ∧ w' = w) := fun w => isInf0_any x w lx
 by_cases hx : Fin64 x
 · obtain ⟨f1, f2⟩ := flagsS hx
   rw [f1] at HI
   rw [f2] at HN
   have HTr : Hid (∀ w, Calls Tryd.prog 55 #[.float .f64 x] w fun e w' => e = .returned (.float .f64 (trw x)) ∧ w' = w) := fun w => trunc_any x w hx
   have HA : Hid (∀ w, Calls Tryd.prog 56 #[.float .f64 x] w fun e w' => e = .returned (.float .f64 (x % 9223372036854775808)) ∧ w' = w) := fun w => abs_any x w lx
   have q1 := eqT hx lx
   have q2 := lt53 hx
   obtain ⟨_, _, ht⟩ := trw_full hx lx
   have hw := whole_iff hx lx
   obtain ⟨t, hte⟩ : ∃ t, trw x = t := ⟨_, rfl⟩
   obtain ⟨a, hae⟩ : ∃ a, x % 9223372036854775808 = a := ⟨_, rfl⟩
   by_cases h : ∃ k : Int, fval x = (k : Rat) ∧ -9007199254740992 < k ∧ k < 9007199254740992
   · have h' := hw.1 h
     obtain ⟨k, e, h1, h2⟩ := h
     refine ⟨itoa k, Or.inr ⟨hx, Or.inl ⟨k, e, h1, h2, rfl⟩⟩, fun w hT => ?_⟩
     rw [decide_eq_true (ht.2 h'.1), hte] at q1
     rw [decide_eq_true h'.2, hae] at q2
     rw [hte] at HTr
     rw [hae] at HA
     have hcv := conv_run hx e (by omega) (by omega)
     have HS : Hid (∀ w, T8 w → Calls Tryd.prog 22 #[.int .i64 k] w fun e w' => e = .returned (sv (itoa k)) ∧ Below w.heap.size w w') := fun w hT => show_any k ⟨by omega, by omega⟩ w hT
     have HT : Hid (T8 w) := hT
     clear hT h' e h1 h2 ht hw hte hae f1 f2 hx lx
     go_enter Tryd.func21, Tryd.ntmps21
     go_wp2_with (first
       | (go_at_call 53; refine (HN.out _).mono ?_; rintro e w' ⟨rfl, rfl⟩)
       | (go_at_call 54; refine (HI.out _).mono ?_; rintro e w' ⟨rfl, rfl⟩)
       | (go_at_call 55; refine (HTr.out _).mono ?_; rintro e w' ⟨rfl, rfl⟩)
       | (go_at_call 56; refine (HA.out _).mono ?_; rintro e w' ⟨rfl, rfl⟩)
       | (go_at_call 22; refine (HS.out _ HT.out).mono ?_; rintro e w' ⟨rfl, hb⟩))
     go_ret
     exact ⟨rfl, hb⟩
   · have hx0 : fval x ≠ 0 := fun e => h ⟨0, by rw [e]; rfl, by omega, by omega⟩
     obtain ⟨f, ex, m, ff, lf, vf, hm, vx, hex1, hex2, hF⟩ := frexp_val x hx lx hx0
     obtain ⟨fm, lm, vm⟩ := fwJ_val (n := m) (by omega) (by omega)
     have hm0 : m ≠ 0 := by omega
     obtain ⟨n, k, ho, hO⟩ := odd_any m (ex - 53) hm0 ⟨by omega, by omega⟩ (by omega) (by omega)
     have hk := ho.2.2
     have hnb : -9007199254740992 < n ∧ n < 9007199254740992 := by
       have e1 := congrArg Int.natAbs ho.1
       rw [Int.natAbs_mul, Int.natAbs_natCast] at e1
       have e2 : n.natAbs * 1 ≤ n.natAbs * 2 ^ k := Nat.mul_le_mul_left _ (Nat.two_pow_pos k)
       omega
     obtain ⟨z, hz⟩ : ∃ z, fwJ m = z := ⟨_, rfl⟩
     rw [hz] at fm lm vm
     obtain ⟨ek, hek⟩ : ∃ ek : Int, ex - 53 + (k : Nat) = ek := ⟨_, rfl⟩
     rw [hek] at hO
     refine ⟨itoa n ++ 98 :: itoa ek, Or.inr ⟨hx, Or.inr ⟨h, n, ek, ho.2.1, hnb.1, hnb.2, by omega, by omega, ?_, rfl⟩⟩, fun w hT => ?_⟩
     · rw [vx, odd_val ho, hek]
     have HF : Hid (∀ w, Calls Tryd.prog 57 #[.float .f64 x] w fun e w' => e = .returned (.tuple #[.float .f64 f, .int .i64 ex]) ∧ w' = w) := hF
     have hz0 : fval z ≠ 0 := by
       rw [vm]
       exact fun e => hm0 (Rat.intCast_inj.1 (e.trans rfl))
     have HL : Hid (∀ w, Calls Tryd.prog 59 #[.float .f64 f, .int .i64 53] w fun e w' => e = .returned (.float .f64 z) ∧ w' = w) := fun w => Ldexp_val f z 53 w ff lf fm lm (by rw [vm, vf, Rat.mul_assoc, ← p2_add, show (-53 + 53 : Int) = 0 from rfl, p2_zero, Rat.mul_one]) hz0 (by omega) (by omega)
     have hcv := conv_run fm vm (by omega) (by omega)
     have HO : Hid (∀ w, Tab w → Calls Tryd.prog 58 #[.int .i64 m, .int .i64 (ex - 53)] w fun r w' => r = .returned (.tuple #[.int .i64 n, .int .i64 ek]) ∧ w' = w) := hO
     have HS1 : Hid (∀ w, T8 w → Calls Tryd.prog 22 #[.int .i64 n] w fun e w' => e = .returned (sv (itoa n)) ∧ Below w.heap.size w w') := fun w hT => show_any n ⟨by omega, by omega⟩ w hT
     have HS2 : Hid (∀ w, T8 w → Calls Tryd.prog 22 #[.int .i64 ek] w fun e w' => e = .returned (sv (itoa ek)) ∧ Below w.heap.size w w') := fun w hT => show_any ek ⟨by omega, by omega⟩ w hT
     have HT : Hid (T8 w) := hT
     rw [hte] at q1 HTr
     rw [hae] at q2 HA
     have hnw := fun hc => h (hw.2 hc)
     have hln : (itoa n).length ≤ 21 := itoa_length_le n (by omega) (by omega)
     have hle : (itoa ek).length ≤ 21 := itoa_length_le ek (by omega) (by omega)
     by_cases hM : M 1 (fval x)
     · rw [hte] at ht
       rw [decide_eq_true (ht.2 hM)] at q1
       rw [decide_eq_false (fun hc => hnw ⟨hM, hc⟩)] at q2
       clear hM hnw hT hO hF hz0 ho hz hek hnb hm0 fm lm vm ff lf vf hm vx hx0 h ht hw hte hae f1 f2 hx lx
       go_enter Tryd.func21, Tryd.ntmps21
       go_wp2_with (first
         | (go_at_call 53; refine (HN.out _).mono ?_; rintro e w' ⟨rfl, rfl⟩)
         | (go_at_call 54; refine (HI.out _).mono ?_; rintro e w' ⟨rfl, rfl⟩)
         | (go_at_call 55; refine (HTr.out _).mono ?_; rintro e w' ⟨rfl, rfl⟩)
         | (go_at_call 56; refine (HA.out _).mono ?_; rintro e w' ⟨rfl, rfl⟩)
         | (go_at_call 57; refine (HF.out _).mono ?_; rintro e w' ⟨rfl, rfl⟩)
         | (go_at_call 59; refine (HL.out _).mono ?_; rintro e w' ⟨rfl, rfl⟩)
         | (go_at_call 58; refine (HO.out _ HT.out.1).mono ?_; rintro e w' ⟨rfl, rfl⟩; refine Hid.out ?_))
       refine Lib.hid ?_
       go_wp2_with fail
       refine (HS1.out _ HT.out).mono ?_
       rintro e w1 ⟨rfl, hb1⟩
       have HB1 := Lib.hid hb1
       clear hb1
       go_wp2_with fail
       refine (HS2.out _ (HT.out.later HB1.out)).mono ?_
       rintro e w2 ⟨rfl, hb2⟩
       have HB2 := Lib.hid hb2
       clear hb2
       go_wp2
       go_ret
       exact ⟨ret_s (cat_b _ _), HB1.out.trans (HB2.out.mono HB1.out.size)⟩
     · rw [hte] at ht
       rw [decide_eq_false (fun hc => hM (ht.1 hc))] at q1
       clear q2 hM hnw hT hO hF hz0 ho hz hek hnb hm0 fm lm vm ff lf vf hm vx hx0 h ht hw hte hae f1 f2 hx lx
       go_enter Tryd.func21, Tryd.ntmps21
       go_wp2_with (first
         | (go_at_call 53; refine (HN.out _).mono ?_; rintro e w' ⟨rfl, rfl⟩)
         | (go_at_call 54; refine (HI.out _).mono ?_; rintro e w' ⟨rfl, rfl⟩)
         | (go_at_call 55; refine (HTr.out _).mono ?_; rintro e w' ⟨rfl, rfl⟩)
         | (go_at_call 56; refine (HA.out _).mono ?_; rintro e w' ⟨rfl, rfl⟩)
         | (go_at_call 57; refine (HF.out _).mono ?_; rintro e w' ⟨rfl, rfl⟩)
         | (go_at_call 59; refine (HL.out _).mono ?_; rintro e w' ⟨rfl, rfl⟩)
         | (go_at_call 58; refine (HO.out _ HT.out.1).mono ?_; rintro e w' ⟨rfl, rfl⟩; refine Hid.out ?_))
       refine Lib.hid ?_
       go_wp2_with fail
       refine (HS1.out _ HT.out).mono ?_
       rintro e w1 ⟨rfl, hb1⟩
       have HB1 := Lib.hid hb1
       clear hb1
       go_wp2_with fail
       refine (HS2.out _ (HT.out.later HB1.out)).mono ?_
       rintro e w2 ⟨rfl, hb2⟩
       have HB2 := Lib.hid hb2
       clear hb2
       go_wp2
       go_ret
       exact ⟨ret_s (cat_b _ _), HB1.out.trans (HB2.out.mono HB1.out.size)⟩
 · refine ⟨[], Or.inl ⟨hx, rfl⟩, fun w _ => ?_⟩
   have hx' : ¬ frung x < 9218868437227405312 := hx
   by_cases hn : 9218868437227405312 < frung x
   · rw [show isnan x = true by unfold isnan; exact decide_eq_true hn] at HN
     clear hn hx' hx lx
     go_enter Tryd.func21, Tryd.ntmps21
     go_wp2_with (first
       | (go_at_call 53; refine (HN.out _).mono ?_; rintro e w' ⟨rfl, rfl⟩)
       | (go_at_call 54; refine (HI.out _).mono ?_; rintro e w' ⟨rfl, rfl⟩))
     go_ret
     exact ⟨rfl, Below.refl _ _⟩
   · rw [show isnan x = false by unfold isnan; exact decide_eq_false hn] at HN
     rw [show isinf x = true by unfold isinf; rw [beq_iff_eq]; omega] at HI
     clear hn hx' hx lx
     go_enter Tryd.func21, Tryd.ntmps21
     go_wp2_with (first
       | (go_at_call 53; refine (HN.out _).mono ?_; rintro e w' ⟨rfl, rfl⟩)
       | (go_at_call 54; refine (HI.out _).mono ?_; rintro e w' ⟨rfl, rfl⟩))
     go_ret
     exact ⟨rfl, Below.refl _ _⟩
end

/- Package digits: what follows of the contracts, and the statements' helper awake. -/
section
set_option maxRecDepth 100000
open Go.RowKit Go.Shelf Go.Lib
theorem FloatR.ok {l : List UInt8} {x v : Nat} {er n e : Int} (h : FloatR l x er) (ht : rdTell l = some (n, e)) (fv : Fin64 v) (lv : v < 18446744073709551616) (hv : fval v = (n : Rat) * p2 e) (h0 : n = 0 → v = 0) : x = v ∧ er = 0 := by
 rcases h with ⟨h1, _⟩ | ⟨n', e', ok, h1, h2, h3⟩
 · rw [h1] at ht; cases ht
 rw [h1] at ht
 simp at ht
 obtain ⟨rfl, rfl⟩ := ht
 rcases h2 with ⟨rfl, fx, lx, vx, z⟩ | ⟨rfl, _, hn⟩
 · refine ⟨?_, h3⟩
   by_cases hz : n' = 0
   · rw [z hz, h0 hz]
   · refine fval_inj fx fv lx lv (by rw [vx, hv]) ?_
     rw [vx]
     intro e0
     have hp := p2_pos e'
     have hn0 : (n' : Rat) = 0 := by
       rcases Rat.mul_eq_zero.1 e0 with h | h
       · exact h
       · rw [h] at hp; exact absurd hp Rat.lt_irrefl
     exact hz (Rat.intCast_inj.1 (hn0.trans rfl))
 · exact absurd hv (hn v fv lv)
theorem FloatR.no {l : List UInt8} {x : Nat} {er n e : Int} (h : FloatR l x er) (ht : rdTell l = some (n, e)) (hn : ∀ y, Fin64 y → y < 18446744073709551616 → fval y ≠ (n : Rat) * p2 e) : x = 0 ∧ er = 10 := by
 rcases h with ⟨h1, _⟩ | ⟨n', e', ok, h1, h2, h3⟩
 · rw [h1] at ht; cases ht
 rw [h1] at ht
 simp at ht
 obtain ⟨rfl, rfl⟩ := ht
 rcases h2 with ⟨rfl, fx, lx, vx, z⟩ | ⟨rfl, hx, _⟩
 · exact absurd vx (hn x fx lx)
 · exact ⟨hx, h3⟩
theorem FloatR.form {l : List UInt8} {x : Nat} {er : Int} (h : FloatR l x er) (ht : rdTell l = none) : x = 0 ∧ er = 4 := by
 rcases h with ⟨_, h⟩ | ⟨n', e', ok, h1, _⟩
 · exact h
 · rw [h1] at ht; cases ht
theorem odd_uniq {n n' e e' : Int} (h1 : n % 2 = 1) (h2 : n' % 2 = 1) (h : (n : Rat) * p2 e = (n' : Rat) * p2 e') : n = n' ∧ e = e' := by
 have key : ∀ {n n' e e' : Int}, n % 2 = 1 → n' % 2 = 1 → (n : Rat) * p2 e = (n' : Rat) * p2 e' → e ≤ e' → n = n' ∧ e = e' := by
   intro n n' e e' h1 h2 h hle
   obtain ⟨k, hk⟩ : ∃ k : Nat, e' = (k : Int) + e := ⟨(e' - e).toNat, by omega⟩
   rw [hk, p2_add, ← Rat.mul_assoc, p2_nat] at h
   have h' : (n : Rat) * p2 e = ((n' * ((2 ^ k : Nat) : Int) : Int) : Rat) * p2 e := by rw [h, Rat.intCast_mul]; rfl
   have := int_eq (p2_pos e) h'
   cases k with
   | zero => exact ⟨by rw [this, Nat.pow_zero]; omega, by omega⟩
   | succ k =>
     exfalso
     rw [Nat.pow_succ, Int.natCast_mul, ← Int.mul_assoc] at this
     omega
 rcases Int.le_total e e' with hl | hl
 · exact key h1 h2 h hl
 · have := key h2 h1 h.symm hl
   exact ⟨this.1.symm, this.2.symm⟩
theorem TextR.whole {x : Nat} {l : List UInt8} (h : TextR x l) (hx : Fin64 x) {k : Int} (hk : fval x = (k : Rat)) (h1 : -9007199254740992 < k) (h2 : k < 9007199254740992) : l = itoa k := by
 rcases h with ⟨h, _⟩ | ⟨_, ⟨k', e, _, _, hl⟩ | ⟨h, _⟩⟩
 · exact absurd hx h
 · rw [hl, Rat.intCast_inj.1 (e.symm.trans hk)]
 · exact absurd ⟨k, hk, h1, h2⟩ h
theorem TextR.odd {x : Nat} {l : List UInt8} (h : TextR x l) (hx : Fin64 x) {n e : Int} (ho : n % 2 = 1) (hv : fval x = (n : Rat) * p2 e) (hn : ¬ ∃ k : Int, fval x = (k : Rat) ∧ -9007199254740992 < k ∧ k < 9007199254740992) : l = itoa n ++ 98 :: itoa e := by
 rcases h with ⟨h, _⟩ | ⟨_, ⟨k', e', g1, g2, _⟩ | ⟨_, n', e', ho', _, _, _, _, hv', hl⟩⟩
 · exact absurd hx h
 · exact absurd ⟨k', e', g1, g2⟩ hn
 · obtain ⟨rfl, rfl⟩ := odd_uniq ho ho' (hv.symm.trans hv')
   exact hl
theorem TextR.tell {x : Nat} {l : List UInt8} (h : TextR x l) (hx : Fin64 x) : ∃ n e, rdTell l = some (n, e) ∧ fval x = (n : Rat) * p2 e ∧ l.length ≤ 43 := by
 rcases h with ⟨h, _⟩ | ⟨_, ⟨k, e, h1, h2, rfl⟩ | ⟨_, n, e, _, h1, h2, h3, h4, hv, rfl⟩⟩
 · exact absurd hx h
 · have ht := tell_whole (n := k) ⟨by omega, by omega⟩
   exact ⟨k, 0, ht, by rw [e, p2_zero, Rat.mul_one], tell_length ht⟩
 · have ht := tell_both (n := n) (e := e) ⟨by omega, by omega⟩ ⟨by omega, by omega⟩
   exact ⟨n, e, ht, hv, tell_length ht⟩
theorem TextR.same {x y : Nat} {l r : List UInt8} (hl : TextR x l) (hr : TextR y r) (hx : Fin64 x) : l = r ↔ (Fin64 y ∧ fval x = fval y) := by
 constructor
 · rintro rfl
   obtain ⟨n, e, ht, hv, _⟩ := hl.tell hx
   by_cases hy : Fin64 y
   · obtain ⟨n', e', ht', hv', _⟩ := hr.tell hy
     rw [ht] at ht'
     simp at ht'
     obtain ⟨rfl, rfl⟩ := ht'
     exact ⟨hy, by rw [hv, hv']⟩
   · exfalso
     rcases hr with ⟨_, rfl⟩ | ⟨h, _⟩
     · rw [show rdTell [] = none by decide] at ht; cases ht
     · exact hy h
 · rintro ⟨hy, he⟩
   rcases hr with ⟨h, _⟩ | ⟨_, ⟨k, e, h1, h2, rfl⟩ | ⟨hn, n, e, ho, h1, h2, h3, h4, hv, rfl⟩⟩
   · exact absurd hy h
   · exact hl.whole hx (by rw [he, e]) h1 h2
   · exact hl.odd hx ho (by rw [he, hv]) (by rw [he]; exact hn)
end

/- Package switches: what a row of letters asks for: plain. -/
section
set_option maxRecDepth 100000
open Go.RowKit Go.Shelf Go.Lib
theorem FloatR.wordY {l : List UInt8} {x : Nat} {er : Int} (h : FloatR l x er) : x < 18446744073709551616 := by
 rcases h with ⟨_, rfl, _⟩ | ⟨n, e, ok, _, ⟨_, _, h, _⟩ | ⟨_, rfl, _⟩, _⟩
 · omega
 · exact h
 · omega
theorem FloatR.uniqY {l : List UInt8} {x y : Nat} {e f : Int} (h : FloatR l x e) (g : FloatR l y f) : x = y ∧ e = f := by
 rcases h with ⟨h1, rfl, rfl⟩ | ⟨n, k, ok, h1, ⟨rfl, h2, h3, h4, h5⟩ | ⟨rfl, rfl, h2⟩, rfl⟩
 · have := g.form h1
   exact ⟨this.1.symm, this.2.symm⟩
 · have := g.ok h1 h2 h3 h4 h5
   exact ⟨this.1.symm, by simpa using this.2.symm⟩
 · have := g.no h1 h2
   exact ⟨this.1.symm, by simpa using this.2.symm⟩
theorem FloatR.finY {l : List UInt8} {x : Nat} {er : Int} (h : FloatR l x er) : Fin64 x := by
 rcases h with ⟨_, rfl, _⟩ | ⟨n, e, ok, _, ⟨_, h, _⟩ | ⟨_, rfl, _⟩, _⟩
 · unfold Fin64 frung; decide
 · exact h
 · unfold Fin64 frung; decide
structure Fp where
 rf : List UInt8 → Nat × Int
 tx : Nat → List UInt8
structure Fp.Ok (f : Fp) : Prop where
 rf : ∀ l, FloatR l (f.rf l).1 (f.rf l).2
 tx : ∀ x, x < 18446744073709551616 → TextR x (f.tx x)
theorem floatR_exY (l : List UInt8) : ∃ q : Nat × Int, FloatR l q.1 q.2 := by
 by_cases h : l.length ≤ 900000
 · obtain ⟨x, er, h1, _⟩ := float_any ⟨l.toArray⟩ (by rw [Lib.size_eq]; simpa using h)
   exact ⟨(x, er), by simpa using h1⟩
 · refine ⟨(0, 4), Or.inl ⟨?_, rfl, rfl⟩⟩
   cases ht : rdTell l with
   | none => rfl
   | some p => have := tell_length ht; omega
theorem fp_ex : ∃ f : Fp, f.Ok := by
 obtain ⟨rf, h1⟩ := Classical.skolem.1 floatR_exY
 obtain ⟨tx, h3⟩ := Classical.skolem.1 (fun x : Nat => (by
   by_cases h : x < 18446744073709551616
   · obtain ⟨l, hl, _⟩ := text_any x h
     exact ⟨l, fun _ => hl⟩
   · exact ⟨[], fun e => absurd e h⟩ : ∃ l : List UInt8, x < 18446744073709551616 → TextR x l))
 exact ⟨⟨rf, tx⟩, h1, h3⟩
structure Pn where
 fl : Nat → Bool
 ang : Nat
 area : Nat
 st : Int
 bd : Nat
def pcell (p : Pn) (j : Nat) : Value := if j = 3 then .float .f64 p.ang else if j = 5 then .float .f64 p.area else if j = 11 then .int .i64 p.st else if j = 12 then .int .u8 (p.bd : Nat) else .bool (p.fl j)
def pls (p : Pn) : List Value := (List.range 21).map (pcell p)
def rws (p : Pn) : List Value := (List.range 23).map (pcell p)
theorem pls_len (p : Pn) : (pls p).length = 21 := by simp [pls]
theorem rws_len (p : Pn) : (rws p).length = 23 := by simp [rws]
theorem pls_at (p : Pn) {j : Nat} (h : j < 21) : (pls p)[j]? = some (pcell p j) := by simp [pls, h]
theorem rws_at (p : Pn) {j : Nat} (h : j < 23) : (rws p)[j]? = some (pcell p j) := by simp [rws, h]
theorem pcell_one (p : Pn) (j : Nat) : (pcell p j).oneCell' = true := by unfold pcell; (repeat' split) <;> rfl
theorem pls_one (p : Pn) : (pls p).toArray.all (·.oneCell') = true := by
 rw [Array.all_eq_true_iff_forall_mem]
 intro v hv
 simp [pls] at hv
 obtain ⟨j, _, rfl⟩ := hv
 exact pcell_one p j
def pz : Pn := ⟨fun _ => false, 0, 0, 0, 0⟩
def p0 : Pn := ⟨fun _ => false, 0, 0, -1, 1⟩
def Pn.on (p : Pn) (j : Nat) : Pn := { p with fl := fun i => if i = j then true else p.fl i }
def ltab : List (UInt8 × Nat) := [(112, 0), (114, 1), (68, 7), (99, 8), (79, 9), (89, 10), (105, 21), (70, 22), (108, 13), (101, 14), (110, 15), (118, 16), (122, 17), (106, 19), (65, 20)]
def letIx (c : UInt8) : Option Nat := (ltab.find? (·.1 == c)).map (·.2)
def wholeCs : List UInt8 := [48, 49, 50, 51, 52, 53, 54, 55, 56, 57]
def floatCs : List UInt8 := [48, 49, 50, 51, 52, 53, 54, 55, 56, 57, 98, 45]
def finS (j : Nat) (p : Pn) (t : List UInt8) : Option (Pn × List UInt8) := if p.fl j = true then none else some (p.on j, t)
def stepS (f : Fp) (c : UInt8) (p : Pn) (t : List UInt8) : Option (Pn × List UInt8) :=
 match letIx c with
 | some j => finS j p t
 | none =>
   if c = 113 then
     if t.takeWhile (floatCs.contains ·) = [] then finS 2 { p with ang := 4626322717216342016 } (t.dropWhile (floatCs.contains ·))
     else if (f.rf (t.takeWhile (floatCs.contains ·))).2 = 0 then finS 2 { p with ang := (f.rf (t.takeWhile (floatCs.contains ·))).1 } (t.dropWhile (floatCs.contains ·)) else none
   else if c = 97 then
     if t.takeWhile (floatCs.contains ·) = [] then finS 6 p (t.dropWhile (floatCs.contains ·))
     else if (f.rf (t.takeWhile (floatCs.contains ·))).2 = 0 then finS 4 { p with area := (f.rf (t.takeWhile (floatCs.contains ·))).1 } (t.dropWhile (floatCs.contains ·)) else none
   else if c = 83 then
     match rdInt (t.takeWhile (wholeCs.contains ·)) with
     | none => none
     | some n => if p.st = -1 then some ({ p with st := n }, t.dropWhile (wholeCs.contains ·)) else none
   else if c = 111 then
     match t with
     | 50 :: r => finS 18 p r
     | _ => none
   else none
def goS (f : Fp) : Nat → Pn → List UInt8 → Option Pn
 | _, p, [] => some p
 | 0, _, _ :: _ => none
 | n + 1, p, c :: t => match stepS f c p t with
   | none => none
   | some q => goS f n q.1 q.2
def oge (x y : Nat) : Bool := FloatKind.f64.format.order x y == some .gt || FloatKind.f64.format.order x y == some .eq
def ole (x y : Nat) : Bool := FloatKind.f64.format.order x y == some .lt || FloatKind.f64.format.order x y == some .eq
def ogt (x y : Nat) : Bool := FloatKind.f64.format.order x y == some .gt
def oeq (x y : Nat) : Bool := FloatKind.f64.format.order x y == some .eq
def angS (p : Pn) : Bool := if p.fl 2 then oge p.ang 0 && ole p.ang 4633641066610819072 else oeq p.ang 0
def areaS (p : Pn) : Bool := if p.fl 4 then ogt p.area 0 && !ogt p.area 9218868437227405311 else oeq p.area 0
def bdS (n : Nat) : Bool := n == 1 || n == 2 || n == 3
def bgoS (p : Pn) : Bool := if p.bd == 1 then !p.fl 1 || !p.fl 13 else !p.fl 1 && !p.fl 13
def ggoS (p : Pn) : Bool := p.fl 0 || (!p.fl 6 && !p.fl 8 && !p.fl 9 && !p.fl 20)
def rgoS (p : Pn) : Bool := p.fl 2 || p.fl 4 || p.fl 6 || p.fl 7 || (!p.fl 10 && p.st == -1)
def chkS (p : Pn) : Int :=
 if angS p && areaS p && decide (-1 ≤ p.st) && decide (p.st ≤ 1048576) && bdS p.bd then (if bgoS p && ggoS p && rgoS p then 0 else 16) else 1
def bldS (p : Pn) : Pn := if p.fl 21 then { p with bd := 3 } else if p.fl 22 then { p with bd := 2 } else p
def trS (s : List UInt8) : List UInt8 := trimPrefix s [45]
def prsS (f : Fp) (s : List UInt8) : Pn × Int :=
 match goS f (trS s).length p0 (trS s) with
 | none => (pz, 4)
 | some p => if p.fl 21 && p.fl 22 then (pz, 16) else if chkS (bldS p) = 0 then (bldS p, 0) else (pz, chkS (bldS p))
def swS (f : Fp) (p : Pn) : List (Bool × List UInt8) :=
 [(p.fl 0, [112]), (p.fl 1, [114]), (p.fl 2, 113 :: f.tx p.ang), (p.fl 4, 97 :: f.tx p.area), (p.fl 6, [97]), (p.fl 7, [68]), (p.fl 8, [99]), (p.fl 9, [79]), (p.fl 10, [89]), (p.st != -1, 83 :: itoa p.st), (p.bd == 3, [105]), (p.bd == 2, [70]), (p.fl 13, [108]), (p.fl 14, [101]), (p.fl 15, [110]), (p.fl 16, [118]), (p.fl 17, [122]), (p.fl 18, [111, 50]), (p.fl 19, [106]), (p.fl 20, [65])]
def catS : List (Bool × List UInt8) → List UInt8
 | [] => []
 | q :: r => (if q.1 then q.2 else []) ++ catS r
theorem catS_snoc (l : List (Bool × List UInt8)) (q : Bool × List UInt8) : catS (l ++ [q]) = catS l ++ (if q.1 then q.2 else []) := by
 induction l with
 | nil => simp [catS]
 | cons a r ih => simp [catS, ih]
def prtS (f : Fp) (p : Pn) : List UInt8 × Int := if chkS p = 0 then (catS (swS f p), 0) else ([], chkS p)
theorem dropW_len (q : UInt8 → Bool) (t : List UInt8) : (t.dropWhile q).length ≤ t.length := by
 induction t with
 | nil => simp
 | cons a r ih => rw [List.dropWhile_cons]; split <;> simp <;> omega
theorem stepS_len {f : Fp} {c : UInt8} {p q : Pn} {t r : List UInt8} (h : stepS f c p t = some (q, r)) : r.length ≤ t.length := by
 have fin : ∀ {j : Nat} {p q : Pn} {u r : List UInt8}, finS j p u = some (q, r) → r = u := by
   intro j p q u r h
   unfold finS at h
   split at h
   · cases h
   · simp at h; exact h.2.symm
 unfold stepS at h
 cases hl : letIx c with
 | some j => rw [hl] at h; rw [fin h]; exact Nat.le_refl _
 | none =>
   rw [hl] at h
   simp only [] at h
   have hd := dropW_len (floatCs.contains ·) t
   have hw := dropW_len (wholeCs.contains ·) t
   split at h
   · split at h
     · rw [fin h]; exact hd
     · split at h
       · rw [fin h]; exact hd
       · cases h
   · split at h
     · split at h
       · rw [fin h]; exact hd
       · split at h
         · rw [fin h]; exact hd
         · cases h
     · split at h
       · split at h
         · cases h
         · split at h
           · cases h; exact hw
           · cases h
       · split at h
         · split at h
           · rw [fin h]; simp
           · cases h
         · cases h
theorem goS_more {f : Fp} : ∀ (n m : Nat) (p : Pn) (t : List UInt8), t.length ≤ n → n ≤ m → goS f n p t = goS f m p t := by
 intro n
 induction n with
 | zero =>
   intro m p t h _
   have : t = [] := List.length_eq_zero_iff.1 (by omega)
   subst this
   cases m <;> rfl
 | succ n ih =>
   intro m p t h hm
   cases t with
   | nil => cases m <;> rfl
   | cons c t =>
     obtain ⟨m, rfl⟩ : ∃ k, m = k + 1 := ⟨m - 1, by omega⟩
     simp only [goS]
     cases hs : stepS f c p t with
     | none => rfl
     | some q =>
       simp only []
       have := stepS_len (q := q.1) (r := q.2) hs
       simp at h
       exact ih m q.1 q.2 (by omega) (by omega)
end

/- Package switches: what a struct's == tells of two plans. -/
section
set_option maxRecDepth 100000
open Go.RowKit Go.Shelf Go.Lib
def eqK (p q : Pn) (k : Nat) : Bool := if k = 3 then oeq p.ang q.ang else if k = 5 then oeq p.area q.area else if k = 11 then p.st == q.st else if k = 12 then ((p.bd : Nat) : Int) == ((q.bd : Nat) : Int) else p.fl k == q.fl k
def eqP (p q : Pn) : Bool := (List.range 21).all (eqK p q)
theorem run_eqFields_any {P : Program} {w : World} (d : Nat) (xs ys : Array Value) (g : Nat → Bool) : ∀ (fs : List Field), (∀ f ∈ fs, f.name ≠ "_" ∧ ∃ a b, (part f.type xs f.offset).run P w = .ok a w ∧ (part f.type ys f.offset).run P w = .ok b w ∧ (Op.equalIn d f.type a b).run P w = .ok (g f.offset) w) →
   (Op.eqFields d xs ys fs).run P w = .ok (fs.all (fun f => g f.offset)) w
 | [], _ => by simp [Op.eqFields]
 | f :: fs, h => by
   obtain ⟨hn, a, b, h1, h2, h3⟩ := h f (by simp)
   have ih := run_eqFields_any d xs ys g fs (fun f hf => h f (by simp [hf]))
   simp only [Op.eqFields, hn, ne_eq, not_false_eq_true, if_true, Sem.run_bind, h1, h2, h3, Result.andThen_ok]
   cases hg : g f.offset
   · simp [hg]
   · simpa [hg] using ih
theorem part_one {P : Program} {w : World} {e : TypeId} (he : (match P.underlying e with | some .bool => true | some (.int _) => true | some (.float _) => true | _ => false) = true) {xs : Array Value} {off : Nat} {v : Value} (hx : xs[off]? = some v) : (part e xs off).run P w = .ok v w := by
 cases hu : P.underlying e with
 | none => simp [hu] at he
 | some d => cases d <;> simp [hu] at he <;> simp [part, isAgg, run_underlying hu, hx]
def plTy (k : Nat) : TypeId := if k = 3 ∨ k = 5 then 39 else if k = 11 then 3 else if k = 12 then 5 else 4
theorem eq_cell (p q : Pn) (d : Nat) (w : World) (k : Nat) : (Op.equalIn (d + 1) (plTy k) (pcell p k) (pcell q k)).run Tryd.prog w = .ok (eqK p q k) w := by
 have b1 : Tryd.prog.underlying 4 = some .bool := by kernel_rfl
 have b2 : Tryd.prog.underlying 39 = some (.float .f64) := by kernel_rfl
 have b3 : Tryd.prog.underlying 3 = some (.int .i64) := by kernel_rfl
 have b4 : Tryd.prog.underlying 5 = some (.int .u8) := by kernel_rfl
 unfold plTy pcell eqK
 by_cases h3 : k = 3
 · simp [h3, Op.equalIn, run_underlying b2, Op.floatEq, oeq]
 by_cases h5 : k = 5
 · simp [h5, Op.equalIn, run_underlying b2, Op.floatEq, oeq]
 by_cases h11 : k = 11
 · simp [h11, Op.equalIn, run_underlying b3]
 by_cases h12 : k = 12
 · simp [h12, Op.equalIn, run_underlying b4]
 simp [h3, h5, h11, h12, Op.equalIn, run_underlying b1]
theorem plan_fields : ((Tryd.prog.fieldsOf 42).toList.map fun f => (f.name == "_", f.type, f.offset)) = (List.range 21).map fun k => (false, plTy k, k) := by kernel_rfl
theorem equal_pl (p q : Pn) (w : World) : (Op.equal 42 (.agg (pls p).toArray) (.agg (pls q).toArray)).run Tryd.prog w = .ok (eqP p q) w := by
 have hu : Tryd.prog.underlying 42 = some (.struct (Tryd.prog.fieldsOf 42)) := by kernel_rfl
 have hs : Tryd.prog.stoodInHeld 42 = false := by kernel_rfl
 have hall : ∀ f ∈ (Tryd.prog.fieldsOf 42).toList, f.name ≠ "_" ∧ ∃ k, k < 21 ∧ f.type = plTy k ∧ f.offset = k := by
   intro f hf
   have hm : (f.name == "_", f.type, f.offset) ∈ (List.range 21).map fun k => (false, plTy k, k) := by
     rw [← plan_fields]
     exact List.mem_map.2 ⟨f, hf, rfl⟩
   obtain ⟨k, hk, e⟩ := List.mem_map.1 hm
   simp only [Prod.mk.injEq] at e
   exact ⟨by have := e.1.symm; simpa using this, k, List.mem_range.1 hk, e.2.1.symm, e.2.2.symm⟩
 have hty : ∀ k, k < 21 → (match Tryd.prog.underlying (plTy k) with | some .bool => true | some (.int _) => true | some (.float _) => true | _ => false) = true := by
   have h : ((List.range 21).all fun k => (match Tryd.prog.underlying (plTy k) with | some .bool => true | some (.int _) => true | some (.float _) => true | _ => false)) = true := by kernel_rfl
   intro k hk
   exact List.all_eq_true.1 h k (List.mem_range.2 hk)
 have h1 := run_eqFields_any (P := Tryd.prog) (w := w) 9999 (pls p).toArray (pls q).toArray (eqK p q) (Tryd.prog.fieldsOf 42).toList (fun f hf => by
   obtain ⟨hn, k, hk, e1, e2⟩ := hall f hf
   refine ⟨hn, pcell p k, pcell q k, ?_, ?_, ?_⟩
   · rw [e1, e2]; exact part_one (hty k hk) (by simpa using pls_at p hk)
   · rw [e1, e2]; exact part_one (hty k hk) (by simpa using pls_at q hk)
   · rw [e1, e2]; exact eq_cell p q 9998 w k)
 have h2 : ((Tryd.prog.fieldsOf 42).toList.all fun f => eqK p q f.offset) = eqP p q := by
   have : (Tryd.prog.fieldsOf 42).toList.map (fun f => f.offset) = List.range 21 := by kernel_rfl
   unfold eqP
   rw [← this, List.all_map]
   rfl
 rw [h2] at h1
 unfold Op.equal
 exact (run_equalIn_struct w 9999 42 _ _ hu hs).trans h1
theorem eq_pl (p q : Pn) (w : World) : (binOp .eql 42 (.agg (pls p).toArray) (.agg (pls q).toArray)).run Tryd.prog w = .ok (.bool (eqP p q)) w := by
 simp only [binOp, Sem.run_bind, equal_pl, Result.andThen_ok]
 rfl
end

/- Package switches: a row in memory; the map of letters; once. -/
section
set_option maxRecDepth 100000
open Go.RowKit Go.Shelf Go.Lib
structure Oy (B : Nat) (w w' : World) : Prop where
 os : w'.os = w.os
 tape : w'.tape = w.tape
 output : w'.output = w.output
 size : w.heap.size ≤ w'.heap.size
 block : ∀ k, k < w.heap.size → k ≠ B → w'.heap[k]? = w.heap[k]?
theorem Oy.refl (B : Nat) (w : World) : Oy B w w := ⟨rfl, rfl, rfl, Nat.le_refl _, fun _ _ _ => rfl⟩
theorem Oy.trans {B : Nat} {a b c : World} (h : Oy B a b) (k : Oy B b c) : Oy B a c := ⟨k.os.trans h.os, k.tape.trans h.tape, k.output.trans h.output, Nat.le_trans h.size k.size, fun i hi hn => (k.block i (Nat.lt_of_lt_of_le hi h.size) hn).trans (h.block i hi hn)⟩
theorem Oy.of_below {B : Nat} {w w' : World} (h : Below w.heap.size w w') : Oy B w w' := ⟨h.os, h.tape, h.output, h.size, fun k hk _ => h.block k hk⟩
theorem Oy.set (B i : Nat) (w : World) (v : Value) : Oy B w (w.setCell ⟨B, i, none⟩ v) := ⟨rfl, rfl, rfl, by simp [World.setCell], fun k _ hn => Below.heap_setCell w ⟨B, i, none⟩ v k hn⟩
theorem Oy.below {B N : Nat} {w w' : World} (h : Oy B w w') (h1 : N ≤ B) (h2 : N ≤ w.heap.size) : Below N w w' := ⟨h.os, h.tape, h.output, h.size, fun k hk => h.block k (by omega) (by omega)⟩
theorem Oy.cb {B b t : Nat} {cs : Array Value} {w w' : World} (h : Oy B w w') (hc : CB w b cs t) (hn : b ≠ B) : CB w' b cs t := by
 unfold CB
 rw [h.block b hc.lt hn]; exact hc
abbrev Rw (W : World) (R : Nat) (p : Pn) : Prop := CB W R (rws p).toArray 87
abbrev Pl (W : World) (B : Nat) (p : Pn) : Prop := CB W B (pls p).toArray 42
theorem CB.cellL {W : World} {b t : Nat} {cs : List Value} {v : Value} {j : Nat} (h : CB W b cs.toArray t) (hv : cs[j]? = some v) : W.cell? ⟨b, j, none⟩ = some v := by
 have hj : j < cs.length := (List.getElem?_eq_some_iff.1 hv).1
 rw [h.cell j (by simpa using hj)]
 have := (List.getElem?_eq_some_iff.1 hv).2
 simpa using this
theorem Rw.at {W : World} {R : Nat} {p : Pn} (h : Rw W R p) {j : Nat} (hj : j < 23) : W.cell? ⟨R, j, none⟩ = some (pcell p j) := CB.cellL h (rws_at p hj)
theorem Pl.at {W : World} {R : Nat} {p : Pn} (h : Pl W R p) {j : Nat} (hj : j < 21) : W.cell? ⟨R, j, none⟩ = some (pcell p j) := CB.cellL h (pls_at p hj)
theorem Rw.plan {W : World} {R : Nat} {p : Pn} (h : Rw W R p) : W.rangeAt R 0 (pls p) := fun j v hv => by
 rw [Nat.zero_add]
 have hj : j < 21 := by have := (List.getElem?_eq_some_iff.1 hv).1; rwa [pls_len] at this
 rw [h.at (by omega)]
 rw [pls_at p hj] at hv; exact hv
theorem Pl.range {W : World} {R : Nat} {p : Pn} (h : Pl W R p) : W.rangeAt R 0 (pls p) := fun j v hv => by
 rw [Nat.zero_add]; exact CB.cellL h hv
def isFl (j : Nat) : Prop := j < 23 ∧ j ≠ 3 ∧ j ≠ 5 ∧ j ≠ 11 ∧ j ≠ 12
theorem letIx_fl {c : UInt8} {j : Nat} (h : letIx c = some j) : isFl j := by
 have ha : ∀ q ∈ ltab, q.2 < 23 ∧ q.2 ≠ 3 ∧ q.2 ≠ 5 ∧ q.2 ≠ 11 ∧ q.2 ≠ 12 := by decide
 unfold letIx at h
 obtain ⟨q, hq, rfl⟩ := Option.map_eq_some_iff.1 h
 exact ha q (List.mem_of_find?_eq_some hq)
theorem pcell_fl {p : Pn} {j : Nat} (h : isFl j) : pcell p j = .bool (p.fl j) := by
 obtain ⟨_, h1, h2, h3, h4⟩ := h
 unfold pcell
 rw [if_neg h1, if_neg h2, if_neg h3, if_neg h4]
theorem row_set {W : World} {R j : Nat} {p q : Pn} {v : Value} (h : Rw W R p) (hj : j < 23) (h1 : pcell q j = v) (h2 : ∀ i, i ≠ j → pcell q i = pcell p i) : Rw (W.setCell ⟨R, j, none⟩ v) R q := by
 have := CB.set h j v
 have e : (rws p).toArray.set! j v = (rws q).toArray := by
   apply Array.ext'
   apply List.ext_getElem?
   intro i
   rw [Array.set!_eq_setIfInBounds, Array.toList_setIfInBounds, List.getElem?_set]
   by_cases hi : j = i
   · subst hi
     rw [if_pos rfl]
     rw [if_pos (by rw [rws_len]; exact hj), rws_at q hj, h1]
   · rw [if_neg hi]
     by_cases hi2 : i < 23
     · rw [rws_at p hi2, rws_at q hi2, h2 i (fun e => hi e.symm)]
     · rw [List.getElem?_eq_none (by rw [rws_len]; omega), List.getElem?_eq_none (by rw [rws_len]; omega)]
 show CB _ _ (rws q).toArray _
 rw [← e]; exact this
theorem Rw.on {W : World} {R j : Nat} {p : Pn} (h : Rw W R p) (hj : isFl j) : Rw (W.setCell ⟨R, j, none⟩ (.bool true)) R (p.on j) :=
 row_set h hj.1 (by rw [pcell_fl hj]; simp [Pn.on]) (fun i hi => by unfold pcell Pn.on; simp [hi])
theorem Rw.ang {W : World} {R x : Nat} {p : Pn} (h : Rw W R p) : Rw (W.setCell ⟨R, 3, none⟩ (.float .f64 x)) R { p with ang := x } :=
 row_set h (by omega) rfl (fun i hi => by unfold pcell; simp [hi])
theorem Rw.area {W : World} {R x : Nat} {p : Pn} (h : Rw W R p) : Rw (W.setCell ⟨R, 5, none⟩ (.float .f64 x)) R { p with area := x } :=
 row_set h (by omega) rfl (fun i hi => by unfold pcell; simp [hi])
theorem Rw.st {W : World} {R : Nat} {n : Int} {p : Pn} (h : Rw W R p) : Rw (W.setCell ⟨R, 11, none⟩ (.int .i64 n)) R { p with st := n } :=
 row_set h (by omega) rfl (fun i hi => by unfold pcell; simp [hi])
theorem Rw.bd {W : World} {R n : Nat} {p : Pn} (h : Rw W R p) : Rw (W.setCell ⟨R, 12, none⟩ (.int .u8 (n : Nat))) R { p with bd := n } :=
 row_set h (by omega) rfl (fun i hi => by unfold pcell; simp [hi])
theorem once_any (R j : Nat) (w : World) : Calls Tryd.prog 63 #[.pointer (some ⟨R, j, none⟩)] w fun e w' => e = .returned (.func (.func 89) #[] #[.pointer (some ⟨w.heap.size, 0, none⟩)]) ∧ w' = w.alloc (.cells #[.pointer (some ⟨R, j, none⟩)] 133) := by
 go_enter Tryd.func63, Tryd.ntmps63
 go_wp2
 go_ret
 exact ⟨rfl, rfl⟩
theorem once1_yes (R j bx : Nat) (s : ByteArray) (w : World) (hc : w.cell? ⟨R, j, none⟩ = some (.bool true)) (hb : w.cell? ⟨bx, 0, none⟩ = some (.pointer (some ⟨R, j, none⟩))) :
   Calls Tryd.prog 89 #[.string s, .pointer (some ⟨bx, 0, none⟩)] w fun e w' => e = .returned (.tuple #[.string ⟨#[]⟩, .bool false]) ∧ w' = w := by
 go_enter Tryd.func89, Tryd.ntmps89
 go_wp2
 go_ret2
 exact ⟨rfl, rfl⟩
theorem once1_no (R j bx : Nat) (s : ByteArray) (w : World) (hc : w.cell? ⟨R, j, none⟩ = some (.bool false)) (hf : w.frozen? ⟨R, j, none⟩ = false) (hb : w.cell? ⟨bx, 0, none⟩ = some (.pointer (some ⟨R, j, none⟩))) :
   Calls Tryd.prog 89 #[.string s, .pointer (some ⟨bx, 0, none⟩)] w fun e w' => e = .returned (.tuple #[.string s, .bool true]) ∧ w' = w.setCell ⟨R, j, none⟩ (.bool true) := by
 go_enter Tryd.func89, Tryd.ntmps89
 go_wp2
 go_ret2
 exact ⟨rfl, rfl⟩
def ActR (w w' : World) (R : Nat) (e : Ending) : Option (Pn × List UInt8) → Prop
 | none => ∃ s, e = .returned (.tuple #[.string s, .bool false]) ∧ Oy R w w'
 | some q => e = .returned (.tuple #[sv q.2, .bool true]) ∧ Rw w' R q.1 ∧ Oy R w w'
theorem once1_any (R j bx : Nat) (p : Pn) (t : List UInt8) (w : World) (hR : Rw w R p) (hj : isFl j) (hb : CB w bx #[.pointer (some ⟨R, j, none⟩)] 133) :
   Calls Tryd.prog 89 #[sv t, .pointer (some ⟨bx, 0, none⟩)] w fun e w' => ActR w w' R e (finS j p t) := by
 have hc := hR.at hj.1
 rw [pcell_fl hj] at hc
 have hb0 := hb.cell 0 (by simp)
 unfold finS
 cases hp : p.fl j with
 | true =>
   rw [hp] at hc
   refine (once1_yes R j bx _ w hc hb0).mono ?_
   rintro e w' ⟨rfl, rfl⟩
   exact ⟨_, rfl, Oy.refl _ _⟩
 | false =>
   rw [hp] at hc
   refine (once1_no R j bx _ w hc (CB.frozen hR j) hb0).mono ?_
   rintro e w' ⟨rfl, rfl⟩
   exact ⟨rfl, hR.on hj, Oy.set _ _ _ _⟩
end

/- Package switches: the map of what each letter does. -/
section
set_option maxRecDepth 100000
open Go.RowKit Go.Shelf Go.Lib
def MpB (W : World) (M : Nat) (L : List (Int × Value)) : Prop := ∃ es clock, W.heap[M]? = some (.map es clock) ∧ es.toList.map (fun e => (e.key, e.val)) = L.map (fun q => (Value.int .u8 q.1, q.2))
theorem get_mapY {w : World} {r : Nat} {es : Array MapEntry} {clock : Nat} (h : w.heap[r]? = some (.map es clock)) : (getObj r).run Tryd.prog w = .ok (.map es clock) w := by simp [getObj, Sem.run, h]
theorem set_mapY {w : World} {r : Nat} {es : Array MapEntry} {clock : Nat} (o : Obj) (h : w.heap[r]? = some (.map es clock)) : (setObj r o).run Tryd.prog w = .ok () { w with heap := w.heap.setIfInBounds r o } := by simp [setObj, Sem.run, h]
theorem find_nowY (c : Int) : ∀ (L : List (Int × Value)) (es : List MapEntry) (i : Nat), es.map (fun e => (e.key, e.val)) = L.map (fun q => (Value.int .u8 q.1, q.2)) → ∃ r, Instr.findNow (.int .u8) (.int .u8 c) es i = some r ∧ r.map (·.2) = (L.find? (·.1 == c)).map (·.2) := by
 intro L
 induction L with
 | nil =>
   intro es i h
   have : es = [] := by simpa using h
   subst this
   exact ⟨none, rfl, rfl⟩
 | cons q L ih =>
   intro es i h
   cases es with
   | nil => simp at h
   | cons e es =>
     simp only [List.map_cons, List.cons.injEq, Prod.mk.injEq] at h
     obtain ⟨⟨hk, hv⟩, hr⟩ := h
     rw [Instr.findNow, hk]
     by_cases hq : q.1 = c
     · refine ⟨some (i, e.val), ?_, ?_⟩
       · simp [Instr.sameNow, hq]
       · rw [List.find?_cons]
         simp [hq, hv]
     · obtain ⟨r, h1, h2⟩ := ih es (i + 1) hr
       refine ⟨r, ?_, ?_⟩
       · have : (c == q.1) = false := by simpa using fun e => hq e.symm
         simp [Instr.sameNow, this, h1]
       · rw [List.find?_cons]
         have : (q.1 == c) = false := by simpa using hq
         rw [this]; exact h2
theorem find_keyY {w : World} {L : List (Int × Value)} {es : List MapEntry} (h : es.map (fun e => (e.key, e.val)) = L.map (fun q => (Value.int .u8 q.1, q.2))) (c : Int) :
   ∃ r, (Instr.findKey 5 (.int .u8 c) es).run Tryd.prog w = .ok r w ∧ r.map (·.2) = (L.find? (·.1 == c)).map (·.2) := by
 obtain ⟨r, h1, h2⟩ := find_nowY c L es 0 h
 refine ⟨r, ?_, h2⟩
 simp only [Instr.findKey, Sem.run_bind, run_underlying Tryd.underlying5, Result.andThen_ok, h1]
 rfl
theorem check_keyY (b : Bool) (c : Int) (w : World) : (Instr.checkKey b 10000 5 (.int .u8 c)).run Tryd.prog w = .ok () w := by
 rw [show (10000 : Nat) = 9999 + 1 from rfl, Instr.checkKey]
 simp only [Sem.run_bind, run_underlying Tryd.underlying5, Result.andThen_ok]
 rfl
theorem MpB.look {W : World} {M : Nat} {L : List (Int × Value)} (h : MpB W M L) (c : Int) : (Instr.lookup 88 (.map (some M)) (.int .u8 c) false).run Tryd.prog W = .ok (((L.find? (·.1 == c)).map (·.2)).getD .nilFunc) W := by
 obtain ⟨es, clock, h1, h2⟩ := h
 obtain ⟨r, h3, h4⟩ := find_keyY (w := W) h2 c
 have hz : (zeroValue 91).run Tryd.prog W = .ok .nilFunc W := Tryd.zeroValue91 W
 simp only [Instr.lookup, Sem.run_bind, run_underlying Tryd.underlying88, Result.andThen_ok, get_mapY h1]
 simp only [Sem.run_pure, Result.andThen_ok, check_keyY, h3]
 rw [← h4]
 cases r with
 | none => simp [hz]
 | some x => simp
theorem MpB.ins {W : World} {M : Nat} {L : List (Int × Value)} (h : MpB W M L) (c : Int) (v : Value) (hn : c ∉ L.map (·.1)) : ∃ W', (Instr.mapUpdate 88 (.map (some M)) (.int .u8 c) v).run Tryd.prog W = .ok () W' ∧ MpB W' M (L ++ [(c, v)]) ∧ Oy M W W' ∧ W'.heap.size = W.heap.size := by
 obtain ⟨es, clock, h1, h2⟩ := h
 obtain ⟨r, h3, h4⟩ := find_keyY (w := W) h2 c
 have hr : r = none := by
   have : L.find? (·.1 == c) = none := by
     rw [List.find?_eq_none]
     intro q hq
     simp only [beq_iff_eq]
     exact fun e => hn (List.mem_map.2 ⟨q, hq, e⟩)
   rw [this] at h4
   cases r with
   | none => rfl
   | some x => simp at h4
 subst hr
 have hB : M < W.heap.size := (Array.getElem?_eq_some_iff.1 h1).1
 have hs := set_mapY (.map (es.push { key := .int .u8 c, val := v, born := clock }) (clock + 1)) h1
 refine ⟨{ W with heap := W.heap.setIfInBounds M (.map (es.push { key := .int .u8 c, val := v, born := clock }) (clock + 1)) }, ?_, ⟨es.push { key := .int .u8 c, val := v, born := clock }, clock + 1, ?_, ?_⟩, ⟨rfl, rfl, rfl, by simp, ?_⟩, by simp⟩
 · simp only [Instr.mapUpdate, Sem.run_bind, run_underlying Tryd.underlying88, Result.andThen_ok, get_mapY h1, check_keyY, h3]
   exact hs
 · show (W.heap.setIfInBounds M _)[M]? = _
   rw [Array.getElem?_setIfInBounds_self_of_lt hB]
 · simp [h2]
 · intro b _ hb
   show (W.heap.setIfInBounds M _)[b]? = _
   rw [Array.getElem?_setIfInBounds_ne (Ne.symm hb)]
def methY (R : Nat) (k : Int) : Value := .func (.func (if k = 113 then 64 else if k = 97 then 65 else if k = 83 then 66 else 67)) #[.pointer (some ⟨R, 0, none⟩)] #[]
def FlY (w0 W : World) (R M j b : Nat) : Prop := CB W b #[.pointer (some ⟨R, j, none⟩)] 133 ∧ w0.heap.size ≤ b ∧ b ≠ M
def entY (w0 W : World) (R M : Nat) (q : Int × Value) : Prop :=
 (∃ j b, letIx (UInt8.ofNat q.1.toNat) = some j ∧ q.2 = .func (.func 89) #[] #[.pointer (some ⟨b, 0, none⟩)] ∧ FlY w0 W R M j b) ∨ (letIx (UInt8.ofNat q.1.toNat) = none ∧ q.2 = methY R q.1)
structure Ls (w0 W : World) (R M : Nat) (ks : List Int) : Prop where
 bel : Below w0.heap.size w0 W
 hM : w0.heap.size ≤ M
 lt : M < W.heap.size
 ent : ∃ L, (∀ k, k ∈ L.map (·.1) ↔ k ∈ ks) ∧ MpB W M L ∧ ∀ q ∈ L, entY w0 W R M q
theorem entY.keep {w0 W W' : World} {R M : Nat} {q : Int × Value} (h : entY w0 W R M q) (hk : ∀ b, w0.heap.size ≤ b → b ≠ M → b < W.heap.size → W'.heap[b]? = W.heap[b]?) : entY w0 W' R M q := by
 rcases h with ⟨j, b, h1, h2, h3, h4, h5⟩ | h
 · refine Or.inl ⟨j, b, h1, h2, ?_, h4, h5⟩
   unfold CB
   rw [hk b h4 h5 h3.lt]; exact h3
 · exact Or.inr h
theorem MpB.keep {W W' : World} {M : Nat} {L : List (Int × Value)} (h : MpB W M L) (hk : W'.heap[M]? = W.heap[M]?) : MpB W' M L := by
 obtain ⟨es, c, h1, h2⟩ := h
 exact ⟨es, c, by rw [hk]; exact h1, h2⟩
theorem Ls.later {w0 W W' : World} {R M : Nat} {ks : List Int} (h : Ls w0 W R M ks) (hb : Below W.heap.size W W') : Ls w0 W' R M ks := by
 obtain ⟨L, h1, h2, h3⟩ := h.ent
 exact ⟨h.bel.trans (hb.mono h.bel.size), h.hM, Nat.lt_of_lt_of_le h.lt hb.size, L, h1, h2.keep (hb.block M h.lt), fun q hq => (h3 q hq).keep fun b _ _ hlt => hb.block b hlt⟩
theorem Ls.oy {w0 W W' : World} {R M : Nat} {ks : List Int} (h : Ls w0 W R M ks) (ho : Oy R W W') (hR : R < w0.heap.size) : (∃ L, (∀ k, k ∈ L.map (·.1) ↔ k ∈ ks) ∧ MpB W' M L ∧ ∀ q ∈ L, entY w0 W' R M q) ∧ M < W'.heap.size := by
 obtain ⟨L, h1, h2, h3⟩ := h.ent
 have hM := h.hM
 exact ⟨⟨L, h1, h2.keep (ho.block M h.lt (by omega)), fun q hq => (h3 q hq).keep fun b hb _ hlt => ho.block b hlt (by omega)⟩, Nat.lt_of_lt_of_le h.lt ho.size⟩
theorem Ls.congr {w0 W : World} {R M : Nat} {ks ks' : List Int} (h : Ls w0 W R M ks) (hk : ∀ k, k ∈ ks ↔ k ∈ ks') : Ls w0 W R M ks' := by
 obtain ⟨L, h1, h2, h3⟩ := h.ent
 exact ⟨h.bel, h.hM, h.lt, L, fun k => (h1 k).trans (hk k), h2, h3⟩
theorem Ls.cb {w0 W : World} {R M b t : Nat} {ks : List Int} {cs : Array Value} (h : Ls w0 W R M ks) (hb : CB W b cs t) : b ≠ M := by
 intro e
 subst e
 obtain ⟨L, h1, ⟨es, c, h2, _⟩, h3⟩ := h.ent
 unfold CB at hb
 rw [hb] at h2; cases h2
theorem Ls.ins {w0 W W' : World} {R M : Nat} {ks : List Int} {L : List (Int × Value)} {q : Int × Value} (h : Ls w0 W R M ks) (h1 : ∀ k, k ∈ L.map (·.1) ↔ k ∈ ks) (h3 : ∀ q ∈ L, entY w0 W R M q) (hm : MpB W' M (L ++ [q])) (ho : Oy M W W') (hs : W'.heap.size = W.heap.size) (hq : entY w0 W R M q) : Ls w0 W' R M (ks ++ [q.1]) := by
 have hM := h.hM
 have kp : ∀ b, w0.heap.size ≤ b → b ≠ M → b < W.heap.size → W'.heap[b]? = W.heap[b]? := fun b _ hb hlt => ho.block b hlt hb
 refine ⟨h.bel.trans (ho.below hM h.bel.size), hM, by rw [hs]; exact h.lt, L ++ [q], fun k => ?_, hm, fun x hx => ?_⟩
 · rw [List.map_append, List.mem_append, List.mem_append, h1]; rfl
 · rcases List.mem_append.1 hx with hx | hx
   · exact (h3 x hx).keep kp
   · rw [List.mem_singleton.1 hx]; exact hq.keep kp
section
variable {o : Oper} {a : Act} {w w0 : World} {K : Act → World → Prop} {Q : Exit → Act → World → Prop} {R M : Nat} {ks : List Int}
theorem op_insY (m k x : Operand) (ho : o.op = .insert 88 m k x) (hm : a.eval m = .map (some M)) (kk : Int) (hk : a.eval k = .int .u8 kk) (v : Value) (hx : a.eval x = v) (h : Ls w0 w R M ks) (hn : kk ∉ ks) (he : entY w0 w R M (kk, v))
   (hK : ∀ w', Ls w0 w' R M (ks ++ [kk]) → Oy M w w' → K (a.put o.dst undef) w') : Oper.wp Tryd.prog o a w K Q := by
 obtain ⟨L, h1, h2, h3⟩ := h.ent
 obtain ⟨w', hrun, r1, r2, r3⟩ := h2.ins kk v (by rw [h1]; exact hn)
 unfold Oper.wp
 simp [execOp, ho, hm, hk, hx, hrun, Result.andThen]
 exact hK w' (h.ins h1 h3 r1 r2 r3 he) r2
end
theorem once_is (R j : Nat) (w : World) : Calls Tryd.prog 63 #[.pointer (some ⟨R, j, none⟩)] w fun e w' => ∃ b, e = .returned (.func (.func 89) #[] #[.pointer (some ⟨b, 0, none⟩)]) ∧ CB w' b #[.pointer (some ⟨R, j, none⟩)] 133 ∧ w.heap.size ≤ b ∧ Below w.heap.size w w' := by
 refine (once_any R j w).mono ?_
 rintro e w' ⟨rfl, rfl⟩
 exact ⟨_, rfl, CB.new _ _ _, Nat.le_refl _, (Below.refl _ w).alloc (Nat.le_refl _) _⟩
def lts : List Int := [112, 114, 113, 97, 68, 99, 79, 89, 83, 105, 70, 108, 101, 110, 118, 122, 111, 106, 65]
end

/- Package switches: the examples. (gen_yr.py) -/
section
set_option maxRecDepth 100000
open Go.RowKit Go.Shelf Go.Lib
def goW (f : Fp) : Nat → Pn → List UInt8 → List (List UInt8)
 | _, _, [] => []
 | 0, _, _ :: _ => []
 | n + 1, p, c :: t => (if letIx c = none ∧ (c = 113 ∨ c = 97) ∧ t.takeWhile (floatCs.contains ·) ≠ [] then [t.takeWhile (floatCs.contains ·)] else []) ++ (match stepS f c p t with
   | none => []
   | some q => goW f n q.1 q.2)
theorem stepS_as {f g : Fp} {c : UInt8} {p : Pn} {t : List UInt8} (h : letIx c = none → (c = 113 ∨ c = 97) → t.takeWhile (floatCs.contains ·) ≠ [] → f.rf (t.takeWhile (floatCs.contains ·)) = g.rf (t.takeWhile (floatCs.contains ·))) : stepS f c p t = stepS g c p t := by
 unfold stepS
 cases hl : letIx c with
 | some j => rfl
 | none =>
   simp only []
   by_cases h1 : c = 113
   · rw [if_pos h1, if_pos h1]
     by_cases h2 : t.takeWhile (floatCs.contains ·) = []
     · rw [if_pos h2, if_pos h2]
     · rw [if_neg h2, if_neg h2, h hl (Or.inl h1) h2]
   · rw [if_neg h1, if_neg h1]
     by_cases h3 : c = 97
     · rw [if_pos h3, if_pos h3]
       by_cases h2 : t.takeWhile (floatCs.contains ·) = []
       · rw [if_pos h2, if_pos h2]
       · rw [if_neg h2, if_neg h2, h hl (Or.inr h3) h2]
     · rw [if_neg h3, if_neg h3]
theorem goS_as {f g : Fp} : ∀ (n : Nat) (p : Pn) (t : List UInt8), (∀ w ∈ goW g n p t, f.rf w = g.rf w) → goS f n p t = goS g n p t := by
 intro n
 induction n with
 | zero => intro p t _; cases t <;> rfl
 | succ n ih =>
   intro p t h
   cases t with
   | nil => rfl
   | cons c t =>
     have h1 : stepS f c p t = stepS g c p t := stepS_as fun a b d => h _ (by
       unfold goW
       rw [if_pos ⟨a, b, d⟩]
       simp)
     simp only [goS]
     rw [h1]
     cases hs : stepS g c p t with
     | none => rfl
     | some q =>
       refine ih q.1 q.2 fun w hw => h w ?_
       unfold goW
       rw [hs]
       exact List.mem_append_right _ hw
theorem prsS_as {f g : Fp} (t : List UInt8) (h : ∀ w ∈ goW g (trS t).length p0 (trS t), f.rf w = g.rf w) : prsS f t = prsS g t := by
 unfold prsS
 rw [goS_as _ _ _ h]
theorem rf_ofY {p : Fp} (hp : p.Ok) {l : List UInt8} {n e : Int} {v : Nat} (ht : rdTell l = some (n, e)) (fv : Fin64 v) (lv : v < 18446744073709551616) (hv : fval v = (n : Rat) * p2 e) (h0 : n = 0 → v = 0) : p.rf l = (v, 0) := by
 have := FloatR.ok (hp.rf l) ht fv lv hv h0
 exact Prod.ext this.1 this.2
theorem rf_formY {p : Fp} (hp : p.Ok) {l : List UInt8} (ht : rdTell l = none) : p.rf l = (0, 4) := by
 have := FloatR.form (hp.rf l) ht
 exact Prod.ext this.1 this.2
def exW : List (List UInt8 × (Nat × Int)) := [([51, 48], (4629137466983448576, 0)), ([49, 98, 45, 51], (4593671619917905920, 0)), ([49, 98, 45, 49], (4602678819172646912, 0)), ([54, 49], (4633781804099174400, 0)), ([54, 48], (4633641066610819072, 0)), ([48], (0, 0)), ([49], (4607182418800017408, 0)), ([45, 49], (13830554455654793216, 0)), ([50], (4611686018427387904, 0)), ([49, 98], (0, 4)), ([45, 49, 98], (0, 4)), ([57, 48, 48, 55, 49, 57, 57, 50, 53, 52, 55, 52, 48, 57, 57, 51], (0, 10))]
def fex : Fp := ⟨fun l => ((exW.find? (·.1 == l)).map (·.2)).getD (0, 0), fun _ => []⟩
theorem exW_is {f : Fp} (hf : f.Ok) : ∀ q ∈ exW, f.rf q.1 = fex.rf q.1 := by
 intro q hq
 simp only [exW, List.mem_cons, List.not_mem_nil, or_false] at hq
 rcases hq with rfl | rfl | rfl | rfl | rfl | rfl | rfl | rfl | rfl | rfl | rfl | rfl
 · exact (rf_ofY hf (n := 30) (e := 0) (v := 4629137466983448576) (by decide +kernel) (by unfold Fin64 frung; decide) (by decide) (by decide +kernel) (by decide)).trans (by decide +kernel)
 · exact (rf_ofY hf (n := 1) (e := -3) (v := 4593671619917905920) (by decide +kernel) (by unfold Fin64 frung; decide) (by decide) (by decide +kernel) (by decide)).trans (by decide +kernel)
 · exact (rf_ofY hf (n := 1) (e := -1) (v := 4602678819172646912) (by decide +kernel) (by unfold Fin64 frung; decide) (by decide) (by decide +kernel) (by decide)).trans (by decide +kernel)
 · exact (rf_ofY hf (n := 61) (e := 0) (v := 4633781804099174400) (by decide +kernel) (by unfold Fin64 frung; decide) (by decide) (by decide +kernel) (by decide)).trans (by decide +kernel)
 · exact (rf_ofY hf (n := 60) (e := 0) (v := 4633641066610819072) (by decide +kernel) (by unfold Fin64 frung; decide) (by decide) (by decide +kernel) (by decide)).trans (by decide +kernel)
 · exact (rf_ofY hf (n := 0) (e := 0) (v := 0) (by decide +kernel) (by unfold Fin64 frung; decide) (by decide) (by decide +kernel) (by decide)).trans (by decide +kernel)
 · exact (rf_ofY hf (n := 1) (e := 0) (v := 4607182418800017408) (by decide +kernel) (by unfold Fin64 frung; decide) (by decide) (by decide +kernel) (by decide)).trans (by decide +kernel)
 · exact (rf_ofY hf (n := -1) (e := 0) (v := 13830554455654793216) (by decide +kernel) (by unfold Fin64 frung; decide) (by decide) (by decide +kernel) (by decide)).trans (by decide +kernel)
 · exact (rf_ofY hf (n := 2) (e := 0) (v := 4611686018427387904) (by decide +kernel) (by unfold Fin64 frung; decide) (by decide) (by decide +kernel) (by decide)).trans (by decide +kernel)
 · exact (rf_formY hf (by decide +kernel)).trans (by decide +kernel)
 · exact (rf_formY hf (by decide +kernel)).trans (by decide +kernel)
 · have := FloatR.no (hf.rf [57, 48, 48, 55, 49, 57, 57, 50, 53, 52, 55, 52, 48, 57, 57, 51]) (n := 9007199254740993) (e := 0) (by decide +kernel) (fun y hy _ => no_big (by decide) (by decide) y hy)
   exact (show f.rf [57, 48, 48, 55, 49, 57, 57, 50, 53, 52, 55, 52, 48, 57, 57, 51] = (0, 10) from Prod.ext this.1 this.2).trans (by decide +kernel)
theorem prsS_ex {f : Fp} (hf : f.Ok) {t : List UInt8} (h : (goW fex (trS t).length p0 (trS t)).all (fun w => exW.any (·.1 == w)) = true) : prsS f t = prsS fex t := by
 refine prsS_as t fun w hw => ?_
 have h1 := List.all_eq_true.1 h w hw
 obtain ⟨q, hq, he⟩ := List.any_eq_true.1 h1
 rw [← (show q.1 = w by simpa using he)]
 exact exW_is hf q hq
def exPA : Array Value := #[.bool true, .bool false, .bool true, .float .f64 4629137466983448576, .bool true, .float .f64 4593671619917905920, .bool false, .bool false, .bool false, .bool false, .bool false, .int .i64 (-1), .int .u8 1, .bool false, .bool false, .bool false, .bool false, .bool false, .bool false, .bool false, .bool false]
def exPB : Array Value := #[.bool true, .bool false, .bool true, .float .f64 4626322717216342016, .bool true, .float .f64 4602678819172646912, .bool true, .bool false, .bool false, .bool false, .bool false, .int .i64 (-1), .int .u8 1, .bool false, .bool false, .bool false, .bool false, .bool false, .bool false, .bool false, .bool false]
def pB : Pn := { ((((p0.on 0).on 4).on 6).on 2) with ang := 4626322717216342016, area := 4602678819172646912 }
def pA : Pn := { (((p0.on 0).on 2).on 4) with ang := 4629137466983448576, area := 4593671619917905920 }
theorem pA_is : (pls pA).toArray = exPA := by kernel_rfl
theorem exA_is {f : Fp} (hf : f.Ok) : (pls (prsS f [112, 113, 51, 48, 97, 49, 98, 45, 51]).1).toArray = exPA ∧ (prsS f [112, 113, 51, 48, 97, 49, 98, 45, 51]).2 = 0 := by
 rw [prsS_ex hf (by decide +kernel)]
 exact ⟨by kernel_rfl, by decide +kernel⟩
theorem exB_is {f : Fp} (hf : f.Ok) : (pls (prsS f [45, 112, 97, 49, 98, 45, 49, 97, 113]).1).toArray = exPB ∧ (prsS f [45, 112, 97, 49, 98, 45, 49, 97, 113]).2 = 0 := by
 rw [prsS_ex hf (by decide +kernel)]
 exact ⟨by kernel_rfl, by decide +kernel⟩
theorem pB_is : (pls pB).toArray = exPB := by kernel_rfl
theorem tx20 {f : Fp} (hf : f.Ok) : f.tx 4626322717216342016 = [50, 48] := by
 rw [(hf.tx 4626322717216342016 (by decide)).whole (by unfold Fin64 frung; decide) (k := 20) (by decide +kernel) (by decide) (by decide)]
 exact (itoa_rd (l := [50, 48]) (n := 20) (by decide +kernel)).2
theorem nw_halfY {x : Nat} (hv : fval x = ((1 : Int) : Rat) * p2 (-1)) : ¬ ∃ k : Int, fval x = (k : Rat) ∧ -9007199254740992 < k ∧ k < 9007199254740992 := by
 rintro ⟨k, e, _, _⟩
 rw [hv] at e
 have e2 : ((1 : Int) : Rat) * p2 (-1) = ((2 * k : Int) : Rat) * p2 (-1) := by
   rw [e, Rat.intCast_mul, Rat.mul_comm ((2 : Int) : Rat), Rat.mul_assoc]
   have : ((2 : Int) : Rat) * p2 (-1) = 1 := by decide +kernel
   rw [this, Rat.mul_one]
 have := int_eq (p2_pos _) e2
 omega
theorem txHalf {f : Fp} (hf : f.Ok) : f.tx 4602678819172646912 = [49, 98, 45, 49] := by
 have hv : fval 4602678819172646912 = ((1 : Int) : Rat) * p2 (-1) := by decide +kernel
 rw [(hf.tx 4602678819172646912 (by decide)).odd (by unfold Fin64 frung; decide) (n := 1) (e := -1) (by decide) hv (nw_halfY hv), (itoa_rd (l := [49]) (n := 1) (by decide +kernel)).2, (itoa_rd (l := [45, 49]) (n := -1) (by decide +kernel)).2]
 rfl
theorem exB_pr {f : Fp} (hf : f.Ok) : prtS f pB = ([112, 113, 50, 48, 97, 49, 98, 45, 49, 97], 0) := by
 unfold prtS
 rw [if_pos (by decide +kernel)]
 simp only [swS]
 rw [show pB.ang = 4626322717216342016 from rfl, show pB.area = 4602678819172646912 from rfl, tx20 hf, txHalf hf]
 rfl
end
end Go.Proofs.YtkgnlobakicnjaaDoor
