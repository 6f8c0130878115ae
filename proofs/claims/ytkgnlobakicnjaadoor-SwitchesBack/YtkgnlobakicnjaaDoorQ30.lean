/- Own texts, put together: Je Jf. -/
import Derived.Test.YtkgnlobakicnjaaDoorQ7
import Derived.Test.YtkgnlobakicnjaaDoorQ29
import Derived.RegionTactic
namespace Go.Proofs.YtkgnlobakicnjaaDoor
/- Package digits: odd, times. -/
section
open Go.RowKit Go.Shelf Go.Lib
def OddOf (n n' : Int) (k : Nat) : Prop := n = n' * ((2 ^ k : Nat) : Int) ∧ n' % 2 = 1 ∧ k < 64
theorem odd_math (n : Int) (h0 : n ≠ 0) (hn : InR n) : ∃ n' : Int, OddOf n n' (ctz 64 (n % 18446744073709551616).toNat) ∧ n / ((2 ^ ctz 64 (n % 18446744073709551616).toNat : Nat) : Int) = n' ∧ (n % 18446744073709551616).toNat ≠ 0 ∧ (n % 18446744073709551616).toNat < 18446744073709551616 := by
 obtain ⟨x, hx⟩ : ∃ x : Nat, (n % 18446744073709551616).toNat = x := ⟨_, rfl⟩
 obtain ⟨h1, h2⟩ := hn
 have hx0 : x ≠ 0 := by omega
 have hxl : x < 18446744073709551616 := by omega
 rw [hx]
 obtain ⟨m, e, hc⟩ := ctz_spec x hxl hx0
 obtain ⟨c, hcc⟩ : ∃ c, ctz 64 x = c := ⟨_, rfl⟩
 rw [hcc] at e hc ⊢
 have hp : (0 : Int) < ((2 ^ c : Nat) : Int) := by have := Nat.two_pow_pos c; omega
 have h64 : (2 ^ c * 2 ^ (64 - c) : Nat) = 18446744073709551616 := by rw [← Nat.pow_add, show c + (64 - c) = 64 by omega]
 obtain ⟨d, hd⟩ : ∃ d, 64 - c = d + 1 := ⟨63 - c, by omega⟩
 rw [hd, Nat.pow_succ] at h64
 obtain ⟨P, hP⟩ : ∃ P, 2 ^ c = P := ⟨_, rfl⟩
 rw [hP] at e hp h64
 generalize 2 ^ d = D at *
 have key : ∃ n', n = n' * (P : Int) ∧ n' % 2 = 1 := by
   by_cases h : n < 0
   · refine ⟨2 * (m : Int) + 1 - 2 * (D : Int), ?_, by omega⟩
     have e1 : n = (x : Int) - 18446744073709551616 := by omega
     have e2 : (x : Int) = (P : Int) * (2 * (m : Int) + 1) := by rw [e, Int.natCast_mul, show ((2 * m + 1 : Nat) : Int) = 2 * (m : Int) + 1 by omega]
     have e3 : (P : Int) * ((D : Int) * 2) = 18446744073709551616 := by rw [show (D : Int) * 2 = ((D * 2 : Nat) : Int) by omega, ← Int.natCast_mul, h64]; rfl
     rw [e1, e2, ← e3]
     rw [Int.sub_mul, Int.mul_comm (P : Int) (2 * (m : Int) + 1), Int.mul_comm (P : Int) ((D : Int) * 2), Int.mul_comm (D : Int) 2]
   · refine ⟨2 * (m : Int) + 1, ?_, by omega⟩
     have e1 : n = (x : Int) := by omega
     have e2 : (x : Int) = (P : Int) * (2 * (m : Int) + 1) := by rw [e, Int.natCast_mul, show ((2 * m + 1 : Nat) : Int) = 2 * (m : Int) + 1 by omega]
     rw [e1, e2, Int.mul_comm]
 obtain ⟨n', k1, k2⟩ := key
 exact ⟨n', ⟨by rw [hP]; exact k1, k2, hc⟩, by rw [hP, k1]; exact Int.mul_ediv_cancel _ (by omega), hx0, hxl⟩
set_option maxHeartbeats 1000000 in
theorem odd_any (n e : Int) (h0 : n ≠ 0) (hn : InR n) (he1 : -9223372036854775808 ≤ e) (he2 : e ≤ 4611686018427387904) :
   ∃ n' k, OddOf n n' k ∧ ∀ w, Tab w → Calls Tryd.prog 58 #[.int .i64 n, .int .i64 e] w fun r w' => r = .returned (.tuple #[.int .i64 n', .int .i64 (e + (k : Nat))]) ∧ w' = w := by
 obtain ⟨n', ho, hdiv, hx0, hxl⟩ := odd_math n h0 hn
 obtain ⟨x, hx⟩ : ∃ x : Nat, (n % 18446744073709551616).toNat = x := ⟨_, rfl⟩
 rw [hx] at ho hdiv hx0 hxl
 obtain ⟨c, hcc⟩ : ∃ c, ctz 64 x = c := ⟨_, rfl⟩
 have HZ : Hid (∀ w, Tab w → Calls Tryd.prog 83 #[.int .u64 x] w fun e w' => e = .returned (.int .i64 (c : Nat)) ∧ w' = w) := fun w hT => by have := tz64_any x hxl hx0 w hT; rwa [hcc] at this
 rw [hcc] at ho hdiv
 refine ⟨n', c, ho, fun w hT => ?_⟩
 have HT : Hid (Tab w) := hT
 have hc := ho.2.2
 have hxe : IntKind.u64.wrap n = (x : Int) := by rw [IntKind.wrap_u64]; omega
 have HO := Lib.hid ho
 have HD := Lib.hid hdiv
 clear ho hdiv hx hcc hx0 hxl h0 hn hT
 go_enter Tryd.func58, Tryd.ntmps58
 go_wp2_with (first
   | (go_at_call 83; refine (HZ.out _ HT.out).mono ?_; rintro e w' ⟨rfl, rfl⟩))
 go_ret2
 exact ⟨ret_ii1 (by rw [← HD.out, Int.natCast_pow]; rfl), rfl⟩
theorem nat_of_rat {a b : Nat} {u : Rat} (hu : 0 < u) (h : ((a : Nat) : Rat) * u = ((b : Nat) : Rat) * u) : a = b := by
 have := int_eq hu (show ((a : Int) : Rat) * u = ((b : Int) : Rat) * u from h)
 omega
theorem fin_mag {y : Nat} (_hy : Fin64 y) : ∃ (m : Nat) (p : Int), m < 9007199254740992 ∧ -1074 ≤ p ∧ (fval y = (m : Rat) * p2 p ∨ fval y = -((m : Rat) * p2 p)) := by
 refine ⟨fmag (frung y), fpl (frung y), fmag_lt _, by unfold fpl; split <;> omega, ?_⟩
 rw [fval_eq]
 unfold sgn1
 cases fneg y
 · left; rw [if_neg (by decide), Rat.one_mul]
 · right; rw [if_pos rfl]; grind
theorem mag_of {n : Int} {e : Int} {m : Nat} {p : Int} {v : Rat} (h1 : v = (m : Rat) * p2 p ∨ v = -((m : Rat) * p2 p)) (h2 : v = (n : Rat) * p2 e) : ((m : Nat) : Rat) * p2 p = ((n.natAbs : Nat) : Rat) * p2 e := by
 have ha := abs_total n (p2 e)
 have hm : (0 : Rat) ≤ ((m : Nat) : Rat) * p2 p := Rat.mul_nonneg Rat.natCast_nonneg (Rat.le_of_lt (p2_pos _))
 have hn : (0 : Rat) ≤ ((n.natAbs : Nat) : Rat) * p2 e := Rat.mul_nonneg Rat.natCast_nonneg (Rat.le_of_lt (p2_pos _))
 generalize ((m : Nat) : Rat) * p2 p = X at *
 generalize ((n.natAbs : Nat) : Rat) * p2 e = Y at *
 generalize (n : Rat) * p2 e = Z at *
 split at ha <;> rcases h1 with h1 | h1 <;> grind
theorem no_big {n e : Int} (ho : n % 2 = 1) (h : 9007199254740992 ≤ n.natAbs) : ∀ y, Fin64 y → fval y ≠ (n : Rat) * p2 e := by
 intro y hy hv
 obtain ⟨m, p, hm, hp, hd⟩ := fin_mag hy
 have hq := mag_of hd hv
 rcases Int.le_total e p with h1 | h1
 · obtain ⟨k, hk⟩ : ∃ k : Nat, p = (k : Int) + e := ⟨(p - e).toNat, by omega⟩
   rw [hk, p2_add, ← Rat.mul_assoc, ← nat_mul_p2] at hq
   have := nat_of_rat (p2_pos e) hq
   cases k with
   | zero => rw [Nat.pow_zero] at this; omega
   | succ k => rw [Nat.pow_succ, ← Nat.mul_assoc] at this; omega
 · obtain ⟨k, hk⟩ : ∃ k : Nat, e = (k : Int) + p := ⟨(e - p).toNat, by omega⟩
   rw [hk, p2_add, ← Rat.mul_assoc, ← nat_mul_p2] at hq
   have := nat_of_rat (p2_pos p) hq
   have h2 : n.natAbs * 1 ≤ n.natAbs * 2 ^ k := Nat.mul_le_mul_left _ (Nat.two_pow_pos k)
   omega
theorem no_low {n e : Int} (ho : n % 2 = 1) (h : e < -1074) : ∀ y, Fin64 y → fval y ≠ (n : Rat) * p2 e := by
 intro y hy hv
 obtain ⟨m, p, hm, hp, hd⟩ := fin_mag hy
 have hq := mag_of hd hv
 obtain ⟨k, hk⟩ : ∃ k : Nat, p = ((k + 1 : Nat) : Int) + e := ⟨(p - e - 1).toNat, by omega⟩
 rw [hk, p2_add, ← Rat.mul_assoc, ← nat_mul_p2] at hq
 have := nat_of_rat (p2_pos e) hq
 rw [Nat.pow_succ, ← Nat.mul_assoc] at this
 omega
theorem p2_log (m : Nat) (hm : m ≠ 0) : p2 ((Nat.log2 m : Nat) : Int) ≤ ((m : Nat) : Rat) := by
 rw [p2_nat]; exact Rat.natCast_le_natCast.2 (Nat.log2_self_le hm)
theorem no_high {n e : Int} (h0 : n ≠ 0) (h : 1024 ≤ e + ((Nat.log2 n.natAbs : Nat) : Int)) : ∀ y, Fin64 y → y < 18446744073709551616 → fval y ≠ (n : Rat) * p2 e := by
 intro y hy ly hv
 have ha := abs_total n (p2 e)
 have hX0 : (0 : Rat) ≤ ((n.natAbs : Nat) : Rat) * p2 e := Rat.mul_nonneg Rat.natCast_nonneg (Rat.le_of_lt (p2_pos _))
 have hl : p2 (e + ((Nat.log2 n.natAbs : Nat) : Int)) ≤ ((n.natAbs : Nat) : Rat) * p2 e := by
   rw [p2_add, Rat.mul_comm]
   exact Rat.mul_le_mul_of_nonneg_right (p2_log _ (by omega)) (Rat.le_of_lt (p2_pos _))
 have hm := p2_mono h
 have hy0 : fval y ≠ 0 := by
   rw [hv]
   intro e0
   have hp := p2_pos (e + ((Nat.log2 n.natAbs : Nat) : Int))
   rw [e0] at ha
   split at ha <;> grind
 obtain ⟨b1, _⟩ := fin_bounds hy ly hy0 (X := ((n.natAbs : Nat) : Rat) * p2 e) (by
   rw [hv]
   split at ha
   · right; rw [ha]; grind
   · left; rw [ha]) hX0
 grind
set_option maxRecDepth 100000 in
theorem word_exists (m : Nat) (e : Int) (hm : m ≠ 0) (h53 : m < 9007199254740992) (he : -1074 ≤ e) (hh : e + ((Nat.log2 m : Nat) : Int) ≤ 1023) : ∃ r, r < 9218868437227405312 ∧ fval r = ((m : Nat) : Rat) * p2 e := by
 obtain ⟨p, hp⟩ : ∃ p, Nat.log2 m = p := ⟨_, rfl⟩
 have a1 := Nat.log2_self_le hm
 have a2 : m < 2 ^ (Nat.log2 m + 1) := Nat.lt_log2_self
 have a3 : Nat.log2 m < 53 := (Nat.log2_lt hm).2 h53
 rw [hp] at a1 a2 a3 hh
 by_cases h : e + (p : Int) < -1022
 · obtain ⟨j, hj⟩ : ∃ j : Nat, e = (j : Int) + -1074 := ⟨(e + 1074).toNat, by omega⟩
   have hk : m * 2 ^ j < 4503599627370496 := by
     have b := Nat.mul_lt_mul_of_pos_right a2 (Nat.two_pow_pos j)
     rw [← Nat.pow_add] at b
     have c : 2 ^ (p + 1 + j) ≤ 2 ^ 52 := Nat.pow_le_pow_right (by omega) (by omega)
     omega
   obtain ⟨q, hq⟩ : ∃ q, m * 2 ^ j = q := ⟨_, rfl⟩
   rw [hq] at hk
   clear a1 a2
   have q1 : q < 9218868437227405312 := Nat.lt_trans hk (by decide)
   have q2 : q ≤ 9007199254740992 := Nat.le_of_lt (Nat.lt_trans hk (by decide))
   have := fval_rung 0 q q2 (Or.inl rfl) (by rw [Nat.zero_mul, Nat.zero_add]; exact q1)
   refine ⟨0 * 4503599627370496 + q, by rw [Nat.zero_mul, Nat.zero_add]; exact q1, this.trans ?_⟩
   rw [← hq, nat_mul_p2, hj, p2_add, Rat.mul_assoc]
   rfl
 · obtain ⟨j, hj⟩ : ∃ j : Nat, j + p = 52 := ⟨52 - p, by omega⟩
   obtain ⟨T, hT⟩ : ∃ T : Nat, (T : Int) = e + (p : Int) + 1022 := ⟨(e + (p : Int) + 1022).toNat, by omega⟩
   have b1 := Nat.mul_le_mul_right (2 ^ j) a1
   have b2 := Nat.mul_lt_mul_of_pos_right a2 (Nat.two_pow_pos j)
   rw [← Nat.pow_add, show p + j = 52 by omega] at b1
   rw [← Nat.pow_add, show p + 1 + j = 53 by omega] at b2
   obtain ⟨q, hq⟩ : ∃ q, m * 2 ^ j = q := ⟨_, rfl⟩
   rw [hq] at b1 b2
   clear a1 a2
   have hT2 : T ≤ 2045 := by omega
   have q1 : T * 4503599627370496 + q < 9218868437227405312 := by
     have := Nat.mul_le_mul_right 4503599627370496 hT2
     clear hj hT h hh he hp a3 h53 hm hq
     omega
   have := fval_rung T q (Nat.le_of_lt b2) (Or.inr b1) q1
   refine ⟨T * 4503599627370496 + q, q1, this.trans ?_⟩
   rw [← hq, nat_mul_p2]
   unfold U
   rw [Rat.mul_assoc, ← p2_add]
   congr 2
   omega
theorem word_signed (n e : Int) (h0 : n ≠ 0) (h53 : n.natAbs < 9007199254740992) (he : -1074 ≤ e) (hh : e + ((Nat.log2 n.natAbs : Nat) : Int) ≤ 1023) : ∃ z, Fin64 z ∧ z < 18446744073709551616 ∧ fval z = (n : Rat) * p2 e ∧ fval z ≠ 0 := by
 obtain ⟨r, hr, hv⟩ := word_exists n.natAbs e (by omega) h53 he hh
 have ha := abs_total n (p2 e)
 have hp : 0 < ((n.natAbs : Nat) : Rat) * p2 e := Rat.mul_pos (Rat.natCast_pos.2 (by omega)) (p2_pos _)
 split at ha
 · refine ⟨9223372036854775808 + r, by unfold Fin64 frung; omega, by omega, ?_, ?_⟩
   · rw [fval_word hr, hv, ha]; grind
   · rw [fval_word hr, hv]; grind
 · exact ⟨r, by unfold Fin64 frung; omega, by omega, by rw [hv, ha], by rw [hv]; grind⟩
def TimesR (n e : Int) (x : Nat) (ok : Bool) : Prop :=
 (ok = true ∧ Fin64 x ∧ x < 18446744073709551616 ∧ fval x = (n : Rat) * p2 e ∧ (n = 0 → x = 0)) ∨ (ok = false ∧ x = 0 ∧ ∀ y, Fin64 y → y < 18446744073709551616 → fval y ≠ (n : Rat) * p2 e)
theorem odd_val {n n' e : Int} {k : Nat} (h : OddOf n n' k) : (n : Rat) * p2 e = (n' : Rat) * p2 (e + (k : Nat)) := by
 rw [h.1, Rat.intCast_mul, Int.add_comm, p2_add, p2_nat, Rat.mul_assoc]
 rfl
set_option maxHeartbeats 2000000 in
theorem times_any (n e : Int) (hn : InR n) (he : InR e) :
   ∃ x ok, TimesR n e x ok ∧ ∀ w, Tab w → Calls Tryd.prog 105 #[.int .i64 n, .int .i64 e] w fun r w' => r = .returned (.tuple #[.float .f64 x, .bool ok]) ∧ w' = w := by
 by_cases h0 : n = 0
 · subst h0
   refine ⟨0, true, Or.inl ⟨rfl, fin_zero, by omega, by rw [fval_zero]; show (0 : Rat) = 0 * _; grind, fun _ => rfl⟩, fun w hT => ?_⟩
   clear hT
   go_enter Tryd.func105, Tryd.ntmps105
   go_wp2
   go_ret2
   exact ⟨rfl, rfl⟩
 by_cases h1 : 1023 < e
 · refine ⟨0, false, Or.inr ⟨rfl, rfl, no_high h0 (by omega)⟩, fun w hT => ?_⟩
   clear hT
   go_enter Tryd.func105, Tryd.ntmps105
   go_wp2
   go_ret2
   exact ⟨rfl, rfl⟩
 obtain ⟨n', k, ho, hc⟩ := odd_any n e h0 hn he.1 (by omega)
 obtain ⟨he1, he2⟩ := he
 have hval := odd_val (e := e) ho
 have hodd := ho.2.1
 have hk := ho.2.2
 have hn' : n'.natAbs ≤ 9223372036854775808 ∧ n' ≠ 0 := by
   refine ⟨?_, by omega⟩
   have e1 := congrArg Int.natAbs ho.1
   rw [Int.natAbs_mul, Int.natAbs_natCast] at e1
   have e2 : n'.natAbs * 1 ≤ n'.natAbs * 2 ^ k := Nat.mul_le_mul_left _ (Nat.two_pow_pos k)
   have := hn.1
   have := hn.2
   omega
 have hn1 : -9223372036854775807 ≤ n' := by omega
 have hn2 : n' ≤ 9223372036854775807 := by omega
 obtain ⟨L, hL⟩ : ∃ L : Nat, Nat.log2 n'.natAbs + 1 = L := ⟨_, rfl⟩
 have hLb : L ≤ 64 := by
   have := (Nat.log2_lt (n := n'.natAbs) (k := 64) (by omega)).2 (by omega)
   omega
 have HL : Hid (∀ w, Calls Tryd.prog 119 #[.int .u64 (max n' (-n'))] w fun e w' => e = .returned (.int .i64 (L : Nat)) ∧ w' = w) := fun w => by
   have := len64_any (n'.natAbs : Nat) w (by omega) (by omega)
   rw [Int.toNat_natCast, hL] at this
   rw [show max n' (-n') = (n'.natAbs : Nat) by rw [Int.max_def]; split <;> omega]
   exact this
 obtain ⟨ek, hek⟩ : ∃ ek : Int, e + (k : Nat) = ek := ⟨_, rfl⟩
 rw [hek] at hc hval
 have hek1 : -9223372036854775808 ≤ ek := by omega
 have hek2 : ek ≤ 1086 := by omega
 have HC : Hid (∀ w, Tab w → Calls Tryd.prog 58 #[.int .i64 n, .int .i64 e] w fun r w' => r = .returned (.tuple #[.int .i64 n', .int .i64 ek]) ∧ w' = w) := hc
 have hno : ∀ (P : Prop), (P → ∀ y, Fin64 y → y < 18446744073709551616 → fval y ≠ (n' : Rat) * p2 ek) → P → TimesR n e 0 false := fun P h hP => Or.inr ⟨rfl, rfl, by rw [hval]; exact h hP⟩
 have HW : Hid (L = Nat.log2 n'.natAbs + 1) := hL.symm
 have H53 : Hid (53 < L ↔ 9007199254740992 ≤ n'.natAbs) := by
   show 53 < L ↔ 9007199254740992 ≤ n'.natAbs
   have := Nat.log2_lt (n := n'.natAbs) (k := 53) (by omega)
   omega
 have HV := Lib.hid hval
 clear hval hc hL hek ho
 have HLi : (L : Int) ≤ 64 := by omega
 by_cases hA : 53 < L
 · refine ⟨0, false, hno _ (fun _ y hy _ => no_big hodd (H53.out.1 hA) y hy) hA, fun w hT => ?_⟩
   have HT : Hid (Tab w) := hT
   clear hno hT
   go_enter Tryd.func105, Tryd.ntmps105
   go_wp2_with (first
     | (go_at_call 58; refine (HC.out _ HT.out).mono ?_; rintro e w' ⟨rfl, rfl⟩)
     | (go_at_call 119; refine (HL.out _).mono ?_; rintro e w' ⟨rfl, rfl⟩))
   go_ret2
   exact ⟨rfl, rfl⟩
 by_cases hB : ek < -1074
 · refine ⟨0, false, hno _ (fun _ y hy _ => no_low hodd hB y hy) hB, fun w hT => ?_⟩
   have HT : Hid (Tab w) := hT
   clear hno hT
   go_enter Tryd.func105, Tryd.ntmps105
   go_wp2_with (first
     | (go_at_call 58; refine (HC.out _ HT.out).mono ?_; rintro e w' ⟨rfl, rfl⟩)
     | (go_at_call 119; refine (HL.out _).mono ?_; rintro e w' ⟨rfl, rfl⟩))
   go_ret2
   exact ⟨rfl, rfl⟩
 by_cases hD : 1023 < ek + (L : Int) - 1
 · refine ⟨0, false, hno _ (fun _ => no_high hn'.2 (by have := HW.out; omega)) hD, fun w hT => ?_⟩
   have HT : Hid (Tab w) := hT
   clear hno hT
   go_enter Tryd.func105, Tryd.ntmps105
   go_wp2_with (first
     | (go_at_call 58; refine (HC.out _ HT.out).mono ?_; rintro e w' ⟨rfl, rfl⟩)
     | (go_at_call 119; refine (HL.out _).mono ?_; rintro e w' ⟨rfl, rfl⟩))
   go_ret2
   exact ⟨rfl, rfl⟩
 obtain ⟨z, fz, lz, vz, z0⟩ := word_signed n' ek hn'.2 (by have := H53.out; omega) (by omega) (by have := HW.out; omega)
 refine ⟨z, true, Or.inl ⟨rfl, fz, lz, by rw [vz, HV.out], fun h => absurd h h0⟩, fun w hT => ?_⟩
 obtain ⟨ff, lf, vf⟩ := fwJ_val (n := n') (by have := H53.out; omega) (by have := H53.out; omega)
 have HX : Hid (∀ w, Calls Tryd.prog 59 #[.float .f64 (floatOfInt .f64 n'), .int .i64 ek] w fun e w' => e = .returned (.float .f64 z) ∧ w' = w) := fun w => Ldexp_val (fwJ n') z ek w ff lf fz lz (by rw [vz, vf]) z0 (by omega) (by omega)
 have HT : Hid (Tab w) := hT
 clear hT hno ff lf vf fz lz vz z0
 go_enter Tryd.func105, Tryd.ntmps105
 go_wp2_with (first
     | (go_at_call 58; refine (HC.out _ HT.out).mono ?_; rintro e w' ⟨rfl, rfl⟩)
     | (go_at_call 119; refine (HL.out _).mono ?_; rintro e w' ⟨rfl, rfl⟩)
     | (go_at_call 59; refine (HX.out _).mono ?_; rintro e w' ⟨rfl, rfl⟩))
 go_ret2
 exact ⟨rfl, rfl⟩
end

/- Package digits: Float (a text is cut at its b), Text. -/
section
set_option maxRecDepth 100000
open Go.RowKit Go.Shelf Go.Lib
set_option maxHeartbeats 1000000 in
theorem indexByte_any (s : ByteArray) (c : Int) (w : World) :
   Calls Tryd.prog 107 #[.string s, .int .u8 c] w fun e w' => e = .returned (.int .i64 (indexByte s.data.toList c.toNat.toUInt8)) ∧ w' = w := by
 go_enter Tryd.func107, Tryd.ntmps107
 go_wp2
 rw [run_callFunc_extern Tryd.func120 (by kernel_rfl) (by kernel_rfl) (by kernel_rfl) (e := Extern.BytealgIndexByte.indexByte) (by kernel_rfl), Lib.run_indexByteString]
 simp only [Result.andThen]
 rw [Oper.upon_value]
 go_wp2
 go_ret
 exact ⟨rfl, rfl⟩
set_option maxHeartbeats 1000000 in
theorem index_any (s : ByteArray) (w : World) :
   Calls Tryd.prog 95 #[.string s, .string ⟨#[98]⟩] w fun e w' => e = .returned (.int .i64 (indexByte s.data.toList 98)) ∧ w' = w := by
 have HI : Hid (∀ w, Calls Tryd.prog 107 #[.string s, .int .u8 98] w fun e w' => e = .returned (.int .i64 (indexByte s.data.toList 98)) ∧ w' = w) := fun w => indexByte_any s 98 w
 have HS : Hid (s.toList = s.data.toList) := Lib.toList_data s
 by_cases h : s.data.toList = [98]
 · have h1 : ([98] == s.toList) = true := by rw [HS.out, h]; rfl
   have h2 : indexByte s.data.toList 98 = 0 := by rw [h]; rfl
   rw [h2]
   clear h2 h
   go_enter Tryd.func95, Tryd.ntmps95
   go_wp2_with (first | (go_at_call 107; refine (HI.out _).mono ?_; rintro e w' ⟨rfl, rfl⟩))
   go_ret
   exact ⟨rfl, rfl⟩
 · have h1 : ([98] == s.toList) = false := by rw [HS.out, beq_eq_false_iff_ne]; exact fun e => h e.symm
   clear h
   go_enter Tryd.func95, Tryd.ntmps95
   go_wp2_with (first | (go_at_call 107; refine (HI.out _).mono ?_; rintro e w' ⟨rfl, rfl⟩))
   go_ret
   exact ⟨rfl, rfl⟩
def cutV (s : ByteArray) : Value := match cutb s.data.toList with
 | none => .tuple #[.string s, .string ⟨#[]⟩, .bool false]
 | some (h, t) => .tuple #[sv h, sv t, .bool true]
set_option maxHeartbeats 1000000 in
theorem cutlite_any (s : ByteArray) (w : World) (hs : s.size ≤ 1000000) :
   Calls Tryd.prog 72 #[.string s, .string ⟨#[98]⟩] w fun e w' => e = .returned (cutV s) ∧ Below w.heap.size w w' := by
 have HI : Hid (∀ w, Calls Tryd.prog 95 #[.string s, .string ⟨#[98]⟩] w fun e w' => e = .returned (.int .i64 (indexByte s.data.toList 98)) ∧ w' = w) := fun w => index_any s w
 have hsz := Lib.size_eq s
 rcases cutb_index s.data.toList with ⟨e1, e2⟩ | ⟨i, e2, hi, e1⟩
 · rw [e2] at HI
   have hv : cutV s = .tuple #[.string s, .string ⟨#[]⟩, .bool false] := by unfold cutV; rw [e1]
   rw [hv]
   clear e1 e2 hv
   go_enter Tryd.func72, Tryd.ntmps72
   go_wp2_with (first
     | (go_at_call 95; refine (HI.out _).mono ?_; rintro e w' ⟨rfl, rfl⟩))
   go_ret3
   exact ⟨rfl, Below.refl _ _⟩
 · rw [e2] at HI
   have hv : cutV s = .tuple #[.string (s.extract 0 i), .string (s.extract (i + 1) s.size), .bool true] := by
     unfold cutV
     rw [e1, Lib.extract_eq, Lib.extract_eq]
     show Value.tuple #[sv _, sv _, _] = _
     rw [List.drop_zero, Nat.sub_zero, List.take_of_length_le (l := s.data.toList.drop (i + 1)) (by rw [List.length_drop]; omega)]
   rw [hv]
   rw [← hsz] at hi
   have c1 : (0 : Int) ≤ (i : Int) := by omega
   have c2 : (i : Int) ≤ (s.size : Int) := by omega
   have c3 : (0 : Int) ≤ (i : Int) + 1 := by omega
   have c4 : (i : Int) + 1 ≤ (s.size : Int) := by omega
   clear e1 e2 hv hsz
   go_enter Tryd.func72, Tryd.ntmps72
   go_wp2_with (first
     | (go_at_call 95; refine (HI.out _).mono ?_; rintro e w' ⟨rfl, rfl⟩))
   go_region
   go_wp2
   go_ret3
   exact ⟨rfl, rfl, rfl, rfl, Nat.le_refl _, fun _ _ => rfl⟩
set_option maxHeartbeats 1000000 in
theorem cut_any (s : ByteArray) (w : World) (hs : s.size ≤ 1000000) :
   Calls Tryd.prog 47 #[.string s, .string ⟨#[98]⟩] w fun e w' => e = .returned (cutV s) ∧ Below w.heap.size w w' := by
 obtain ⟨a, b, c, hv⟩ : ∃ a b c, cutV s = .tuple #[a, b, c] := by
   unfold cutV
   split
   · exact ⟨_, _, _, rfl⟩
   · exact ⟨_, _, _, rfl⟩
 have HI : Hid (∀ w, Calls Tryd.prog 72 #[.string s, .string ⟨#[98]⟩] w fun e w' => e = .returned (.tuple #[a, b, c]) ∧ Below w.heap.size w w') := fun w => by
   have := cutlite_any s w hs
   rwa [hv] at this
 rw [hv]
 clear hv
 go_enter Tryd.func47, Tryd.ntmps47
 go_wp2_with (first
   | (go_at_call 72; refine (HI.out _).mono ?_; rintro e w' ⟨rfl, hb⟩))
 go_ret3
 exact ⟨rfl, hb⟩
def FloatR (l : List UInt8) (x : Nat) (er : Int) : Prop :=
 (rdTell l = none ∧ x = 0 ∧ er = 4) ∨ ∃ n e ok, rdTell l = some (n, e) ∧ TimesR n e x ok ∧ er = if ok then 0 else 10
theorem rd_zero : rdInt [48] = some 0 := by decide
def hd8 (l : List UInt8) : List UInt8 := match cutb l with | none => l | some p => p.1
def tl8 (l : List UInt8) : List UInt8 := match cutb l with | none => [48] | some p => p.2
theorem tell8 (l : List UInt8) : rdTell l = (rdInt (hd8 l)).bind fun n => (rdInt (tl8 l)).map fun e => (n, e) := by
 unfold rdTell hd8 tl8
 cases cutb l with
 | none =>
   simp only []
   rw [rd_zero]
   cases rdInt l <;> rfl
 | some p => rfl
set_option maxHeartbeats 2000000 in
theorem float_core (s : ByteArray) (hs : ¬ 400 < s.size) (f : Bool) (vh vt tt : ByteArray) (n1 e1 n2 e2 : Int) (x : Nat) (ok : Bool) (w : World) (hT : Tab w)
   (hC : ∀ w, Calls Tryd.prog 47 #[.string s, .string ⟨#[98]⟩] w fun e w' => e = .returned (.tuple #[.string vh, .string vt, .bool f]) ∧ Below w.heap.size w w')
   (htt : tt = if f then vt else ⟨#[48]⟩)
   (h1 : ∀ w, Calls Tryd.prog 77 #[.string vh] w fun e w' => e = .returned (.tuple #[.int .i64 n1, .int .i64 e1]) ∧ w' = w)
   (h2 : ∀ w, Calls Tryd.prog 77 #[.string tt] w fun e w' => e = .returned (.tuple #[.int .i64 n2, .int .i64 e2]) ∧ w' = w)
   (he1 : e1 = 0 ∨ e1 = 4) (he2 : e2 = 0 ∨ e2 = 4)
   (h3 : e1 = 0 ∧ e2 = 0 → ∀ w, Tab w → Calls Tryd.prog 105 #[.int .i64 n1, .int .i64 n2] w fun r w' => r = .returned (.tuple #[.float .f64 x, .bool ok]) ∧ w' = w) (hx : ok = false → x = 0) :
   Calls Tryd.prog 91 #[.string s] w fun r w' => r = .returned (.tuple #[.float .f64 (if e1 = 0 ∧ e2 = 0 then x else 0), .int .i64 (if e1 = 0 ∧ e2 = 0 then (if ok then 0 else 10) else 4)]) ∧ Below w.heap.size w w' := by
 have HT : Hid (Tab w) := hT
 have HC : Hid (∀ w, Calls Tryd.prog 47 #[.string s, .string ⟨#[98]⟩] w fun e w' => e = .returned (.tuple #[.string vh, .string vt, .bool f]) ∧ Below w.heap.size w w') := hC
 have H1 : Hid (∀ w, Calls Tryd.prog 77 #[.string vh] w fun e w' => e = .returned (.tuple #[.int .i64 n1, .int .i64 e1]) ∧ w' = w) := h1
 have H2 : Hid (∀ w, Calls Tryd.prog 77 #[.string tt] w fun e w' => e = .returned (.tuple #[.int .i64 n2, .int .i64 e2]) ∧ w' = w) := h2
 clear hC h1 h2 hT
 by_cases hb : e1 = 0 ∧ e2 = 0
 · have H3 : Hid (∀ w, Tab w → Calls Tryd.prog 105 #[.int .i64 n1, .int .i64 n2] w fun r w' => r = .returned (.tuple #[.float .f64 x, .bool ok]) ∧ w' = w) := h3 hb
   obtain ⟨rfl, rfl⟩ := hb
   rw [if_pos ⟨rfl, rfl⟩, if_pos ⟨rfl, rfl⟩]
   clear h3 he1 he2
   cases ok
   · obtain rfl := hx rfl
     rw [if_neg (by decide)]
     cases f
     · obtain rfl : tt = ⟨#[48]⟩ := htt
       go_enter Tryd.func91, Tryd.ntmps91
       go_wp2_with (first | (go_at_call 47; refine (HC.out _).mono ?_; rintro e wc ⟨rfl, hb⟩; have HB := Lib.hid hb; clear hb; refine Hid.out ?_))
       refine Lib.hid ?_
       go_wp2_with fail
       refine (H1.out _).mono ?_
       rintro e w' ⟨rfl, rfl⟩
       go_wp2_with fail
       refine (H2.out _).mono ?_
       rintro e w' ⟨rfl, rfl⟩
       go_wp2_with (first | (go_at_call 105; refine (H3.out _ (HT.out.later HB.out)).mono ?_; rintro e w' ⟨rfl, rfl⟩))
       go_ret2
       exact ⟨rfl, HB.out⟩
     · obtain rfl : tt = vt := htt
       go_enter Tryd.func91, Tryd.ntmps91
       go_wp2_with (first | (go_at_call 47; refine (HC.out _).mono ?_; rintro e wc ⟨rfl, hb⟩; have HB := Lib.hid hb; clear hb; refine Hid.out ?_))
       refine Lib.hid ?_
       go_wp2_with fail
       refine (H1.out _).mono ?_
       rintro e w' ⟨rfl, rfl⟩
       go_wp2_with fail
       refine (H2.out _).mono ?_
       rintro e w' ⟨rfl, rfl⟩
       go_wp2_with (first | (go_at_call 105; refine (H3.out _ (HT.out.later HB.out)).mono ?_; rintro e w' ⟨rfl, rfl⟩))
       go_ret2
       exact ⟨rfl, HB.out⟩
   · rw [if_pos rfl]
     clear hx
     cases f
     · obtain rfl : tt = ⟨#[48]⟩ := htt
       go_enter Tryd.func91, Tryd.ntmps91
       go_wp2_with (first | (go_at_call 47; refine (HC.out _).mono ?_; rintro e wc ⟨rfl, hb⟩; have HB := Lib.hid hb; clear hb; refine Hid.out ?_))
       refine Lib.hid ?_
       go_wp2_with fail
       refine (H1.out _).mono ?_
       rintro e w' ⟨rfl, rfl⟩
       go_wp2_with fail
       refine (H2.out _).mono ?_
       rintro e w' ⟨rfl, rfl⟩
       go_wp2_with (first | (go_at_call 105; refine (H3.out _ (HT.out.later HB.out)).mono ?_; rintro e w' ⟨rfl, rfl⟩))
       go_ret2
       exact ⟨rfl, HB.out⟩
     · obtain rfl : tt = vt := htt
       go_enter Tryd.func91, Tryd.ntmps91
       go_wp2_with (first | (go_at_call 47; refine (HC.out _).mono ?_; rintro e wc ⟨rfl, hb⟩; have HB := Lib.hid hb; clear hb; refine Hid.out ?_))
       refine Lib.hid ?_
       go_wp2_with fail
       refine (H1.out _).mono ?_
       rintro e w' ⟨rfl, rfl⟩
       go_wp2_with fail
       refine (H2.out _).mono ?_
       rintro e w' ⟨rfl, rfl⟩
       go_wp2_with (first | (go_at_call 105; refine (H3.out _ (HT.out.later HB.out)).mono ?_; rintro e w' ⟨rfl, rfl⟩))
       go_ret2
       exact ⟨rfl, HB.out⟩
 · rw [if_neg hb, if_neg hb]
   clear h3 hx
   cases f
   · obtain rfl : tt = ⟨#[48]⟩ := htt
     rcases he1 with rfl | rfl <;> rcases he2 with rfl | rfl
     · exact absurd ⟨rfl, rfl⟩ hb
     all_goals
       clear hb
       go_enter Tryd.func91, Tryd.ntmps91
       go_wp2_with (first | (go_at_call 47; refine (HC.out _).mono ?_; rintro e wc ⟨rfl, hb⟩; have HB := Lib.hid hb; clear hb; refine Hid.out ?_))
       refine Lib.hid ?_
       go_wp2_with fail
       refine (H1.out _).mono ?_
       rintro e w' ⟨rfl, rfl⟩
       go_wp2_with fail
       refine (H2.out _).mono ?_
       rintro e w' ⟨rfl, rfl⟩
       go_wp2_with fail
       go_ret2
       exact ⟨rfl, HB.out⟩
   · obtain rfl : tt = vt := htt
     rcases he1 with rfl | rfl <;> rcases he2 with rfl | rfl
     · exact absurd ⟨rfl, rfl⟩ hb
     all_goals
       clear hb
       go_enter Tryd.func91, Tryd.ntmps91
       go_wp2_with (first | (go_at_call 47; refine (HC.out _).mono ?_; rintro e wc ⟨rfl, hb⟩; have HB := Lib.hid hb; clear hb; refine Hid.out ?_))
       refine Lib.hid ?_
       go_wp2_with fail
       refine (H1.out _).mono ?_
       rintro e w' ⟨rfl, rfl⟩
       go_wp2_with fail
       refine (H2.out _).mono ?_
       rintro e w' ⟨rfl, rfl⟩
       go_wp2_with fail
       go_ret2
       exact ⟨rfl, HB.out⟩
theorem int_parts (o : Option Int) : ∃ n e, intR o = .tuple #[.int .i64 n, .int .i64 e] ∧ ((e = 0 ∧ o = some n) ∨ (e = 4 ∧ n = 0 ∧ o = none)) := by
 cases o with
 | none => exact ⟨0, 4, rfl, Or.inr ⟨rfl, rfl, rfl⟩⟩
 | some n => exact ⟨n, 0, rfl, Or.inl ⟨rfl, rfl⟩⟩
theorem cutV_parts (s : ByteArray) : ∃ vh vt f, cutV s = .tuple #[.string vh, .string vt, .bool f] ∧ vh.data.toList = hd8 s.data.toList ∧ (if f then vt else ⟨#[48]⟩ : ByteArray).data.toList = tl8 s.data.toList ∧ vh.size ≤ s.size + 1 ∧ (if f then vt else ⟨#[48]⟩ : ByteArray).size ≤ s.size + 1 := by
 unfold cutV hd8 tl8
 cases h : cutb s.data.toList with
 | none => exact ⟨s, ⟨#[]⟩, false, rfl, rfl, rfl, by omega, by show 1 ≤ _; omega⟩
 | some p =>
   obtain ⟨a, b⟩ := p
   have e := congrArg List.length (cutb_some h)
   rw [← Lib.size_eq, List.length_append, List.length_cons] at e
   exact ⟨⟨a.toArray⟩, ⟨b.toArray⟩, true, rfl, rfl, rfl, by rw [Lib.size_eq]; show a.length ≤ _; omega, by rw [Lib.size_eq]; show b.length ≤ _; omega⟩
set_option maxHeartbeats 2000000 in
theorem float_any (s : ByteArray) (hs : s.size ≤ 900000) :
   ∃ x er, FloatR s.data.toList x er ∧ ∀ w, Tab w → Calls Tryd.prog 91 #[.string s] w fun r w' => r = .returned (.tuple #[.float .f64 x, .int .i64 er]) ∧ Below w.heap.size w w' := by
 by_cases h4 : 400 < s.size
 · refine ⟨0, 4, Or.inl ⟨?_, rfl, rfl⟩, fun w hT => ?_⟩
   · cases h : rdTell s.data.toList with
     | none => rfl
     | some p => have := tell_length h; rw [← Lib.size_eq] at this; omega
   · clear hT
     go_enter Tryd.func91, Tryd.ntmps91
     go_wp2
     go_ret2
     exact ⟨rfl, Below.refl _ _⟩
 · obtain ⟨vh, vt, f, hv, hh, ht, hl1, hl2⟩ := cutV_parts s
   obtain ⟨n1, e1, q1, p1⟩ := int_parts (rdInt (hd8 s.data.toList))
   obtain ⟨n2, e2, q2, p2'⟩ := int_parts (rdInt (tl8 s.data.toList))
   have hc : ∀ w, Calls Tryd.prog 47 #[.string s, .string ⟨#[98]⟩] w fun e w' => e = .returned (.tuple #[.string vh, .string vt, .bool f]) ∧ Below w.heap.size w w' := fun w => by
     have := cut_any s w (by omega)
     rwa [hv] at this
   have h1 : ∀ w, Calls Tryd.prog 77 #[.string vh] w fun e w' => e = .returned (.tuple #[.int .i64 n1, .int .i64 e1]) ∧ w' = w := fun w => by
     have := int_any vh w (by omega)
     rwa [hh, q1] at this
   have h2 : ∀ w, Calls Tryd.prog 77 #[.string (if f then vt else ⟨#[48]⟩)] w fun e w' => e = .returned (.tuple #[.int .i64 n2, .int .i64 e2]) ∧ w' = w := fun w => by
     have := int_any (if f then vt else ⟨#[48]⟩) w (by omega)
     rwa [ht, q2] at this
   have he1 : e1 = 0 ∨ e1 = 4 := by rcases p1 with ⟨h, _⟩ | ⟨h, _⟩ <;> simp [h]
   have he2 : e2 = 0 ∨ e2 = 4 := by rcases p2' with ⟨h, _⟩ | ⟨h, _⟩ <;> simp [h]
   have htell := tell8 s.data.toList
   by_cases hb : e1 = 0 ∧ e2 = 0
   · have o1 : rdInt (hd8 s.data.toList) = some n1 := by
       rcases p1 with ⟨_, h⟩ | ⟨h, _, _⟩
       · exact h
       · omega
     have o2 : rdInt (tl8 s.data.toList) = some n2 := by
       rcases p2' with ⟨_, h⟩ | ⟨h, _, _⟩
       · exact h
       · omega
     obtain ⟨x, ok, hx, hcl⟩ := times_any n1 n2 (itoa_rd o1).1 (itoa_rd o2).1
     refine ⟨x, if ok then 0 else 10, Or.inr ⟨n1, n2, ok, by rw [htell, o1, o2]; rfl, hx, rfl⟩, fun w hT => ?_⟩
     have := float_core s h4 f vh vt _ n1 e1 n2 e2 x ok w hT hc rfl h1 h2 he1 he2 (fun _ => hcl) (fun h => by
       rcases hx with ⟨h', _⟩ | ⟨_, h', _⟩
       · rw [h] at h'; cases h'
       · exact h')
     rw [if_pos hb, if_pos hb] at this
     exact this
   · refine ⟨0, 4, Or.inl ⟨?_, rfl, rfl⟩, fun w hT => ?_⟩
     · rw [htell]
       rcases p1 with ⟨a1, a2⟩ | ⟨a1, _, a2⟩
       · rcases p2' with ⟨b1, b2⟩ | ⟨b1, _, b2⟩
         · exact absurd ⟨a1, b1⟩ hb
         · rw [a2, b2]; rfl
       · rw [a2]; rfl
     · have := float_core s h4 f vh vt _ n1 e1 n2 e2 0 false w hT hc rfl h1 h2 he1 he2 (fun h => absurd h hb) (fun _ => rfl)
       rw [if_neg hb, if_neg hb] at this
       exact this
end
end Go.Proofs.YtkgnlobakicnjaaDoor
