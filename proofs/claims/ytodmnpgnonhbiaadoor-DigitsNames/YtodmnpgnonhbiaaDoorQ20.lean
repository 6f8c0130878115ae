/- Own texts, put together: Ji Jl Jm. -/
import Derived.Test.YtodmnpgnonhbiaaDoorQ17
import Derived.Test.YtodmnpgnonhbiaaDoorQ19
import Derived.Deep.RegionWith
namespace Go.Proofs.YtodmnpgnonhbiaaDoor
/- The laws DigitsBack, DigitsTwice, DigitsWhole. (gen_ji.py) -/
section
open Go.RowKit Go.Shelf Go.Lib
theorem float_sv (l : List UInt8) (hl : l.length ≤ 100) : ∃ x er, FloatR l x er ∧ ∀ w, Tab w → Calls Tryd.prog 10 #[sv l] w fun r w' => r = .returned (.tuple #[.float .f64 x, .int .i64 er]) ∧ Below w.heap.size w w' :=
 float_any ⟨l.toArray⟩ (by rw [Lib.size_eq]; show l.length ≤ _; omega)
end

/- DigitsNames: its tables, and what package digits tells of them. (gen_jl.py) -/
section
open Go.RowKit Go.Shelf Go.Lib
def s1 : Nat → List UInt8
 | 0 => [51, 98, 45, 50]
 | 1 => [49, 50, 98, 45, 52]
 | 2 => [48, 98, 57, 57, 57, 57, 57]
 | 3 => [48, 98, 45, 57, 57, 57, 57, 57]
 | 4 => [45, 49, 98, 45, 49]
 | 5 => [57, 50, 50, 51, 51, 55, 50, 48, 51, 54, 56, 53, 52, 55, 55, 53, 56, 48, 55]
 | 6 => [57, 50, 50, 51, 51, 55, 50, 48, 51, 54, 56, 53, 52, 55, 55, 53, 56, 48, 55, 98, 48]
 | 7 => [45, 57, 50, 50, 51, 51, 55, 50, 48, 51, 54, 56, 53, 52, 55, 55, 53, 56, 48, 56]
 | 8 => [49, 98, 49, 48, 50, 52]
 | 9 => [49, 98, 49, 48, 50, 51]
 | 10 => [49, 98, 45, 49, 48, 55, 53]
 | 11 => [50, 98, 45, 49, 48, 55, 53]
 | 12 => [49, 98, 57, 50, 50, 51, 51, 55, 50, 48, 51, 54, 56, 53, 52, 55, 55, 53, 56, 48, 55]
 | 13 => [52, 54, 49, 49, 54, 56, 54, 48, 49, 56, 52, 50, 55, 51, 56, 55, 57, 48, 52, 98, 45, 57, 50, 50, 51, 51, 55, 50, 48, 51, 54, 56, 53, 52, 55, 55, 53, 56, 48, 56]
 | 14 => [57, 48, 48, 55, 49, 57, 57, 50, 53, 52, 55, 52, 48, 57, 57, 51]
 | 15 => [57, 48, 48, 55, 49, 57, 57, 50, 53, 52, 55, 52, 48, 57, 57, 50]
 | 16 => [98]
 | 17 => [49, 98]
 | 18 => [98, 49]
 | 19 => [49, 46, 53]
 | 20 => [49, 101, 53]
 | 21 => [43, 49]
 | 22 => [48, 49]
 | 23 => [49, 98, 43, 49]
 | 24 => [49, 98, 45, 48]
 | 25 => [49, 98, 48, 49]
 | 26 => [45, 48]
 | 27 => [49, 66, 49]
 | 28 => [49, 98, 49, 98, 49]
 | 29 => []
 | 30 => [57, 50, 50, 51, 51, 55, 50, 48, 51, 54, 56, 53, 52, 55, 55, 53, 56, 48, 56, 98, 45, 49]
 | _ => []
def f1 : Nat → Nat
 | 0 => 4604930618986332160
 | 1 => 4604930618986332160
 | 2 => 0
 | 3 => 0
 | 4 => 13826050856027422720
 | 5 => 0
 | 6 => 0
 | 7 => 14114281232179134464
 | 8 => 0
 | 9 => 9214364837600034816
 | 10 => 0
 | 11 => 1
 | 12 => 0
 | 13 => 0
 | 14 => 0
 | 15 => 4845873199050653696
 | 16 => 0
 | 17 => 0
 | 18 => 0
 | 19 => 0
 | 20 => 0
 | 21 => 0
 | 22 => 0
 | 23 => 0
 | 24 => 0
 | 25 => 0
 | 26 => 0
 | 27 => 0
 | 28 => 0
 | 29 => 0
 | 30 => 0
 | _ => 0
def e1 : Nat → Int
 | 0 => 0
 | 1 => 0
 | 2 => 0
 | 3 => 0
 | 4 => 0
 | 5 => 10
 | 6 => 10
 | 7 => 0
 | 8 => 10
 | 9 => 0
 | 10 => 10
 | 11 => 0
 | 12 => 10
 | 13 => 10
 | 14 => 10
 | 15 => 0
 | 16 => 4
 | 17 => 4
 | 18 => 4
 | 19 => 4
 | 20 => 4
 | 21 => 4
 | 22 => 4
 | 23 => 4
 | 24 => 4
 | 25 => 4
 | 26 => 4
 | 27 => 4
 | 28 => 4
 | 29 => 4
 | 30 => 4
 | _ => 0
def x2 : Nat → Nat
 | 0 => 4604930618986332160
 | 1 => 4617315517961601024
 | 2 => 13826050856027422720
 | 3 => 4845873199050653696
 | 4 => 4845873199050653695
 | 5 => 1
 | 6 => 9223372036854775808
 | 7 => 9221120237041090561
 | 8 => 18442240474082181120
 | 9 => 9218868437227405311
 | 10 => 13846317054350589952
 | _ => 0
def t2 : Nat → List UInt8
 | 0 => [51, 98, 45, 50]
 | 1 => [53]
 | 2 => [45, 49, 98, 45, 49]
 | 3 => [49, 98, 53, 51]
 | 4 => [57, 48, 48, 55, 49, 57, 57, 50, 53, 52, 55, 52, 48, 57, 57, 49]
 | 5 => [49, 98, 45, 49, 48, 55, 52]
 | 6 => [48]
 | 7 => []
 | 8 => []
 | 9 => [57, 48, 48, 55, 49, 57, 57, 50, 53, 52, 55, 52, 48, 57, 57, 49, 98, 57, 55, 49]
 | 10 => [45, 49, 50]
 | _ => []
def s3 : Nat → List UInt8
 | 0 => [48, 48, 55]
 | 1 => [43, 49]
 | 2 => [45, 48]
 | 3 => [57, 50, 50, 51, 51, 55, 50, 48, 51, 54, 56, 53, 52, 55, 55, 53, 56, 48, 56]
 | 4 => [45, 57, 50, 50, 51, 51, 55, 50, 48, 51, 54, 56, 53, 52, 55, 55, 53, 56, 48, 57]
 | 5 => []
 | 6 => [45]
 | 7 => [49, 46, 48]
 | 8 => [49, 98, 48]
 | _ => []
theorem far_lowJ {n e : Int} (h0 : n ≠ 0) (hn : InR n) (he : e < -2000) : ∀ y, Fin64 y → y < 18446744073709551616 → fval y ≠ (n : Rat) * p2 e := by
 obtain ⟨n', ho, _⟩ := odd_math n h0 hn
 intro y hy _
 rw [odd_val ho]
 have := ho.2.2
 exact no_low ho.2.1 (by omega) y hy
theorem nw_neg {x : Nat} {n e : Int} (ho : n % 2 = 1) (he : e < 0) (hv : fval x = (n : Rat) * p2 e) : ¬ ∃ k : Int, fval x = (k : Rat) ∧ -9007199254740992 < k ∧ k < 9007199254740992 := by
 rintro ⟨k, ek, _, _⟩
 obtain ⟨j, hj⟩ : ∃ j : Nat, 0 = ((j + 1 : Nat) : Int) + e := ⟨(-e - 1).toNat, by omega⟩
 have h1 : (n : Rat) * p2 e = ((k * ((2 ^ (j + 1) : Nat) : Int) : Int) : Rat) * p2 e := by
   rw [← hv, ek, Rat.intCast_mul, Rat.mul_assoc]
   show (k : Rat) = (k : Rat) * (((2 ^ (j + 1) : Nat) : Rat) * p2 e)
   rw [← p2_nat, ← p2_add, ← hj, p2_zero, Rat.mul_one]
 have := int_eq (p2_pos e) h1
 rw [Nat.pow_succ, Int.natCast_mul, ← Int.mul_assoc] at this
 omega
theorem nw_pos {x : Nat} {n e : Int} (hn : 1 ≤ n) (he : 53 ≤ e) (hv : fval x = (n : Rat) * p2 e) : ¬ ∃ k : Int, fval x = (k : Rat) ∧ -9007199254740992 < k ∧ k < 9007199254740992 := by
 rintro ⟨k, ek, _, hk⟩
 have h1 : (k : Rat) < ((9007199254740992 : Int) : Rat) := Rat.intCast_lt_intCast.2 hk
 have h2 : p2 53 ≤ p2 e := p2_mono he
 have h3 : p2 53 = ((9007199254740992 : Int) : Rat) := by rw [show (53 : Int) = ((53 : Nat) : Int) from rfl, p2_nat]; rfl
 have h4 : ((1 : Int) : Rat) * p2 e ≤ (n : Rat) * p2 e := Rat.mul_le_mul_of_nonneg_right (Rat.intCast_le_intCast.2 hn) (Rat.le_of_lt (p2_pos _))
 rw [show ((1 : Int) : Rat) = 1 from rfl, Rat.one_mul] at h4
 rw [← hv, ek] at h4
 rw [← h3] at h1
 grind
theorem s1_len : ∀ k, k < 31 → (s1 k).length ≤ 100 := by decide
theorem s3_len : ∀ k, k < 9 → (s3 k).length ≤ 100 := by decide
theorem s3_none : ∀ k, k < 9 → rdInt (s3 k) = none := by decide +kernel
theorem n1_0 (x : Nat) (er : Int) (h : FloatR (s1 0) x er) : x = f1 0 ∧ er = e1 0 :=
 h.ok (n := 3) (e := (-2)) (v := 4604930618986332160) (show rdTell (s1 0) = some (3, (-2)) by decide +kernel) (by unfold Fin64 frung; decide) (by decide) (by decide +kernel) (by decide)
theorem n1_1 (x : Nat) (er : Int) (h : FloatR (s1 1) x er) : x = f1 1 ∧ er = e1 1 :=
 h.ok (n := 12) (e := (-4)) (v := 4604930618986332160) (show rdTell (s1 1) = some (12, (-4)) by decide +kernel) (by unfold Fin64 frung; decide) (by decide) (by decide +kernel) (by decide)
theorem n1_2 (x : Nat) (er : Int) (h : FloatR (s1 2) x er) : x = f1 2 ∧ er = e1 2 :=
 h.ok (n := 0) (e := 99999) (v := 0) (show rdTell (s1 2) = some (0, 99999) by decide +kernel) fin_zero (by decide) (by rw [show ((0 : Int) : Rat) = 0 from rfl, Rat.zero_mul]; exact fval_zero) (fun _ => rfl)
theorem n1_3 (x : Nat) (er : Int) (h : FloatR (s1 3) x er) : x = f1 3 ∧ er = e1 3 :=
 h.ok (n := 0) (e := (-99999)) (v := 0) (show rdTell (s1 3) = some (0, (-99999)) by decide +kernel) fin_zero (by decide) (by rw [show ((0 : Int) : Rat) = 0 from rfl, Rat.zero_mul]; exact fval_zero) (fun _ => rfl)
theorem n1_4 (x : Nat) (er : Int) (h : FloatR (s1 4) x er) : x = f1 4 ∧ er = e1 4 :=
 h.ok (n := (-1)) (e := (-1)) (v := 13826050856027422720) (show rdTell (s1 4) = some ((-1), (-1)) by decide +kernel) (by unfold Fin64 frung; decide) (by decide) (by decide +kernel) (by decide)
theorem n1_5 (x : Nat) (er : Int) (h : FloatR (s1 5) x er) : x = f1 5 ∧ er = e1 5 :=
 h.no (n := 9223372036854775807) (e := 0) (show rdTell (s1 5) = some (9223372036854775807, 0) by decide +kernel) (fun y hy _ => no_big (by decide) (by decide) y hy)
theorem n1_6 (x : Nat) (er : Int) (h : FloatR (s1 6) x er) : x = f1 6 ∧ er = e1 6 :=
 h.no (n := 9223372036854775807) (e := 0) (show rdTell (s1 6) = some (9223372036854775807, 0) by decide +kernel) (fun y hy _ => no_big (by decide) (by decide) y hy)
theorem n1_7 (x : Nat) (er : Int) (h : FloatR (s1 7) x er) : x = f1 7 ∧ er = e1 7 :=
 h.ok (n := (-9223372036854775808)) (e := 0) (v := 14114281232179134464) (show rdTell (s1 7) = some ((-9223372036854775808), 0) by decide +kernel) (by unfold Fin64 frung; decide) (by decide) (by decide +kernel) (by decide)
theorem n1_8 (x : Nat) (er : Int) (h : FloatR (s1 8) x er) : x = f1 8 ∧ er = e1 8 :=
 h.no (n := 1) (e := 1024) (show rdTell (s1 8) = some (1, 1024) by decide +kernel) (no_high (by decide) (by decide))
theorem n1_9 (x : Nat) (er : Int) (h : FloatR (s1 9) x er) : x = f1 9 ∧ er = e1 9 :=
 h.ok (n := 1) (e := 1023) (v := 9214364837600034816) (show rdTell (s1 9) = some (1, 1023) by decide +kernel) (by unfold Fin64 frung; decide) (by decide) (by decide +kernel) (by decide)
theorem n1_10 (x : Nat) (er : Int) (h : FloatR (s1 10) x er) : x = f1 10 ∧ er = e1 10 :=
 h.no (n := 1) (e := (-1075)) (show rdTell (s1 10) = some (1, (-1075)) by decide +kernel) (fun y hy _ => no_low (by decide) (by decide) y hy)
theorem n1_11 (x : Nat) (er : Int) (h : FloatR (s1 11) x er) : x = f1 11 ∧ er = e1 11 :=
 h.ok (n := 2) (e := (-1075)) (v := 1) (show rdTell (s1 11) = some (2, (-1075)) by decide +kernel) (by unfold Fin64 frung; decide) (by decide) (by decide +kernel) (by decide)
theorem n1_12 (x : Nat) (er : Int) (h : FloatR (s1 12) x er) : x = f1 12 ∧ er = e1 12 :=
 h.no (n := 1) (e := 9223372036854775807) (show rdTell (s1 12) = some (1, 9223372036854775807) by decide +kernel) (no_high (by decide) (by decide))
theorem n1_13 (x : Nat) (er : Int) (h : FloatR (s1 13) x er) : x = f1 13 ∧ er = e1 13 :=
 h.no (n := 4611686018427387904) (e := (-9223372036854775808)) (show rdTell (s1 13) = some (4611686018427387904, (-9223372036854775808)) by decide +kernel) (far_lowJ (by decide) ⟨by decide, by decide⟩ (by decide))
theorem n1_14 (x : Nat) (er : Int) (h : FloatR (s1 14) x er) : x = f1 14 ∧ er = e1 14 :=
 h.no (n := 9007199254740993) (e := 0) (show rdTell (s1 14) = some (9007199254740993, 0) by decide +kernel) (fun y hy _ => no_big (by decide) (by decide) y hy)
theorem n1_15 (x : Nat) (er : Int) (h : FloatR (s1 15) x er) : x = f1 15 ∧ er = e1 15 :=
 h.ok (n := 9007199254740992) (e := 0) (v := 4845873199050653696) (show rdTell (s1 15) = some (9007199254740992, 0) by decide +kernel) (by unfold Fin64 frung; decide) (by decide) (by decide +kernel) (by decide)
theorem n1_16 (x : Nat) (er : Int) (h : FloatR (s1 16) x er) : x = f1 16 ∧ er = e1 16 :=
 h.form (show rdTell (s1 16) = none by decide +kernel)
theorem n1_17 (x : Nat) (er : Int) (h : FloatR (s1 17) x er) : x = f1 17 ∧ er = e1 17 :=
 h.form (show rdTell (s1 17) = none by decide +kernel)
theorem n1_18 (x : Nat) (er : Int) (h : FloatR (s1 18) x er) : x = f1 18 ∧ er = e1 18 :=
 h.form (show rdTell (s1 18) = none by decide +kernel)
theorem n1_19 (x : Nat) (er : Int) (h : FloatR (s1 19) x er) : x = f1 19 ∧ er = e1 19 :=
 h.form (show rdTell (s1 19) = none by decide +kernel)
theorem n1_20 (x : Nat) (er : Int) (h : FloatR (s1 20) x er) : x = f1 20 ∧ er = e1 20 :=
 h.form (show rdTell (s1 20) = none by decide +kernel)
theorem n1_21 (x : Nat) (er : Int) (h : FloatR (s1 21) x er) : x = f1 21 ∧ er = e1 21 :=
 h.form (show rdTell (s1 21) = none by decide +kernel)
theorem n1_22 (x : Nat) (er : Int) (h : FloatR (s1 22) x er) : x = f1 22 ∧ er = e1 22 :=
 h.form (show rdTell (s1 22) = none by decide +kernel)
theorem n1_23 (x : Nat) (er : Int) (h : FloatR (s1 23) x er) : x = f1 23 ∧ er = e1 23 :=
 h.form (show rdTell (s1 23) = none by decide +kernel)
theorem n1_24 (x : Nat) (er : Int) (h : FloatR (s1 24) x er) : x = f1 24 ∧ er = e1 24 :=
 h.form (show rdTell (s1 24) = none by decide +kernel)
theorem n1_25 (x : Nat) (er : Int) (h : FloatR (s1 25) x er) : x = f1 25 ∧ er = e1 25 :=
 h.form (show rdTell (s1 25) = none by decide +kernel)
theorem n1_26 (x : Nat) (er : Int) (h : FloatR (s1 26) x er) : x = f1 26 ∧ er = e1 26 :=
 h.form (show rdTell (s1 26) = none by decide +kernel)
theorem n1_27 (x : Nat) (er : Int) (h : FloatR (s1 27) x er) : x = f1 27 ∧ er = e1 27 :=
 h.form (show rdTell (s1 27) = none by decide +kernel)
theorem n1_28 (x : Nat) (er : Int) (h : FloatR (s1 28) x er) : x = f1 28 ∧ er = e1 28 :=
 h.form (show rdTell (s1 28) = none by decide +kernel)
theorem n1_29 (x : Nat) (er : Int) (h : FloatR (s1 29) x er) : x = f1 29 ∧ er = e1 29 :=
 h.form (show rdTell (s1 29) = none by decide +kernel)
theorem n1_30 (x : Nat) (er : Int) (h : FloatR (s1 30) x er) : x = f1 30 ∧ er = e1 30 :=
 h.form (show rdTell (s1 30) = none by decide +kernel)
theorem n1_all : ∀ k, k < 31 → ∀ x er, FloatR (s1 k) x er → x = f1 k ∧ er = e1 k := by
 intro k hk
 have hc : k = 0 ∨ k = 1 ∨ k = 2 ∨ k = 3 ∨ k = 4 ∨ k = 5 ∨ k = 6 ∨ k = 7 ∨ k = 8 ∨ k = 9 ∨ k = 10 ∨ k = 11 ∨ k = 12 ∨ k = 13 ∨ k = 14 ∨ k = 15 ∨ k = 16 ∨ k = 17 ∨ k = 18 ∨ k = 19 ∨ k = 20 ∨ k = 21 ∨ k = 22 ∨ k = 23 ∨ k = 24 ∨ k = 25 ∨ k = 26 ∨ k = 27 ∨ k = 28 ∨ k = 29 ∨ k = 30 := by omega
 rcases hc with rfl | rfl | rfl | rfl | rfl | rfl | rfl | rfl | rfl | rfl | rfl | rfl | rfl | rfl | rfl | rfl | rfl | rfl | rfl | rfl | rfl | rfl | rfl | rfl | rfl | rfl | rfl | rfl | rfl | rfl | rfl
 · exact n1_0
 · exact n1_1
 · exact n1_2
 · exact n1_3
 · exact n1_4
 · exact n1_5
 · exact n1_6
 · exact n1_7
 · exact n1_8
 · exact n1_9
 · exact n1_10
 · exact n1_11
 · exact n1_12
 · exact n1_13
 · exact n1_14
 · exact n1_15
 · exact n1_16
 · exact n1_17
 · exact n1_18
 · exact n1_19
 · exact n1_20
 · exact n1_21
 · exact n1_22
 · exact n1_23
 · exact n1_24
 · exact n1_25
 · exact n1_26
 · exact n1_27
 · exact n1_28
 · exact n1_29
 · exact n1_30
theorem fl1 (k : Nat) (hk : k < 31) (w : World) (hT : Tab w) : Calls Tryd.prog 10 #[sv (s1 k)] w fun r w' => r = .returned (.tuple #[.float .f64 (f1 k), .int .i64 (e1 k)]) ∧ Below w.heap.size w w' := by
 obtain ⟨x, er, hR, hC⟩ := float_sv (s1 k) (s1_len k hk)
 obtain ⟨rfl, rfl⟩ := n1_all k hk x er hR
 exact hC w hT
theorem n2_0 (l : List UInt8) (h : TextR (x2 0) l) : l = t2 0 := by
 have hv : fval (x2 0) = ((3 : Int) : Rat) * p2 (-2) := by decide +kernel
 rw [h.odd (by unfold Fin64 frung; decide) (n := 3) (e := (-2)) (by decide) hv (nw_neg (by decide) (by decide) hv), (itoa_rd (l := [51]) (n := 3) (by decide +kernel)).2, (itoa_rd (l := [45, 50]) (n := (-2)) (by decide +kernel)).2]
 rfl
theorem n2_1 (l : List UInt8) (h : TextR (x2 1) l) : l = t2 1 := by
 rw [h.whole (by unfold Fin64 frung; decide) (k := 5) (show fval 4617315517961601024 = _ by decide +kernel) (by decide) (by decide)]
 exact (itoa_rd (l := [53]) (n := 5) (by decide +kernel)).2
theorem n2_2 (l : List UInt8) (h : TextR (x2 2) l) : l = t2 2 := by
 have hv : fval (x2 2) = (((-1) : Int) : Rat) * p2 (-1) := by decide +kernel
 rw [h.odd (by unfold Fin64 frung; decide) (n := (-1)) (e := (-1)) (by decide) hv (nw_neg (by decide) (by decide) hv), (itoa_rd (l := [45, 49]) (n := (-1)) (by decide +kernel)).2]
 rfl
theorem n2_3 (l : List UInt8) (h : TextR (x2 3) l) : l = t2 3 := by
 have hv : fval (x2 3) = ((1 : Int) : Rat) * p2 53 := by decide +kernel
 rw [h.odd (by unfold Fin64 frung; decide) (n := 1) (e := 53) (by decide) hv (nw_pos (by decide) (by decide) hv), (itoa_rd (l := [49]) (n := 1) (by decide +kernel)).2, (itoa_rd (l := [53, 51]) (n := 53) (by decide +kernel)).2]
 rfl
theorem n2_4 (l : List UInt8) (h : TextR (x2 4) l) : l = t2 4 := by
 rw [h.whole (by unfold Fin64 frung; decide) (k := 9007199254740991) (show fval 4845873199050653695 = _ by decide +kernel) (by decide) (by decide)]
 exact (itoa_rd (l := [57, 48, 48, 55, 49, 57, 57, 50, 53, 52, 55, 52, 48, 57, 57, 49]) (n := 9007199254740991) (by decide +kernel)).2
theorem n2_5 (l : List UInt8) (h : TextR (x2 5) l) : l = t2 5 := by
 have hv : fval (x2 5) = ((1 : Int) : Rat) * p2 (-1074) := by decide +kernel
 rw [h.odd (by unfold Fin64 frung; decide) (n := 1) (e := (-1074)) (by decide) hv (nw_neg (by decide) (by decide) hv), (itoa_rd (l := [49]) (n := 1) (by decide +kernel)).2, (itoa_rd (l := [45, 49, 48, 55, 52]) (n := (-1074)) (by decide +kernel)).2]
 rfl
theorem n2_6 (l : List UInt8) (h : TextR (x2 6) l) : l = t2 6 := by
 rw [h.whole (by unfold Fin64 frung; decide) (k := 0) (show fval 9223372036854775808 = _ by decide +kernel) (by decide) (by decide)]
 exact (itoa_rd (l := [48]) (n := 0) (by decide +kernel)).2
theorem n2_7 (l : List UInt8) (h : TextR (x2 7) l) : l = t2 7 := by
 rcases h with ⟨_, e⟩ | ⟨hf, _⟩
 · exact e
 · exact absurd hf (by unfold Fin64 frung; decide)
theorem n2_8 (l : List UInt8) (h : TextR (x2 8) l) : l = t2 8 := by
 rcases h with ⟨_, e⟩ | ⟨hf, _⟩
 · exact e
 · exact absurd hf (by unfold Fin64 frung; decide)
theorem n2_9 (l : List UInt8) (h : TextR (x2 9) l) : l = t2 9 := by
 have hv : fval (x2 9) = ((9007199254740991 : Int) : Rat) * p2 971 := by decide +kernel
 rw [h.odd (by unfold Fin64 frung; decide) (n := 9007199254740991) (e := 971) (by decide) hv (nw_pos (by decide) (by decide) hv), (itoa_rd (l := [57, 48, 48, 55, 49, 57, 57, 50, 53, 52, 55, 52, 48, 57, 57, 49]) (n := 9007199254740991) (by decide +kernel)).2, (itoa_rd (l := [57, 55, 49]) (n := 971) (by decide +kernel)).2]
 rfl
theorem n2_10 (l : List UInt8) (h : TextR (x2 10) l) : l = t2 10 := by
 rw [h.whole (by unfold Fin64 frung; decide) (k := (-12)) (show fval 13846317054350589952 = _ by decide +kernel) (by decide) (by decide)]
 exact (itoa_rd (l := [45, 49, 50]) (n := (-12)) (by decide +kernel)).2
theorem n2_all : ∀ k, k < 11 → ∀ l, TextR (x2 k) l → l = t2 k := by
 intro k hk
 have hc : k = 0 ∨ k = 1 ∨ k = 2 ∨ k = 3 ∨ k = 4 ∨ k = 5 ∨ k = 6 ∨ k = 7 ∨ k = 8 ∨ k = 9 ∨ k = 10 := by omega
 rcases hc with rfl | rfl | rfl | rfl | rfl | rfl | rfl | rfl | rfl | rfl | rfl
 · exact n2_0
 · exact n2_1
 · exact n2_2
 · exact n2_3
 · exact n2_4
 · exact n2_5
 · exact n2_6
 · exact n2_7
 · exact n2_8
 · exact n2_9
 · exact n2_10
theorem x2_lt : ∀ k, k < 11 → x2 k < 18446744073709551616 := by decide
theorem tx2 (k : Nat) (hk : k < 11) (w : World) (hT : T8 w) : Calls Tryd.prog 15 #[.float .f64 (x2 k)] w fun r w' => r = .returned (sv (t2 k)) ∧ Below w.heap.size w w' := by
 obtain ⟨l, hR, hC⟩ := text_any (x2 k) (x2_lt k hk)
 obtain rfl := n2_all k hk l hR
 exact hC w hT
theorem in3 (k : Nat) (hk : k < 9) (w : World) : Calls Tryd.prog 12 #[sv (s3 k)] w fun r w' => r = .returned (.tuple #[.int .i64 0, .int .i64 4]) ∧ w' = w := by
 have := int_sv (s3 k) w (Nat.le_trans (s3_len k hk) (by omega))
 rwa [s3_none k hk] at this
end

/- The law DigitsNames. (gen_jm.py) -/
section
open Go.RowKit Go.Shelf Go.Lib
theorem run_store_str (P : Program) (w : World) (a : Addr) (m : Mode) (b : ByteArray) : (store a (.string b) m).run P w = stored P w a (.string b) m := run_store P w a _ m rfl
attribute [local go_sem] run_store_float run_store_str
def a1 : Array Value := #[.string ⟨#[51, 98, 45, 50]⟩, .float .f64 4604930618986332160, .int .i64 0, .string ⟨#[49, 50, 98, 45, 52]⟩, .float .f64 4604930618986332160, .int .i64 0, .string ⟨#[48, 98, 57, 57, 57, 57, 57]⟩, .float .f64 0, .int .i64 0, .string ⟨#[48, 98, 45, 57, 57, 57, 57, 57]⟩, .float .f64 0, .int .i64 0, .string ⟨#[45, 49, 98, 45, 49]⟩, .float .f64 13826050856027422720, .int .i64 0, .string ⟨#[57, 50, 50, 51, 51, 55, 50, 48, 51, 54, 56, 53, 52, 55, 55, 53, 56, 48, 55]⟩, .float .f64 0, .int .i64 10, .string ⟨#[57, 50, 50, 51, 51, 55, 50, 48, 51, 54, 56, 53, 52, 55, 55, 53, 56, 48, 55, 98, 48]⟩, .float .f64 0, .int .i64 10, .string ⟨#[45, 57, 50, 50, 51, 51, 55, 50, 48, 51, 54, 56, 53, 52, 55, 55, 53, 56, 48, 56]⟩, .float .f64 14114281232179134464, .int .i64 0, .string ⟨#[49, 98, 49, 48, 50, 52]⟩, .float .f64 0, .int .i64 10, .string ⟨#[49, 98, 49, 48, 50, 51]⟩, .float .f64 9214364837600034816, .int .i64 0, .string ⟨#[49, 98, 45, 49, 48, 55, 53]⟩, .float .f64 0, .int .i64 10, .string ⟨#[50, 98, 45, 49, 48, 55, 53]⟩, .float .f64 1, .int .i64 0, .string ⟨#[49, 98, 57, 50, 50, 51, 51, 55, 50, 48, 51, 54, 56, 53, 52, 55, 55, 53, 56, 48, 55]⟩, .float .f64 0, .int .i64 10, .string ⟨#[52, 54, 49, 49, 54, 56, 54, 48, 49, 56, 52, 50, 55, 51, 56, 55, 57, 48, 52, 98, 45, 57, 50, 50, 51, 51, 55, 50, 48, 51, 54, 56, 53, 52, 55, 55, 53, 56, 48, 56]⟩, .float .f64 0, .int .i64 10, .string ⟨#[57, 48, 48, 55, 49, 57, 57, 50, 53, 52, 55, 52, 48, 57, 57, 51]⟩, .float .f64 0, .int .i64 10, .string ⟨#[57, 48, 48, 55, 49, 57, 57, 50, 53, 52, 55, 52, 48, 57, 57, 50]⟩, .float .f64 4845873199050653696, .int .i64 0, .string ⟨#[98]⟩, .float .f64 0, .int .i64 4, .string ⟨#[49, 98]⟩, .float .f64 0, .int .i64 4, .string ⟨#[98, 49]⟩, .float .f64 0, .int .i64 4, .string ⟨#[49, 46, 53]⟩, .float .f64 0, .int .i64 4, .string ⟨#[49, 101, 53]⟩, .float .f64 0, .int .i64 4, .string ⟨#[43, 49]⟩, .float .f64 0, .int .i64 4, .string ⟨#[48, 49]⟩, .float .f64 0, .int .i64 4, .string ⟨#[49, 98, 43, 49]⟩, .float .f64 0, .int .i64 4, .string ⟨#[49, 98, 45, 48]⟩, .float .f64 0, .int .i64 4, .string ⟨#[49, 98, 48, 49]⟩, .float .f64 0, .int .i64 4, .string ⟨#[45, 48]⟩, .float .f64 0, .int .i64 4, .string ⟨#[49, 66, 49]⟩, .float .f64 0, .int .i64 4, .string ⟨#[49, 98, 49, 98, 49]⟩, .float .f64 0, .int .i64 4, .string ⟨#[]⟩, .float .f64 0, .int .i64 4, .string ⟨#[57, 50, 50, 51, 51, 55, 50, 48, 51, 54, 56, 53, 52, 55, 55, 53, 56, 48, 56, 98, 45, 49]⟩, .float .f64 0, .int .i64 4]
def a2 : Array Value := #[.float .f64 4604930618986332160, .string ⟨#[51, 98, 45, 50]⟩, .float .f64 4617315517961601024, .string ⟨#[53]⟩, .float .f64 13826050856027422720, .string ⟨#[45, 49, 98, 45, 49]⟩, .float .f64 4845873199050653696, .string ⟨#[49, 98, 53, 51]⟩, .float .f64 4845873199050653695, .string ⟨#[57, 48, 48, 55, 49, 57, 57, 50, 53, 52, 55, 52, 48, 57, 57, 49]⟩, .float .f64 1, .string ⟨#[49, 98, 45, 49, 48, 55, 52]⟩, .float .f64 9223372036854775808, .string ⟨#[48]⟩, .float .f64 9221120237041090561, .string ⟨#[]⟩, .float .f64 18442240474082181120, .string ⟨#[]⟩, .float .f64 9218868437227405311, .string ⟨#[57, 48, 48, 55, 49, 57, 57, 50, 53, 52, 55, 52, 48, 57, 57, 49, 98, 57, 55, 49]⟩, .float .f64 13846317054350589952, .string ⟨#[45, 49, 50]⟩]
def a3 : Array Value := #[.string ⟨#[48, 48, 55]⟩, .string ⟨#[43, 49]⟩, .string ⟨#[45, 48]⟩, .string ⟨#[57, 50, 50, 51, 51, 55, 50, 48, 51, 54, 56, 53, 52, 55, 55, 53, 56, 48, 56]⟩, .string ⟨#[45, 57, 50, 50, 51, 51, 55, 50, 48, 51, 54, 56, 53, 52, 55, 55, 53, 56, 48, 57]⟩, .string ⟨#[]⟩, .string ⟨#[45]⟩, .string ⟨#[49, 46, 48]⟩, .string ⟨#[49, 98, 48]⟩]
def C1 (W : World) (g : Nat) : Prop := ∀ k, k < 31 → W.cell? ⟨g, k * 3, none⟩ = some (sv (s1 k)) ∧ W.cell? ⟨g, k * 3 + 1, none⟩ = some (.float .f64 (f1 k)) ∧ W.cell? ⟨g, k * 3 + 2, none⟩ = some (.int .i64 (e1 k))
def C2 (W : World) (g : Nat) : Prop := ∀ k, k < 11 → W.cell? ⟨g, k * 2, none⟩ = some (.float .f64 (x2 k)) ∧ W.cell? ⟨g, k * 2 + 1, none⟩ = some (sv (t2 k))
def C3 (W : World) (g : Nat) : Prop := ∀ k, k < 9 → W.cell? ⟨g, k, none⟩ = some (sv (s3 k))
theorem C1.later {W W' : World} {g : Nat} (h : C1 W g) (hb : Below W.heap.size W W') : C1 W' g := fun k hk => ⟨cell_later hb (h k hk).1, cell_later hb (h k hk).2.1, cell_later hb (h k hk).2.2⟩
theorem C2.later {W W' : World} {g : Nat} (h : C2 W g) (hb : Below W.heap.size W W') : C2 W' g := fun k hk => ⟨cell_later hb (h k hk).1, cell_later hb (h k hk).2⟩
theorem C3.later {W W' : World} {g : Nat} (h : C3 W g) (hb : Below W.heap.size W W') : C3 W' g := fun k hk => cell_later hb (h k hk)
theorem cell_new (w : World) (cs : Array Value) (t : TypeId) (i : Nat) (x : Value) (h : cs[i]? = some x) : (w.alloc (.cells cs t)).cell? ⟨w.heap.size, i, none⟩ = some x := by
 have := heap_alloc_new w (.cells cs t)
 unfold World.cell?
 rw [this]
 exact h
theorem C1.new (w : World) (t : TypeId) : C1 (w.alloc (.cells a1 t)) w.heap.size := by
 intro k hk
 have hc : k = 0 ∨ k = 1 ∨ k = 2 ∨ k = 3 ∨ k = 4 ∨ k = 5 ∨ k = 6 ∨ k = 7 ∨ k = 8 ∨ k = 9 ∨ k = 10 ∨ k = 11 ∨ k = 12 ∨ k = 13 ∨ k = 14 ∨ k = 15 ∨ k = 16 ∨ k = 17 ∨ k = 18 ∨ k = 19 ∨ k = 20 ∨ k = 21 ∨ k = 22 ∨ k = 23 ∨ k = 24 ∨ k = 25 ∨ k = 26 ∨ k = 27 ∨ k = 28 ∨ k = 29 ∨ k = 30 := by omega
 rcases hc with rfl | rfl | rfl | rfl | rfl | rfl | rfl | rfl | rfl | rfl | rfl | rfl | rfl | rfl | rfl | rfl | rfl | rfl | rfl | rfl | rfl | rfl | rfl | rfl | rfl | rfl | rfl | rfl | rfl | rfl | rfl
 all_goals exact ⟨cell_new w a1 t _ _ rfl, cell_new w a1 t _ _ rfl, cell_new w a1 t _ _ rfl⟩
theorem C2.new (w : World) (t : TypeId) : C2 (w.alloc (.cells a2 t)) w.heap.size := by
 intro k hk
 have hc : k = 0 ∨ k = 1 ∨ k = 2 ∨ k = 3 ∨ k = 4 ∨ k = 5 ∨ k = 6 ∨ k = 7 ∨ k = 8 ∨ k = 9 ∨ k = 10 := by omega
 rcases hc with rfl | rfl | rfl | rfl | rfl | rfl | rfl | rfl | rfl | rfl | rfl
 all_goals exact ⟨cell_new w a2 t _ _ rfl, cell_new w a2 t _ _ rfl⟩
theorem C3.new (w : World) (t : TypeId) : C3 (w.alloc (.cells a3 t)) w.heap.size := by
 intro k hk
 have hc : k = 0 ∨ k = 1 ∨ k = 2 ∨ k = 3 ∨ k = 4 ∨ k = 5 ∨ k = 6 ∨ k = 7 ∨ k = 8 := by omega
 rcases hc with rfl | rfl | rfl | rfl | rfl | rfl | rfl | rfl | rfl
 all_goals exact cell_new w a3 t _ _ rfl
set_option maxHeartbeats 1000000 in
theorem copysign_is (w : World) : Calls Tryd.prog 19 #[.float .f64 0, .float .f64 13830554455654793216] w fun e w' => e = .returned (.float .f64 9223372036854775808) ∧ w' = w := by
 have h1 := run_bits 0
 have h2 := run_bits 13830554455654793216
 have h3 := run_frombits 9223372036854775808
 have h1' : ∀ w, (callFunc 29 #[.float .f64 0]).run Tryd.prog w = .ok (.value (.int .u64 0)) w := h1
 have h2' : ∀ w, (callFunc 29 #[.float .f64 13830554455654793216]).run Tryd.prog w = .ok (.value (.int .u64 13830554455654793216)) w := h2
 have h3' : ∀ w, (callFunc 32 #[.int .u64 9223372036854775808]).run Tryd.prog w = .ok (.value (.float .f64 9223372036854775808)) w := h3
 have c1 : bits .andNot .u64 0 9223372036854775808 = 0 := by decide
 have c2 : bits .and .u64 13830554455654793216 9223372036854775808 = 9223372036854775808 := by decide
 have c3 : bits .or .u64 0 9223372036854775808 = 9223372036854775808 := by decide
 clear h1 h2 h3
 go_enter Tryd.func19, Tryd.ntmps19
 go_wp2
 go_ret
 exact ⟨rfl, rfl⟩
set_option maxHeartbeats 1000000 in
theorem nan8_is (w : World) : Calls Tryd.prog 20 #[] w fun e w' => e = .returned (.float .f64 9221120237041090561) ∧ w' = w := by
 have h3 : ∀ w, (callFunc 32 #[.int .u64 9221120237041090561]).run Tryd.prog w = .ok (.value (.float .f64 9221120237041090561)) w := run_frombits 9221120237041090561
 go_enter Tryd.func20, Tryd.ntmps20
 go_wp2
 go_ret
 exact ⟨rfl, rfl⟩
set_option maxHeartbeats 1000000 in
theorem ninf_is (w : World) : Calls Tryd.prog 21 #[.int .i64 (-1)] w fun e w' => e = .returned (.float .f64 18442240474082181120) ∧ w' = w := by
 have h3 : ∀ w, (callFunc 32 #[.int .u64 18442240474082181120]).run Tryd.prog w = .ok (.value (.float .f64 18442240474082181120)) w := run_frombits 18442240474082181120
 go_enter Tryd.func21, Tryd.ntmps21
 go_wp2
 go_ret
 exact ⟨rfl, rfl⟩
theorem same8J (x : Nat) (w : World) : Calls Tryd.prog 14 #[.float .f64 x, .float .f64 x] w fun e w' => e = .returned (.bool true) ∧ w' = w := by
 have b := run_bits x
 go_enter Tryd.func14, Tryd.ntmps14
 go_wp2
 go_ret
 exact ⟨rfl, rfl⟩
set_option maxHeartbeats 8000000 in
set_option maxRecDepth 100000 in
theorem names8 (w : World) (hT : T8 w) : Calls Tryd.prog 5 #[] w fun e w' => e = .returned (.bool true) ∧ Below w.heap.size w w' := by
 obtain ⟨W1, hW1⟩ : ∃ W, w.alloc (.cells #[.string ⟨#[51, 98, 45, 50]⟩, .float .f64 4604930618986332160, .int .i64 0, .string ⟨#[49, 50, 98, 45, 52]⟩, .float .f64 4604930618986332160, .int .i64 0, .string ⟨#[48, 98, 57, 57, 57, 57, 57]⟩, .float .f64 0, .int .i64 0, .string ⟨#[48, 98, 45, 57, 57, 57, 57, 57]⟩, .float .f64 0, .int .i64 0, .string ⟨#[45, 49, 98, 45, 49]⟩, .float .f64 13826050856027422720, .int .i64 0, .string ⟨#[57, 50, 50, 51, 51, 55, 50, 48, 51, 54, 56, 53, 52, 55, 55, 53, 56, 48, 55]⟩, .float .f64 0, .int .i64 10, .string ⟨#[57, 50, 50, 51, 51, 55, 50, 48, 51, 54, 56, 53, 52, 55, 55, 53, 56, 48, 55, 98, 48]⟩, .float .f64 0, .int .i64 10, .string ⟨#[45, 57, 50, 50, 51, 51, 55, 50, 48, 51, 54, 56, 53, 52, 55, 55, 53, 56, 48, 56]⟩, .float .f64 14114281232179134464, .int .i64 0, .string ⟨#[49, 98, 49, 48, 50, 52]⟩, .float .f64 0, .int .i64 10, .string ⟨#[49, 98, 49, 48, 50, 51]⟩, .float .f64 9214364837600034816, .int .i64 0, .string ⟨#[49, 98, 45, 49, 48, 55, 53]⟩, .float .f64 0, .int .i64 10, .string ⟨#[50, 98, 45, 49, 48, 55, 53]⟩, .float .f64 1, .int .i64 0, .string ⟨#[49, 98, 57, 50, 50, 51, 51, 55, 50, 48, 51, 54, 56, 53, 52, 55, 55, 53, 56, 48, 55]⟩, .float .f64 0, .int .i64 10, .string ⟨#[52, 54, 49, 49, 54, 56, 54, 48, 49, 56, 52, 50, 55, 51, 56, 55, 57, 48, 52, 98, 45, 57, 50, 50, 51, 51, 55, 50, 48, 51, 54, 56, 53, 52, 55, 55, 53, 56, 48, 56]⟩, .float .f64 0, .int .i64 10, .string ⟨#[57, 48, 48, 55, 49, 57, 57, 50, 53, 52, 55, 52, 48, 57, 57, 51]⟩, .float .f64 0, .int .i64 10, .string ⟨#[57, 48, 48, 55, 49, 57, 57, 50, 53, 52, 55, 52, 48, 57, 57, 50]⟩, .float .f64 4845873199050653696, .int .i64 0, .string ⟨#[98]⟩, .float .f64 0, .int .i64 4, .string ⟨#[49, 98]⟩, .float .f64 0, .int .i64 4, .string ⟨#[98, 49]⟩, .float .f64 0, .int .i64 4, .string ⟨#[49, 46, 53]⟩, .float .f64 0, .int .i64 4, .string ⟨#[49, 101, 53]⟩, .float .f64 0, .int .i64 4, .string ⟨#[43, 49]⟩, .float .f64 0, .int .i64 4, .string ⟨#[48, 49]⟩, .float .f64 0, .int .i64 4, .string ⟨#[49, 98, 43, 49]⟩, .float .f64 0, .int .i64 4, .string ⟨#[49, 98, 45, 48]⟩, .float .f64 0, .int .i64 4, .string ⟨#[49, 98, 48, 49]⟩, .float .f64 0, .int .i64 4, .string ⟨#[45, 48]⟩, .float .f64 0, .int .i64 4, .string ⟨#[49, 66, 49]⟩, .float .f64 0, .int .i64 4, .string ⟨#[49, 98, 49, 98, 49]⟩, .float .f64 0, .int .i64 4, .string ⟨#[]⟩, .float .f64 0, .int .i64 4, .string ⟨#[57, 50, 50, 51, 51, 55, 50, 48, 51, 54, 56, 53, 52, 55, 55, 53, 56, 48, 56, 98, 45, 49]⟩, .float .f64 0, .int .i64 4] 34) = W := ⟨_, rfl⟩
 have HC1 : Hid (C1 W1 w.heap.size) := hW1 ▸ C1.new w 34
 have HB1 : Hid (Below w.heap.size w W1) := hW1 ▸ (Below.refl _ w).alloc (Nat.le_refl _) _
 have HT1 := Lib.hid (hT.later HB1.out)
 clear hT
 go_enter Tryd.func5, Tryd.ntmps5
 go_wp2_with fail
 clear hW1
 go_loopw [44] (fun i wr => ∃ k : Nat, k ≤ 31 ∧ i = .int .i64 (k : Nat) ∧ Hid (C1 wr w.heap.size ∧ T8 wr ∧ Below w.heap.size w wr)) (fun i _ => 31 - (RowKit.intOf i).toNat)
 case atStart => exact ⟨0, by omega, rfl, HC1.out, HT1.out, HB1.out⟩
 case round =>
   obtain ⟨k, hk, rfl, hw⟩ := hrel
   by_cases hlt : k < 31
   · have hlti : (k : Int) < 31 := by omega
     obtain ⟨y0, y1, y2⟩ := hw.out.1 k hlt
     have hbA : Below wr.heap.size wr (wr.alloc (.cells #[sv (s1 k), .float .f64 (f1 k), .int .i64 (e1 k)] 34)) := (Below.refl _ _).alloc (Nat.le_refl _) _
     have HWA := Lib.hid (And.intro (hw.out.1.later hbA) (And.intro (hw.out.2.1.later hbA) (hw.out.2.2.trans (hbA.mono hw.out.2.2.size))))
     clear hbA hw
     have HFL : Hid (∀ w, Tab w → Calls Tryd.prog 10 #[sv (s1 k)] w fun r w' => r = .returned (.tuple #[.float .f64 (f1 k), .int .i64 (e1 k)]) ∧ Below w.heap.size w w') := fl1 k hlt
     have HSM : Hid (∀ w, Calls Tryd.prog 14 #[.float .f64 (f1 k), .float .f64 (f1 k)] w fun e w' => e = .returned (.bool true) ∧ w' = w) := same8J (f1 k)
     generalize hs : s1 k = l at *
     generalize f1 k = x at *
     generalize e1 k = er at *
     clear hs
     go_wp2_with fail
     refine (HFL.out _ HWA.out.2.1.1).mono ?_
     rintro r w2 ⟨rfl, hb2⟩
     have z0 := cell_later hb2 (cell_new wr #[sv l, .float .f64 x, .int .i64 er] 34 1 _ rfl)
     have z1 := cell_later hb2 (cell_new wr #[sv l, .float .f64 x, .int .i64 er] 34 2 _ rfl)
     have HWB := Lib.hid (And.intro (HWA.out.1.later hb2) (And.intro (HWA.out.2.1.later hb2) (HWA.out.2.2.trans (hb2.mono HWA.out.2.2.size))))
     clear hb2 HWA y0 y1 y2
     go_wp2_with fail
     refine (HSM.out _).mono ?_
     rintro r w3 ⟨rfl, rfl⟩
     go_wp2
     exact ⟨⟨k + 1, by omega, by go_num, HWB.out⟩, by show 31 - ((k : Int) + 1).toNat < 31 - ((k : Int)).toNat; omega⟩
   · obtain rfl : k = 31 := by omega
     obtain ⟨wo, rfl⟩ : ∃ wo, wo = wr := ⟨_, rfl⟩
     obtain ⟨W2, hW2⟩ : ∃ W, wo.alloc (.cells #[.float .f64 4604930618986332160, .string ⟨#[51, 98, 45, 50]⟩, .float .f64 4617315517961601024, .string ⟨#[53]⟩, .float .f64 13826050856027422720, .string ⟨#[45, 49, 98, 45, 49]⟩, .float .f64 4845873199050653696, .string ⟨#[49, 98, 53, 51]⟩, .float .f64 4845873199050653695, .string ⟨#[57, 48, 48, 55, 49, 57, 57, 50, 53, 52, 55, 52, 48, 57, 57, 49]⟩, .float .f64 1, .string ⟨#[49, 98, 45, 49, 48, 55, 52]⟩, .float .f64 9223372036854775808, .string ⟨#[48]⟩, .float .f64 9221120237041090561, .string ⟨#[]⟩, .float .f64 18442240474082181120, .string ⟨#[]⟩, .float .f64 9218868437227405311, .string ⟨#[57, 48, 48, 55, 49, 57, 57, 50, 53, 52, 55, 52, 48, 57, 57, 49, 98, 57, 55, 49]⟩, .float .f64 13846317054350589952, .string ⟨#[45, 49, 50]⟩] 36) = W := ⟨_, rfl⟩
     have HC2 : Hid (C2 W2 wo.heap.size) := hW2 ▸ C2.new wo 36
     have hb2 : Below wo.heap.size wo W2 := hW2 ▸ (Below.refl _ wo).alloc (Nat.le_refl _) _
     have HB2 := Lib.hid (hw.out.2.2.trans (hb2.mono hw.out.2.2.size))
     have HT2 := Lib.hid (hw.out.2.1.later hb2)
     clear hw hb2 HC1 HB1 HT1
     have HCP : Hid (∀ w, Calls Tryd.prog 19 #[.float .f64 0, .float .f64 13830554455654793216] w fun e w' => e = .returned (.float .f64 9223372036854775808) ∧ w' = w) := copysign_is
     have HNA : Hid (∀ w, Calls Tryd.prog 20 #[] w fun e w' => e = .returned (.float .f64 9221120237041090561) ∧ w' = w) := nan8_is
     have HIN : Hid (∀ w, Calls Tryd.prog 21 #[.int .i64 (-1)] w fun e w' => e = .returned (.float .f64 18442240474082181120) ∧ w' = w) := ninf_is
     go_wp2_with (first
       | (go_at_call 19; refine (HCP.out _).mono ?_; rintro e w' ⟨rfl, rfl⟩)
       | (go_at_call 20; refine (HNA.out _).mono ?_; rintro e w' ⟨rfl, rfl⟩)
       | (go_at_call 21; refine (HIN.out _).mono ?_; rintro e w' ⟨rfl, rfl⟩))
     clear hW2 HCP HNA HIN
     go_loopw [82] (fun i wr => ∃ k : Nat, k ≤ 11 ∧ i = .int .i64 (k : Nat) ∧ Hid (C2 wr w'.heap.size ∧ T8 wr ∧ Below w.heap.size w wr)) (fun i _ => 11 - (RowKit.intOf i).toNat)
     case atStart => exact ⟨0, by omega, rfl, HC2.out, HT2.out, HB2.out⟩
     case round =>
       obtain ⟨k, hk, rfl, hw⟩ := hrel
       by_cases hlt : k < 11
       · have hlti : (k : Int) < 11 := by omega
         obtain ⟨y0, y1⟩ := hw.out.1 k hlt
         have hbA : Below wr.heap.size wr (wr.alloc (.cells #[.float .f64 (x2 k), sv (t2 k)] 36)) := (Below.refl _ _).alloc (Nat.le_refl _) _
         have HWA := Lib.hid (And.intro (hw.out.1.later hbA) (And.intro (hw.out.2.1.later hbA) (hw.out.2.2.trans (hbA.mono hw.out.2.2.size))))
         clear hbA hw
         have HTX : Hid (∀ w, T8 w → Calls Tryd.prog 15 #[.float .f64 (x2 k)] w fun r w' => r = .returned (sv (t2 k)) ∧ Below w.heap.size w w') := tx2 k hlt
         generalize hs : x2 k = x at *
         generalize t2 k = l at *
         clear hs
         have hself : (l == l) = true := by simp
         go_wp2_with fail
         have z0 := cell_new wr #[.float .f64 x, sv l] 36 0 _ rfl
         have z1 := cell_new wr #[.float .f64 x, sv l] 36 1 _ rfl
         generalize wr.alloc (.cells #[.float .f64 x, sv l] 36) = WA at *
         generalize wr.heap.size = gb at *
         clear y0 y1
         have hbd : Below WA.heap.size WA WA.drew := (Below.refl _ _).drew
         have HWD := Lib.hid (And.intro (HWA.out.1.later hbd) (And.intro (HWA.out.2.1.later hbd) (HWA.out.2.2.trans (hbd.mono HWA.out.2.2.size))))
         have z1d : WA.drew.cell? ⟨gb, 1, none⟩ = some (sv l) := z1
         have HZ1 := Lib.hid z1d
         clear hbd z1d HWA
         go_region_with (first
           | (go_at_call 15; refine (HTX.out _ HWD.out.2.1).mono ?_; rintro r w4 ⟨rfl, hb4⟩; have u1 := cell_later hb4 HZ1.out; have HWB := Lib.hid (And.intro (HWD.out.1.later hb4) (And.intro (HWD.out.2.1.later hb4) (HWD.out.2.2.trans (hb4.mono HWD.out.2.2.size)))); clear hb4))
         all_goals go_wp2
         all_goals exact ⟨⟨k + 1, by omega, by go_num, HWB.out⟩, by show 11 - ((k : Int) + 1).toNat < 11 - ((k : Int)).toNat; omega⟩
       · obtain rfl : k = 11 := by omega
         obtain ⟨wp, rfl⟩ : ∃ wp, wp = wr := ⟨_, rfl⟩
         obtain ⟨W3, hW3⟩ : ∃ W, wp.alloc (.cells #[.string ⟨#[48, 48, 55]⟩, .string ⟨#[43, 49]⟩, .string ⟨#[45, 48]⟩, .string ⟨#[57, 50, 50, 51, 51, 55, 50, 48, 51, 54, 56, 53, 52, 55, 55, 53, 56, 48, 56]⟩, .string ⟨#[45, 57, 50, 50, 51, 51, 55, 50, 48, 51, 54, 56, 53, 52, 55, 55, 53, 56, 48, 57]⟩, .string ⟨#[]⟩, .string ⟨#[45]⟩, .string ⟨#[49, 46, 48]⟩, .string ⟨#[49, 98, 48]⟩] 9) = W := ⟨_, rfl⟩
         have HC3 : Hid (C3 W3 wp.heap.size) := hW3 ▸ C3.new wp 9
         have hb2 : Below wp.heap.size wp W3 := hW3 ▸ (Below.refl _ wp).alloc (Nat.le_refl _) _
         have HB3 := Lib.hid (hw.out.2.2.trans (hb2.mono hw.out.2.2.size))
         have HT3 := Lib.hid (hw.out.2.1.later hb2)
         clear hw hb2 HC2 HB2 HT2
         go_wp2_with fail
         clear hW3
         go_loopw [95] (fun i wr => ∃ k : Nat, k ≤ 9 ∧ i = .int .i64 (k : Nat) ∧ Hid (C3 wr wp.heap.size ∧ T8 wr ∧ Below w.heap.size w wr)) (fun i _ => 9 - (RowKit.intOf i).toNat)
         case atStart => exact ⟨0, by omega, rfl, HC3.out, HT3.out, HB3.out⟩
         case round =>
           obtain ⟨k, hk, rfl, hw⟩ := hrel
           by_cases hlt : k < 9
           · have hlti : (k : Int) < 9 := by omega
             have y0 := hw.out.1 k hlt
             have HIT : Hid (∀ w, Calls Tryd.prog 12 #[sv (s3 k)] w fun r w' => r = .returned (.tuple #[.int .i64 0, .int .i64 4]) ∧ w' = w) := in3 k hlt
             generalize hs : s3 k = l at *
             clear hs
             go_wp2_with fail
             refine (HIT.out _).mono ?_
             rintro r w3 ⟨rfl, rfl⟩
             go_wp2
             first
               | exact ⟨⟨k + 1, by omega, by go_num, hw.out⟩, by show 9 - ((k : Int) + 1).toNat < 9 - ((k : Int)).toNat; omega⟩
               | exact ⟨⟨_, _, _, _, _, _, _, _, _, _, _, _, _, _, _, _, ⟨k + 1, by omega, by go_num, hw.out⟩, rfl⟩, by show 9 - ((k : Int) + 1).toNat < 9 - ((k : Int)).toNat; omega⟩
           · obtain rfl : k = 9 := by omega
             have HSH : Hid (∀ w, T8 w → Calls Tryd.prog 17 #[.int .i64 (-9223372036854775808)] w fun e w' => e = .returned (.string ⟨#[45, 57, 50, 50, 51, 51, 55, 50, 48, 51, 54, 56, 53, 52, 55, 55, 53, 56, 48, 56]⟩) ∧ Below w.heap.size w w') := fun w hT => by
               have := show_any (-9223372036854775808) ⟨by omega, by omega⟩ w hT
               rwa [show itoa (-9223372036854775808) = [45, 57, 50, 50, 51, 51, 55, 50, 48, 51, 54, 56, 53, 52, 55, 55, 53, 56, 48, 56] from (itoa_rd (n := -9223372036854775808) (by decide +kernel)).2] at this
             have HA : Hid (∀ w, T8 w → Calls Tryd.prog 9 #[] w fun e w' => e = .returned (.bool true) ∧ Below w.heap.size w w') := awake8_any
             go_wp2_with fail
             refine (HSH.out _ hw.out.2.1).mono ?_
             rintro r w5 ⟨rfl, hb5⟩
             have HW5 := Lib.hid (And.intro (hw.out.2.1.later hb5) (hw.out.2.2.trans (hb5.mono hw.out.2.2.size)))
             clear hb5
             go_wp2_with fail
             refine (HA.out _ HW5.out.1).mono ?_
             rintro r w6 ⟨rfl, hb6⟩
             have HW6 := Lib.hid (HW5.out.2.trans (hb6.mono HW5.out.2.size))
             clear hb6
             go_wp2
             go_ret
             exact ⟨rfl, HW6.out⟩
end
end Go.Proofs.YtodmnpgnonhbiaaDoor
