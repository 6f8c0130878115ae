/- Own texts, put together: Xe Ha Hc Xf Xg. -/
import Derived.Test.YtcgbnjoajieggaaGreatQ10
import Derived.Test.YtcgbnjoajieggaaGreatQ15
import Derived.Test.YtcgbnjoajieggaaGreatQ23
import Derived.Test.YtcgbnjoajieggaaGreatQ25
import Derived.Deep.AppendLies
import Derived.OwnWalk
import Derived.Maps.AppendAt
namespace Go.Proofs.YtcgbnjoajieggaaGreat
/- The lowest bit of a float, as package expand tells it. -/
section
open Go.RowKit
theorem land_pred (t m : Nat) : (2 ^ t * (2 * m + 1)) &&& (2 ^ t * (2 * m + 1) - 1) = 2 ^ t * (2 * m) := by
 induction t with
 | zero =>
   rw [Nat.pow_zero, Nat.one_mul, Nat.one_mul, show 2 * m + 1 - 1 = 2 * m by omega]
   apply Nat.eq_of_testBit_eq
   intro i
   rw [Nat.testBit_and]
   cases i with
   | zero => simp [Nat.testBit_zero]
   | succ i => rw [Nat.testBit_succ, Nat.testBit_succ, show (2 * m + 1) / 2 = m by omega, show 2 * m / 2 = m by omega]; simp
 | succ t ih =>
   have hp : 0 < 2 ^ t * (2 * m + 1) := Nat.mul_pos (Nat.two_pow_pos t) (by omega)
   have e1 : 2 ^ (t + 1) * (2 * m + 1) = 2 * (2 ^ t * (2 * m + 1)) := by rw [Nat.pow_succ]; grind
   have e2 : 2 ^ (t + 1) * (2 * m) = 2 * (2 ^ t * (2 * m)) := by rw [Nat.pow_succ]; grind
   rw [e1, e2, ← ih]
   generalize 2 ^ t * (2 * m + 1) = a at *
   apply Nat.eq_of_testBit_eq
   intro i
   rw [Nat.testBit_and]
   cases i with
   | zero => simp [Nat.testBit_zero]
   | succ i => rw [Nat.testBit_succ, Nat.testBit_succ, Nat.testBit_succ, show 2 * a / 2 = a by omega, show (2 * a - 1) / 2 = a - 1 by omega, show 2 * (a &&& (a - 1)) / 2 = a &&& (a - 1) by omega, Nat.testBit_and]
theorem low_bit {n : Nat} (h : n ≠ 0) : ∃ t m, n = 2 ^ t * (2 * m + 1) := by
 induction n using Nat.strongRecOn with
 | ind n ih =>
   by_cases ho : n % 2 = 1
   · exact ⟨0, n / 2, by rw [Nat.pow_zero, Nat.one_mul]; omega⟩
   · obtain ⟨t, m, e⟩ := ih (n / 2) (by omega) (by omega)
     exact ⟨t + 1, m, by rw [Nat.pow_succ]; have : n = 2 * (n / 2) := by omega
                         rw [this, e]; grind⟩
theorem frac_bit {b : Nat} (hf : b % 4503599627370496 ≠ 0) : ∃ t m, t < 52 ∧ b = 2 ^ t * (2 * m + 1) ∧ b % 4503599627370496 = 2 ^ t * ((2 * m + 1) % 2 ^ (52 - t)) ∧ 2 ^ t ≤ b % 4503599627370496 := by
 obtain ⟨t, m, e⟩ := low_bit (n := b) (by omega)
 have ht : t < 52 := by
   rcases Nat.lt_or_ge t 52 with h | h
   · exact h
   · exfalso
     obtain ⟨j, rfl⟩ : ∃ j, t = 52 + j := ⟨t - 52, by omega⟩
     rw [Nat.pow_add, show (2 : Nat) ^ 52 = 4503599627370496 from rfl, Nat.mul_assoc] at e
     rw [e, Nat.mul_mod_right] at hf
     exact hf rfl
 have e52 : 4503599627370496 = 2 ^ t * 2 ^ (52 - t) := by rw [← Nat.pow_add, show t + (52 - t) = 52 by omega]
 have em : b % 4503599627370496 = 2 ^ t * ((2 * m + 1) % 2 ^ (52 - t)) := by
   rw [e52, e, Nat.mul_mod_mul_left]
 refine ⟨t, m, ht, e, em, ?_⟩
 rw [em]
 have : (2 * m + 1) % 2 ^ (52 - t) ≠ 0 := by
   intro h0
   rw [em, h0] at hf
   exact hf (by simp)
 have := Nat.mul_le_mul_left (2 ^ t) (Nat.pos_of_ne_zero this)
 omega
theorem frung_cut {b t : Nat} (h : 2 ^ t ≤ b % 4503599627370496) : frung (b - 2 ^ t) = frung b - 2 ^ t ∧ fneg (b - 2 ^ t) = fneg b ∧ fpl (frung b - 2 ^ t) = fpl (frung b) ∧ fmag (frung b - 2 ^ t) = fmag (frung b) - 2 ^ t ∧ 2 ^ t ≤ fmag (frung b) := by
 generalize 2 ^ t = x at *
 unfold frung fneg fpl fmag
 refine ⟨by omega, ?_, ?_, ?_, ?_⟩
 · rw [show (b - x) / 9223372036854775808 = b / 9223372036854775808 by omega]
 · split <;> split <;> omega
 · split <;> split <;> omega
 · split <;> omega
def LB (b l : Nat) : Prop := l < 9218868437227405312 ∧ ((frung b = 0 ∧ l = 0) ∨ (frung b ≠ 0 ∧ ∃ (L : Nat) (m : Int), fval l = U L ∧ fval b = (m : Rat) * U L ∧ m % 2 = 1))
theorem sgn_odd {b : Nat} {m : Nat} {L : Nat} (h : ((fmag (frung b) : Nat) : Rat) * p2 (fpl (frung b)) = ((2 * m + 1 : Nat) : Rat) * U L) : ∃ k : Int, fval b = (k : Rat) * U L ∧ k % 2 = 1 := by
 rw [fval_eq, h]
 unfold sgn1
 cases fneg b
 · exact ⟨(2 * m + 1 : Nat), by rw [if_neg (by decide)]; show 1 * (((2 * m + 1 : Nat) : Rat) * U L) = ((2 * m + 1 : Nat) : Rat) * U L; grind, by omega⟩
 · refine ⟨-((2 * m + 1 : Nat) : Int), ?_, by omega⟩
   rw [if_pos rfl, Rat.intCast_neg]
   show -1 * (((2 * m + 1 : Nat) : Rat) * U L) = -((2 * m + 1 : Nat) : Rat) * U L
   grind
theorem fpl_U (r : Nat) : ∃ P : Nat, p2 (fpl r) = U P := by
 refine ⟨(fpl r + 1074).toNat, ?_⟩
 unfold U
 rw [show (((fpl r + 1074).toNat : Nat) : Int) - 1074 = fpl r by unfold fpl; split <;> omega]
set_option maxHeartbeats 1000000 in
theorem lowest_pow (b : Nat) (w : World) (hb : b < 18446744073709551616) (h0 : b % 4503599627370496 = 0) : Calls Tryz.prog 190 #[.float .f64 b] w fun e w' => e = .returned (.float .f64 (frung b)) ∧ w' = w := by
 have r1 := run_bits b
 have h1 : bits .and .u64 (b : Int) 4503599627370495 = 0 := by
   rw [show (4503599627370495 : Int) = ((4503599627370495 : Nat) : Int) from rfl, u64_and_nat b _ hb (by omega), show (4503599627370495 : Nat) = 2 ^ 52 - 1 by decide, Nat.and_two_pow_sub_one_eq_mod, show (2 : Nat) ^ 52 = 4503599627370496 from rfl, h0]; rfl
 have HA : Hid (∀ w, Calls Tryz.prog 96 #[.float .f64 b] w fun e w' => e = .returned (.float .f64 (frung b)) ∧ w' = w) := fun w => abs_any b w hb
 clear h0 hb
 go_enter Tryz.func190, Tryz.ntmps190
 go_wp2_with fail
 refine (HA.out _).mono ?_
 rintro e w1 ⟨rfl, rfl⟩
 go_wp2
 go_ret
 exact ⟨rfl, rfl⟩
set_option maxHeartbeats 1000000 in
theorem lowest_frac (b c d : Nat) (w : World) (hb : b < 18446744073709551616) (h0 : b % 4503599627370496 ≠ 0) (hc : b &&& (b - 1) = c) (hd : floatBits .sub .f64 b c = some d) (hdl : d < 18446744073709551616) : Calls Tryz.prog 190 #[.float .f64 b] w fun e w' => e = .returned (.float .f64 (frung d)) ∧ w' = w := by
 have r1 := run_bits b
 have r2 := run_frombits c
 have h1 : (bits .and .u64 (b : Int) 4503599627370495 == 0) = false := by
   rw [show (4503599627370495 : Int) = ((4503599627370495 : Nat) : Int) from rfl, u64_and_nat b _ hb (by omega), show (4503599627370495 : Nat) = 2 ^ 52 - 1 by decide, Nat.and_two_pow_sub_one_eq_mod, show (2 : Nat) ^ 52 = 4503599627370496 from rfl]
   rw [beq_eq_false_iff_ne]; omega
 have hb1 : (1 : Int) ≤ (b : Int) := by omega
 have hbl : (b : Int) < 18446744073709551616 := by omega
 have h2 : bits .and .u64 (b : Int) ((b : Int) - 1) = (c : Int) := by
   rw [show (b : Int) - 1 = ((b - 1 : Nat) : Int) by omega, u64_and_nat b _ hb (by omega), hc]
 have rs : ∀ w, (binOp .sub 33 (.float .f64 b) (.float .f64 c)).run Tryz.prog w = .ok (.float .f64 d) w := fun w => run_float_arith w .sub _ .f64 _ _ _ hd
 have HA : Hid (∀ w, Calls Tryz.prog 96 #[.float .f64 d] w fun e w' => e = .returned (.float .f64 (frung d)) ∧ w' = w) := fun w => abs_any d w hdl
 clear h0 hb hc hd hdl
 go_enter Tryz.func190, Tryz.ntmps190
 go_wp2_with fail
 refine (HA.out _).mono ?_
 rintro e w1 ⟨rfl, rfl⟩
 go_wp2
 go_ret
 exact ⟨rfl, rfl⟩
theorem lowestE_any (b : Nat) (w : World) (hb : b < 18446744073709551616) (hf : Fin64 b) : Calls Tryz.prog 190 #[.float .f64 b] w fun e w' => (∃ l, e = .returned (.float .f64 l) ∧ LB b l) ∧ w' = w := by
 have hfr : frung b < 9218868437227405312 := hf
 by_cases h0 : b % 4503599627370496 = 0
 · refine (lowest_pow b w hb h0).mono ?_
   rintro e w' ⟨rfl, rfl⟩
   refine ⟨⟨_, rfl, hfr, ?_⟩, rfl⟩
   by_cases hz : frung b = 0
   · exact Or.inl ⟨hz, hz⟩
   · right
     refine ⟨hz, ?_⟩
     have hm : fmag (frung b) = 4503599627370496 := by unfold fmag; unfold frung at *; split <;> omega
     obtain ⟨P, hP⟩ := fpl_U (frung b)
     have e1 : ((fmag (frung b) : Nat) : Rat) * p2 (fpl (frung b)) = U (P + 52) := by rw [hP, hm, U_52]; rfl
     have hv : fval (frung b) = U (P + 52) := by rw [(fval_pos_lt hfr).1]; exact e1
     obtain ⟨k, hk1, hk2⟩ := sgn_odd (b := b) (m := 0) (L := P + 52) (by rw [e1, show ((2 * 0 + 1 : Nat) : Rat) = 1 from rfl]; grind)
     exact ⟨P + 52, k, hv, hk1, hk2⟩
 · obtain ⟨t, m, ht, e1, e2, e3⟩ := frac_bit h0
   have hc : b &&& (b - 1) = b - 2 ^ t := by
     conv => lhs; rw [e1]
     rw [land_pred, e1]
     have : 2 ^ t * (2 * m + 1) = 2 ^ t * (2 * m) + 2 ^ t := by grind
     omega
   obtain ⟨c1, c2, c3, c4, c5⟩ := frung_cut e3
   obtain ⟨P, hP⟩ := fpl_U (frung b)
   have hle : 2 ^ t ≤ frung b := by unfold frung; omega
   have fc : Fin64 (b - 2 ^ t) := by unfold Fin64; rw [c1]; exact Nat.lt_of_le_of_lt (Nat.sub_le _ _) hfr
   have hd : fval b - fval (b - 2 ^ t) = sgn1 (fneg b) * U (P + t) := by
     have e5 : ((fmag (frung b) : Nat) : Rat) = ((fmag (frung b) - 2 ^ t : Nat) : Rat) + ((2 ^ t : Nat) : Rat) := by rw [← Rat.natCast_add, Nat.sub_add_cancel c5]
     rw [fval_eq b, fval_eq (b - 2 ^ t), c1, c2, c3, c4, hP, U_add, e5]
     grind
   have hF : F (fval b - fval (b - 2 ^ t)) := by
     rw [hd]
     unfold sgn1
     cases fneg b
     · exact ⟨P + t, 1, by rw [if_neg (by decide), one_rat], by omega, by omega⟩
     · exact ⟨P + t, -1, by rw [if_pos rfl]; rfl, by omega, by omega⟩
   have hlim : Lim (fval b - fval (b - 2 ^ t)) := by
     rw [hd]
     have hPb : P + t ≤ 2096 := by
       have h1 : p2 (fpl (frung b)) = U P := hP
       unfold U at h1
       have h2 : fpl (frung b) = (P : Int) - 1074 := by
         have a := (p2_le_iff (a := fpl (frung b)) (b := (P : Int) - 1074)).1 (by rw [h1]; exact Rat.le_refl)
         have b := (p2_le_iff (b := fpl (frung b)) (a := (P : Int) - 1074)).1 (by rw [h1]; exact Rat.le_refl)
         omega
       unfold fpl at h2
       split at h2 <;> omega
     have h1 : U (P + t) < p2 1023 := by unfold U; exact p2_lt (by omega)
     have h2 := U_pos (P + t)
     unfold sgn1
     cases fneg b
     · rw [if_neg (by decide)]; exact ⟨by grind, by grind⟩
     · rw [if_pos rfl]; exact ⟨by grind, by grind⟩
   obtain ⟨d, d1, d2, d3, d4⟩ := sub_bits hf fc hlim
   have dv : fval d = sgn1 (fneg b) * U (P + t) := by rw [← hd]; exact d4.rn.exact hF
   refine (lowest_frac b (b - 2 ^ t) d w hb h0 hc d1 d3).mono ?_
   rintro e w' ⟨rfl, rfl⟩
   refine ⟨⟨_, rfl, d2, Or.inr ⟨by unfold frung; omega, ?_⟩⟩, rfl⟩
   have hv : fval (frung d) = U (P + t) := by
     have h1 := fval_nonneg (r := frung d) d2
     have h2 := U_pos (P + t)
     have hs : sgn1 (fneg b) = 1 ∨ sgn1 (fneg b) = -1 := by unfold sgn1; split <;> simp
     rcases fval_abs d with e | e <;> rcases hs with hs | hs <;> rw [hs] at dv <;> grind
   have hodd : ∃ j, fmag (frung b) = 2 ^ t * (2 * j + 1) := by
     have hfm : fmag (frung b) = b % 4503599627370496 ∨ fmag (frung b) = 4503599627370496 + b % 4503599627370496 := by
       unfold fmag frung; split <;> omega
     have e52 : 4503599627370496 = 2 ^ t * (2 * 2 ^ (51 - t)) := by rw [← Nat.pow_succ', ← Nat.pow_add, show t + (51 - t).succ = 52 by omega]
     have hmod : ∃ j, (2 * m + 1) % 2 ^ (52 - t) = 2 * j + 1 := by
       refine ⟨(2 * m + 1) % 2 ^ (52 - t) / 2, ?_⟩
       have : (2 * m + 1) % 2 ^ (52 - t) % 2 = 1 := by
         rw [Nat.mod_mod_of_dvd _ (by rw [show 52 - t = (51 - t) + 1 by omega, Nat.pow_succ]; exact Nat.dvd_mul_left _ _)]; omega
       omega
     obtain ⟨j, hj⟩ := hmod
     rcases hfm with h | h
     · exact ⟨j, by rw [h, e2, hj]⟩
     · exact ⟨2 ^ (51 - t) + j, by rw [h, e2, hj, e52]; grind⟩
   obtain ⟨j, hj⟩ := hodd
   obtain ⟨k, hk1, hk2⟩ := sgn_odd (b := b) (m := j) (L := P + t) (by rw [hj, hP, U_add, Rat.natCast_mul]; grind)
   exact ⟨P + t, k, hv, hk1, hk2⟩
end

/- How many bits a float has; that two numbers are the same. -/
section
open Go.RowKit
attribute [local go_sem ↓] Go.wp_at_zero Go.wp_at_succ
theorem run_store_float (P : Program) (w : World) (a : Addr) (m : Mode) (k : FloatKind) (b : Nat) : (store a (.float k b) m).run P w = stored P w a (.float k b) m := run_store P w a _ m rfl
theorem Rf.agg {w : World} {v : Value} {q : Rat} (h : Rf w v q) : ∃ S a n c E, v = .agg #[.int .i64 S, .slice a n c, .int .i64 E] := by
 obtain ⟨S, a, n, c, E, h, _⟩ := h.sgn
 exact ⟨S, a, n, c, E, h⟩
end

/- A number and the floats about the one nearest to it: plain facts. Nextafter. -/
section
open Go.RowKit
theorem fin_small {r : Nat} (h : r < 9218868437227405312) : Fin64 r := by unfold Fin64 frung; omega
end

/- Which lists of floats may be, as package expand tells it. -/
section
open Go.RowKit
structure Fs (w : World) (s : Value) (bs : List Nat) : Prop where
 form : ∃ a c, s = .slice a bs.length c ∧ bs.length ≤ c ∧ c ≤ 9223372036854775807 ∧ (bs = [] ∨ ∃ g off, a = some ⟨g, off, none⟩ ∧ ∀ k, k < bs.length → w.cell? ⟨g, off + k, none⟩ = some (.float .f64 (bs.getD k 0)))
 word : ∀ b ∈ bs, b < 18446744073709551616
theorem Fs.later {w w' : World} {s : Value} {bs : List Nat} (h : Fs w s bs) (hb : Below w.heap.size w w') : Fs w' s bs := by
 obtain ⟨⟨a, c, hs, hc, hm, hf⟩, h2⟩ := h
 refine ⟨⟨a, c, hs, hc, hm, ?_⟩, h2⟩
 rcases hf with hf | ⟨g, off, ha, hf⟩
 · exact Or.inl hf
 · exact Or.inr ⟨g, off, ha, fun k hk => box_cell hb (hf k hk)⟩
def MayAt (lo hi : Nat) (bs : List Nat) (i : Nat) : Prop := lo ≤ frung (bs.getD i 0) ∧ frung (bs.getD i 0) ≤ hi ∧ frung (bs.getD i 0) ≠ 0 ∧ (0 < i → Lo (fval (bs.getD (i - 1) 0)) (fval (bs.getD i 0)))
def MayP (lo hi : Nat) (bs : List Nat) : Prop := bs.length ≤ 64 ∧ ∀ i, i < bs.length → MayAt lo hi bs i
theorem getD_word {bs : List Nat} (h : ∀ b ∈ bs, b < 18446744073709551616) (i : Nat) : bs.getD i 0 < 18446744073709551616 := by
 by_cases hi : i < bs.length
 · rw [show bs.getD i 0 = bs[i] by simp [List.getD, hi]]; exact h _ (List.getElem_mem hi)
 · simp [List.getD, List.getElem?_eq_none (Nat.le_of_not_lt hi)]
theorem ab_fval (b : Nat) (h : Fin64 b) : fval (frung b) = ab (fval b) := by
 have h1 := fval_nonneg (r := frung b) h
 unfold ab
 rcases fval_abs b with e | e <;> rw [e] <;> split <;> grind
theorem lo_test {p x l : Nat} (hp : Fin64 p) (hl : LB x l) : FloatKind.f64.format.order (frung p) l == some .lt ↔ frung x ≠ 0 ∧ Lo (fval p) (fval x) := by
 have fp : Fin64 (frung p) := fin_small hp
 have fl : Fin64 l := fin_small hl.1
 rw [order_val fp fl, ab_fval p hp]
 have h0 := ab_nonneg (fval p)
 rcases hl.2 with ⟨z, rfl⟩ | ⟨z, L, m, h1, h2, h3⟩
 · rw [fval0, if_neg (by grind)]
   constructor
   · intro h
     split at h <;> cases h
   · intro h; exact absurd z h.1
 · rw [h1]
   by_cases h : ab (fval p) < U L
   · rw [if_pos h]
     exact ⟨fun _ => ⟨z, L, h, m, h2⟩, fun _ => rfl⟩
   · rw [if_neg h]
     constructor
     · intro h
       split at h <;> cases h
     · rintro ⟨_, t, a, n, b⟩
       exfalso
       have ht : t ≤ L := by
         rcases Nat.lt_or_ge L t with hlt | hge
         · exfalso
           obtain ⟨j, rfl⟩ : ∃ j, t = L + 1 + j := ⟨t - L - 1, by omega⟩
           have e : (m : Rat) * U L = ((n * ((2 ^ j : Nat) : Int) * 2 : Int) : Rat) * U L := by
             rw [← h2, b, show L + 1 + j = (L + 1) + j by omega, U_add, U_succ, Rat.intCast_mul, Rat.intCast_mul]
             show _ = (n : Rat) * ((2 ^ j : Nat) : Rat) * 2 * U L
             grind
           have := int_eq (U_pos L) e
           omega
         · exact hge
       have := U_mono ht
       grind
set_option maxRecDepth 100000 in
set_option maxHeartbeats 4000000 in
theorem mayBe_walk (g off c lo hi : Nat) (bs : List Nat) (w : World) (hc : ∀ k, k < bs.length → w.cell? ⟨g, off + k, none⟩ = some (.float .f64 (bs.getD k 0))) (hw : ∀ b ∈ bs, b < 18446744073709551616) (hl : bs.length ≤ 64) (h1 : lo < 9218868437227405312) (h2 : hi < 9218868437227405312) :
   Calls Tryz.prog 169 #[.slice (some ⟨g, off, none⟩) bs.length c, .float .f64 lo, .float .f64 hi] w fun e w' => (∃ t, e = .returned (.bool t) ∧ (t = true ↔ MayP lo hi bs)) ∧ w' = w := by
 have HC : Hid (∀ k, k < bs.length → w.cell? ⟨g, off + k, none⟩ = some (.float .f64 (bs.getD k 0))) := hc
 have HW : Hid (∀ b ∈ bs, b < 18446744073709551616) := hw
 have l1 : (bs.length : Int) ≤ 64 := by omega
 have HL : Hid (lo < 9218868437227405312 ∧ hi < 9218868437227405312) := ⟨h1, h2⟩
 clear hc hw h1 h2
 go_enter Tryz.func169, Tryz.ntmps169
 go_wp2
 go_loop [7, 16] (fun b i => ∃ (k : Nat) (p : Nat), i = .int .i64 (k : Nat) ∧ b = .float .f64 (frung p) ∧ k ≤ bs.length ∧ Hid ((∀ i, i < k → MayAt lo hi bs i) ∧ p = (if k = 0 then 0 else bs.getD (k - 1) 0))) (fun _ i => bs.length - (intOf i).toNat)
 case atStart => exact ⟨0, 0, rfl, rfl, by omega, fun i hi => by omega, rfl⟩
 case round =>
   obtain ⟨k, p, rfl, rfl, hk, hok⟩ := hrel
   by_cases hlt : k < bs.length
   · have hlt' : (k : Int) < (bs.length : Int) := by omega
     have hk0 : (0 : Int) ≤ (k : Int) := by omega
     have hck := HC.out k hlt
     obtain ⟨x, hx⟩ : ∃ x : Nat, Hid (bs.getD k 0 = x) := ⟨_, rfl⟩
     rw [hx.out] at hck
     have hxw : x < 18446744073709551616 := by rw [← hx.out]; exact getD_word HW.out k
     have hfr : frung x < 9223372036854775808 := Nat.mod_lt _ (by omega)
     have HA : Hid (∀ w, Calls Tryz.prog 96 #[.float .f64 x] w fun e w' => e = .returned (.float .f64 (frung x)) ∧ w' = w) := fun w => abs_any x w hxw
     have q1 := const_leq (r := frung x) (c := lo) hfr HL.out.1
     have q2 := leq_word (r := frung x) (c := hi) hfr HL.out.2
     have HXW : Hid (x < 18446744073709551616) := hxw
     have hno : ¬ MayAt lo hi bs k → ¬ MayP lo hi bs := fun h1 h2 => h1 (h2.2 k hlt)
     have HNO : Hid (¬ MayAt lo hi bs k → ¬ MayP lo hi bs) := hno
     clear hxw hfr hno
     by_cases c1 : lo ≤ frung x ∧ frung x ≤ 9218868437227405312
     · rw [decide_eq_true c1] at q1
       by_cases c2 : frung x ≤ hi
       · rw [decide_eq_true c2] at q2
         have fx : Fin64 x := by unfold Fin64; have := HL.out; omega
         have HB : Hid (∀ w, Calls Tryz.prog 190 #[.float .f64 x] w fun e w' => (∃ l, e = .returned (.float .f64 l) ∧ LB x l) ∧ w' = w) := fun w => lowestE_any x w HXW.out fx
         have HFX : Hid (Fin64 x ∧ lo ≤ frung x ∧ frung x ≤ hi) := ⟨fx, c1.1, c2⟩
         have fp : Fin64 p := by
           rw [hok.out.2]
           split
           · exact fin0
           · have := (hok.out.1 (k - 1) (by omega)).2.1
             unfold Fin64; have := HL.out; omega
         have HFP : Hid (Fin64 p) := fp
         clear c1 c2 fx fp
         go_wp2_with fail
         refine (HA.out _).mono ?_
         rintro e w1 ⟨rfl, rfl⟩
         go_wp2_with fail
         refine (HB.out _).mono ?_
         rintro e w1 ⟨⟨l, rfl, hlb⟩, rfl⟩
         have htest := lo_test HFP.out hlb
         have HT : Hid (FloatKind.f64.format.order (frung p) l == some .lt ↔ frung x ≠ 0 ∧ Lo (fval p) (fval x)) := htest
         have HLB : Hid (LB x l) := hlb
         clear hlb htest
         by_cases c3 : (FloatKind.f64.format.order (frung p) l == some .lt) = true
         · have HM : Hid (MayAt lo hi bs k) := by
             have h3 := HT.out.1 c3
             refine ⟨by rw [hx.out]; exact HFX.out.2.1, by rw [hx.out]; exact HFX.out.2.2, by rw [hx.out]; exact h3.1, fun hp => ?_⟩
             have := hok.out.2
             rw [if_neg (by omega)] at this
             rw [← this, hx.out]; exact h3.2
           go_wp2
           go_round
           case rel => exact ⟨k + 1, x, by go_num, rfl, by omega, fun i hi => by
             by_cases e : i = k
             · rw [e]; exact HM.out
             · exact hok.out.1 i (by omega), by rw [if_neg (by omega), show k + 1 - 1 = k by omega]; exact hx.out.symm⟩
           case measure => simp [intOf]; omega
         · have HM : Hid (¬ MayAt lo hi bs k) := by
             intro h
             refine c3 (HT.out.2 ⟨by rw [← hx.out]; exact h.2.2.1, ?_⟩)
             rw [hok.out.2]
             by_cases hk0 : k = 0
             · rw [if_pos hk0, fval0]
               have hz := h.2.2.1
               rw [hx.out] at hz
               rcases HLB.out.2 with ⟨z, _⟩ | ⟨z, L, m, _, h2, _⟩
               · exact absurd z hz
               · exact ⟨L, by show ab 0 < U L; rw [show ab 0 = 0 by unfold ab; grind]; exact U_pos L, m, h2⟩
             · rw [if_neg hk0, ← hx.out]
               exact h.2.2.2 (by omega)
           have c3' : (FloatKind.f64.format.order (frung p) l == some .lt) = false := by simpa using c3
           clear c3
           go_wp2
           go_ret
           exact ⟨⟨false, rfl, by simp; exact HNO.out HM.out⟩, rfl⟩
       · rw [decide_eq_false c2] at q2
         have HM : Hid (¬ MayAt lo hi bs k) := fun h => c2 (by rw [← hx.out]; exact h.2.1)
         clear c1 c2
         go_wp2_with fail
         refine (HA.out _).mono ?_
         rintro e w1 ⟨rfl, rfl⟩
         go_wp2
         go_ret
         exact ⟨⟨false, rfl, by simp; exact HNO.out HM.out⟩, rfl⟩
     · rw [decide_eq_false c1] at q1
       have HM : Hid (¬ MayAt lo hi bs k) := fun h => c1 ⟨by rw [← hx.out]; exact h.1, by have := h.2.1; rw [hx.out] at this; have := HL.out; omega⟩
       clear c1 q2
       go_wp2_with fail
       refine (HA.out _).mono ?_
       rintro e w1 ⟨rfl, rfl⟩
       go_wp2
       go_ret
       exact ⟨⟨false, rfl, by simp; exact HNO.out HM.out⟩, rfl⟩
   · obtain rfl : k = bs.length := by omega
     have hltb : decide ((bs.length : Int) < (bs.length : Int)) = false := decide_eq_false (by omega)
     go_wp2
     go_ret
     exact ⟨Or.inr ⟨rfl, hl, hok.out.1⟩, rfl⟩
set_option maxRecDepth 100000 in
set_option maxHeartbeats 1000000 in
theorem mayBe_none (a : Option Addr) (c lo hi : Nat) (w : World) :
   Calls Tryz.prog 169 #[.slice a 0 c, .float .f64 lo, .float .f64 hi] w fun e w' => e = .returned (.bool true) ∧ w' = w := by
 go_enter Tryz.func169, Tryz.ntmps169
 go_wp2
 go_loop [7, 16] (fun b i => ∃ p, i = .int .i64 0 ∧ b = .float .f64 p) (fun _ i => 0)
 case atStart => exact ⟨0, rfl, rfl⟩
 case round =>
   obtain ⟨p, rfl, rfl⟩ := hrel
   go_wp2
   go_ret
   exact ⟨rfl, rfl⟩
set_option maxRecDepth 100000 in
set_option maxHeartbeats 1000000 in
theorem mayBe_long (a : Option Addr) (n c lo hi : Nat) (w : World) (h : 64 < n) :
   Calls Tryz.prog 169 #[.slice a n c, .float .f64 lo, .float .f64 hi] w fun e w' => e = .returned (.bool false) ∧ w' = w := by
 have h' : decide (64 < (n : Int)) = true := decide_eq_true (by omega)
 clear h
 go_enter Tryz.func169, Tryz.ntmps169
 go_wp2
 go_ret
 exact ⟨rfl, rfl⟩
set_option maxRecDepth 100000 in
theorem mayBe_any (lo hi : Nat) (s : Value) (bs : List Nat) (w : World) (h : Fs w s bs) (h1 : lo < 9218868437227405312) (h2 : hi < 9218868437227405312) :
   Calls Tryz.prog 169 #[s, .float .f64 lo, .float .f64 hi] w fun e w' => (∃ t, e = .returned (.bool t) ∧ (t = true ↔ MayP lo hi bs)) ∧ w' = w := by
 obtain ⟨⟨a, c, rfl, hc, hm, hf⟩, hw⟩ := h
 by_cases hl : bs.length ≤ 64
 · rcases hf with rfl | ⟨g, off, rfl, hf⟩
   · exact (mayBe_none a c lo hi w).mono fun e w' q => ⟨⟨true, q.1, fun _ => ⟨by simp, fun i hi => by simp at hi⟩, fun _ => rfl⟩, q.2⟩
   · exact mayBe_walk g off c lo hi bs w hf hw hl h1 h2
 · exact (mayBe_long a bs.length c lo hi w (by omega)).mono fun e w' q => ⟨⟨false, q.1, ⟨fun h => Bool.noConfusion h, fun h => absurd h.1 hl⟩⟩, q.2⟩
end

/- Package expand: whether a list may be, its last float, its sign, a list that grows. -/
section
open Go.RowKit
set_option maxRecDepth 100000 in
theorem check_any (s : Value) (bs : List Nat) (w : World) (h : Fs w s bs) :
   Calls Tryz.prog 137 #[s] w fun e w' => (∃ t, e = .returned (.bool t) ∧ (t = true ↔ MayP 0 9065746049896808448 bs)) ∧ w' = w := by
 have HA : Hid (∀ w, Fs w s bs → Calls Tryz.prog 169 #[s, .float .f64 0, .float .f64 9065746049896808448] w fun e w' => (∃ t, e = .returned (.bool t) ∧ (t = true ↔ MayP 0 9065746049896808448 bs)) ∧ w' = w) := fun w h => mayBe_any _ _ s bs w h (by omega) (by omega)
 have HF : Hid (Fs w s bs) := h
 clear h
 go_enter Tryz.func137, Tryz.ntmps137
 go_wp2_with fail
 refine (HA.out _ HF.out).mono ?_
 rintro e w1 ⟨⟨t, rfl, ht⟩, rfl⟩
 have HT : Hid (t = true ↔ MayP 0 9065746049896808448 bs) := ht
 clear ht
 go_wp2_with fail
 go_ret
 exact ⟨⟨t, rfl, HT.out⟩, rfl⟩
set_option maxRecDepth 100000 in
theorem safeE_any (s : Value) (bs : List Nat) (w : World) (h : Fs w s bs) :
   Calls Tryz.prog 133 #[s] w fun e w' => (∃ t, e = .returned (.bool t) ∧ (t = true ↔ MayP 2580562586483294208 6633802251116740608 bs)) ∧ w' = w := by
 have HA : Hid (∀ w, Fs w s bs → Calls Tryz.prog 169 #[s, .float .f64 2580562586483294208, .float .f64 6633802251116740608] w fun e w' => (∃ t, e = .returned (.bool t) ∧ (t = true ↔ MayP 2580562586483294208 6633802251116740608 bs)) ∧ w' = w) := fun w h => mayBe_any _ _ s bs w h (by omega) (by omega)
 have HF : Hid (Fs w s bs) := h
 clear h
 go_enter Tryz.func133, Tryz.ntmps133
 go_wp2_with fail
 refine (HA.out _ HF.out).mono ?_
 rintro e w1 ⟨⟨t, rfl, ht⟩, rfl⟩
 have HT : Hid (t = true ↔ MayP 2580562586483294208 6633802251116740608 bs) := ht
 clear ht
 go_wp2_with fail
 go_ret
 exact ⟨⟨t, rfl, HT.out⟩, rfl⟩
def lastW (bs : List Nat) : Nat := bs.getD (bs.length - 1) 0
set_option maxRecDepth 100000 in
theorem lead_walk (g off n c x : Nat) (w : World) (hc : w.cell? ⟨g, off + n, none⟩ = some (.float .f64 x)) (hn : n < 1000000) :
   Calls Tryz.prog 170 #[.slice (some ⟨g, off, none⟩) (n + 1) c] w fun e w' => e = .returned (.float .f64 x) ∧ w' = w := by
 have e9 : (n : Int) < 1000000 := by omega
 clear hn
 have e0 : ((n : Int) + 1 == 0) = false := by simp; omega
 have e3 : (n : Int) < (n : Int) + 1 := by omega
 have e4 : (0 : Int) ≤ (n : Int) := by omega
 go_enter Tryz.func170, Tryz.ntmps170
 go_wp2
 go_ret
 exact ⟨rfl, rfl⟩
set_option maxRecDepth 100000 in
theorem lead_any (s : Value) (bs : List Nat) (w : World) (h : Fs w s bs) (hlen : bs.length ≤ 1000000) :
   Calls Tryz.prog 170 #[s] w fun e w' => e = .returned (.float .f64 (lastW bs)) ∧ w' = w := by
 obtain ⟨⟨a, c, rfl, hc, hm, hf⟩, hw⟩ := h
 rcases hf with rfl | ⟨g, off, rfl, hf⟩
 · go_enter Tryz.func170, Tryz.ntmps170
   go_wp2
   go_ret
   exact ⟨rfl, rfl⟩
 · by_cases h0 : bs.length = 0
   · have : bs = [] := List.eq_nil_of_length_eq_zero h0
     subst this
     clear hf
     go_enter Tryz.func170, Tryz.ntmps170
     go_wp2
     go_ret
     exact ⟨rfl, rfl⟩
   · obtain ⟨n, hn⟩ : ∃ n, bs.length = n + 1 := ⟨bs.length - 1, by omega⟩
     rw [show lastW bs = bs.getD n 0 by unfold lastW; rw [hn]; rfl, hn]
     exact lead_walk g off n c _ w (hf n (by omega)) (by omega)
theorem order_nan_self {b : Nat} (h : Fin64 b) : FloatKind.f64.format.order b b = some .eq := by
 rw [order_val h h, if_neg Rat.lt_irrefl, if_pos rfl]
set_option maxRecDepth 100000 in
theorem nan_fin (b : Nat) (w : World) (h : Fin64 b) : Calls Tryz.prog 129 #[.float .f64 b] w fun e w' => e = .returned (.bool false) ∧ w' = w := by
 have h1 := order_nan_self h
 clear h
 go_enter Tryz.func129, Tryz.ntmps129
 go_wp2
 go_ret
 exact ⟨rfl, rfl⟩
set_option maxRecDepth 100000 in
set_option maxHeartbeats 1000000 in
theorem compare_zero (b : Nat) (w : World) (h : Fin64 b) : Calls Tryz.prog 97 #[.float .f64 b, .float .f64 0] w fun e w' => e = .returned (.int .i64 (sgq (fval b))) ∧ w' = w := by
 have HN : Hid (∀ w, Calls Tryz.prog 129 #[.float .f64 b] w fun e w' => e = .returned (.bool false) ∧ w' = w) := fun w => nan_fin b w h
 have HZ : Hid (∀ w, Calls Tryz.prog 129 #[.float .f64 0] w fun e w' => e = .returned (.bool false) ∧ w' = w) := fun w => nan_fin 0 w fin0
 have ho := order_val h fin0
 rw [fval0] at ho
 clear h
 have key : ∀ o, FloatKind.f64.format.order b 0 = some o → Calls Tryz.prog 97 #[.float .f64 b, .float .f64 0] w fun e w' => e = .returned (.int .i64 (match o with | .lt => -1 | .eq => 0 | .gt => 1)) ∧ w' = w := by
   intro o hb
   clear ho
   cases o <;>
   · go_enter Tryz.func97, Tryz.ntmps97
     go_wp2_with fail
     refine (HN.out _).mono ?_
     rintro e w1 ⟨rfl, rfl⟩
     go_wp2_with fail
     refine (HZ.out _).mono ?_
     rintro e w1 ⟨rfl, rfl⟩
     go_wp2
     go_ret
     exact ⟨rfl, rfl⟩
 refine (key _ ho).mono ?_
 rintro e w' ⟨rfl, rfl⟩
 refine ⟨?_, rfl⟩
 unfold sgq
 by_cases h1 : fval b < 0
 · rw [if_pos h1]; simp [h1]
 · by_cases h2 : fval b = 0
   · rw [if_neg h1, if_pos h2, h2]; simp
   · rw [if_neg h1, if_neg h2]
     have h3 : 0 < fval b := by grind
     simp [h1, h2]
set_option maxRecDepth 100000 in
theorem signOf_any (s : Value) (bs : List Nat) (w : World) (h : Fs w s bs) (hf : Fin64 (lastW bs)) (hlen : bs.length ≤ 1000000) :
   Calls Tryz.prog 138 #[s] w fun e w' => e = .returned (.int .i64 (sgq (fval (lastW bs)))) ∧ w' = w := by
 have HA : Hid (∀ w, Fs w s bs → Calls Tryz.prog 170 #[s] w fun e w' => e = .returned (.float .f64 (lastW bs)) ∧ w' = w) := fun w h => lead_any s bs w h hlen
 have HF : Hid (Fs w s bs) := h
 have HB : Hid (∀ w, Calls Tryz.prog 97 #[.float .f64 (lastW bs), .float .f64 0] w fun e w' => e = .returned (.int .i64 (sgq (fval (lastW bs)))) ∧ w' = w) := fun w => compare_zero _ w hf
 clear h hf hlen
 go_enter Tryz.func138, Tryz.ntmps138
 go_wp2_with fail
 refine (HA.out _ HF.out).mono ?_
 rintro e w1 ⟨rfl, rfl⟩
 go_wp2_with fail
 refine (HB.out _).mono ?_
 rintro e w1 ⟨rfl, rfl⟩
 go_wp2_with fail
 go_ret
 exact ⟨rfl, rfl⟩
end
end Go.Proofs.YtcgbnjoajieggaaGreat
