/- Own texts, put together: Xe Ha Hc Xf Xg Ob Xh Xi. -/
import Derived.Test.YtcgbnjoajieggaaGreatQ6
import Derived.Test.YtcgbnjoajieggaaGreatQ11
import Derived.Test.YtcgbnjoajieggaaGreatQ15
import Derived.Test.YtcgbnjoajieggaaGreatQ21
import Derived.Test.YtcgbnjoajieggaaGreatQ24
import Derived.Deep.AppendLies
import Derived.OwnWalk
import Derived.Maps.AppendAt
namespace Go.Proofs.YtcgbnjoajieggaaGreat
/- The lowest bit of a float, as package expand tells it. -/
section
open Go.RowKit
theorem land_pred (t m : Nat) : (2 ^ t * (2 * m + 1)) &&& (2 ^ t * (2 * m + 1) - 1) = 2 ^ t * (2 * m) := by
 induction t with
 | zero =>
   rw [Nat.pow_zero, Nat.one_mul, Nat.one_mul, show 2 * m + 1 - 1 = 2 * m by omega]
   apply Nat.eq_of_testBit_eq
   intro i
   rw [Nat.testBit_and]
   cases i with
   | zero => simp [Nat.testBit_zero]
   | succ i => rw [Nat.testBit_succ, Nat.testBit_succ, show (2 * m + 1) / 2 = m by omega, show 2 * m / 2 = m by omega]; simp
 | succ t ih =>
   have hp : 0 < 2 ^ t * (2 * m + 1) := Nat.mul_pos (Nat.two_pow_pos t) (by omega)
   have e1 : 2 ^ (t + 1) * (2 * m + 1) = 2 * (2 ^ t * (2 * m + 1)) := by rw [Nat.pow_succ]; grind
   have e2 : 2 ^ (t + 1) * (2 * m) = 2 * (2 ^ t * (2 * m)) := by rw [Nat.pow_succ]; grind
   rw [e1, e2, ← ih]
   generalize 2 ^ t * (2 * m + 1) = a at *
   apply Nat.eq_of_testBit_eq
   intro i
   rw [Nat.testBit_and]
   cases i with
   | zero => simp [Nat.testBit_zero]
   | succ i => rw [Nat.testBit_succ, Nat.testBit_succ, Nat.testBit_succ, show 2 * a / 2 = a by omega, show (2 * a - 1) / 2 = a - 1 by omega, show 2 * (a &&& (a - 1)) / 2 = a &&& (a - 1) by omega, Nat.testBit_and]
theorem low_bit {n : Nat} (h : n ≠ 0) : ∃ t m, n = 2 ^ t * (2 * m + 1) := by
 induction n using Nat.strongRecOn with
 | ind n ih =>
   by_cases ho : n % 2 = 1
   · exact ⟨0, n / 2, by rw [Nat.pow_zero, Nat.one_mul]; omega⟩
   · obtain ⟨t, m, e⟩ := ih (n / 2) (by omega) (by omega)
     exact ⟨t + 1, m, by rw [Nat.pow_succ]; have : n = 2 * (n / 2) := by omega
                         rw [this, e]; grind⟩
theorem frac_bit {b : Nat} (hf : b % 4503599627370496 ≠ 0) : ∃ t m, t < 52 ∧ b = 2 ^ t * (2 * m + 1) ∧ b % 4503599627370496 = 2 ^ t * ((2 * m + 1) % 2 ^ (52 - t)) ∧ 2 ^ t ≤ b % 4503599627370496 := by
 obtain ⟨t, m, e⟩ := low_bit (n := b) (by omega)
 have ht : t < 52 := by
   rcases Nat.lt_or_ge t 52 with h | h
   · exact h
   · exfalso
     obtain ⟨j, rfl⟩ : ∃ j, t = 52 + j := ⟨t - 52, by omega⟩
     rw [Nat.pow_add, show (2 : Nat) ^ 52 = 4503599627370496 from rfl, Nat.mul_assoc] at e
     rw [e, Nat.mul_mod_right] at hf
     exact hf rfl
 have e52 : 4503599627370496 = 2 ^ t * 2 ^ (52 - t) := by rw [← Nat.pow_add, show t + (52 - t) = 52 by omega]
 have em : b % 4503599627370496 = 2 ^ t * ((2 * m + 1) % 2 ^ (52 - t)) := by
   rw [e52, e, Nat.mul_mod_mul_left]
 refine ⟨t, m, ht, e, em, ?_⟩
 rw [em]
 have : (2 * m + 1) % 2 ^ (52 - t) ≠ 0 := by
   intro h0
   rw [em, h0] at hf
   exact hf (by simp)
 have := Nat.mul_le_mul_left (2 ^ t) (Nat.pos_of_ne_zero this)
 omega
theorem frung_cut {b t : Nat} (h : 2 ^ t ≤ b % 4503599627370496) : frung (b - 2 ^ t) = frung b - 2 ^ t ∧ fneg (b - 2 ^ t) = fneg b ∧ fpl (frung b - 2 ^ t) = fpl (frung b) ∧ fmag (frung b - 2 ^ t) = fmag (frung b) - 2 ^ t ∧ 2 ^ t ≤ fmag (frung b) := by
 generalize 2 ^ t = x at *
 unfold frung fneg fpl fmag
 refine ⟨by omega, ?_, ?_, ?_, ?_⟩
 · rw [show (b - x) / 9223372036854775808 = b / 9223372036854775808 by omega]
 · split <;> split <;> omega
 · split <;> split <;> omega
 · split <;> omega
def LB (b l : Nat) : Prop := l < 9218868437227405312 ∧ ((frung b = 0 ∧ l = 0) ∨ (frung b ≠ 0 ∧ ∃ (L : Nat) (m : Int), fval l = U L ∧ fval b = (m : Rat) * U L ∧ m % 2 = 1))
theorem sgn_odd {b : Nat} {m : Nat} {L : Nat} (h : ((fmag (frung b) : Nat) : Rat) * p2 (fpl (frung b)) = ((2 * m + 1 : Nat) : Rat) * U L) : ∃ k : Int, fval b = (k : Rat) * U L ∧ k % 2 = 1 := by
 rw [fval_eq, h]
 unfold sgn1
 cases fneg b
 · exact ⟨(2 * m + 1 : Nat), by rw [if_neg (by decide)]; show 1 * (((2 * m + 1 : Nat) : Rat) * U L) = ((2 * m + 1 : Nat) : Rat) * U L; grind, by omega⟩
 · refine ⟨-((2 * m + 1 : Nat) : Int), ?_, by omega⟩
   rw [if_pos rfl, Rat.intCast_neg]
   show -1 * (((2 * m + 1 : Nat) : Rat) * U L) = -((2 * m + 1 : Nat) : Rat) * U L
   grind
theorem fpl_U (r : Nat) : ∃ P : Nat, p2 (fpl r) = U P := by
 refine ⟨(fpl r + 1074).toNat, ?_⟩
 unfold U
 rw [show (((fpl r + 1074).toNat : Nat) : Int) - 1074 = fpl r by unfold fpl; split <;> omega]
set_option maxHeartbeats 1000000 in
theorem lowest_pow (b : Nat) (w : World) (hb : b < 18446744073709551616) (h0 : b % 4503599627370496 = 0) : Calls Tryz.prog 190 #[.float .f64 b] w fun e w' => e = .returned (.float .f64 (frung b)) ∧ w' = w := by
 have r1 := run_bits b
 have h1 : bits .and .u64 (b : Int) 4503599627370495 = 0 := by
   rw [show (4503599627370495 : Int) = ((4503599627370495 : Nat) : Int) from rfl, u64_and_nat b _ hb (by omega), show (4503599627370495 : Nat) = 2 ^ 52 - 1 by decide, Nat.and_two_pow_sub_one_eq_mod, show (2 : Nat) ^ 52 = 4503599627370496 from rfl, h0]; rfl
 have HA : Hid (∀ w, Calls Tryz.prog 96 #[.float .f64 b] w fun e w' => e = .returned (.float .f64 (frung b)) ∧ w' = w) := fun w => abs_any b w hb
 clear h0 hb
 go_enter Tryz.func190, Tryz.ntmps190
 go_wp2_with fail
 refine (HA.out _).mono ?_
 rintro e w1 ⟨rfl, rfl⟩
 go_wp2
 go_ret
 exact ⟨rfl, rfl⟩
set_option maxHeartbeats 1000000 in
theorem lowest_frac (b c d : Nat) (w : World) (hb : b < 18446744073709551616) (h0 : b % 4503599627370496 ≠ 0) (hc : b &&& (b - 1) = c) (hd : floatBits .sub .f64 b c = some d) (hdl : d < 18446744073709551616) : Calls Tryz.prog 190 #[.float .f64 b] w fun e w' => e = .returned (.float .f64 (frung d)) ∧ w' = w := by
 have r1 := run_bits b
 have r2 := run_frombits c
 have h1 : (bits .and .u64 (b : Int) 4503599627370495 == 0) = false := by
   rw [show (4503599627370495 : Int) = ((4503599627370495 : Nat) : Int) from rfl, u64_and_nat b _ hb (by omega), show (4503599627370495 : Nat) = 2 ^ 52 - 1 by decide, Nat.and_two_pow_sub_one_eq_mod, show (2 : Nat) ^ 52 = 4503599627370496 from rfl]
   rw [beq_eq_false_iff_ne]; omega
 have hb1 : (1 : Int) ≤ (b : Int) := by omega
 have hbl : (b : Int) < 18446744073709551616 := by omega
 have h2 : bits .and .u64 (b : Int) ((b : Int) - 1) = (c : Int) := by
   rw [show (b : Int) - 1 = ((b - 1 : Nat) : Int) by omega, u64_and_nat b _ hb (by omega), hc]
 have rs : ∀ w, (binOp .sub 33 (.float .f64 b) (.float .f64 c)).run Tryz.prog w = .ok (.float .f64 d) w := fun w => run_float_arith w .sub _ .f64 _ _ _ hd
 have HA : Hid (∀ w, Calls Tryz.prog 96 #[.float .f64 d] w fun e w' => e = .returned (.float .f64 (frung d)) ∧ w' = w) := fun w => abs_any d w hdl
 clear h0 hb hc hd hdl
 go_enter Tryz.func190, Tryz.ntmps190
 go_wp2_with fail
 refine (HA.out _).mono ?_
 rintro e w1 ⟨rfl, rfl⟩
 go_wp2
 go_ret
 exact ⟨rfl, rfl⟩
theorem lowestE_any (b : Nat) (w : World) (hb : b < 18446744073709551616) (hf : Fin64 b) : Calls Tryz.prog 190 #[.float .f64 b] w fun e w' => (∃ l, e = .returned (.float .f64 l) ∧ LB b l) ∧ w' = w := by
 have hfr : frung b < 9218868437227405312 := hf
 by_cases h0 : b % 4503599627370496 = 0
 · refine (lowest_pow b w hb h0).mono ?_
   rintro e w' ⟨rfl, rfl⟩
   refine ⟨⟨_, rfl, hfr, ?_⟩, rfl⟩
   by_cases hz : frung b = 0
   · exact Or.inl ⟨hz, hz⟩
   · right
     refine ⟨hz, ?_⟩
     have hm : fmag (frung b) = 4503599627370496 := by unfold fmag; unfold frung at *; split <;> omega
     obtain ⟨P, hP⟩ := fpl_U (frung b)
     have e1 : ((fmag (frung b) : Nat) : Rat) * p2 (fpl (frung b)) = U (P + 52) := by rw [hP, hm, U_52]; rfl
     have hv : fval (frung b) = U (P + 52) := by rw [(fval_pos_lt hfr).1]; exact e1
     obtain ⟨k, hk1, hk2⟩ := sgn_odd (b := b) (m := 0) (L := P + 52) (by rw [e1, show ((2 * 0 + 1 : Nat) : Rat) = 1 from rfl]; grind)
     exact ⟨P + 52, k, hv, hk1, hk2⟩
 · obtain ⟨t, m, ht, e1, e2, e3⟩ := frac_bit h0
   have hc : b &&& (b - 1) = b - 2 ^ t := by
     conv => lhs; rw [e1]
     rw [land_pred, e1]
     have : 2 ^ t * (2 * m + 1) = 2 ^ t * (2 * m) + 2 ^ t := by grind
     omega
   obtain ⟨c1, c2, c3, c4, c5⟩ := frung_cut e3
   obtain ⟨P, hP⟩ := fpl_U (frung b)
   have hle : 2 ^ t ≤ frung b := by unfold frung; omega
   have fc : Fin64 (b - 2 ^ t) := by unfold Fin64; rw [c1]; exact Nat.lt_of_le_of_lt (Nat.sub_le _ _) hfr
   have hd : fval b - fval (b - 2 ^ t) = sgn1 (fneg b) * U (P + t) := by
     have e5 : ((fmag (frung b) : Nat) : Rat) = ((fmag (frung b) - 2 ^ t : Nat) : Rat) + ((2 ^ t : Nat) : Rat) := by rw [← Rat.natCast_add, Nat.sub_add_cancel c5]
     rw [fval_eq b, fval_eq (b - 2 ^ t), c1, c2, c3, c4, hP, U_add, e5]
     grind
   have hF : F (fval b - fval (b - 2 ^ t)) := by
     rw [hd]
     unfold sgn1
     cases fneg b
     · exact ⟨P + t, 1, by rw [if_neg (by decide), one_rat], by omega, by omega⟩
     · exact ⟨P + t, -1, by rw [if_pos rfl]; rfl, by omega, by omega⟩
   have hlim : Lim (fval b - fval (b - 2 ^ t)) := by
     rw [hd]
     have hPb : P + t ≤ 2096 := by
       have h1 : p2 (fpl (frung b)) = U P := hP
       unfold U at h1
       have h2 : fpl (frung b) = (P : Int) - 1074 := by
         have a := (p2_le_iff (a := fpl (frung b)) (b := (P : Int) - 1074)).1 (by rw [h1]; exact Rat.le_refl)
         have b := (p2_le_iff (b := fpl (frung b)) (a := (P : Int) - 1074)).1 (by rw [h1]; exact Rat.le_refl)
         omega
       unfold fpl at h2
       split at h2 <;> omega
     have h1 : U (P + t) < p2 1023 := by unfold U; exact p2_lt (by omega)
     have h2 := U_pos (P + t)
     unfold sgn1
     cases fneg b
     · rw [if_neg (by decide)]; exact ⟨by grind, by grind⟩
     · rw [if_pos rfl]; exact ⟨by grind, by grind⟩
   obtain ⟨d, d1, d2, d3, d4⟩ := sub_bits hf fc hlim
   have dv : fval d = sgn1 (fneg b) * U (P + t) := by rw [← hd]; exact d4.rn.exact hF
   refine (lowest_frac b (b - 2 ^ t) d w hb h0 hc d1 d3).mono ?_
   rintro e w' ⟨rfl, rfl⟩
   refine ⟨⟨_, rfl, d2, Or.inr ⟨by unfold frung; omega, ?_⟩⟩, rfl⟩
   have hv : fval (frung d) = U (P + t) := by
     have h1 := fval_nonneg (r := frung d) d2
     have h2 := U_pos (P + t)
     have hs : sgn1 (fneg b) = 1 ∨ sgn1 (fneg b) = -1 := by unfold sgn1; split <;> simp
     rcases fval_abs d with e | e <;> rcases hs with hs | hs <;> rw [hs] at dv <;> grind
   have hodd : ∃ j, fmag (frung b) = 2 ^ t * (2 * j + 1) := by
     have hfm : fmag (frung b) = b % 4503599627370496 ∨ fmag (frung b) = 4503599627370496 + b % 4503599627370496 := by
       unfold fmag frung; split <;> omega
     have e52 : 4503599627370496 = 2 ^ t * (2 * 2 ^ (51 - t)) := by rw [← Nat.pow_succ', ← Nat.pow_add, show t + (51 - t).succ = 52 by omega]
     have hmod : ∃ j, (2 * m + 1) % 2 ^ (52 - t) = 2 * j + 1 := by
       refine ⟨(2 * m + 1) % 2 ^ (52 - t) / 2, ?_⟩
       have : (2 * m + 1) % 2 ^ (52 - t) % 2 = 1 := by
         rw [Nat.mod_mod_of_dvd _ (by rw [show 52 - t = (51 - t) + 1 by omega, Nat.pow_succ]; exact Nat.dvd_mul_left _ _)]; omega
       omega
     obtain ⟨j, hj⟩ := hmod
     rcases hfm with h | h
     · exact ⟨j, by rw [h, e2, hj]⟩
     · exact ⟨2 ^ (51 - t) + j, by rw [h, e2, hj, e52]; grind⟩
   obtain ⟨j, hj⟩ := hodd
   obtain ⟨k, hk1, hk2⟩ := sgn_odd (b := b) (m := j) (L := P + t) (by rw [hj, hP, U_add, Rat.natCast_mul]; grind)
   exact ⟨P + t, k, hv, hk1, hk2⟩
end

/- How many bits a float has; that two numbers are the same. -/
section
open Go.RowKit
attribute [local go_sem ↓] Go.wp_at_zero Go.wp_at_succ
theorem run_store_float (P : Program) (w : World) (a : Addr) (m : Mode) (k : FloatKind) (b : Nat) : (store a (.float k b) m).run P w = stored P w a (.float k b) m := run_store P w a _ m rfl
theorem Rf.agg {w : World} {v : Value} {q : Rat} (h : Rf w v q) : ∃ S a n c E, v = .agg #[.int .i64 S, .slice a n c, .int .i64 E] := by
 obtain ⟨S, a, n, c, E, h, _⟩ := h.sgn
 exact ⟨S, a, n, c, E, h⟩
end

/- A number and the floats about the one nearest to it: plain facts. Nextafter. -/
section
open Go.RowKit
theorem fin_small {r : Nat} (h : r < 9218868437227405312) : Fin64 r := by unfold Fin64 frung; omega
end

/- Which lists of floats may be, as package expand tells it. -/
section
open Go.RowKit
structure Fs (w : World) (s : Value) (bs : List Nat) : Prop where
 form : ∃ a c, s = .slice a bs.length c ∧ bs.length ≤ c ∧ c ≤ 9223372036854775807 ∧ (bs = [] ∨ ∃ g off, a = some ⟨g, off, none⟩ ∧ ∀ k, k < bs.length → w.cell? ⟨g, off + k, none⟩ = some (.float .f64 (bs.getD k 0)))
 word : ∀ b ∈ bs, b < 18446744073709551616
theorem Fs.later {w w' : World} {s : Value} {bs : List Nat} (h : Fs w s bs) (hb : Below w.heap.size w w') : Fs w' s bs := by
 obtain ⟨⟨a, c, hs, hc, hm, hf⟩, h2⟩ := h
 refine ⟨⟨a, c, hs, hc, hm, ?_⟩, h2⟩
 rcases hf with hf | ⟨g, off, ha, hf⟩
 · exact Or.inl hf
 · exact Or.inr ⟨g, off, ha, fun k hk => box_cell hb (hf k hk)⟩
def MayAt (lo hi : Nat) (bs : List Nat) (i : Nat) : Prop := lo ≤ frung (bs.getD i 0) ∧ frung (bs.getD i 0) ≤ hi ∧ frung (bs.getD i 0) ≠ 0 ∧ (0 < i → Lo (fval (bs.getD (i - 1) 0)) (fval (bs.getD i 0)))
def MayP (lo hi : Nat) (bs : List Nat) : Prop := bs.length ≤ 64 ∧ ∀ i, i < bs.length → MayAt lo hi bs i
theorem getD_word {bs : List Nat} (h : ∀ b ∈ bs, b < 18446744073709551616) (i : Nat) : bs.getD i 0 < 18446744073709551616 := by
 by_cases hi : i < bs.length
 · rw [show bs.getD i 0 = bs[i] by simp [List.getD, hi]]; exact h _ (List.getElem_mem hi)
 · simp [List.getD, List.getElem?_eq_none (Nat.le_of_not_lt hi)]
theorem ab_fval (b : Nat) (h : Fin64 b) : fval (frung b) = ab (fval b) := by
 have h1 := fval_nonneg (r := frung b) h
 unfold ab
 rcases fval_abs b with e | e <;> rw [e] <;> split <;> grind
theorem lo_test {p x l : Nat} (hp : Fin64 p) (hl : LB x l) : FloatKind.f64.format.order (frung p) l == some .lt ↔ frung x ≠ 0 ∧ Lo (fval p) (fval x) := by
 have fp : Fin64 (frung p) := fin_small hp
 have fl : Fin64 l := fin_small hl.1
 rw [order_val fp fl, ab_fval p hp]
 have h0 := ab_nonneg (fval p)
 rcases hl.2 with ⟨z, rfl⟩ | ⟨z, L, m, h1, h2, h3⟩
 · rw [fval0, if_neg (by grind)]
   constructor
   · intro h
     split at h <;> cases h
   · intro h; exact absurd z h.1
 · rw [h1]
   by_cases h : ab (fval p) < U L
   · rw [if_pos h]
     exact ⟨fun _ => ⟨z, L, h, m, h2⟩, fun _ => rfl⟩
   · rw [if_neg h]
     constructor
     · intro h
       split at h <;> cases h
     · rintro ⟨_, t, a, n, b⟩
       exfalso
       have ht : t ≤ L := by
         rcases Nat.lt_or_ge L t with hlt | hge
         · exfalso
           obtain ⟨j, rfl⟩ : ∃ j, t = L + 1 + j := ⟨t - L - 1, by omega⟩
           have e : (m : Rat) * U L = ((n * ((2 ^ j : Nat) : Int) * 2 : Int) : Rat) * U L := by
             rw [← h2, b, show L + 1 + j = (L + 1) + j by omega, U_add, U_succ, Rat.intCast_mul, Rat.intCast_mul]
             show _ = (n : Rat) * ((2 ^ j : Nat) : Rat) * 2 * U L
             grind
           have := int_eq (U_pos L) e
           omega
         · exact hge
       have := U_mono ht
       grind
set_option maxRecDepth 100000 in
set_option maxHeartbeats 4000000 in
theorem mayBe_walk (g off c lo hi : Nat) (bs : List Nat) (w : World) (hc : ∀ k, k < bs.length → w.cell? ⟨g, off + k, none⟩ = some (.float .f64 (bs.getD k 0))) (hw : ∀ b ∈ bs, b < 18446744073709551616) (hl : bs.length ≤ 64) (h1 : lo < 9218868437227405312) (h2 : hi < 9218868437227405312) :
   Calls Tryz.prog 169 #[.slice (some ⟨g, off, none⟩) bs.length c, .float .f64 lo, .float .f64 hi] w fun e w' => (∃ t, e = .returned (.bool t) ∧ (t = true ↔ MayP lo hi bs)) ∧ w' = w := by
 have HC : Hid (∀ k, k < bs.length → w.cell? ⟨g, off + k, none⟩ = some (.float .f64 (bs.getD k 0))) := hc
 have HW : Hid (∀ b ∈ bs, b < 18446744073709551616) := hw
 have l1 : (bs.length : Int) ≤ 64 := by omega
 have HL : Hid (lo < 9218868437227405312 ∧ hi < 9218868437227405312) := ⟨h1, h2⟩
 clear hc hw h1 h2
 go_enter Tryz.func169, Tryz.ntmps169
 go_wp2
 go_loop [7, 16] (fun b i => ∃ (k : Nat) (p : Nat), i = .int .i64 (k : Nat) ∧ b = .float .f64 (frung p) ∧ k ≤ bs.length ∧ Hid ((∀ i, i < k → MayAt lo hi bs i) ∧ p = (if k = 0 then 0 else bs.getD (k - 1) 0))) (fun _ i => bs.length - (intOf i).toNat)
 case atStart => exact ⟨0, 0, rfl, rfl, by omega, fun i hi => by omega, rfl⟩
 case round =>
   obtain ⟨k, p, rfl, rfl, hk, hok⟩ := hrel
   by_cases hlt : k < bs.length
   · have hlt' : (k : Int) < (bs.length : Int) := by omega
     have hk0 : (0 : Int) ≤ (k : Int) := by omega
     have hck := HC.out k hlt
     obtain ⟨x, hx⟩ : ∃ x : Nat, Hid (bs.getD k 0 = x) := ⟨_, rfl⟩
     rw [hx.out] at hck
     have hxw : x < 18446744073709551616 := by rw [← hx.out]; exact getD_word HW.out k
     have hfr : frung x < 9223372036854775808 := Nat.mod_lt _ (by omega)
     have HA : Hid (∀ w, Calls Tryz.prog 96 #[.float .f64 x] w fun e w' => e = .returned (.float .f64 (frung x)) ∧ w' = w) := fun w => abs_any x w hxw
     have q1 := const_leq (r := frung x) (c := lo) hfr HL.out.1
     have q2 := leq_word (r := frung x) (c := hi) hfr HL.out.2
     have HXW : Hid (x < 18446744073709551616) := hxw
     have hno : ¬ MayAt lo hi bs k → ¬ MayP lo hi bs := fun h1 h2 => h1 (h2.2 k hlt)
     have HNO : Hid (¬ MayAt lo hi bs k → ¬ MayP lo hi bs) := hno
     clear hxw hfr hno
     by_cases c1 : lo ≤ frung x ∧ frung x ≤ 9218868437227405312
     · rw [decide_eq_true c1] at q1
       by_cases c2 : frung x ≤ hi
       · rw [decide_eq_true c2] at q2
         have fx : Fin64 x := by unfold Fin64; have := HL.out; omega
         have HB : Hid (∀ w, Calls Tryz.prog 190 #[.float .f64 x] w fun e w' => (∃ l, e = .returned (.float .f64 l) ∧ LB x l) ∧ w' = w) := fun w => lowestE_any x w HXW.out fx
         have HFX : Hid (Fin64 x ∧ lo ≤ frung x ∧ frung x ≤ hi) := ⟨fx, c1.1, c2⟩
         have fp : Fin64 p := by
           rw [hok.out.2]
           split
           · exact fin0
           · have := (hok.out.1 (k - 1) (by omega)).2.1
             unfold Fin64; have := HL.out; omega
         have HFP : Hid (Fin64 p) := fp
         clear c1 c2 fx fp
         go_wp2_with fail
         refine (HA.out _).mono ?_
         rintro e w1 ⟨rfl, rfl⟩
         go_wp2_with fail
         refine (HB.out _).mono ?_
         rintro e w1 ⟨⟨l, rfl, hlb⟩, rfl⟩
         have htest := lo_test HFP.out hlb
         have HT : Hid (FloatKind.f64.format.order (frung p) l == some .lt ↔ frung x ≠ 0 ∧ Lo (fval p) (fval x)) := htest
         have HLB : Hid (LB x l) := hlb
         clear hlb htest
         by_cases c3 : (FloatKind.f64.format.order (frung p) l == some .lt) = true
         · have HM : Hid (MayAt lo hi bs k) := by
             have h3 := HT.out.1 c3
             refine ⟨by rw [hx.out]; exact HFX.out.2.1, by rw [hx.out]; exact HFX.out.2.2, by rw [hx.out]; exact h3.1, fun hp => ?_⟩
             have := hok.out.2
             rw [if_neg (by omega)] at this
             rw [← this, hx.out]; exact h3.2
           go_wp2
           go_round
           case rel => exact ⟨k + 1, x, by go_num, rfl, by omega, fun i hi => by
             by_cases e : i = k
             · rw [e]; exact HM.out
             · exact hok.out.1 i (by omega), by rw [if_neg (by omega), show k + 1 - 1 = k by omega]; exact hx.out.symm⟩
           case measure => simp [intOf]; omega
         · have HM : Hid (¬ MayAt lo hi bs k) := by
             intro h
             refine c3 (HT.out.2 ⟨by rw [← hx.out]; exact h.2.2.1, ?_⟩)
             rw [hok.out.2]
             by_cases hk0 : k = 0
             · rw [if_pos hk0, fval0]
               have hz := h.2.2.1
               rw [hx.out] at hz
               rcases HLB.out.2 with ⟨z, _⟩ | ⟨z, L, m, _, h2, _⟩
               · exact absurd z hz
               · exact ⟨L, by show ab 0 < U L; rw [show ab 0 = 0 by unfold ab; grind]; exact U_pos L, m, h2⟩
             · rw [if_neg hk0, ← hx.out]
               exact h.2.2.2 (by omega)
           have c3' : (FloatKind.f64.format.order (frung p) l == some .lt) = false := by simpa using c3
           clear c3
           go_wp2
           go_ret
           exact ⟨⟨false, rfl, by simp; exact HNO.out HM.out⟩, rfl⟩
       · rw [decide_eq_false c2] at q2
         have HM : Hid (¬ MayAt lo hi bs k) := fun h => c2 (by rw [← hx.out]; exact h.2.1)
         clear c1 c2
         go_wp2_with fail
         refine (HA.out _).mono ?_
         rintro e w1 ⟨rfl, rfl⟩
         go_wp2
         go_ret
         exact ⟨⟨false, rfl, by simp; exact HNO.out HM.out⟩, rfl⟩
     · rw [decide_eq_false c1] at q1
       have HM : Hid (¬ MayAt lo hi bs k) := fun h => c1 ⟨by rw [← hx.out]; exact h.1, by have := h.2.1; rw [hx.out] at this; have := HL.out; omega⟩
       clear c1 q2
       go_wp2_with fail
       refine (HA.out _).mono ?_
       rintro e w1 ⟨rfl, rfl⟩
       go_wp2
       go_ret
       exact ⟨⟨false, rfl, by simp; exact HNO.out HM.out⟩, rfl⟩
   · obtain rfl : k = bs.length := by omega
     have hltb : decide ((bs.length : Int) < (bs.length : Int)) = false := decide_eq_false (by omega)
     go_wp2
     go_ret
     exact ⟨Or.inr ⟨rfl, hl, hok.out.1⟩, rfl⟩
set_option maxRecDepth 100000 in
set_option maxHeartbeats 1000000 in
theorem mayBe_none (a : Option Addr) (c lo hi : Nat) (w : World) :
   Calls Tryz.prog 169 #[.slice a 0 c, .float .f64 lo, .float .f64 hi] w fun e w' => e = .returned (.bool true) ∧ w' = w := by
 go_enter Tryz.func169, Tryz.ntmps169
 go_wp2
 go_loop [7, 16] (fun b i => ∃ p, i = .int .i64 0 ∧ b = .float .f64 p) (fun _ i => 0)
 case atStart => exact ⟨0, rfl, rfl⟩
 case round =>
   obtain ⟨p, rfl, rfl⟩ := hrel
   go_wp2
   go_ret
   exact ⟨rfl, rfl⟩
set_option maxRecDepth 100000 in
set_option maxHeartbeats 1000000 in
theorem mayBe_long (a : Option Addr) (n c lo hi : Nat) (w : World) (h : 64 < n) :
   Calls Tryz.prog 169 #[.slice a n c, .float .f64 lo, .float .f64 hi] w fun e w' => e = .returned (.bool false) ∧ w' = w := by
 have h' : decide (64 < (n : Int)) = true := decide_eq_true (by omega)
 clear h
 go_enter Tryz.func169, Tryz.ntmps169
 go_wp2
 go_ret
 exact ⟨rfl, rfl⟩
set_option maxRecDepth 100000 in
theorem mayBe_any (lo hi : Nat) (s : Value) (bs : List Nat) (w : World) (h : Fs w s bs) (h1 : lo < 9218868437227405312) (h2 : hi < 9218868437227405312) :
   Calls Tryz.prog 169 #[s, .float .f64 lo, .float .f64 hi] w fun e w' => (∃ t, e = .returned (.bool t) ∧ (t = true ↔ MayP lo hi bs)) ∧ w' = w := by
 obtain ⟨⟨a, c, rfl, hc, hm, hf⟩, hw⟩ := h
 by_cases hl : bs.length ≤ 64
 · rcases hf with rfl | ⟨g, off, rfl, hf⟩
   · exact (mayBe_none a c lo hi w).mono fun e w' q => ⟨⟨true, q.1, fun _ => ⟨by simp, fun i hi => by simp at hi⟩, fun _ => rfl⟩, q.2⟩
   · exact mayBe_walk g off c lo hi bs w hf hw hl h1 h2
 · exact (mayBe_long a bs.length c lo hi w (by omega)).mono fun e w' q => ⟨⟨false, q.1, ⟨fun h => Bool.noConfusion h, fun h => absurd h.1 hl⟩⟩, q.2⟩
end

/- Package expand: whether a list may be, its last float, its sign, a list that grows. -/
section
open Go.RowKit
set_option maxRecDepth 100000 in
theorem check_any (s : Value) (bs : List Nat) (w : World) (h : Fs w s bs) :
   Calls Tryz.prog 137 #[s] w fun e w' => (∃ t, e = .returned (.bool t) ∧ (t = true ↔ MayP 0 9065746049896808448 bs)) ∧ w' = w := by
 have HA : Hid (∀ w, Fs w s bs → Calls Tryz.prog 169 #[s, .float .f64 0, .float .f64 9065746049896808448] w fun e w' => (∃ t, e = .returned (.bool t) ∧ (t = true ↔ MayP 0 9065746049896808448 bs)) ∧ w' = w) := fun w h => mayBe_any _ _ s bs w h (by omega) (by omega)
 have HF : Hid (Fs w s bs) := h
 clear h
 go_enter Tryz.func137, Tryz.ntmps137
 go_wp2_with fail
 refine (HA.out _ HF.out).mono ?_
 rintro e w1 ⟨⟨t, rfl, ht⟩, rfl⟩
 have HT : Hid (t = true ↔ MayP 0 9065746049896808448 bs) := ht
 clear ht
 go_wp2_with fail
 go_ret
 exact ⟨⟨t, rfl, HT.out⟩, rfl⟩
set_option maxRecDepth 100000 in
theorem safeE_any (s : Value) (bs : List Nat) (w : World) (h : Fs w s bs) :
   Calls Tryz.prog 133 #[s] w fun e w' => (∃ t, e = .returned (.bool t) ∧ (t = true ↔ MayP 2580562586483294208 6633802251116740608 bs)) ∧ w' = w := by
 have HA : Hid (∀ w, Fs w s bs → Calls Tryz.prog 169 #[s, .float .f64 2580562586483294208, .float .f64 6633802251116740608] w fun e w' => (∃ t, e = .returned (.bool t) ∧ (t = true ↔ MayP 2580562586483294208 6633802251116740608 bs)) ∧ w' = w) := fun w h => mayBe_any _ _ s bs w h (by omega) (by omega)
 have HF : Hid (Fs w s bs) := h
 clear h
 go_enter Tryz.func133, Tryz.ntmps133
 go_wp2_with fail
 refine (HA.out _ HF.out).mono ?_
 rintro e w1 ⟨⟨t, rfl, ht⟩, rfl⟩
 have HT : Hid (t = true ↔ MayP 2580562586483294208 6633802251116740608 bs) := ht
 clear ht
 go_wp2_with fail
 go_ret
 exact ⟨⟨t, rfl, HT.out⟩, rfl⟩
def lastW (bs : List Nat) : Nat := bs.getD (bs.length - 1) 0
set_option maxRecDepth 100000 in
theorem lead_walk (g off n c x : Nat) (w : World) (hc : w.cell? ⟨g, off + n, none⟩ = some (.float .f64 x)) (hn : n < 1000000) :
   Calls Tryz.prog 170 #[.slice (some ⟨g, off, none⟩) (n + 1) c] w fun e w' => e = .returned (.float .f64 x) ∧ w' = w := by
 have e9 : (n : Int) < 1000000 := by omega
 clear hn
 have e0 : ((n : Int) + 1 == 0) = false := by simp; omega
 have e3 : (n : Int) < (n : Int) + 1 := by omega
 have e4 : (0 : Int) ≤ (n : Int) := by omega
 go_enter Tryz.func170, Tryz.ntmps170
 go_wp2
 go_ret
 exact ⟨rfl, rfl⟩
set_option maxRecDepth 100000 in
theorem lead_any (s : Value) (bs : List Nat) (w : World) (h : Fs w s bs) (hlen : bs.length ≤ 1000000) :
   Calls Tryz.prog 170 #[s] w fun e w' => e = .returned (.float .f64 (lastW bs)) ∧ w' = w := by
 obtain ⟨⟨a, c, rfl, hc, hm, hf⟩, hw⟩ := h
 rcases hf with rfl | ⟨g, off, rfl, hf⟩
 · go_enter Tryz.func170, Tryz.ntmps170
   go_wp2
   go_ret
   exact ⟨rfl, rfl⟩
 · by_cases h0 : bs.length = 0
   · have : bs = [] := List.eq_nil_of_length_eq_zero h0
     subst this
     clear hf
     go_enter Tryz.func170, Tryz.ntmps170
     go_wp2
     go_ret
     exact ⟨rfl, rfl⟩
   · obtain ⟨n, hn⟩ : ∃ n, bs.length = n + 1 := ⟨bs.length - 1, by omega⟩
     rw [show lastW bs = bs.getD n 0 by unfold lastW; rw [hn]; rfl, hn]
     exact lead_walk g off n c _ w (hf n (by omega)) (by omega)
theorem order_nan_self {b : Nat} (h : Fin64 b) : FloatKind.f64.format.order b b = some .eq := by
 rw [order_val h h, if_neg Rat.lt_irrefl, if_pos rfl]
set_option maxRecDepth 100000 in
theorem nan_fin (b : Nat) (w : World) (h : Fin64 b) : Calls Tryz.prog 129 #[.float .f64 b] w fun e w' => e = .returned (.bool false) ∧ w' = w := by
 have h1 := order_nan_self h
 clear h
 go_enter Tryz.func129, Tryz.ntmps129
 go_wp2
 go_ret
 exact ⟨rfl, rfl⟩
set_option maxRecDepth 100000 in
set_option maxHeartbeats 1000000 in
theorem compare_zero (b : Nat) (w : World) (h : Fin64 b) : Calls Tryz.prog 97 #[.float .f64 b, .float .f64 0] w fun e w' => e = .returned (.int .i64 (sgq (fval b))) ∧ w' = w := by
 have HN : Hid (∀ w, Calls Tryz.prog 129 #[.float .f64 b] w fun e w' => e = .returned (.bool false) ∧ w' = w) := fun w => nan_fin b w h
 have HZ : Hid (∀ w, Calls Tryz.prog 129 #[.float .f64 0] w fun e w' => e = .returned (.bool false) ∧ w' = w) := fun w => nan_fin 0 w fin0
 have ho := order_val h fin0
 rw [fval0] at ho
 clear h
 have key : ∀ o, FloatKind.f64.format.order b 0 = some o → Calls Tryz.prog 97 #[.float .f64 b, .float .f64 0] w fun e w' => e = .returned (.int .i64 (match o with | .lt => -1 | .eq => 0 | .gt => 1)) ∧ w' = w := by
   intro o hb
   clear ho
   cases o <;>
   · go_enter Tryz.func97, Tryz.ntmps97
     go_wp2_with fail
     refine (HN.out _).mono ?_
     rintro e w1 ⟨rfl, rfl⟩
     go_wp2_with fail
     refine (HZ.out _).mono ?_
     rintro e w1 ⟨rfl, rfl⟩
     go_wp2
     go_ret
     exact ⟨rfl, rfl⟩
 refine (key _ ho).mono ?_
 rintro e w' ⟨rfl, rfl⟩
 refine ⟨?_, rfl⟩
 unfold sgq
 by_cases h1 : fval b < 0
 · rw [if_pos h1]; simp [h1]
 · by_cases h2 : fval b = 0
   · rw [if_neg h1, if_pos h2, h2]; simp
   · rw [if_neg h1, if_neg h2]
     have h3 : 0 < fval b := by grind
     simp [h1, h2]
set_option maxRecDepth 100000 in
theorem signOf_any (s : Value) (bs : List Nat) (w : World) (h : Fs w s bs) (hf : Fin64 (lastW bs)) (hlen : bs.length ≤ 1000000) :
   Calls Tryz.prog 138 #[s] w fun e w' => e = .returned (.int .i64 (sgq (fval (lastW bs)))) ∧ w' = w := by
 have HA : Hid (∀ w, Fs w s bs → Calls Tryz.prog 170 #[s] w fun e w' => e = .returned (.float .f64 (lastW bs)) ∧ w' = w) := fun w h => lead_any s bs w h hlen
 have HF : Hid (Fs w s bs) := h
 have HB : Hid (∀ w, Calls Tryz.prog 97 #[.float .f64 (lastW bs), .float .f64 0] w fun e w' => e = .returned (.int .i64 (sgq (fval (lastW bs)))) ∧ w' = w) := fun w => compare_zero _ w hf
 clear h hf hlen
 go_enter Tryz.func138, Tryz.ntmps138
 go_wp2_with fail
 refine (HA.out _ HF.out).mono ?_
 rintro e w1 ⟨rfl, rfl⟩
 go_wp2_with fail
 refine (HB.out _).mono ?_
 rintro e w1 ⟨rfl, rfl⟩
 go_wp2_with fail
 go_ret
 exact ⟨rfl, rfl⟩
end

/- Which coordinates may be: math.Trunc, grid.stands. -/
section
open Go.RowKit
def trw (b : Nat) : Nat := FloatKind.f64.encode ((FloatKind.f64.decode b).integral .zero)
theorem run_trunc (b : Nat) (h : Fin64 b) (w : World) : (callFunc 165 #[.float .f64 b]).run Tryz.prog w = .ok (.value (.float .f64 (trw b))) w := by
 rw [run_callFunc_extern Tryz.func165 (by kernel_rfl) (by kernel_rfl) (by kernel_rfl) (e := Extern.MathFloor.toIntegral "math.archTrunc" .zero) (by kernel_rfl)]
 have e : FloatKind.f64.decode b = .number (fneg b) (fmag (frung b)) (fpl (frung b)) := read_fin h
 have key : Extern.MathFloor.toIntegral "math.archTrunc" .zero #[.float .f64 b] = pure (.float .f64 (trw b)) := by
   unfold trw
   show (match FloatKind.f64.decode b with | .nan _ _ => _ | d => (pure (Value.float .f64 (FloatKind.f64.encode (d.integral .zero))) : Sem Value)) = _
   rw [e]
 rw [key]
 rfl
theorem M_one {q : Rat} : M 1 q ↔ ∃ k : Int, q = (k : Rat) := by
 constructor
 · rintro ⟨k, e⟩; exact ⟨k, by rw [e]; grind⟩
 · rintro ⟨k, e⟩; exact ⟨k, by rw [e]; grind⟩
theorem cut_shift (s : Bool) (n d : Nat) : Ieee.Toward.zero.cut s n d = n >>> d := by
 unfold Ieee.Toward.cut
 simp only [Bool.toNat_false, Nat.add_zero, Nat.one_shiftLeft, Nat.shiftRight_eq_div_pow]
 rcases Nat.lt_or_ge (n.log2 + 2) d with h | h
 · have h1 : n < 2 ^ (n.log2 + 1) := Nat.lt_log2_self
   have h2 : n < 2 ^ (n.log2 + 2) := Nat.lt_of_lt_of_le h1 (Nat.pow_le_pow_right (by omega) (by omega))
   have h3 : n < 2 ^ d := Nat.lt_of_lt_of_le h1 (Nat.pow_le_pow_right (by omega) (by omega))
   rw [Nat.min_eq_right (by omega), Nat.div_eq_of_lt h2, Nat.div_eq_of_lt h3]
 · rw [Nat.min_eq_left h]
theorem cut_val (m : Nat) (i : Int) (hm : m ≤ 9007199254740992) : ∃ n : Nat, (m <<< i.toNat) >>> (-i).toNat = n ∧ ((n : Nat) : Rat) ≤ (m : Rat) * p2 i ∧ (((n : Nat) : Rat) = (m : Rat) * p2 i ∨ n ≤ 9007199254740992) ∧ ((∃ z : Int, (m : Rat) * p2 i = (z : Rat)) → ((n : Nat) : Rat) = (m : Rat) * p2 i) := by
 rcases Int.le_total 0 i with h | h
 · have e1 : (-i).toNat = 0 := by omega
   have e2 : i = ((i.toNat : Nat) : Int) := by omega
   generalize i.toNat = k at *
   subst e2
   rw [e1]
   have : ((m <<< k >>> 0 : Nat) : Rat) = (m : Rat) * p2 (k : Int) := by
     rw [Nat.shiftRight_zero, Nat.shiftLeft_eq, p2_nat, Rat.natCast_mul]
   exact ⟨_, rfl, by rw [this]; exact Rat.le_refl, Or.inl this, fun _ => this⟩
 · have e1 : i.toNat = 0 := by omega
   have e2 : i = -(((-i).toNat : Nat) : Int) := by omega
   generalize (-i).toNat = k at *
   subst e2
   rw [e1, Nat.shiftLeft_zero, Nat.shiftRight_eq_div_pow]
   have hp := p2_neg (k : Int)
   rw [p2_nat] at hp
   have hpos : (0 : Rat) < p2 (-(k : Int)) := p2_pos _
   refine ⟨_, rfl, ?_, Or.inr ?_, ?_⟩
   · have h1 : ((m / 2 ^ k * 2 ^ k : Nat) : Rat) ≤ (m : Rat) := Rat.natCast_le_natCast.2 (Nat.div_mul_le_self _ _)
     rw [Rat.natCast_mul] at h1
     have h2 := Rat.mul_le_mul_of_nonneg_right h1 (Rat.le_of_lt hpos)
     generalize ((m / 2 ^ k : Nat) : Rat) = n at *
     generalize ((2 ^ k : Nat) : Rat) = t at *
     generalize p2 (-(k : Int)) = p at *
     have : n * t * p = n := by rw [Rat.mul_assoc, Rat.mul_comm t p, hp, Rat.mul_one]
     rw [this] at h2
     exact h2
   · exact Nat.le_trans (Nat.div_le_self _ _) hm
   · rintro ⟨z, hz⟩
     have h3 : (m : Rat) = ((z * (2 ^ k : Nat) : Int) : Rat) := by
       rw [Rat.intCast_mul, ← hz, show (((2 ^ k : Nat) : Int) : Rat) = ((2 ^ k : Nat) : Rat) from rfl]
       generalize ((2 ^ k : Nat) : Rat) = t at *
       generalize p2 (-(k : Int)) = p at *
       rw [Rat.mul_assoc, hp, Rat.mul_one]
     have h4 : (m : Int) = z * (2 ^ k : Nat) := by
       have : ((m : Int) : Rat) = ((z * (2 ^ k : Nat) : Int) : Rat) := h3
       exact Rat.intCast_inj.1 this
     have h5 : (2 ^ k : Nat) ∣ m := by
       have : ((2 ^ k : Nat) : Int) ∣ (m : Int) := ⟨z, by rw [h4, Int.mul_comm]⟩
       exact Int.natCast_dvd_natCast.1 this
     have h6 : ((m / 2 ^ k * 2 ^ k : Nat) : Rat) = (m : Rat) := by rw [Nat.div_mul_cancel h5]
     rw [Rat.natCast_mul] at h6
     generalize ((m / 2 ^ k : Nat) : Rat) = n at *
     generalize ((2 ^ k : Nat) : Rat) = t at *
     generalize p2 (-(k : Int)) = p at *
     rw [← h6, Rat.mul_assoc, Rat.mul_comm t p, hp, Rat.mul_one]
theorem trw_val {b : Nat} (h : Fin64 b) (hq : Lim (fval b)) : Fin64 (trw b) ∧ trw b < 18446744073709551616 ∧ (fval (trw b) = fval b ↔ M 1 (fval b)) := by
 have e : FloatKind.f64.decode b = .number (fneg b) (fmag (frung b)) (fpl (frung b)) := read_fin h
 have hm : fmag (frung b) ≤ 9007199254740992 := Nat.le_of_lt (fmag_lt _)
 obtain ⟨n, hn, h1, h2, h3⟩ := cut_val (fmag (frung b)) (fpl (frung b)) hm
 have hv := fval_eq b
 have et : trw b = Ieee.double.write (.number (fneg b) n 0) := by
   unfold trw
   rw [e]
   show Ieee.double.write (.number (fneg b) (Ieee.Toward.zero.cut (fneg b) (fmag (frung b) <<< (fpl (frung b)).toNat) (-fpl (frung b)).toNat) 0) = _
   rw [cut_shift, hn]
 have hF := fc_word h
 clear hn e
 generalize ((fmag (frung b) : Nat) : Rat) * p2 (fpl (frung b)) = X at *
 have hX : X < p2 1023 := by
   have h4 := hq.1
   have h5 := hq.2
   rw [hv] at h4 h5
   revert h4 h5
   unfold sgn1
   cases fneg b
   · rw [if_neg (by decide)]; grind
   · rw [if_pos rfl]; grind
 have n0 : (0 : Rat) ≤ ((n : Nat) : Rat) := Rat.natCast_nonneg
 obtain ⟨r, er, fr, lr, hr⟩ := write_rv (fneg b) n 0 (by rw [p2_zero, Rat.mul_one]; grind)
 rw [p2_zero, Rat.mul_one] at hr
 have ev : fval r = sgn1 (fneg b) * ((n : Nat) : Rat) := by
   apply hr.rn.exact
   rcases h2 with h2 | h2
   · rw [h2, ← hv]
     obtain ⟨S, m, c⟩ := hF
     exact c.f
   · have : F ((n : Int) : Rat) := F_int n (by omega) (by omega)
     unfold sgn1
     cases fneg b
     · rw [if_neg (by decide), Rat.one_mul]
       exact this
     · rw [if_pos rfl]
       have := this.neg
       rwa [show -((n : Int) : Rat) = -1 * ((n : Nat) : Rat) by show -((n : Nat) : Rat) = _; grind] at this
 rw [et, er]
 refine ⟨fr, lr, ?_⟩
 rw [M_one, ev, hv]
 constructor
 · intro e1
   rw [← e1]
   unfold sgn1
   cases fneg b
   · exact ⟨n, by rw [if_neg (by decide), Rat.one_mul]; rfl⟩
   · exact ⟨-(n : Int), by rw [Rat.intCast_neg, if_pos rfl]; show _ = -((n : Nat) : Rat); grind⟩
 · rintro ⟨k, ek⟩
   rw [h3]
   revert ek
   unfold sgn1
   cases fneg b
   · intro ek
     rw [if_neg (by decide), Rat.one_mul] at ek
     exact ⟨k, ek⟩
   · intro ek
     rw [if_pos rfl] at ek
     exact ⟨-k, by rw [Rat.intCast_neg, ← ek]; grind⟩
def Crd (x : Nat) : Prop := frung x ≤ 5057542381537067008 ∧ M (U 974) (fval x)
theorem crd_fin {x : Nat} (h : frung x ≤ 5057542381537067008) : Fin64 x := by unfold Fin64; omega
theorem top100 : fval 5057542381537067008 = U 1174 := by
 have := fval_rung 1122 4503599627370496 (by omega) (Or.inr (by omega)) (by omega)
 rw [show (1122 * 4503599627370496 + 4503599627370496 : Nat) = 5057542381537067008 from rfl] at this
 have h := U_52 1122
 rw [this]
 exact h.symm
theorem crd_ab {x : Nat} (h : frung x ≤ 5057542381537067008) : ab (fval x) ≤ U 1174 := by
 rw [← ab_fval x (crd_fin h), ← top100]
 rcases Nat.lt_or_ge (frung x) 5057542381537067008 with h1 | h1
 · exact Rat.le_of_lt (fval_lt h1 (by omega))
 · rw [show frung x = 5057542381537067008 by omega]; exact Rat.le_refl
theorem run_mul_nan (a b : Nat) (h : floatBits .mul .f64 a b = none) (w : World) : (binOp .mul 33 (.float .f64 a) (.float .f64 b)).run Tryz.prog w = .ok (.float .f64 (nanW a b w)) w.drew := by
 have h' : FloatKind.f64.format.mul a b = none := h
 simp [binOp, Op.floatArith, h', nanW, Question.forced]
theorem trunc_any (b : Nat) (w : World) (h : Fin64 b) : Calls Tryz.prog 127 #[.float .f64 b] w fun e w' => e = .returned (.float .f64 (trw b)) ∧ w' = w := by
 have r1 := run_trunc b h
 clear h
 go_enter Tryz.func127, Tryz.ntmps127
 go_wp2
 go_ret
 exact ⟨rfl, rfl⟩
theorem steps_val {x : Nat} (h : frung x ≤ 5057542381537067008) : ∃ r, floatBits .mul .f64 x 5057542381537067008 = some r ∧ Fin64 r ∧ r < 18446744073709551616 ∧ fval r = fval x * U 1174 ∧ Lim (fval r) := by
 have fx := crd_fin h
 have hb := crd_ab h
 have hu := U_mulX' (s := 1174) (t := 1174) (r := 1274) (by omega)
 have h0 := U_pos 1174
 have hl : ab (fval x * U 1174) ≤ U 1274 := by
   rw [ab_mul, show ab (U 1174) = U 1174 by unfold ab; rw [if_neg (by grind)], ← hu]
   exact Rat.mul_le_mul_of_nonneg_right hb (Rat.le_of_lt h0)
 have hL : Lim (fval x * U 1174) := by
   have h3 : U 1274 < p2 1023 := by unfold U; exact p2_lt (by omega)
   have := ab_le.1 hl
   exact ⟨by grind, by grind⟩
 have hL' := hL
 rw [← top100] at hL'
 obtain ⟨r, er, fr, lr, hr⟩ := mul_bits fx (b := 5057542381537067008) (by unfold Fin64 frung; omega) hL'
 rw [top100] at hr
 have ev : fval r = fval x * U 1174 := by
   apply hr.rn.exact
   obtain ⟨S, m, c⟩ := fc_word fx
   refine ⟨S + 100, m, ?_, by have := c.m1; omega, by have := c.m2; omega⟩
   rw [← U_mulX' (s := S) (t := 1174) (r := S + 100) (by omega), ← Rat.mul_assoc, ← c.hz]
 exact ⟨r, er, fr, lr, ev, by rw [ev]; exact hL⟩
theorem steps_one {q : Rat} : M 1 (q * U 1174) ↔ M (U 974) q := by
 have hu := U_mulX' (s := 974) (t := 1174) (r := 1074) (by omega)
 have h1 : U 1074 = 1 := by unfold U; exact p2_zero
 rw [h1] at hu
 constructor
 · rintro ⟨k, e⟩
   refine ⟨k, ?_⟩
   have : q * U 1174 * U 974 = (k : Rat) * U 974 := by rw [e, Rat.mul_one]
   rw [← this, Rat.mul_assoc, Rat.mul_comm (U 1174), hu, Rat.mul_one]
 · rintro ⟨k, e⟩
   refine ⟨k, ?_⟩
   rw [e, Rat.mul_assoc, hu]
set_option maxRecDepth 100000 in
set_option maxHeartbeats 1000000 in
theorem stands_any (x : Nat) (w : World) (hx : x < 18446744073709551616) : Calls Tryz.prog 95 #[.float .f64 x] w fun e w' => (∃ t, e = .returned (.bool t) ∧ (t = true ↔ Crd x)) ∧ Below w.heap.size w w' := by
 have q1 := leq_word (r := frung x) (c := 5057542381537067008) (by unfold frung; omega) (by omega)
 have HA : Hid (∀ w, Calls Tryz.prog 96 #[.float .f64 x] w fun e w' => e = .returned (.float .f64 (frung x)) ∧ w' = w) := fun w => abs_any x w hx
 clear hx
 by_cases h : frung x ≤ 5057542381537067008
 · rw [decide_eq_true h] at q1
   obtain ⟨r, er, fr, lr, ev, hL⟩ := steps_val h
   have rs : ∀ w, (binOp .mul 33 (.float .f64 x) (.float .f64 5057542381537067008)).run Tryz.prog w = .ok (.float .f64 r) w := fun w => run_float_arith w .mul _ .f64 _ _ _ er
   have HT : Hid (∀ w, Calls Tryz.prog 127 #[.float .f64 r] w fun e w' => e = .returned (.float .f64 (trw r)) ∧ w' = w) := fun w => trunc_any r w fr
   obtain ⟨t1, t2, t3⟩ := trw_val fr hL
   obtain ⟨d, hd⟩ : ∃ d, (FloatKind.f64.format.order (trw r) r == some .eq) = d := ⟨_, rfl⟩
   have HD : Hid (d = true ↔ Crd x) := by
     rw [← hd, order_val t1 fr]
     have key : (fval (trw r) = fval r) ↔ Crd x := by
       rw [t3, ev, steps_one]
       exact ⟨fun a => ⟨h, a⟩, fun a => a.2⟩
     constructor
     · intro a
       apply key.1
       apply Classical.byContradiction
       intro hne
       revert a
       rw [if_neg hne]
       split <;> exact fun a => absurd a (by decide)
     · intro a
       have := key.2 a
       rw [this, if_neg Rat.lt_irrefl, if_pos rfl]; rfl
   clear er fr lr ev hL t1 t2 t3 h
   generalize trw r = tr at *
   generalize frung x = fx at *
   go_enter Tryz.func95, Tryz.ntmps95
   go_wp2_with fail
   refine (HA.out _).mono ?_
   rintro e w1 ⟨rfl, rfl⟩
   go_wp2_with fail
   refine (HT.out _).mono ?_
   rintro e w1 ⟨rfl, rfl⟩
   go_wp2
   go_ret
   exact ⟨⟨d, rfl, HD.out⟩, Below.refl _ _⟩
 · rw [decide_eq_false h] at q1
   have HN : Hid (¬ Crd x) := fun a => h a.1
   clear h
   generalize frung x = fx at *
   cases hm : floatBits .mul .f64 x 5057542381537067008 with
   | none =>
     have rs := run_mul_nan x 5057542381537067008 hm
     clear hm
     go_enter Tryz.func95, Tryz.ntmps95
     go_wp2_with fail
     refine (HA.out _).mono ?_
     rintro e w1 ⟨rfl, rfl⟩
     go_wp2
     go_ret
     exact ⟨⟨false, rfl, by simp; exact HN.out⟩, (Below.refl _ w).drew⟩
   | some r =>
     have rs : ∀ w, (binOp .mul 33 (.float .f64 x) (.float .f64 5057542381537067008)).run Tryz.prog w = .ok (.float .f64 r) w := fun w => run_float_arith w .mul _ .f64 _ _ _ hm
     clear hm
     go_enter Tryz.func95, Tryz.ntmps95
     go_wp2_with fail
     refine (HA.out _).mono ?_
     rintro e w1 ⟨rfl, rfl⟩
     go_wp2
     go_ret
     exact ⟨⟨false, rfl, by simp; exact HN.out⟩, Below.refl _ _⟩
end

/- Package expand: lists of its own; a list that grows; a list turned about. -/
section
open Go.RowKit
def f64s (bs : List Nat) : List Value := bs.map (Value.float .f64)
theorem infoF : (Tryz.prog.info? 33).map (fun i => (i.zero, i.size, i.bytes)) = some (some (.float .f64 0), 1, 8) := by kernel_rfl
theorem undF : Tryz.prog.underlying 134 = some (.slice 33) := by kernel_rfl
structure Fr (w : World) (B : Nat) (v : Value) (bs : List Nat) : Prop where
 own : w.ownsRow B 33 1 v bs.length (f64s bs)
 word : ∀ b ∈ bs, b < 18446744073709551616
theorem Fr.fs {w : World} {B : Nat} {v : Value} {bs : List Nat} (h : Fr w B v bs) : Fs w v bs := by
 refine ⟨?_, h.word⟩
 rcases h.own.2 with ⟨h1, h2⟩ | ⟨g, cap, cur, h1, h2, h3, h4, h5, _⟩
 · exact ⟨none, 0, by rw [h1, h2], by omega, by omega, Or.inl (List.eq_nil_of_length_eq_zero h2)⟩
 · refine ⟨_, cap, h1, h4, by unfold maxLen at h5; omega, Or.inr ⟨g, 0, rfl, fun k hk => ?_⟩⟩
   have := h.own.cells (g := g) (by rw [h1]; rfl) k (.float .f64 (bs.getD k 0)) (by simp [f64s, List.getD, hk])
   rwa [show (⟨g, 0, none⟩ : Addr).add k = ⟨g, 0 + k, none⟩ by unfold Addr.add; split <;> simp_all] at this
theorem Fr.mono {w : World} {B B' : Nat} {v : Value} {bs : List Nat} (h : Fr w B v bs) (hB : B' ≤ B) : Fr w B' v bs := by
 refine ⟨⟨h.own.1, ?_⟩, h.word⟩
 rcases h.own.2 with h1 | ⟨g, cap, cur, h1, h2, h3⟩
 · exact Or.inl h1
 · exact Or.inr ⟨g, cap, cur, h1, by omega, h3⟩
theorem Fr.later {w w' : World} {B : Nat} {v : Value} {bs : List Nat} (h : Fr w B v bs) (hb : Below w.heap.size w w') : Fr w' B v bs := by
 refine ⟨⟨h.own.1, ?_⟩, h.word⟩
 rcases h.own.2 with h1 | ⟨g, cap, cur, h1, h2, h3, h4⟩
 · exact Or.inl h1
 · refine Or.inr ⟨g, cap, cur, h1, h2, ?_, h4⟩
   rw [hb.block g (Array.getElem?_eq_some_iff.1 h3).1]; exact h3
theorem Fr.nil (w : World) (B : Nat) : Fr w B (.slice none 0 0) [] := ⟨World.ownsRow_nil w B _ 1, fun b hb => by cases hb⟩
theorem Fr.low {w : World} {B : Nat} {v : Value} {bs : List Nat} (h : Fr w B v bs) {a : Addr} (hb : a.block < B) (x : Value) : Fr (w.setCell a x) B v bs :=
 ⟨ownsRow_setCell_below h.own hb x, h.word⟩
def gw (bs : List Nat) (x : Nat) : List Nat := if frung x = 0 then bs else bs ++ [x]
set_option maxRecDepth 100000 in
set_option maxHeartbeats 1000000 in
theorem grown_any (B : Nat) (v : Value) (bs : List Nat) (x : Nat) (w : World) (h : Fr w B v bs) (hB : B ≤ w.heap.size) (hx : x < 18446744073709551616) (hl : bs.length ≤ 1000000) :
   Calls Tryz.prog 175 #[v, .float .f64 x] w fun e w' => (∃ v', e = .returned v' ∧ Fr w' B v' (gw bs x)) ∧ Below B w w' := by
 have H : Hid (Fr w B v bs) := h
 have HX : Hid (x < 18446744073709551616) := hx
 have q := eql_zero2 x
 clear h hx
 by_cases h0 : frung x = 0
 · rw [decide_eq_true h0] at q
   have HG : Hid (gw bs x = bs) := by show gw bs x = bs; unfold gw; rw [if_pos h0]
   clear h0
   go_enter Tryz.func175, Tryz.ntmps175
   go_wp2
   go_ret
   exact ⟨⟨v, rfl, by rw [HG.out]; exact H.out⟩, Below.refl _ _⟩
 · rw [decide_eq_false h0] at q
   have HG : Hid (gw bs x = bs ++ [x]) := by show gw bs x = _; unfold gw; rw [if_neg h0]
   clear h0
   obtain ⟨i0, hi0, hz0, hz1, hz2⟩ := info_parts infoF
   go_enter Tryz.func175, Tryz.ntmps175
   go_wp2_with (at_builtin; refine wpList_append_own _ rfl _ _ _ rfl B 33 i0 _ 1 8 undF hi0 hz0 hz1 hz2 rfl (by omega) v bs.length (f64s bs) rfl (H.out.own.alloc _) ⟨w.heap.size, 0, none⟩ 1 1 [.float .f64 x] rfl rfl (World.news_of_block (cs := #[.float .f64 x]) (t := 33) (fr := (0, 0)) (heap_alloc_new w _)) (by simp [Value.oneCell']) (by unfold maxLen; omega) (by omega) (by simp; omega) ?_; intro v' w1 hown hgrow hnil)
   go_ret
   refine ⟨⟨v', rfl, ?_⟩, ?_⟩
   · rw [HG.out]
     refine ⟨?_, ?_⟩
     · rw [List.length_append]
       simpa [f64s] using hown
     · intro b hb
       rcases List.mem_append.1 hb with hb | hb
       · exact H.out.word b hb
       · rw [List.mem_singleton.1 hb]; exact HX.out
   · exact ((Below.refl B w).alloc hB _).grown hgrow (by simp; omega) (fun k hk => (H.out.own.lt k hk).1)
end

/- Package expand: the next float of two lists. -/
section
open Go.RowKit
attribute [local go_sem ↓] Go.wp_at_zero Go.wp_at_succ
set_option maxRecDepth 100000 in
set_option maxHeartbeats 4000000 in
theorem next_A (be bf ge oe ne ce cf x : Nat) (af ao : Option Addr) (w : World) (ha : (if ce = 1 then some (⟨ge, oe, none⟩ : Addr) else some ⟨ge, oe + 1, none⟩) = ao)
   (h1 : w.cell? ⟨be, 0, none⟩ = some (.slice (some ⟨ge, oe, none⟩) (ne + 1) ce)) (h2 : w.cell? ⟨bf, 0, none⟩ = some (.slice af 0 cf)) (h3 : w.cell? ⟨ge, oe, none⟩ = some (.float .f64 x)) (h4 : w.frozen? ⟨be, 0, none⟩ = false) (h5 : ne + 1 ≤ ce) (h6 : ce ≤ 9223372036854775807) :
   Calls Tryz.prog 174 #[.pointer (some ⟨bf, 0, none⟩), .pointer (some ⟨be, 0, none⟩)] w fun e w' => e = .returned (.float .f64 x) ∧ w' = (w.setCell ⟨be, 0, none⟩ (.slice ao ne (ce - 1))).drew.drew := by
 have l1 : (ne : Int) + 1 ≤ (ce : Int) := by omega
 have l2 : (ce : Int) ≤ 9223372036854775807 := by omega
 clear h5 h6
 go_enter Tryz.func174, Tryz.ntmps174
 go_wp2
 go_region
 go_wp2
 go_region
 clear h1 h2 h3 h4 l1 l2 ha
 go_wp2
 go_ret
 exact ⟨rfl, rfl⟩
set_option maxRecDepth 100000 in
set_option maxHeartbeats 4000000 in
theorem next_B (be bf gf of nf cf ce x : Nat) (ae ao : Option Addr) (w : World) (ha : (if cf = 1 then some (⟨gf, of, none⟩ : Addr) else some ⟨gf, of + 1, none⟩) = ao)
   (h1 : w.cell? ⟨bf, 0, none⟩ = some (.slice (some ⟨gf, of, none⟩) (nf + 1) cf)) (h2 : w.cell? ⟨be, 0, none⟩ = some (.slice ae 0 ce)) (h3 : w.cell? ⟨gf, of, none⟩ = some (.float .f64 x)) (h4 : w.frozen? ⟨bf, 0, none⟩ = false) (h5 : nf + 1 ≤ cf) (h6 : cf ≤ 9223372036854775807) :
   Calls Tryz.prog 174 #[.pointer (some ⟨bf, 0, none⟩), .pointer (some ⟨be, 0, none⟩)] w fun e w' => e = .returned (.float .f64 x) ∧ w' = (w.setCell ⟨bf, 0, none⟩ (.slice ao nf (cf - 1))).drew.drew := by
 have l1 : (nf : Int) + 1 ≤ (cf : Int) := by omega
 have l2 : (cf : Int) ≤ 9223372036854775807 := by omega
 have e0 : ((nf : Int) + 1 == 0) = false := by simp; omega
 clear h5 h6
 go_enter Tryz.func174, Tryz.ntmps174
 go_wp2
 go_region
 go_wp2
 go_region
 clear h1 h2 h3 h4 l1 l2 ha
 go_wp2
 go_ret
 exact ⟨rfl, rfl⟩
set_option maxRecDepth 100000 in
set_option maxHeartbeats 4000000 in
theorem next_C (be bf ge oe ne ce gf of nf cf x y : Nat) (ae af : Option Addr) (w : World) (hae : (if ce = 1 then some (⟨ge, oe, none⟩ : Addr) else some ⟨ge, oe + 1, none⟩) = ae) (haf : (if cf = 1 then some (⟨gf, of, none⟩ : Addr) else some ⟨gf, of + 1, none⟩) = af)
   (h1 : w.cell? ⟨be, 0, none⟩ = some (.slice (some ⟨ge, oe, none⟩) (ne + 1) ce)) (h2 : w.cell? ⟨bf, 0, none⟩ = some (.slice (some ⟨gf, of, none⟩) (nf + 1) cf)) (h3 : w.cell? ⟨ge, oe, none⟩ = some (.float .f64 x)) (h4 : w.cell? ⟨gf, of, none⟩ = some (.float .f64 y)) (f1 : w.frozen? ⟨be, 0, none⟩ = false) (f2 : w.frozen? ⟨bf, 0, none⟩ = false)
   (n1 : ne + 1 ≤ ce) (n2 : ce ≤ 9223372036854775807) (m1 : nf + 1 ≤ cf) (m2 : cf ≤ 9223372036854775807) (hx : x < 18446744073709551616) (hy : y < 18446744073709551616) (fy : Fin64 y) :
   Calls Tryz.prog 174 #[.pointer (some ⟨bf, 0, none⟩), .pointer (some ⟨be, 0, none⟩)] w fun e w' =>
     (frung x ≤ frung y ∧ e = .returned (.float .f64 x) ∧ w' = (w.setCell ⟨be, 0, none⟩ (.slice ae ne (ce - 1))).drew.drew) ∨ (¬ frung x ≤ frung y ∧ e = .returned (.float .f64 y) ∧ w' = (w.setCell ⟨bf, 0, none⟩ (.slice af nf (cf - 1))).drew.drew) := by
 have l1 : (ne : Int) + 1 ≤ (ce : Int) := by omega
 have l2 : (ce : Int) ≤ 9223372036854775807 := by omega
 have l3 : (nf : Int) + 1 ≤ (cf : Int) := by omega
 have l4 : (cf : Int) ≤ 9223372036854775807 := by omega
 have e0 : ((nf : Int) + 1 == 0) = false := by simp; omega
 have e1 : decide (0 < (ne : Int) + 1) = true := decide_eq_true (by omega)
 have HA : Hid (∀ w, Calls Tryz.prog 96 #[.float .f64 x] w fun e w' => e = .returned (.float .f64 (frung x)) ∧ w' = w) := fun w => abs_any x w hx
 have HB : Hid (∀ w, Calls Tryz.prog 96 #[.float .f64 y] w fun e w' => e = .returned (.float .f64 (frung y)) ∧ w' = w) := fun w => abs_any y w hy
 have q := leq_word (r := frung x) (c := frung y) (Nat.mod_lt _ (by omega)) fy
 clear n1 n2 m1 m2 hx hy fy
 by_cases hle : frung x ≤ frung y
 · rw [decide_eq_true hle] at q
   have HL : Hid (frung x ≤ frung y) := hle
   clear hle
   go_enter Tryz.func174, Tryz.ntmps174
   go_wp2
   go_region_held3 (fun W => W.cell? ⟨be, 0, none⟩ = some (.slice (some ⟨ge, oe, none⟩) (ne + 1) ce) ∧ W.cell? ⟨bf, 0, none⟩ = some (.slice (some ⟨gf, of, none⟩) (nf + 1) cf) ∧ W.cell? ⟨ge, oe, none⟩ = some (.float .f64 x) ∧ W.cell? ⟨gf, of, none⟩ = some (.float .f64 y))
     (first
       | assumption
       | exact ⟨by go_simp, by go_simp, by go_simp, by go_simp⟩)
     (first
       | (refine (HA.out _).mono ?_; rintro e w3 ⟨rfl, rfl⟩)
       | (refine (HB.out _).mono ?_; rintro e w3 ⟨rfl, rfl⟩))
   go_wp2
   go_region
   clear h1 h2 h3 h4 l1 l2 l3 l4
   go_wp2
   go_ret
   exact Or.inl ⟨HL.out, rfl, rfl⟩
 · rw [decide_eq_false hle] at q
   have HL : Hid (¬ frung x ≤ frung y) := hle
   clear hle
   go_enter Tryz.func174, Tryz.ntmps174
   go_wp2
   go_region_held3 (fun W => W.cell? ⟨be, 0, none⟩ = some (.slice (some ⟨ge, oe, none⟩) (ne + 1) ce) ∧ W.cell? ⟨bf, 0, none⟩ = some (.slice (some ⟨gf, of, none⟩) (nf + 1) cf) ∧ W.cell? ⟨ge, oe, none⟩ = some (.float .f64 x) ∧ W.cell? ⟨gf, of, none⟩ = some (.float .f64 y))
     (first
       | assumption
       | exact ⟨by go_simp, by go_simp, by go_simp, by go_simp⟩)
     (first
       | (refine (HA.out _).mono ?_; rintro e w3 ⟨rfl, rfl⟩)
       | (refine (HB.out _).mono ?_; rintro e w3 ⟨rfl, rfl⟩))
   go_wp2
   go_region
   clear h1 h2 h3 h4 l1 l2 l3 l4
   go_wp2
   go_ret
   exact Or.inr ⟨HL.out, rfl, rfl⟩
end
end Go.Proofs.YtcgbnjoajieggaaGreat
