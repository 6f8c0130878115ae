/- Own texts, put together: Xf Xg Ob Xh Xi Fj La Lb Lc Ld. -/
import Derived.Test.YtejhinjanjlplaaDoorQ27
import Derived.Test.YtejhinjanjlplaaDoorQ33
import Derived.Test.YtejhinjanjlplaaDoorQ34
import Derived.Deep.AppendLies
import Derived.OwnWalk
import Derived.Maps.AppendAt
namespace Go.Proofs.YtejhinjanjlplaaDoor
/- Which lists of floats may be, as package expand tells it. -/
section
open Go.RowKit
structure Fs (w : World) (s : Value) (bs : List Nat) : Prop where
 form : ∃ a c, s = .slice a bs.length c ∧ bs.length ≤ c ∧ c ≤ 9223372036854775807 ∧ (bs = [] ∨ ∃ g off, a = some ⟨g, off, none⟩ ∧ ∀ k, k < bs.length → w.cell? ⟨g, off + k, none⟩ = some (.float .f64 (bs.getD k 0)))
 word : ∀ b ∈ bs, b < 18446744073709551616
theorem Fs.later {w w' : World} {s : Value} {bs : List Nat} (h : Fs w s bs) (hb : Below w.heap.size w w') : Fs w' s bs := by
 obtain ⟨⟨a, c, hs, hc, hm, hf⟩, h2⟩ := h
 refine ⟨⟨a, c, hs, hc, hm, ?_⟩, h2⟩
 rcases hf with hf | ⟨g, off, ha, hf⟩
 · exact Or.inl hf
 · exact Or.inr ⟨g, off, ha, fun k hk => box_cell hb (hf k hk)⟩
def MayAt (lo hi : Nat) (bs : List Nat) (i : Nat) : Prop := lo ≤ frung (bs.getD i 0) ∧ frung (bs.getD i 0) ≤ hi ∧ frung (bs.getD i 0) ≠ 0 ∧ (0 < i → Lo (fval (bs.getD (i - 1) 0)) (fval (bs.getD i 0)))
def MayP (lo hi : Nat) (bs : List Nat) : Prop := bs.length ≤ 64 ∧ ∀ i, i < bs.length → MayAt lo hi bs i
theorem ab_fval (b : Nat) (h : Fin64 b) : fval (frung b) = ab (fval b) := by
 have h1 := fval_nonneg (r := frung b) h
 unfold ab
 rcases fval_abs b with e | e <;> rw [e] <;> split <;> grind
end

/- Package expand: whether a list may be, its last float, its sign, a list that grows. -/
section
open Go.RowKit
def lastW (bs : List Nat) : Nat := bs.getD (bs.length - 1) 0
end

/- Which coordinates may be: math.Trunc, grid.stands. -/
section
open Go.RowKit
end

/- Package expand: lists of its own; a list that grows; a list turned about. -/
section
open Go.RowKit
def f64s (bs : List Nat) : List Value := bs.map (Value.float .f64)
structure Fr (w : World) (B : Nat) (v : Value) (bs : List Nat) : Prop where
 own : w.ownsRow B 22 1 v bs.length (f64s bs)
 word : ∀ b ∈ bs, b < 18446744073709551616
theorem Fr.fs {w : World} {B : Nat} {v : Value} {bs : List Nat} (h : Fr w B v bs) : Fs w v bs := by
 refine ⟨?_, h.word⟩
 rcases h.own.2 with ⟨h1, h2⟩ | ⟨g, cap, cur, h1, h2, h3, h4, h5, _⟩
 · exact ⟨none, 0, by rw [h1, h2], by omega, by omega, Or.inl (List.eq_nil_of_length_eq_zero h2)⟩
 · refine ⟨_, cap, h1, h4, by unfold maxLen at h5; omega, Or.inr ⟨g, 0, rfl, fun k hk => ?_⟩⟩
   have := h.own.cells (g := g) (by rw [h1]; rfl) k (.float .f64 (bs.getD k 0)) (by simp [f64s, List.getD, hk])
   rwa [show (⟨g, 0, none⟩ : Addr).add k = ⟨g, 0 + k, none⟩ by unfold Addr.add; split <;> simp_all] at this
theorem Fr.mono {w : World} {B B' : Nat} {v : Value} {bs : List Nat} (h : Fr w B v bs) (hB : B' ≤ B) : Fr w B' v bs := by
 refine ⟨⟨h.own.1, ?_⟩, h.word⟩
 rcases h.own.2 with h1 | ⟨g, cap, cur, h1, h2, h3⟩
 · exact Or.inl h1
 · exact Or.inr ⟨g, cap, cur, h1, by omega, h3⟩
theorem Fr.later {w w' : World} {B : Nat} {v : Value} {bs : List Nat} (h : Fr w B v bs) (hb : Below w.heap.size w w') : Fr w' B v bs := by
 refine ⟨⟨h.own.1, ?_⟩, h.word⟩
 rcases h.own.2 with h1 | ⟨g, cap, cur, h1, h2, h3, h4⟩
 · exact Or.inl h1
 · refine Or.inr ⟨g, cap, cur, h1, h2, ?_, h4⟩
   rw [hb.block g (Array.getElem?_eq_some_iff.1 h3).1]; exact h3
theorem Fr.nil (w : World) (B : Nat) : Fr w B (.slice none 0 0) [] := ⟨World.ownsRow_nil w B _ 1, fun b hb => by cases hb⟩
theorem Fr.low {w : World} {B : Nat} {v : Value} {bs : List Nat} (h : Fr w B v bs) {a : Addr} (hb : a.block < B) (x : Value) : Fr (w.setCell a x) B v bs :=
 ⟨ownsRow_setCell_below h.own hb x, h.word⟩
def gw (bs : List Nat) (x : Nat) : List Nat := if frung x = 0 then bs else bs ++ [x]
end

/- Package expand: the next float of two lists. -/
section
open Go.RowKit
attribute [local go_sem ↓] Go.wp_at_zero Go.wp_at_succ
end

/- Float: the float nearest to a number. -/
section
open Go.RowKit
attribute [local go_sem ↓] Go.wp_at_zero Go.wp_at_succ
theorem and_one (n : Nat) (h : n < 18446744073709551616) : bits .and .u64 (n : Int) 1 = ((n % 2 : Nat) : Int) := by
 rw [show (1 : Int) = ((1 : Nat) : Int) from rfl, u64_and_nat n _ (by omega) (by omega), Nat.and_one_is_mod]
theorem eq_one (n : Nat) : ((((n % 2 : Nat) : Int)) == 1) = (n % 2 == 1) := by
 rcases Nat.mod_two_eq_zero_or_one n with h | h <;> rw [h] <;> rfl
theorem p2_units (n : Nat) (e : Int) : (((2 ^ n : Nat) : Int) : Rat) * p2 e = p2 ((n : Int) + e) := by
 rw [p2_add, p2_nat]; rfl
theorem nearest_any (s : Value) (ns : List Nat) (low : Int) (w : World) (hm : IsMag w s ns low) :
   Calls Tryd.prog 24 #[.agg #[s, .int .i64 low]] w fun e w' => (∃ r, e = .returned (.float .f64 r) ∧ Near (magR ns low) r) ∧ Below w.heap.size w w' := by
 have l1 := hm.lo
 have l2 := hm.low_le
 by_cases hne : ns = []
 · have h0 : low = 0 := by
     rcases hm.own with ⟨_, h⟩ | ⟨h, _⟩
     · exact h
     · exact absurd hne h
   subst hne
   subst h0
   have e0 : hiB [] 0 = 0 := by simp [hiB]
   refine (nearest_walk s [] 0 0 (-52) 0 0 0 0 false false false 0 w hm.ws (fun h => absurd rfl h) (by omega) (by omega) e0 (by omega) (by omega) (by decide) (by decide) (by omega) (by decide) (by decide) (by decide) (by decide) (by decide) (by decide) ?_).mono ?_
   · intro w
     rw [float_of_nat]
     have e : Ieee.double.nearest false 0 0 = 0 := rfl
     rw [e]
     exact Ldexp_of _ _ _ w fun w => ldexp_zero _ w
   · rintro e w' ⟨rfl, hb⟩
     exact ⟨⟨0, rfl, Or.inl ⟨magR_nil 0, rfl⟩⟩, hb⟩
 · have ho : val ns % 2 = 1 ∧ Topped ns := by
     rcases hm.own with ⟨h, _⟩ | ⟨_, h⟩
     · exact absurd h hne
     · exact h
   have hhi : hiB ns low = low + (Nat.log2 (val ns) : Nat) := by unfold hiB; rw [if_neg hne]
   have hhb := hm.hi
   obtain ⟨b1, b2⟩ := own_lo hm.own hne
   generalize hh : hiB ns low = hi at *
   obtain ⟨T, hT⟩ : ∃ T : Nat, max (hi - 52) (-1074) = (T : Int) - 1074 := ⟨(max (hi - 52) (-1074) + 1074).toNat, by omega⟩
   have hw := win_near ns low ((T : Int) - 1074 - 1) ho.1 (by omega)
   obtain ⟨w1, w2, w3, w4, w5⟩ := hw
   have eu : (T : Int) - 1074 - 1 = (T : Int) - 1075 := by omega
   generalize hW : win ns low ((T : Int) - 1074 - 1) = W at *
   rw [eu] at w2 w3 w4 w5
   have hu := p2_pos ((T : Int) - 1075)
   have hq : Last (magR ns low) T := by
     refine ⟨?_, ?_⟩
     · by_cases h0 : T = 0
       · exact Or.inl h0
       · right
         rw [show (9007199254740992 : Int) = ((2 ^ 53 : Nat) : Int) from rfl, p2_units]
         refine Rat.le_trans (p2_mono ?_) b1
         omega
     · rw [show (18014398509481984 : Int) = ((2 ^ 54 : Nat) : Int) from rfl, p2_units]
       exact lt_of_lt_le b2 (p2_mono (by omega))
   obtain ⟨k1, k2, k3, k4⟩ := half_of (exact := (T : Int) - 1075 ≤ low) hu w2 w3 w4 (fun h => w5 (by omega))
   have hpos : 0 < magR ns low := magR_pos hm.own hne
   have key : ∃ kept, Half (magR ns low) (p2 ((T : Int) - 1075)) kept ∧ (W : Int) / 2 + (if (W % 2 == 1) && (decide (low < (T : Int) - 1074 - 1) || (W / 2 % 2 == 1)) then 1 else 0) = (kept : Int) := by
     rcases Nat.mod_two_eq_zero_or_one W with h | h
     · refine ⟨W / 2, k1 h, ?_⟩
       rw [h]; simp
     · by_cases h2 : (T : Int) - 1075 ≤ low
       · have e2 : decide (low < (T : Int) - 1074 - 1) = false := decide_eq_false (by omega)
         rcases Nat.mod_two_eq_zero_or_one (W / 2) with h3 | h3
         · refine ⟨W / 2, k4 h h2 h3, ?_⟩
           rw [h, h3, e2]; simp
         · refine ⟨W / 2 + 1, k3 h h2 h3, ?_⟩
           rw [h, h3, e2]; simp
       · have e2 : decide (low < (T : Int) - 1074 - 1) = true := decide_eq_true (by omega)
         refine ⟨W / 2 + 1, k2 h h2, ?_⟩
         rw [h, e2]; simp
   obtain ⟨kept, hk1, hk2⟩ := key
   have kb := kept_bounds hq hk1
   refine (nearest_walk s ns low hi ((T : Int) - 1074) W kept _ _ _ _ _ _ w hm.ws ho.2 l1 l2 hh (by omega) hhb hT hW w1 (and_one W (by omega)) (eq_one W) (and_one (W / 2) (by omega)) (eq_one (W / 2)) rfl hk2 (fun w => ldexp_kept T kept w kb.1 kb.2 (by omega))).mono ?_
   rintro e w' ⟨rfl, hb⟩
   exact ⟨⟨_, rfl, Or.inr ⟨hpos, T, kept, hq, hk1, rfl⟩⟩, hb⟩
def FloatOf (q : Rat) (f : Nat) : Prop := (0 ≤ q ∧ Near q f) ∨ (q < 0 ∧ ∃ r, Near (-q) r ∧ f = if r = 0 then 0 else 9223372036854775808 + r)
theorem gt_zero (r : Nat) (h : r ≤ 9218868437227405312) : (FloatKind.f64.format.order r 0 == some .gt) = (r != 0) := by
 show (Ieee.double.order r 0 == some .gt) = (r != 0)
 have z0 : Fin64 0 := by unfold Fin64 frung; decide
 have e0 : fval 0 = 0 := fval_zero_iff.2 rfl
 by_cases h1 : r = 9218868437227405312
 · subst h1
   rw [order_inf_fin (by unfold frung; rfl) z0]
   rfl
 · have hr : r < 9218868437227405312 := by omega
   have hf : Fin64 r := by unfold Fin64 frung; omega
   have hn := fval_nonneg hr
   rw [order_fin hf z0, e0]
   by_cases h0 : r = 0
   · subst h0; rw [e0]; rfl
   · have e1 : fval r ≠ 0 := by rw [Ne, fval_zero_iff]; unfold frung; omega
     rw [if_neg (by grind), if_neg e1]
     simp [h0]
theorem xor_top (r : Nat) (h : r < 9223372036854775808) : r ^^^ 2 ^ 63 = 9223372036854775808 + r := by
 have h' : r < 2 ^ 63 := h
 show r ^^^ 2 ^ 63 = 2 ^ 63 + r
 refine Nat.eq_of_testBit_eq fun i => ?_
 rw [Nat.testBit_xor, Nat.testBit_two_pow]
 rcases Nat.lt_trichotomy i 63 with hi | hi | hi
 · have hd : decide (63 = i) = false := decide_eq_false (by omega)
   rw [Nat.testBit_two_pow_add_gt hi, hd, Bool.xor_false]
 · subst hi; rw [Nat.testBit_two_pow_add_eq, Nat.testBit_lt_two_pow h']; rfl
 · have e1 : 2 ^ 64 ≤ 2 ^ i := Nat.pow_le_pow_right (by omega) hi
   have e2 : 2 ^ 63 + r < 2 ^ i := by omega
   have hd : decide (63 = i) = false := decide_eq_false (by omega)
   rw [Nat.testBit_lt_two_pow e2, Nat.testBit_lt_two_pow (by omega : r < 2 ^ i), hd]; rfl
theorem run_fneg (r : Nat) (h : r ≤ 9218868437227405312) (w : World) : (Op.unary .neg (.float .f64 r)).run Tryd.prog w = .ok (.float .f64 (9223372036854775808 + r)) w := by
 have e : Op.negFloat .f64 r = 9223372036854775808 + r := by
   exact xor_top r (by omega)
 show Result.ok (Value.float .f64 (Op.negFloat .f64 r)) w = _
 rw [e]
set_option maxHeartbeats 1000000 in
theorem float_walk (a1 : Option Addr) (c1 : Nat) (ns1 : List Nat) (low1 : Int) (neg1 nn1 : Bool) (w : World) (m1 : IsMag w (.slice a1 ns1.length c1) ns1 low1) :
   Calls Tryd.prog 8 #[.agg #[.slice a1 ns1.length c1, .int .i64 low1, .bool neg1, .bool nn1]] w fun e w' => (∃ r, e = .returned (.float .f64 (if neg1 && r != 0 then 9223372036854775808 + r else r)) ∧ Near (magR ns1 low1) r) ∧ Below w.heap.size w w' := by
 have M1 : Hid (IsMag w (.slice a1 ns1.length c1) ns1 low1) := m1
 have HB0 : Hid (Below w.heap.size w (w.alloc (.cells #[.slice a1 ns1.length c1, .int .i64 low1, .bool neg1, .bool nn1] 27))) := (Below.refl _ _).alloc (Nat.le_refl _) _
 clear m1
 go_enter Tryd.func8, Tryd.ntmps8
 go_wp2_with fail
 refine (nearest_any _ ns1 _ _ (M1.out.later HB0.out)).mono ?_
 rintro e w1 ⟨⟨r, rfl, hr⟩, hb1⟩
 have hz := gt_zero r (near_nonneg hr).2
 have hrb := (near_nonneg hr).2
 have c2 : w1.cell? ⟨w.heap.size, 2, none⟩ = some (.bool neg1) := cell_later hb1 (by go_simp)
 have HB1 : Hid (Below w.heap.size w w1) := thru HB0.out hb1
 have HR : Hid (Near (magR ns1 low1) r) := hr
 clear hb1 hr
 cases neg1
 · go_wp2
   go_ret
   exact ⟨⟨r, rfl, HR.out⟩, HB1.out⟩
 · by_cases h0 : r = 0
   · subst h0
     go_wp2
     go_ret
     exact ⟨⟨0, rfl, HR.out⟩, HB1.out⟩
   · have e : (r != 0) = true := by simp [h0]
     rw [e] at hz
     have hng := run_fneg r hrb
     go_wp2
     go_ret
     exact ⟨⟨r, by rw [e]; rfl, HR.out⟩, HB1.out⟩
theorem float_any (va : Value) (a : Option Rat) (w : World) (ha : IsNum w va a) :
   Calls Tryd.prog 8 #[va] w fun e w' => (∃ f, e = .returned (.float .f64 f) ∧ FloatOf (a.getD 0) f) ∧ Below w.heap.size w w' := by
 obtain ⟨a1, ns1, c1, low1, neg1, nn1, rfl, q2, q3, q4, q5, q6, q7, q8⟩ := ha
 refine (float_walk a1 c1 ns1 low1 neg1 nn1 w ⟨q2, q3, q4, q5⟩).mono ?_
 rintro e w' ⟨⟨r, rfl, hr⟩, hb⟩
 refine ⟨⟨_, rfl, ?_⟩, hb⟩
 by_cases hne : ns1 = []
 · have e0 : a.getD 0 = 0 := by
     cases nn1 with
     | true => rw [(q7 rfl).2]; rfl
     | false => rw [q8 rfl, hne, magR_nil]; simp
   rw [hne, magR_nil] at hr
   have := near_zero hr
   subst this
   rw [e0, q6 hne]
   exact Or.inl ⟨Rat.le_refl, hr⟩
 · have hn : nn1 = false := by
     cases nn1 with
     | true => exact absurd (q7 rfl).1 hne
     | false => rfl
   have h3 := magR_pos q3 hne
   rw [q8 hn]
   cases neg1
   · left
     simp only [sg, Bool.false_eq_true, if_false, Option.getD_some, Bool.false_and, Rat.one_mul]
     exact ⟨Rat.le_of_lt h3, hr⟩
   · right
     simp only [sg, if_true, Option.getD_some, Bool.true_and]
     have e1 : -(-1 * magR ns1 low1) = magR ns1 low1 := by grind
     refine ⟨by grind, r, by rw [e1]; exact hr, ?_⟩
     by_cases h0 : r = 0 <;> simp [h0]
end

/- The laws' helper of: a number of three floats. -/
section
open Go.RowKit
attribute [local go_sem ↓] Go.wp_at_zero Go.wp_at_succ
theorem isNum_form {w : World} {v : Value} {x : Option Rat} (h : IsNum w v x) : ∃ a n c low neg nn, v = .agg #[.slice a n c, .int .i64 low, .bool neg, .bool nn] ∧ IsNum w (.agg #[.slice a n c, .int .i64 low, .bool neg, .bool nn]) x := by
 obtain ⟨a, ns, c, low, neg, nn, rfl, hr⟩ := h
 exact ⟨a, _, c, low, neg, nn, rfl, a, ns, c, low, neg, nn, rfl, hr⟩
theorem ofW_any (b : Nat) (w : World) (hT : Tab w) (hb : b < 18446744073709551616) :
   Calls Tryd.prog 4 #[.float .f64 b] w fun e w' => OpR w w' (fun x => x = if frung b < 9218868437227405312 then some (fval b) else none) e := by
 by_cases h : frung b < 9218868437227405312
 · rw [if_pos h]; exact of_fin b w hT hb h
 · rw [if_neg h]; exact of_not b w hb h
end

/- Closed floats: what stands for what. -/
section
theorem near_exact {q : Rat} {T k : Nat} (hq : 0 < q) (hl : Last q T) (he : q = ((2 * (k : Int) : Int) : Rat) * p2 ((T : Int) - 1075)) (hb : T * 4503599627370496 + k ≤ 9218868437227405312) : Near q (T * 4503599627370496 + k) := by
 refine Or.inr ⟨hq, T, k, hl, ?_, (Nat.min_eq_left hb).symm⟩
 have hu := p2_pos ((T : Int) - 1075)
 refine ⟨by rw [he]; exact le_int hu (by omega), by rw [he]; exact le_int hu (by omega), fun h => ?_, fun h => ?_⟩
 · rw [he] at h
   have := int_le hu (le_of_same h)
   omega
 · rw [he] at h
   have := int_le hu (le_of_same h.symm)
   omega
theorem near_norm (T k : Nat) (q : Rat) (h1 : 4503599627370496 ≤ k) (h2 : k < 9007199254740992) (hb : T * 4503599627370496 + k ≤ 9218868437227405312) (he : q = ((k : Int) : Rat) * p2 ((T : Int) - 1074)) : Near q (T * 4503599627370496 + k) := by
 have hu := p2_pos ((T : Int) - 1075)
 have e1 : q = ((2 * (k : Int) : Int) : Rat) * p2 ((T : Int) - 1075) := by
   rw [he, show (T : Int) - 1074 = 1 + ((T : Int) - 1075) by omega, p2_add, p2_one, Rat.intCast_mul]
   have : ((2 : Int) : Rat) = 2 := rfl
   rw [this]; grind
 refine near_exact ?_ ⟨Or.inr ?_, ?_⟩ e1 hb
 · rw [e1]
   have := lt_int hu (show (0 : Int) < 2 * (k : Int) by omega)
   rwa [show ((0 : Int) : Rat) = 0 from rfl, Rat.zero_mul] at this
 · rw [e1]; exact le_int hu (by omega)
 · rw [e1]; exact lt_int hu (by omega)
end

/- The numbers of the first question: what is reckoned. -/
section
theorem low_le {m n : Int} {l g : Int} (h : ((2 * m + 1 : Int) : Rat) * p2 l = ((2 * n + 1 : Int) : Rat) * p2 g) : l ≤ g := by
 rcases Int.lt_or_le g l with h1 | h1
 · obtain ⟨j, hj⟩ : ∃ j : Nat, l = g + ((j + 1 : Nat) : Int) := ⟨(l - g - 1).toNat, by omega⟩
   rw [hj, p2_add, p2_nat] at h
   have hg := p2_ne g
   have e : ((2 * m + 1 : Int) : Rat) * ((2 ^ (j + 1) : Nat) : Rat) = ((2 * n + 1 : Int) : Rat) := by grind
   have e2 : (((2 * m + 1) * ((2 ^ (j + 1) : Nat) : Int) : Int) : Rat) = ((2 * n + 1 : Int) : Rat) := by rw [Rat.intCast_mul]; exact e
   have e3 := Rat.intCast_inj.1 e2
   rw [Nat.pow_succ, Int.natCast_mul] at e3
   generalize ((2 ^ j : Nat) : Int) = P at e3
   have e4 : (2 * m + 1) * (P * ((2 : Nat) : Int)) = 2 * ((2 * m + 1) * P) := by grind
   omega
 · exact h1
end

/- The first question of each law: is something reckoned? -/
section
open Go.RowKit
attribute [local go_sem ↓] Go.wp_at_zero Go.wp_at_succ
end
end Go.Proofs.YtejhinjanjlplaaDoor
