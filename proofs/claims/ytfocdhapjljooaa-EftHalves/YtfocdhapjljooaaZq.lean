/- The reference's Mul, High and Low of whatever numbers. -/
import Derived.Test.YtfocdhapjljooaaZo
import Derived.Test.YtfocdhapjljooaaZp
namespace Go.Proofs.Ytfocdhapjljooaa
open Go.RowKit

set_option maxHeartbeats 1000000 in
theorem mul_zero (a1 a2 : Option Addr) (n1 n2 c1 c2 : Nat) (S1 S2 E1 E2 : Int) (w : World) (h : S1 = 0 ∨ S2 = 0) :
    Calls Try.prog 22 #[.agg #[.int .i64 S1, .slice a1 n1 c1, .int .i64 E1], .agg #[.int .i64 S2, .slice a2 n2 c2, .int .i64 E2]] w fun e w' => e = .returned (.agg #[.int .i64 0, .slice none 0 0, .int .i64 0]) ∧ Below w.heap.size w w' := by
  by_cases h1 : S1 = 0
  · subst h1
    clear h
    go_enter Try.func22, Try.ntmps22
    go_wp2
    refine bodyPost_ret (v := .agg #[.int .i64 0, .slice none 0 0, .int .i64 0]) (by simp [results, Try.results22, go_sem]) rfl ?_
    exact ⟨rfl, below3 _ _ _ _⟩
  · obtain rfl : S2 = 0 := h.resolve_left h1
    have h1' : (S1 == 0) = false := by simpa using h1
    clear h h1
    go_enter Try.func22, Try.ntmps22
    go_wp2
    refine bodyPost_ret (v := .agg #[.int .i64 0, .slice none 0 0, .int .i64 0]) (by simp [results, Try.results22, go_sem]) rfl ?_
    exact ⟨rfl, below3 _ _ _ _⟩

theorem rf_zero (w : World) : Rf w (.agg #[.int .i64 0, .slice none 0 0, .int .i64 0]) 0 :=
  ⟨0, [], 0, ⟨⟨none, 0, rfl, by simp, Or.inl rfl⟩, by simp, by simp, by omega, by omega⟩, Or.inl ⟨rfl, rfl, rfl⟩, by rw [mag_nil]; grind⟩

theorem mul_rf (v1 v2 : Value) (q1 q2 : Rat) (w : World) (h1 : Rf w v1 q1) (h2 : Rf w v2 q2) (b1 : Fit q1) (b2 : Fit q2) : Calls Try.prog 22 #[v1, v2] w fun e w' => RfR w w' (q1 * q2) e := by
  obtain ⟨S1, ds1, E1, d1, k1, rfl⟩ := h1
  obtain ⟨S2, ds2, E2, d2, k2, rfl⟩ := h2
  have D1 := d1
  have D2 := d2
  obtain ⟨a1, c1, rfl, _, f1⟩ := d1.form
  obtain ⟨a2, c2, rfl, _, f2⟩ := d2.form
  by_cases z : S1 = 0 ∨ S2 = 0
  · refine (mul_zero a1 a2 ds1.length ds2.length c1 c2 S1 S2 E1 E2 w z).mono ?_
    rintro e w' ⟨rfl, hb⟩
    refine ⟨_, rfl, ?_, hb⟩
    have : (S1 : Rat) * mag ds1 E1 * ((S2 : Rat) * mag ds2 E2) = 0 := by
      rcases z with rfl | rfl
      · rw [show ((0 : Int) : Rat) = 0 from rfl]; grind
      · rw [show ((0 : Int) : Rat) = 0 from rfl]; grind
    rw [this]
    exact rf_zero _
  · have n1 : ds1 ≠ [] := by rintro rfl; rcases k1 with ⟨_, h, _⟩ | ⟨h, _⟩; exact z (Or.inl h); exact h rfl
    have n2 : ds2 ≠ [] := by rintro rfl; rcases k2 with ⟨_, h, _⟩ | ⟨h, _⟩; exact z (Or.inr h); exact h rfl
    obtain ⟨g1, o1, rfl, f1, _⟩ := f1.resolve_left n1
    obtain ⟨g2, o2, rfl, f2, _⟩ := f2.resolve_left n2
    obtain ⟨p1, p1'⟩ := canon_place k1 d1.small b1 n1
    obtain ⟨p2, p2'⟩ := canon_place k2 d2.small b2 n2
    exact refMul_walk g1 o1 g2 o2 c1 c2 S1 S2 E1 E2 ds1 ds2 w D1 D2 ((canon_sign k1).resolve_left (fun h => z (Or.inl h))) ((canon_sign k2).resolve_left (fun h => z (Or.inr h))) (by omega) (by omega) (by omega) (by omega) f1 f2

theorem canon_digit {S E : Int} {ds : List Nat} (h : Canon S ds E) (hn : ds ≠ []) : ∃ j, dgt ds E j ≠ 0 := by
  rcases h with ⟨h, _⟩ | ⟨_, _, h, _⟩
  · exact absurd h hn
  · refine ⟨E, ?_⟩
    have := List.length_pos_iff.2 hn
    unfold dgt
    rw [if_pos ⟨by omega, by omega⟩, show (E - E).toNat = 0 by omega]; exact h

theorem eq_small {ds ds' : List Nat} {E E' : Int} (hs : ∀ d ∈ ds, d < 16777216) (heq : ∀ j, dgt ds' E' j = dgt ds E j) : ∀ i, ds'.getD i 0 < 16777216 := by
  intro i
  by_cases hi : i < ds'.length
  · have h : dgt ds' E' (E' + (i : Int)) = ds'.getD i 0 := by
      unfold dgt; rw [if_pos ⟨by omega, by omega⟩, show (E' + (i : Int) - E').toNat = i by omega]
    rw [← h, heq, dgt_dg]; exact dg_small hs _ _
  · simp [List.getD, List.getElem?_eq_none (Nat.le_of_not_lt hi)]
theorem eq_small' {ds ds' : List Nat} {E E' : Int} (hs : ∀ d ∈ ds, d < 16777216) (heq : ∀ j, dgt ds' E' j = dgt ds E j) : ∀ d ∈ ds', d < 16777216 := by
  intro d hd
  obtain ⟨i, hi, rfl⟩ := List.getElem_of_mem hd
  have := eq_small hs heq i
  rwa [show ds'.getD i 0 = ds'[i] by simp [List.getD, hi]] at this
theorem v24_head (ds : List Nat) : ∃ r, v24 ds = ds.getD 0 0 + 16777216 * r := by
  cases ds with
  | nil => exact ⟨0, by simp [v24]⟩
  | cons a r => exact ⟨v24 r, by simp [v24]⟩

theorem low_rf (v : Value) (q : Rat) (w : World) (h : Rf w v q) (hq : q ≠ 0) (b : Fit q) : Calls Try.prog 60 #[v] w fun e w' => (∃ (l : Int) (m : Int), e = .returned (.int .i64 l) ∧ q = (m : Rat) * p2 l ∧ m % 2 = 1) ∧ Below w.heap.size w w' := by
  obtain ⟨S, ds, E, d, k, rfl⟩ := h
  have D := d
  obtain ⟨a, c, rfl, _⟩ := d.form
  have hS : S ≠ 0 := by rintro rfl; exact hq (by rw [show ((0 : Int) : Rat) = 0 from rfl]; grind)
  have hn : ds ≠ [] := by rintro rfl; rcases k with ⟨_, h, _⟩ | ⟨h, _⟩; exact hS h; exact h rfl
  obtain ⟨p1, p1'⟩ := canon_place k d.small b hn
  have s1 := (canon_sign k).resolve_left hS
  refine (refLow_walk a c S E ds w D (by omega) (by simpa using hS) (canon_digit k hn)).mono ?_
  rintro e w' ⟨⟨ds', E', t, x, rfl, heq, hx, hodd⟩, hb⟩
  have hsm := eq_small d.small heq 0
  have hm : mag ds' E' = mag ds E := mag_congr (fun j => by rw [← dgt_dg, ← dgt_dg]; exact heq j)
  obtain ⟨r, hr⟩ := v24_head ds'
  have ht : t < 24 := by
    have e1 : 1 * 2 ^ t ≤ x * 2 ^ t := Nat.mul_le_mul_right _ (by omega)
    have : 2 ^ t < 2 ^ 24 := by omega
    exact (Nat.pow_lt_pow_iff_right (by omega : 1 < 2)).1 this
  have e24 : 16777216 = 2 ^ t * (2 * 2 ^ (23 - t)) := by
    rw [← Nat.pow_succ', ← Nat.pow_add, show t + (23 - t).succ = 24 by omega]
  have hv : v24 ds' = 2 ^ t * (x + 2 * (2 ^ (23 - t) * r)) := by
    rw [hr, hx, e24]; grind
  refine ⟨⟨_, S * ((x + 2 * (2 ^ (23 - t) * r) : Nat) : Int), rfl, ?_, ?_⟩, hb⟩
  · rw [← hm]
    unfold mag
    rw [hv, p2_add, p2_nat, Rat.natCast_mul, Rat.intCast_mul]
    show (S : Rat) * (((2 ^ t : Nat) : Rat) * ((x + 2 * (2 ^ (23 - t) * r) : Nat) : Rat) * p2 (24 * E')) = (S : Rat) * ((x + 2 * (2 ^ (23 - t) * r) : Nat) : Rat) * (p2 (24 * E') * ((2 ^ t : Nat) : Rat))
    grind
  · rcases s1 with rfl | rfl <;> omega

theorem high_rf (v : Value) (q : Rat) (w : World) (h : Rf w v q) (hq : q ≠ 0) (b : Fit q) : Calls Try.prog 59 #[v] w fun e w' => (∃ (h : Int), e = .returned (.int .i64 h) ∧ ((p2 h ≤ q ∧ q < p2 (h + 1)) ∨ (p2 h ≤ -q ∧ -q < p2 (h + 1)))) ∧ Below w.heap.size w w' := by
  obtain ⟨S, ds, E, d, k, rfl⟩ := h
  have D := d
  obtain ⟨a, c, rfl, _⟩ := d.form
  have hS : S ≠ 0 := by rintro rfl; exact hq (by rw [show ((0 : Int) : Rat) = 0 from rfl]; grind)
  have hn : ds ≠ [] := by rintro rfl; rcases k with ⟨_, h, _⟩ | ⟨h, _⟩; exact hS h; exact h rfl
  obtain ⟨p1, p1'⟩ := canon_place k d.small b hn
  have s1 := (canon_sign k).resolve_left hS
  refine (refHigh_walk a c S E ds w D (by omega) (by simpa using hS) (canon_digit k hn)).mono ?_
  rintro e w' ⟨⟨ds', E', t, rfl, heq, hne, h1, h2⟩, hb⟩
  have hsm := eq_small' d.small heq
  have hm : mag ds' E' = mag ds E := mag_congr (fun j => by rw [← dgt_dg, ← dgt_dg]; exact heq j)
  have hl := List.length_pos_iff.2 hne
  have hv := v24_take_succ ds' (ds'.length - 1)
  rw [show ds'.length - 1 + 1 = ds'.length by omega, List.take_length] at hv
  have hlow : v24 (ds'.take (ds'.length - 1)) < 2 ^ (24 * (ds'.length - 1)) := by
    have := v24_lt (ds := ds'.take (ds'.length - 1)) (fun d hd => hsm d (List.mem_of_mem_take hd))
    rwa [List.length_take, Nat.min_eq_left (by omega)] at this
  have lo : p2 (24 * (E' + (ds'.length : Int) - 1) + (t : Int)) ≤ mag ds E ∧ mag ds E < p2 (24 * (E' + (ds'.length : Int) - 1) + (t : Int) + 1) := by
    rw [← hm]
    unfold mag
    rw [show 24 * (E' + (ds'.length : Int) - 1) + (t : Int) = ((24 * (ds'.length - 1) + t : Nat) : Int) + 24 * E' by omega, show ((24 * (ds'.length - 1) + t : Nat) : Int) + 24 * E' + 1 = ((24 * (ds'.length - 1) + (t + 1) : Nat) : Int) + 24 * E' by omega, p2_add, p2_add, p2_nat, p2_nat, hv, Nat.pow_add, Nat.pow_add]
    have hp := p2_pos (24 * E')
    have a1 := Nat.mul_le_mul_left (2 ^ (24 * (ds'.length - 1))) h1
    have a2 := Nat.mul_le_mul_left (2 ^ (24 * (ds'.length - 1))) (show ds'.getD (ds'.length - 1) 0 + 1 ≤ 2 ^ (t + 1) from h2)
    rw [Nat.mul_add, Nat.mul_one] at a2
    exact ⟨Rat.mul_le_mul_of_nonneg_right (Rat.natCast_le_natCast.2 (by omega)) (Rat.le_of_lt hp), Rat.mul_lt_mul_of_pos_right (Rat.natCast_lt_natCast.2 (by omega)) hp⟩
  refine ⟨⟨_, rfl, ?_⟩, hb⟩
  rcases s1 with rfl | rfl
  · left
    rw [show ((1 : Int) : Rat) * mag ds E = mag ds E by rw [show ((1 : Int) : Rat) = 1 from rfl]; grind]; exact lo
  · right
    rw [show -(((-1 : Int) : Rat) * mag ds E) = mag ds E by rw [show ((-1 : Int) : Rat) = -1 from rfl]; grind]; exact lo

end Go.Proofs.Ytfocdhapjljooaa
