/- The reference's Add, Sub, Cmp, Abs, of whatever numbers. -/
import Derived.Test.YtfocdhapjljooaaZk
import Derived.Test.YtfocdhapjljooaaEn
namespace Go.Proofs.Ytfocdhapjljooaa
open Go.RowKit

theorem add_val {ds1 ds2 zs : List Nat} {E1 E2 L to s c : Int} {n : Nat} (h : AddD (fun i => ms (dgt ds1 E1) L i) (fun i => ms (dgt ds2 E2) L i) s n zs c) (hn : (n : Int) = to - L + 1) (s1 : ∀ d ∈ ds1, d < 16777216) (s2 : ∀ d ∈ ds2, d < 16777216)
    (f1 : L ≤ E1) (f2 : L ≤ E2) (t1 : E1 + (ds1.length : Int) ≤ to) (t2 : E2 + (ds2.length : Int) ≤ to) (hs : s = 1 ∨ (s = -1 ∧ mag ds2 E2 ≤ mag ds1 E1)) : mag zs L = mag ds1 E1 + (s : Rat) * mag ds2 E2 := by
  have g1 : ∀ j, dgt ds1 E1 j < 16777216 := fun j => by rw [dgt_dg]; exact dg_small s1 _ _
  have g2 : ∀ j, dgt ds2 E2 j < 16777216 := fun j => by rw [dgt_dg]; exact dg_small s2 _ _
  obtain ⟨m, rfl⟩ : ∃ m, n = m + 1 := ⟨n - 1, by omega⟩
  have e1 : ms (dgt ds1 E1) L (m + 1) < 2 ^ (24 * m) := by
    rw [ms, dgt_above (by omega)]
    have := ms_lt g1 L m
    omega
  have e2 : ms (dgt ds2 E2) L (m + 1) < 2 ^ (24 * m) := by
    rw [ms, dgt_above (by omega)]
    have := ms_lt g2 L m
    omega
  have m1 : mag ds1 E1 = (ms (dgt ds1 E1) L (m + 1) : Nat) * p2 (24 * L) := by
    rw [mag_ms f1 (n := m + 1) (by omega), ms_congr (fun j => dgt_dg ds1 E1 j)]
  have m2 : mag ds2 E2 = (ms (dgt ds2 E2) L (m + 1) : Nat) * p2 (24 * L) := by
    rw [mag_ms f2 (n := m + 1) (by omega), ms_congr (fun j => dgt_dg ds2 E2 j)]
  have hv := h.val
  have hz := v24_lt h.small
  rw [h.len, p24] at hz
  rw [p24] at hv
  have hp := p2_pos (24 * L)
  have hc : (v24 zs : Int) = (ms (dgt ds1 E1) L (m + 1) : Int) + s * (ms (dgt ds2 E2) L (m + 1) : Int) := by
    have hge : 0 ≤ (ms (dgt ds1 E1) L (m + 1) : Int) + s * (ms (dgt ds2 E2) L (m + 1) : Int) := by
      rcases hs with rfl | ⟨rfl, hle⟩
      · omega
      · rw [m1, m2] at hle
        have := int_le (a := (ms (dgt ds2 E2) L (m + 1) : Int)) (b := (ms (dgt ds1 E1) L (m + 1) : Int)) hp hle
        omega
    have hle : (ms (dgt ds1 E1) L (m + 1) : Int) + s * (ms (dgt ds2 E2) L (m + 1) : Int) < 2 * ((2 ^ (24 * m) : Nat) : Int) := by
      rcases hs with rfl | ⟨rfl, _⟩ <;> omega
    have hv' : (v24 zs : Int) + 16777216 * (((2 ^ (24 * m) : Nat) : Int) * c) = (ms (dgt ds1 E1) L (m + 1) : Int) + s * (ms (dgt ds2 E2) L (m + 1) : Int) := by
      rw [← hv]; simp only [Int.natCast_mul]; grind
    have h1 := h.c1
    have h2 := h.c2
    generalize (ms (dgt ds1 E1) L (m + 1) : Int) + s * (ms (dgt ds2 E2) L (m + 1) : Int) = X at *
    have hP : 0 < ((2 ^ (24 * m) : Nat) : Int) := by have := Nat.two_pow_pos (24 * m); omega
    have hzz : (v24 zs : Int) < 16777216 * ((2 ^ (24 * m) : Nat) : Int) := by omega
    generalize ((2 ^ (24 * m) : Nat) : Int) = P at *
    have : c = -1 ∨ c = 0 ∨ c = 1 := by omega
    rcases this with rfl | rfl | rfl
    · exfalso; omega
    · omega
    · exfalso; omega
  have hr : ((v24 zs : Nat) : Rat) = ((ms (dgt ds1 E1) L (m + 1) : Nat) : Rat) + (s : Rat) * ((ms (dgt ds2 E2) L (m + 1) : Nat) : Rat) := by
    exact_mod_cast congrArg (fun x : Int => (x : Rat)) hc
  rw [m1, m2]
  unfold mag
  rw [hr]
  grind

theorem size_sign {ds1 ds2 : List Nat} {E1 E2 r : Int} (h : SizeOf ds1 E1 ds2 E2 r) (s1 : ∀ d ∈ ds1, d < 16777216) (s2 : ∀ d ∈ ds2, d < 16777216) : (r < 0 → mag ds1 E1 < mag ds2 E2) ∧ (¬ r < 0 → mag ds2 E2 ≤ mag ds1 E1) := by
  have g1 : ∀ j, dg ds1 E1 j < 16777216 := fun j => dg_small s1 _ _
  have g2 : ∀ j, dg ds2 E2 j < 16777216 := fun j => dg_small s2 _ _
  rcases h with ⟨rfl, h⟩ | ⟨i, heq, h⟩
  · have := mag_congr (ds := ds1) (E := E1) (ds' := ds2) (E' := E2) (fun j => by rw [← dgt_dg, ← dgt_dg]; exact (h j).symm)
    exact ⟨by omega, fun _ => by rw [this]; exact Rat.le_refl⟩
  · have key : ∀ (a b : List Nat) (Ea Eb : Int), (∀ j, dg b Eb j < 16777216) → (∀ j, i < j → dg a Ea j = dg b Eb j) → dg b Eb i < dg a Ea i → mag b Eb < mag a Ea := by
      intro a b Ea Eb gb hq hl
      have a1 : min (min Ea Eb) i ≤ Ea := by omega
      have a2 : min (min Ea Eb) i ≤ Eb := by omega
      have a3 : min (min Ea Eb) i ≤ i := by omega
      obtain ⟨n, hn1, hn2, hn3⟩ : ∃ n : Nat, Ea + (a.length : Int) ≤ min (min Ea Eb) i + (n : Int) ∧ Eb + (b.length : Int) ≤ min (min Ea Eb) i + (n : Int) ∧ i < min (min Ea Eb) i + (n : Int) :=
        ⟨((Ea - min (min Ea Eb) i) + (Eb - min (min Ea Eb) i) + (i - min (min Ea Eb) i) + a.length + b.length + 1).toNat, by omega, by omega, by omega⟩
      rw [mag_ms a1 hn1, mag_ms a2 hn2]
      have := ms_less gb a3 hn3 hq hl
      exact Rat.mul_lt_mul_of_pos_right (Rat.natCast_lt_natCast.2 this) (p2_pos _)
    have heq' : ∀ j, i < j → dg ds1 E1 j = dg ds2 E2 j := fun j hj => by rw [← dgt_dg, ← dgt_dg]; exact heq j hj
    rw [dgt_dg, dgt_dg] at h
    rcases h with ⟨h, rfl⟩ | ⟨h, rfl⟩
    · have := key ds1 ds2 E1 E2 g2 heq' h
      exact ⟨by omega, fun _ => Rat.le_of_lt this⟩
    · have := key ds2 ds1 E2 E1 g1 (fun j hj => (heq' j hj).symm) h
      exact ⟨fun _ => this, by omega⟩

theorem rf_stored {w w1 : World} {v : Value} {q : Rat} {b : Nat} (h : Rf w1 v q) (hb : OtherRow w1 b) (hB : Below w.heap.size w w1) (hbl : w.heap.size ≤ b) (x y z : Value) : Rf (((w1.setCell ⟨b, 0, none⟩ x).setCell ⟨b, 1, none⟩ y).setCell ⟨b, 2, none⟩ z) v q ∧ Below w.heap.size w (((w1.setCell ⟨b, 0, none⟩ x).setCell ⟨b, 1, none⟩ y).setCell ⟨b, 2, none⟩ z) :=
  ⟨h.boxed hb x y z, ((hB.setCell hbl _).setCell hbl _).setCell hbl _⟩

set_option maxHeartbeats 1000000 in
theorem add_zero1 (a1 a2 : Option Addr) (n1 n2 c1 c2 : Nat) (S2 E1 E2 : Int) (w : World) :
    Calls Try.prog 19 #[.agg #[.int .i64 0, .slice a1 n1 c1, .int .i64 E1], .agg #[.int .i64 S2, .slice a2 n2 c2, .int .i64 E2]] w fun e w' => e = .returned (.agg #[.int .i64 S2, .slice a2 n2 c2, .int .i64 E2]) ∧ Below w.heap.size w w' := by
  go_enter Try.func19, Try.ntmps19
  go_wp2
  refine bodyPost_ret (v := .agg #[.int .i64 S2, .slice a2 n2 c2, .int .i64 E2]) (by simp [results, Try.results19, go_sem]) rfl ?_
  refine ⟨rfl, ?_⟩
  exact below3 _ _ _ _
set_option maxHeartbeats 1000000 in
theorem add_zero2 (a1 a2 : Option Addr) (n1 n2 c1 c2 : Nat) (S1 E1 E2 : Int) (w : World) (hS : (S1 == 0) = false) :
    Calls Try.prog 19 #[.agg #[.int .i64 S1, .slice a1 n1 c1, .int .i64 E1], .agg #[.int .i64 0, .slice a2 n2 c2, .int .i64 E2]] w fun e w' => e = .returned (.agg #[.int .i64 S1, .slice a1 n1 c1, .int .i64 E1]) ∧ Below w.heap.size w w' := by
  go_enter Try.func19, Try.ntmps19
  go_wp2
  refine bodyPost_ret (v := .agg #[.int .i64 S1, .slice a1 n1 c1, .int .i64 E1]) (by simp [results, Try.results19, go_sem]) rfl ?_
  refine ⟨rfl, ?_⟩
  exact below3 _ _ _ _

end Go.Proofs.Ytfocdhapjljooaa
