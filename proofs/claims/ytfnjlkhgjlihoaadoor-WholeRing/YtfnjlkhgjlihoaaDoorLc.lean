/- The numbers of the first question: what is reckoned. -/
import Derived.Test.YtfnjlkhgjlihoaaDoorLb
namespace Go.Proofs.YtfnjlkhgjlihoaaDoor

theorem floatOf_fun {q : Rat} {f g : Nat} (h1 : FloatOf q f) (h2 : FloatOf q g) : f = g := by
  rcases h1 with ⟨a, h1⟩ | ⟨a, r, h1, rfl⟩ <;> rcases h2 with ⟨b, h2⟩ | ⟨b, s, h2, rfl⟩
  · exact near_fun h1 h2
  · grind
  · grind
  · rw [near_fun h1 h2]

theorem highOf_fun {q : Rat} {h g : Int} (h1 : HighOf q h) (h2 : HighOf q g) : h = g := by
  have key : ∀ {x : Rat} {a b : Int}, p2 a ≤ x → x < p2 (b + 1) → a ≤ b := fun {x a b} h1 h2 => by
    have := p2_lt_iff.1 (lt_of_le_lt h1 h2); omega
  rcases h1 with ⟨a, h1⟩ | ⟨a, h1⟩ <;> rcases h2 with ⟨b, h2⟩ | ⟨b, h2⟩
  · rw [h1, h2]
  · exact absurd a b
  · exact absurd b a
  · have n1 := p2_pos h
    have n2 := p2_pos g
    rcases h1 with ⟨c, d⟩ | ⟨c, d⟩ <;> rcases h2 with ⟨c', d'⟩ | ⟨c', d'⟩
    · have := key c d'; have := key c' d; omega
    · grind
    · grind
    · have := key c d'; have := key c' d; omega

theorem low_le {m n : Int} {l g : Int} (h : ((2 * m + 1 : Int) : Rat) * p2 l = ((2 * n + 1 : Int) : Rat) * p2 g) : l ≤ g := by
  rcases Int.lt_or_le g l with h1 | h1
  · obtain ⟨j, hj⟩ : ∃ j : Nat, l = g + ((j + 1 : Nat) : Int) := ⟨(l - g - 1).toNat, by omega⟩
    rw [hj, p2_add, p2_nat] at h
    have hg := p2_ne g
    have e : ((2 * m + 1 : Int) : Rat) * ((2 ^ (j + 1) : Nat) : Rat) = ((2 * n + 1 : Int) : Rat) := by grind
    have e2 : (((2 * m + 1) * ((2 ^ (j + 1) : Nat) : Int) : Int) : Rat) = ((2 * n + 1 : Int) : Rat) := by rw [Rat.intCast_mul]; exact e
    have e3 := Rat.intCast_inj.1 e2
    rw [Nat.pow_succ, Int.natCast_mul] at e3
    generalize ((2 ^ j : Nat) : Int) = P at e3
    have e4 : (2 * m + 1) * (P * ((2 : Nat) : Int)) = 2 * ((2 * m + 1) * P) := by grind
    omega
  · exact h1

theorem lowOf_fun {q : Rat} {l g : Int} (h1 : LowOf q l) (h2 : LowOf q g) : l = g := by
  have nz : ∀ {m : Int} {l : Int}, ((2 * m + 1 : Int) : Rat) * p2 l ≠ 0 := fun {m l} h => by
    have hp := p2_ne l
    have e : ((2 * m + 1 : Int) : Rat) = ((0 : Int) : Rat) := by
      rw [show ((0 : Int) : Rat) = 0 from rfl]; grind
    have := Rat.intCast_inj.1 e
    omega
  rcases h1 with ⟨a, h1⟩ | ⟨m, h1⟩ <;> rcases h2 with ⟨b, h2⟩ | ⟨n, h2⟩
  · rw [h1, h2]
  · exact absurd (h2.symm.trans a) nz
  · exact absurd (h1.symm.trans b) nz
  · exact Int.le_antisymm (low_le (h1.symm.trans h2)) (low_le (h2.symm.trans h1))

def n05 : Rat := fval 4602678819172646912
def n025 : Rat := fval 4598175219545276416
def n075 : Rat := n05 + n025
def n100 : Rat := ((1 : Int) : Rat) * p2 100
def n101 : Rat := n100 + ((1 : Int) : Rat)
def n15 : Rat := ((3 : Int) : Rat) * ((-5 : Int) : Rat)

theorem p2m (e : Int) (n : Nat) (h : -e = (n : Int)) : p2 e = 1 / ((2 ^ n : Nat) : Rat) := by rw [p2_inv, h, p2_nat]

theorem n05_eq : n05 = 1 / 2 := by
  have h : n05 = ((fmag 4602678819172646912 : Nat) : Rat) * p2 (fpl 4602678819172646912) := (fval_pos_lt (by omega)).1
  rw [h, show fmag 4602678819172646912 = 4503599627370496 by decide, show fpl 4602678819172646912 = -53 by decide +kernel, p2m (-53) 53 rfl]
  decide +kernel

theorem n025_eq : n025 = 1 / 4 := by
  have h : n025 = ((fmag 4598175219545276416 : Nat) : Rat) * p2 (fpl 4598175219545276416) := (fval_pos_lt (by omega)).1
  rw [h, show fmag 4598175219545276416 = 4503599627370496 by decide, show fpl 4598175219545276416 = -54 by decide +kernel, p2m (-54) 54 rfl]
  decide +kernel

theorem n075_eq : n075 = 3 / 4 := by unfold n075; rw [n05_eq, n025_eq]; decide +kernel
theorem n100_eq : n100 = ((2 ^ 100 : Nat) : Rat) := by
  have h : p2 100 = ((2 ^ 100 : Nat) : Rat) := p2_nat 100
  unfold n100; rw [h]; decide +kernel
theorem n101_eq : n101 = ((2 ^ 100 + 1 : Nat) : Rat) := by unfold n101; rw [n100_eq]; decide +kernel
theorem n15_eq : n15 = -15 := by unfold n15; decide +kernel

theorem float075 {f : Nat} (h : FloatOf n075 f) : f = 4604930618986332160 := by
  refine floatOf_fun h (Or.inl ⟨by rw [n075_eq]; decide +kernel, ?_⟩)
  exact near_norm 1021 6755399441055744 _ (by omega) (by omega) (by omega) (by rw [n075_eq, p2m (((1021 : Nat) : Int) - 1074) 53 rfl]; decide +kernel)

theorem float15 {f : Nat} (h : FloatOf n15 f) : f = 13848005904210853888 := by
  refine floatOf_fun h (Or.inr ⟨by rw [n15_eq]; decide +kernel, 4624633867356078080, ?_, by decide +kernel⟩)
  exact near_norm 1025 8444249301319680 _ (by omega) (by omega) (by omega) (by rw [n15_eq, p2m (((1025 : Nat) : Int) - 1074) 49 rfl]; decide +kernel)

theorem float101 {f : Nat} (h : FloatOf n101 f) : f = 5057542381537067008 := by
  have e : p2 (((1122 : Nat) : Int) - 1075) = ((2 ^ 47 : Nat) : Rat) := p2_nat 47
  refine floatOf_fun h (Or.inl ⟨by rw [n101_eq]; decide +kernel, Or.inr ⟨by rw [n101_eq]; decide +kernel, 1122, 4503599627370496, ⟨Or.inr ?_, ?_⟩, ⟨?_, ?_, fun h => ?_, fun h => ?_⟩, by decide +kernel⟩⟩)
  all_goals (try rw [n101_eq, e] at h)
  all_goals (try rw [n101_eq, e])
  all_goals decide +kernel

theorem high075 {h : Int} (hh : HighOf n075 h) : h = -1 := by
  refine highOf_fun hh (Or.inr ⟨by rw [n075_eq]; decide +kernel, Or.inl ?_⟩)
  rw [n075_eq, p2m (-1) 1 rfl, show (-1 + 1 : Int) = 0 from rfl, p2_zero]
  decide +kernel

theorem low075 {h : Int} (hh : LowOf n075 h) : h = -2 := by
  refine lowOf_fun hh (Or.inr ⟨1, ?_⟩)
  rw [n075_eq, p2m (-2) 2 rfl]
  decide +kernel

theorem low101 {h : Int} (hh : LowOf n101 h) : h = 0 := by
  refine lowOf_fun hh (Or.inr ⟨2 ^ 99, ?_⟩)
  rw [n101_eq, p2_zero]
  decide +kernel

theorem sgn15 : sgnR n15 = -1 := by rw [n15_eq]; decide +kernel
theorem cmp101 : CmpX (some n101) (some n100) = 1 := by
  show cmpR n101 n100 = 1
  rw [n101_eq, n100_eq]; decide +kernel

end Go.Proofs.YtfnjlkhgjlihoaaDoor
