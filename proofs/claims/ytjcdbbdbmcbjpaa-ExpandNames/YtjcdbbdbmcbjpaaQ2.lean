/- Own texts, put together: Eb Ec. -/
import Derived.Test.YtjcdbbdbmcbjpaaQ1
import Derived.WalkKit
import Derived.WalkSpells
import Derived.WalkLawsBesides
import Derived.Laws.FloatArith
namespace Go.Proofs.Ytjcdbbdbmcbjpaa
/- Which floats are tame, which are safe: the program's. -/
section
open Go.RowKit
theorem leq_word {r c : Nat} (hr : r < 9223372036854775808) (hc : c < 9218868437227405312) : (FloatKind.f64.format.order r c == some .lt || FloatKind.f64.format.order r c == some .eq) = decide (r ≤ c) := by
 show (Ieee.double.order r c == some .lt || Ieee.double.order r c == some .eq) = _
 rcases Nat.lt_or_ge 9218868437227405312 r with h | h
 · rw [order_nan_left (by unfold frung; omega)]
   simp; omega
 · rw [order_rung h hc]
   rcases Nat.lt_trichotomy r c with e | e | e
   · rw [if_pos e]; simp; omega
   · subst e; simp
   · rw [if_neg (by omega), if_neg (by omega)]; simp; omega
theorem order_nan_right {b c : Nat} (hb : 9218868437227405312 < frung b) : Ieee.double.order c b = none := by
 obtain ⟨s, t, e⟩ := read_nan hb
 unfold Ieee.Format.order
 rw [e]
 cases Ieee.double.read c <;> rfl
theorem inf_right {c : Nat} (hc : Fin64 c) : Ieee.double.order c 9218868437227405312 = some .lt := by
 have h1 := read_fin hc
 have h2 := read_inf (b := 9218868437227405312) (by decide)
 have h3 : fneg 9218868437227405312 = false := by decide
 unfold Ieee.Format.order
 rw [h1, h2, h3]
 rfl
theorem const_leq {r c : Nat} (hr : r < 9223372036854775808) (hc : c < 9218868437227405312) : (FloatKind.f64.format.order c r == some .lt || FloatKind.f64.format.order c r == some .eq) = decide (c ≤ r ∧ r ≤ 9218868437227405312) := by
 show (Ieee.double.order c r == some .lt || Ieee.double.order c r == some .eq) = _
 rcases Nat.lt_trichotomy 9218868437227405312 r with h | h | h
 · rw [order_nan_right (by unfold frung; omega)]
   simp; omega
 · subst h
   rw [inf_right (by unfold Fin64 frung; omega)]
   simp; omega
 · rw [order_rung (Nat.le_of_lt hc) h]
   rcases Nat.lt_trichotomy c r with e | e | e
   · rw [if_pos e]; simp; omega
   · subst e; simp; omega
   · rw [if_neg (by omega), if_neg (by omega)]; simp; omega
theorem eql_zero {r : Nat} (hr : r < 9223372036854775808) : (FloatKind.f64.format.order r 0 == some .eq) = decide (r = 0) := by
 show (Ieee.double.order r 0 == some .eq) = _
 rcases Nat.lt_or_ge 9218868437227405312 r with h | h
 · rw [order_nan_left (by unfold frung; omega)]
   simp; omega
 · rw [order_rung h (by omega)]
   by_cases e : r = 0
   · subst e; simp
   · rw [if_neg (by omega), if_neg e]; simp [e]
theorem tame_any (b : Nat) (w : World) (hb : b < 18446744073709551616) :
   Calls Try.prog 48 #[.float .f64 b] w fun e w' => e = .returned (.bool (decide (frung b ≤ 9110782046170513408))) ∧ w' = w := by
 have h1 := leq_word (r := frung b) (c := 9110782046170513408) (by unfold frung; omega) (by omega)
 have HA : Hid (Calls Try.prog 42 #[.float .f64 b] w fun e w' => e = .returned (.float .f64 (frung b)) ∧ w' = w) := abs_any b w hb
 generalize decide (frung b ≤ 9110782046170513408) = res at *
 generalize frung b = r at *
 go_enter Try.func48, Try.ntmps48
 go_wp2_with fail
 refine HA.out.mono ?_
 rintro e w' ⟨rfl, rfl⟩
 go_wp2
 go_ret
 exact ⟨rfl, rfl⟩
def SafeW (r : Nat) : Prop := r = 0 ∨ (2580562586483294208 ≤ r ∧ r ≤ 6633802251116740608)
instance (r : Nat) : Decidable (SafeW r) := by unfold SafeW; exact inferInstance
set_option maxHeartbeats 1000000 in
theorem safe_any (b : Nat) (w : World) (hb : b < 18446744073709551616) :
   Calls Try.prog 51 #[.float .f64 b] w fun e w' => e = .returned (.bool (decide (SafeW (frung b)))) ∧ w' = w := by
 have hr : frung b < 9223372036854775808 := by unfold frung; omega
 have h1 := eql_zero hr
 have h2 := const_leq (r := frung b) (c := 2580562586483294208) hr (by omega)
 have h3 := leq_word (r := frung b) (c := 6633802251116740608) hr (by omega)
 have key : Hid (decide (SafeW (frung b)) = (decide (frung b = 0) || decide (2580562586483294208 ≤ frung b ∧ frung b ≤ 9218868437227405312) && decide (frung b ≤ 6633802251116740608))) := by
   unfold Hid SafeW
   by_cases e1 : frung b = 0 <;> by_cases e2 : 2580562586483294208 ≤ frung b <;> by_cases e3 : frung b ≤ 6633802251116740608 <;> simp [e1, e2, e3] <;> omega
 have HA : Hid (Calls Try.prog 42 #[.float .f64 b] w fun e w' => e = .returned (.float .f64 (frung b)) ∧ w' = w) := abs_any b w hb
 clear hr hb
 generalize decide (SafeW (frung b)) = res at *
 generalize frung b = r at *
 generalize decide (r = 0) = t1 at *
 generalize decide (2580562586483294208 ≤ r ∧ r ≤ 9218868437227405312) = t2 at *
 generalize decide (r ≤ 6633802251116740608) = t3 at *
 have ek := key.out
 clear key
 cases t1 <;> cases t2 <;> cases t3 <;> (simp at ek; subst ek; go_enter Try.func51, Try.ntmps51; go_wp2_with fail; refine HA.out.mono ?_; rintro e w' ⟨rfl, rfl⟩; go_wp2; go_ret; exact ⟨rfl, rfl⟩)
end

/- Which floats are tame, which are safe: the document's. -/
section
open Go.RowKit
end
end Go.Proofs.Ytjcdbbdbmcbjpaa
