/- Own texts, put together: Ed Ee Ef. -/
import Derived.Test.YtocnkgfoffpbfaaGreatDoorQ7
import Derived.Below
/- Tame and safe, as the document has them. -/
namespace Go.Proofs.YtocnkgfoffpbfaaGreatDoor
open Go.RowKit

def fflip (b : Nat) : Nat := if b < 9223372036854775808 then b + 9223372036854775808 else b - 9223372036854775808

theorem negF_eq (b : Nat) (hb : b < 18446744073709551616) : Op.negFloat .f64 b = fflip b := by
 show b ^^^ 2 ^ 63 = fflip b
 unfold fflip
 split
 · rename_i h
   have := Nat.two_pow_add_eq_or_of_lt (i := 63) (b := b) (by simpa using h) 1
   rw [show b + 9223372036854775808 = 2 ^ 63 * 1 + b by omega, this]
   apply Nat.eq_of_testBit_eq
   intro i
   simp only [Nat.testBit_xor, Nat.testBit_or, Nat.testBit_two_pow, Nat.mul_one]
   by_cases e : 63 = i
   · subst e
     have : b.testBit 63 = false := Nat.testBit_lt_two_pow (by simpa using h)
     simp [this]
   · simp [e]
 · rename_i h
   obtain ⟨r, rfl⟩ : ∃ r, b = 9223372036854775808 + r := ⟨b - 9223372036854775808, by omega⟩
   have hr : r < 2 ^ 63 := by omega
   have := Nat.two_pow_add_eq_or_of_lt (i := 63) (b := r) hr 1
   rw [show 9223372036854775808 + r - 9223372036854775808 = r by omega, show 9223372036854775808 + r = 2 ^ 63 * 1 + r by omega, this]
   apply Nat.eq_of_testBit_eq
   intro i
   simp only [Nat.testBit_xor, Nat.testBit_or, Nat.testBit_two_pow, Nat.mul_one]
   by_cases e : 63 = i
   · subst e
     have : r.testBit 63 = false := Nat.testBit_lt_two_pow hr
     simp [this]
   · simp [e]

theorem run_negF (b : Nat) (hb : b < 18446744073709551616) (w : World) : (Op.unary .neg (.float .f64 b)).run Tryz.prog w = .ok (.float .f64 (fflip b)) w := by
 show Result.ok (Value.float .f64 (Op.negFloat .f64 b)) w = _
 rw [negF_eq b hb]

theorem fin_zero : Fin64 0 := by unfold Fin64 frung; decide
theorem fval_zero : fval 0 = 0 := fval_zero_iff.2 rfl

theorem eql_zero2 (b : Nat) : (FloatKind.f64.format.order b 0 == some .eq) = decide (frung b = 0) := by
 show (Ieee.double.order b 0 == some .eq) = _
 rcases Nat.lt_trichotomy (frung b) 9218868437227405312 with h | h | h
 · rw [order_fin h fin_zero, fval_zero]
   by_cases e : fval b = 0
   · rw [e, if_neg Rat.lt_irrefl, if_pos rfl]; simp [fval_zero_iff.1 e]
   · have : frung b ≠ 0 := fun e' => e (fval_zero_iff.2 e')
     by_cases e2 : fval b < 0
     · rw [if_pos e2]; simp [this]
     · rw [if_neg e2, if_neg e]; simp [this]
 · rw [order_inf_fin h fin_zero]
   cases fneg b <;> simp <;> omega
 · rw [order_nan_left h]; simp; omega

end Go.Proofs.YtocnkgfoffpbfaaGreatDoor

/- Tame and safe, as the document has them: the two questions. -/
namespace Go.Proofs.YtocnkgfoffpbfaaGreatDoor
open Go.RowKit



end Go.Proofs.YtocnkgfoffpbfaaGreatDoor

/- What is refused. -/
namespace Go.Proofs.YtocnkgfoffpbfaaGreatDoor
open Go.RowKit

set_option maxHeartbeats 1000000 in
theorem index_tame (n : Nat) (fs : Nat → Nat) (p : Nat → Bool) (g h : Nat) (w : World) (hn : n ≤ 1000) (hc : ∀ j, j < n → w.cell? ⟨g, j, none⟩ = some (.float .f64 (fs j)))
   (hf : w.cell? ⟨h, 0, none⟩ = some (.func (Fn.func 122) #[] #[]))
   (hp : ∀ j, j < n → ∀ w, Calls Tryz.prog 122 #[.float .f64 (fs j)] w fun e w' => e = .returned (.bool (p j)) ∧ w' = w) :
   Calls Tryz.prog 154 #[.slice (some ⟨g, 0, none⟩) n n, .func (Fn.func 141) #[] #[.pointer (some ⟨h, 0, none⟩)]] w fun e w' =>
     (∃ i : Int, e = .returned (.int .i64 i) ∧ ((i = -1 ∧ ∀ j, j < n → p j = true) ∨ (0 ≤ i ∧ ∃ j, j < n ∧ p j = false))) ∧ w' = w := by
 have HP : Hid (∀ j, j < n → ∀ w, Calls Tryz.prog 122 #[.float .f64 (fs j)] w fun e w' => e = .returned (.bool (p j)) ∧ w' = w) := hp
 have HC : Hid (∀ j, j < n → w.cell? ⟨g, j, none⟩ = some (.float .f64 (fs j))) := hc
 clear hp hc
 have hn' : (n : Int) ≤ 1000 := by omega
 go_enter Tryz.func154, Tryz.ntmps154
 go_wp2
 go_loop [8] (fun i => ∃ k : Nat, k ≤ n ∧ i = .int .i64 k ∧ Hid (∀ j, j < k → p j = true)) (fun i => n - (intOf i).toNat)
 case atStart => exact ⟨0, Nat.zero_le _, rfl, fun j hj => by omega⟩
 case round =>
   obtain ⟨k, hk, rfl, hz⟩ := hrel
   have hki : (k : Int) ≤ (n : Int) := by omega
   by_cases hlt : k < n
   · have hl : (k : Int) < (n : Int) := by omega
     have hl0 : (0 : Int) ≤ (k : Int) := by omega
     have hck : w.cell? ⟨g, k, none⟩ = some (.float .f64 (fs k)) := HC.out k hlt
     have HPk : Hid (∀ w, Calls Tryz.prog 122 #[.float .f64 (fs k)] w fun e w' => e = .returned (.bool (p k)) ∧ w' = w) := HP.out k hlt
     obtain ⟨x, hx⟩ : ∃ x, Hid (p k = x) := ⟨_, rfl⟩
     rw [hx.out] at HPk
     generalize fs k = f at *
     go_wp2_with (first | (go_at_call 141; go_in))
     refine (HPk.out _).mono ?_
     rintro e w1 ⟨rfl, rfl⟩
     cases x
     · go_wp2
       go_ret
       exact ⟨⟨_, rfl, Or.inr ⟨by omega, k, hlt, hx.out⟩⟩, rfl⟩
     · go_wp2
       go_round
       case rel =>
         refine ⟨k + 1, by omega, by go_num, ?_⟩
         intro j hj
         by_cases e : j = k
         · rw [e]; exact hx.out
         · exact hz.out j (by omega)
       case measure => simp [intOf]; omega
   · have e : k = n := by omega
     subst e
     go_wp2
     go_ret
     exact ⟨⟨_, rfl, Or.inl ⟨rfl, hz.out⟩⟩, rfl⟩

theorem refused_tame (n : Nat) (fs : Nat → Nat) (p : Nat → Bool) (g : Nat) (w : World) (hn : n ≤ 1000) (hc : ∀ j, j < n → w.cell? ⟨g, j, none⟩ = some (.float .f64 (fs j)))
   (hp : ∀ j, j < n → ∀ w, Calls Tryz.prog 122 #[.float .f64 (fs j)] w fun e w' => e = .returned (.bool (p j)) ∧ w' = w) :
   Calls Tryz.prog 121 #[.func (Fn.func 122) #[] #[], .slice (some ⟨g, 0, none⟩) n n] w fun e w' =>
     (∃ x : Bool, e = .returned (.bool x) ∧ ((x = false ∧ ∀ j, j < n → p j = true) ∨ (x = true ∧ ∃ j, j < n ∧ p j = false))) ∧ Below w.heap.size w w' := by
 have HI : Hid (∀ W, (∀ j, j < n → W.cell? ⟨g, j, none⟩ = some (.float .f64 (fs j))) → W.cell? ⟨w.heap.size, 0, none⟩ = some (.func (Fn.func 122) #[] #[]) → Calls Tryz.prog 154 #[.slice (some ⟨g, 0, none⟩) n n, .func (Fn.func 141) #[] #[.pointer (some ⟨w.heap.size, 0, none⟩)]] W fun e w' =>
     (∃ i : Int, e = .returned (.int .i64 i) ∧ ((i = -1 ∧ ∀ j, j < n → p j = true) ∨ (0 ≤ i ∧ ∃ j, j < n ∧ p j = false))) ∧ w' = W) := fun W h1 h2 => index_tame n fs p g _ W hn h1 h2 hp
 have HC : Hid (∀ j, j < n → (w.alloc (.cells #[.func (Fn.func 122) #[] #[]] 68)).cell? ⟨g, j, none⟩ = some (.float .f64 (fs j))) := fun j hj => by rw [World.cell?_alloc_lt _ _ _ (World.block_lt_of_cell? _ _ (hc j hj))]; exact hc j hj
 clear hc hp
 go_enter Tryz.func121, Tryz.ntmps121
 go_wp2_with (first | (go_at_call 140; go_in))
 refine (HI.out _ HC.out (by go_simp)).mono ?_
 rintro e w1 ⟨⟨i, rfl, hi⟩, rfl⟩
 rcases hi with ⟨rfl, ha⟩ | ⟨h0, ha⟩
 · have HA : Hid (∀ j, j < n → p j = true) := ha
   clear ha
   go_wp2
   go_ret
   exact ⟨⟨_, rfl, Or.inl ⟨rfl, HA.out⟩⟩, (Below.refl _ _).alloc (Nat.le_refl _) _⟩
 · have HA : Hid (∃ j, j < n ∧ p j = false) := ha
   clear ha
   go_wp2
   go_ret
   exact ⟨⟨_, rfl, Or.inr ⟨by simp, HA.out⟩⟩, (Below.refl _ _).alloc (Nat.le_refl _) _⟩

set_option maxHeartbeats 1000000 in
theorem index_safe (n : Nat) (fs : Nat → Nat) (p : Nat → Bool) (g h : Nat) (w : World) (hn : n ≤ 1000) (hc : ∀ j, j < n → w.cell? ⟨g, j, none⟩ = some (.float .f64 (fs j)))
   (hf : w.cell? ⟨h, 0, none⟩ = some (.func (Fn.func 157) #[] #[]))
   (hp : ∀ j, j < n → ∀ w, Calls Tryz.prog 157 #[.float .f64 (fs j)] w fun e w' => e = .returned (.bool (p j)) ∧ w' = w) :
   Calls Tryz.prog 154 #[.slice (some ⟨g, 0, none⟩) n n, .func (Fn.func 141) #[] #[.pointer (some ⟨h, 0, none⟩)]] w fun e w' =>
     (∃ i : Int, e = .returned (.int .i64 i) ∧ ((i = -1 ∧ ∀ j, j < n → p j = true) ∨ (0 ≤ i ∧ ∃ j, j < n ∧ p j = false))) ∧ w' = w := by
 have HP : Hid (∀ j, j < n → ∀ w, Calls Tryz.prog 157 #[.float .f64 (fs j)] w fun e w' => e = .returned (.bool (p j)) ∧ w' = w) := hp
 have HC : Hid (∀ j, j < n → w.cell? ⟨g, j, none⟩ = some (.float .f64 (fs j))) := hc
 clear hp hc
 have hn' : (n : Int) ≤ 1000 := by omega
 go_enter Tryz.func154, Tryz.ntmps154
 go_wp2
 go_loop [8] (fun i => ∃ k : Nat, k ≤ n ∧ i = .int .i64 k ∧ Hid (∀ j, j < k → p j = true)) (fun i => n - (intOf i).toNat)
 case atStart => exact ⟨0, Nat.zero_le _, rfl, fun j hj => by omega⟩
 case round =>
   obtain ⟨k, hk, rfl, hz⟩ := hrel
   have hki : (k : Int) ≤ (n : Int) := by omega
   by_cases hlt : k < n
   · have hl : (k : Int) < (n : Int) := by omega
     have hl0 : (0 : Int) ≤ (k : Int) := by omega
     have hck : w.cell? ⟨g, k, none⟩ = some (.float .f64 (fs k)) := HC.out k hlt
     have HPk : Hid (∀ w, Calls Tryz.prog 157 #[.float .f64 (fs k)] w fun e w' => e = .returned (.bool (p k)) ∧ w' = w) := HP.out k hlt
     obtain ⟨x, hx⟩ : ∃ x, Hid (p k = x) := ⟨_, rfl⟩
     rw [hx.out] at HPk
     generalize fs k = f at *
     go_wp2_with (first | (go_at_call 141; go_in))
     refine (HPk.out _).mono ?_
     rintro e w1 ⟨rfl, rfl⟩
     cases x
     · go_wp2
       go_ret
       exact ⟨⟨_, rfl, Or.inr ⟨by omega, k, hlt, hx.out⟩⟩, rfl⟩
     · go_wp2
       go_round
       case rel =>
         refine ⟨k + 1, by omega, by go_num, ?_⟩
         intro j hj
         by_cases e : j = k
         · rw [e]; exact hx.out
         · exact hz.out j (by omega)
       case measure => simp [intOf]; omega
   · have e : k = n := by omega
     subst e
     go_wp2
     go_ret
     exact ⟨⟨_, rfl, Or.inl ⟨rfl, hz.out⟩⟩, rfl⟩

theorem refused_safe (n : Nat) (fs : Nat → Nat) (p : Nat → Bool) (g : Nat) (w : World) (hn : n ≤ 1000) (hc : ∀ j, j < n → w.cell? ⟨g, j, none⟩ = some (.float .f64 (fs j)))
   (hp : ∀ j, j < n → ∀ w, Calls Tryz.prog 157 #[.float .f64 (fs j)] w fun e w' => e = .returned (.bool (p j)) ∧ w' = w) :
   Calls Tryz.prog 121 #[.func (Fn.func 157) #[] #[], .slice (some ⟨g, 0, none⟩) n n] w fun e w' =>
     (∃ x : Bool, e = .returned (.bool x) ∧ ((x = false ∧ ∀ j, j < n → p j = true) ∨ (x = true ∧ ∃ j, j < n ∧ p j = false))) ∧ Below w.heap.size w w' := by
 have HI : Hid (∀ W, (∀ j, j < n → W.cell? ⟨g, j, none⟩ = some (.float .f64 (fs j))) → W.cell? ⟨w.heap.size, 0, none⟩ = some (.func (Fn.func 157) #[] #[]) → Calls Tryz.prog 154 #[.slice (some ⟨g, 0, none⟩) n n, .func (Fn.func 141) #[] #[.pointer (some ⟨w.heap.size, 0, none⟩)]] W fun e w' =>
     (∃ i : Int, e = .returned (.int .i64 i) ∧ ((i = -1 ∧ ∀ j, j < n → p j = true) ∨ (0 ≤ i ∧ ∃ j, j < n ∧ p j = false))) ∧ w' = W) := fun W h1 h2 => index_safe n fs p g _ W hn h1 h2 hp
 have HC : Hid (∀ j, j < n → (w.alloc (.cells #[.func (Fn.func 157) #[] #[]] 68)).cell? ⟨g, j, none⟩ = some (.float .f64 (fs j))) := fun j hj => by rw [World.cell?_alloc_lt _ _ _ (World.block_lt_of_cell? _ _ (hc j hj))]; exact hc j hj
 clear hc hp
 go_enter Tryz.func121, Tryz.ntmps121
 go_wp2_with (first | (go_at_call 140; go_in))
 refine (HI.out _ HC.out (by go_simp)).mono ?_
 rintro e w1 ⟨⟨i, rfl, hi⟩, rfl⟩
 rcases hi with ⟨rfl, ha⟩ | ⟨h0, ha⟩
 · have HA : Hid (∀ j, j < n → p j = true) := ha
   clear ha
   go_wp2
   go_ret
   exact ⟨⟨_, rfl, Or.inl ⟨rfl, HA.out⟩⟩, (Below.refl _ _).alloc (Nat.le_refl _) _⟩
 · have HA : Hid (∃ j, j < n ∧ p j = false) := ha
   clear ha
   go_wp2
   go_ret
   exact ⟨⟨_, rfl, Or.inr ⟨by simp, HA.out⟩⟩, (Below.refl _ _).alloc (Nat.le_refl _) _⟩

end Go.Proofs.YtocnkgfoffpbfaaGreatDoor
