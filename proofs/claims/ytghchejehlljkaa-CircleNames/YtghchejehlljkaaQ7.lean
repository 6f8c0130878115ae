/- Own texts, put together: Ef Eg Et Eu Ev Ew Eh Ex. -/
import Derived.Test.YtghchejehlljkaaQ1
import Derived.Test.YtghchejehlljkaaQ6
import Derived.Below
/- What is refused. -/
namespace Go.Proofs.Ytghchejehlljkaa
open Go.RowKit

set_option maxHeartbeats 1000000 in
theorem index_tame (n : Nat) (fs : Nat → Nat) (p : Nat → Bool) (g h : Nat) (w : World) (hn : n ≤ 1000) (hc : ∀ j, j < n → w.cell? ⟨g, j, none⟩ = some (.float .f64 (fs j)))
    (hf : w.cell? ⟨h, 0, none⟩ = some (.func (Fn.func 82) #[] #[]))
    (hp : ∀ j, j < n → ∀ w, Calls Try.prog 82 #[.float .f64 (fs j)] w fun e w' => e = .returned (.bool (p j)) ∧ w' = w) :
    Calls Try.prog 105 #[.slice (some ⟨g, 0, none⟩) n n, .func (Fn.func 97) #[] #[.pointer (some ⟨h, 0, none⟩)]] w fun e w' =>
      (∃ i : Int, e = .returned (.int .i64 i) ∧ ((i = -1 ∧ ∀ j, j < n → p j = true) ∨ (0 ≤ i ∧ ∃ j, j < n ∧ p j = false))) ∧ w' = w := by
  have HP : Hid (∀ j, j < n → ∀ w, Calls Try.prog 82 #[.float .f64 (fs j)] w fun e w' => e = .returned (.bool (p j)) ∧ w' = w) := hp
  have HC : Hid (∀ j, j < n → w.cell? ⟨g, j, none⟩ = some (.float .f64 (fs j))) := hc
  clear hp hc
  have hn' : (n : Int) ≤ 1000 := by omega
  go_enter Try.func105, Try.ntmps105
  go_wp2
  go_loop [8] (fun i => ∃ k : Nat, k ≤ n ∧ i = .int .i64 k ∧ Hid (∀ j, j < k → p j = true)) (fun i => n - (intOf i).toNat)
  case atStart => exact ⟨0, Nat.zero_le _, rfl, fun j hj => by omega⟩
  case round =>
    obtain ⟨k, hk, rfl, hz⟩ := hrel
    have hki : (k : Int) ≤ (n : Int) := by omega
    by_cases hlt : k < n
    · have hl : (k : Int) < (n : Int) := by omega
      have hl0 : (0 : Int) ≤ (k : Int) := by omega
      have hck : w.cell? ⟨g, k, none⟩ = some (.float .f64 (fs k)) := HC.out k hlt
      have HPk : Hid (∀ w, Calls Try.prog 82 #[.float .f64 (fs k)] w fun e w' => e = .returned (.bool (p k)) ∧ w' = w) := HP.out k hlt
      obtain ⟨x, hx⟩ : ∃ x, Hid (p k = x) := ⟨_, rfl⟩
      rw [hx.out] at HPk
      generalize fs k = f at *
      go_wp2_with (first | (go_at_call 97; go_in))
      refine (HPk.out _).mono ?_
      rintro e w1 ⟨rfl, rfl⟩
      cases x
      · go_wp2
        go_ret
        exact ⟨⟨_, rfl, Or.inr ⟨by omega, k, hlt, hx.out⟩⟩, rfl⟩
      · go_wp2
        go_round
        case rel =>
          refine ⟨k + 1, by omega, by go_num, ?_⟩
          intro j hj
          by_cases e : j = k
          · rw [e]; exact hx.out
          · exact hz.out j (by omega)
        case measure => simp [intOf]; omega
    · have e : k = n := by omega
      subst e
      go_wp2
      go_ret
      exact ⟨⟨_, rfl, Or.inl ⟨rfl, hz.out⟩⟩, rfl⟩

/-- refused: some float is answered no. -/
theorem refused_tame (n : Nat) (fs : Nat → Nat) (p : Nat → Bool) (g : Nat) (w : World) (hn : n ≤ 1000) (hc : ∀ j, j < n → w.cell? ⟨g, j, none⟩ = some (.float .f64 (fs j)))
    (hp : ∀ j, j < n → ∀ w, Calls Try.prog 82 #[.float .f64 (fs j)] w fun e w' => e = .returned (.bool (p j)) ∧ w' = w) :
    Calls Try.prog 81 #[.func (Fn.func 82) #[] #[], .slice (some ⟨g, 0, none⟩) n n] w fun e w' =>
      (∃ x : Bool, e = .returned (.bool x) ∧ ((x = false ∧ ∀ j, j < n → p j = true) ∨ (x = true ∧ ∃ j, j < n ∧ p j = false))) ∧ Below w.heap.size w w' := by
  have HI : Hid (∀ W, (∀ j, j < n → W.cell? ⟨g, j, none⟩ = some (.float .f64 (fs j))) → W.cell? ⟨w.heap.size, 0, none⟩ = some (.func (Fn.func 82) #[] #[]) → Calls Try.prog 105 #[.slice (some ⟨g, 0, none⟩) n n, .func (Fn.func 97) #[] #[.pointer (some ⟨w.heap.size, 0, none⟩)]] W fun e w' =>
      (∃ i : Int, e = .returned (.int .i64 i) ∧ ((i = -1 ∧ ∀ j, j < n → p j = true) ∨ (0 ≤ i ∧ ∃ j, j < n ∧ p j = false))) ∧ w' = W) := fun W h1 h2 => index_tame n fs p g _ W hn h1 h2 hp
  have HC : Hid (∀ j, j < n → (w.alloc (.cells #[.func (Fn.func 82) #[] #[]] 45)).cell? ⟨g, j, none⟩ = some (.float .f64 (fs j))) := fun j hj => by rw [World.cell?_alloc_lt _ _ _ (World.block_lt_of_cell? _ _ (hc j hj))]; exact hc j hj
  clear hc hp
  go_enter Try.func81, Try.ntmps81
  go_wp2_with (first | (go_at_call 96; go_in))
  refine (HI.out _ HC.out (by go_simp)).mono ?_
  rintro e w1 ⟨⟨i, rfl, hi⟩, rfl⟩
  rcases hi with ⟨rfl, ha⟩ | ⟨h0, ha⟩
  · have HA : Hid (∀ j, j < n → p j = true) := ha
    clear ha
    go_wp2
    go_ret
    exact ⟨⟨_, rfl, Or.inl ⟨rfl, HA.out⟩⟩, (Below.refl _ _).alloc (Nat.le_refl _) _⟩
  · have HA : Hid (∃ j, j < n ∧ p j = false) := ha
    clear ha
    go_wp2
    go_ret
    exact ⟨⟨_, rfl, Or.inr ⟨by simp, HA.out⟩⟩, (Below.refl _ _).alloc (Nat.le_refl _) _⟩

set_option maxHeartbeats 1000000 in
theorem index_safe (n : Nat) (fs : Nat → Nat) (p : Nat → Bool) (g h : Nat) (w : World) (hn : n ≤ 1000) (hc : ∀ j, j < n → w.cell? ⟨g, j, none⟩ = some (.float .f64 (fs j)))
    (hf : w.cell? ⟨h, 0, none⟩ = some (.func (Fn.func 101) #[] #[]))
    (hp : ∀ j, j < n → ∀ w, Calls Try.prog 101 #[.float .f64 (fs j)] w fun e w' => e = .returned (.bool (p j)) ∧ w' = w) :
    Calls Try.prog 105 #[.slice (some ⟨g, 0, none⟩) n n, .func (Fn.func 97) #[] #[.pointer (some ⟨h, 0, none⟩)]] w fun e w' =>
      (∃ i : Int, e = .returned (.int .i64 i) ∧ ((i = -1 ∧ ∀ j, j < n → p j = true) ∨ (0 ≤ i ∧ ∃ j, j < n ∧ p j = false))) ∧ w' = w := by
  have HP : Hid (∀ j, j < n → ∀ w, Calls Try.prog 101 #[.float .f64 (fs j)] w fun e w' => e = .returned (.bool (p j)) ∧ w' = w) := hp
  have HC : Hid (∀ j, j < n → w.cell? ⟨g, j, none⟩ = some (.float .f64 (fs j))) := hc
  clear hp hc
  have hn' : (n : Int) ≤ 1000 := by omega
  go_enter Try.func105, Try.ntmps105
  go_wp2
  go_loop [8] (fun i => ∃ k : Nat, k ≤ n ∧ i = .int .i64 k ∧ Hid (∀ j, j < k → p j = true)) (fun i => n - (intOf i).toNat)
  case atStart => exact ⟨0, Nat.zero_le _, rfl, fun j hj => by omega⟩
  case round =>
    obtain ⟨k, hk, rfl, hz⟩ := hrel
    have hki : (k : Int) ≤ (n : Int) := by omega
    by_cases hlt : k < n
    · have hl : (k : Int) < (n : Int) := by omega
      have hl0 : (0 : Int) ≤ (k : Int) := by omega
      have hck : w.cell? ⟨g, k, none⟩ = some (.float .f64 (fs k)) := HC.out k hlt
      have HPk : Hid (∀ w, Calls Try.prog 101 #[.float .f64 (fs k)] w fun e w' => e = .returned (.bool (p k)) ∧ w' = w) := HP.out k hlt
      obtain ⟨x, hx⟩ : ∃ x, Hid (p k = x) := ⟨_, rfl⟩
      rw [hx.out] at HPk
      generalize fs k = f at *
      go_wp2_with (first | (go_at_call 97; go_in))
      refine (HPk.out _).mono ?_
      rintro e w1 ⟨rfl, rfl⟩
      cases x
      · go_wp2
        go_ret
        exact ⟨⟨_, rfl, Or.inr ⟨by omega, k, hlt, hx.out⟩⟩, rfl⟩
      · go_wp2
        go_round
        case rel =>
          refine ⟨k + 1, by omega, by go_num, ?_⟩
          intro j hj
          by_cases e : j = k
          · rw [e]; exact hx.out
          · exact hz.out j (by omega)
        case measure => simp [intOf]; omega
    · have e : k = n := by omega
      subst e
      go_wp2
      go_ret
      exact ⟨⟨_, rfl, Or.inl ⟨rfl, hz.out⟩⟩, rfl⟩

/-- refused: some float is answered no. -/
theorem refused_safe (n : Nat) (fs : Nat → Nat) (p : Nat → Bool) (g : Nat) (w : World) (hn : n ≤ 1000) (hc : ∀ j, j < n → w.cell? ⟨g, j, none⟩ = some (.float .f64 (fs j)))
    (hp : ∀ j, j < n → ∀ w, Calls Try.prog 101 #[.float .f64 (fs j)] w fun e w' => e = .returned (.bool (p j)) ∧ w' = w) :
    Calls Try.prog 81 #[.func (Fn.func 101) #[] #[], .slice (some ⟨g, 0, none⟩) n n] w fun e w' =>
      (∃ x : Bool, e = .returned (.bool x) ∧ ((x = false ∧ ∀ j, j < n → p j = true) ∨ (x = true ∧ ∃ j, j < n ∧ p j = false))) ∧ Below w.heap.size w w' := by
  have HI : Hid (∀ W, (∀ j, j < n → W.cell? ⟨g, j, none⟩ = some (.float .f64 (fs j))) → W.cell? ⟨w.heap.size, 0, none⟩ = some (.func (Fn.func 101) #[] #[]) → Calls Try.prog 105 #[.slice (some ⟨g, 0, none⟩) n n, .func (Fn.func 97) #[] #[.pointer (some ⟨w.heap.size, 0, none⟩)]] W fun e w' =>
      (∃ i : Int, e = .returned (.int .i64 i) ∧ ((i = -1 ∧ ∀ j, j < n → p j = true) ∨ (0 ≤ i ∧ ∃ j, j < n ∧ p j = false))) ∧ w' = W) := fun W h1 h2 => index_safe n fs p g _ W hn h1 h2 hp
  have HC : Hid (∀ j, j < n → (w.alloc (.cells #[.func (Fn.func 101) #[] #[]] 45)).cell? ⟨g, j, none⟩ = some (.float .f64 (fs j))) := fun j hj => by rw [World.cell?_alloc_lt _ _ _ (World.block_lt_of_cell? _ _ (hc j hj))]; exact hc j hj
  clear hc hp
  go_enter Try.func81, Try.ntmps81
  go_wp2_with (first | (go_at_call 96; go_in))
  refine (HI.out _ HC.out (by go_simp)).mono ?_
  rintro e w1 ⟨⟨i, rfl, hi⟩, rfl⟩
  rcases hi with ⟨rfl, ha⟩ | ⟨h0, ha⟩
  · have HA : Hid (∀ j, j < n → p j = true) := ha
    clear ha
    go_wp2
    go_ret
    exact ⟨⟨_, rfl, Or.inl ⟨rfl, HA.out⟩⟩, (Below.refl _ _).alloc (Nat.le_refl _) _⟩
  · have HA : Hid (∃ j, j < n ∧ p j = false) := ha
    clear ha
    go_wp2
    go_ret
    exact ⟨⟨_, rfl, Or.inr ⟨by simp, HA.out⟩⟩, (Below.refl _ _).alloc (Nat.le_refl _) _⟩

end Go.Proofs.Ytghchejehlljkaa

/- The steps of sums, halves and products: each is the float that the language has of it. -/
namespace Go.Proofs.Ytghchejehlljkaa
open Go.RowKit

/-- The steps of a sum. -/
structure TwoSum (a b x fb fa lb la y : Nat) : Prop where
  s0 : floatBits .add .f64 a b = some x
  s1 : floatBits .sub .f64 x a = some fb
  s2 : floatBits .sub .f64 x fb = some fa
  s3 : floatBits .sub .f64 b fb = some lb
  s4 : floatBits .sub .f64 a fa = some la
  s5 : floatBits .add .f64 la lb = some y
/-- The steps of a float's halves. -/
structure Halves (a c d x y : Nat) : Prop where
  s0 : floatBits .mul .f64 4728779608772575232 a = some c
  s1 : floatBits .sub .f64 c a = some d
  s2 : floatBits .sub .f64 c d = some x
  s3 : floatBits .sub .f64 a x = some y
/-- The steps of a product, behind the halves. -/
structure TwoProd (a b x a1 a2 b1 b2 p1 l1 p2 l2 p3 l3 p4 y : Nat) : Prop where
  s0 : floatBits .mul .f64 a b = some x
  s1 : floatBits .mul .f64 a1 b1 = some p1
  s2 : floatBits .sub .f64 x p1 = some l1
  s3 : floatBits .mul .f64 a2 b1 = some p2
  s4 : floatBits .sub .f64 l1 p2 = some l2
  s5 : floatBits .mul .f64 a1 b2 = some p3
  s6 : floatBits .sub .f64 l2 p3 = some l3
  s7 : floatBits .mul .f64 a2 b2 = some p4
  s8 : floatBits .sub .f64 p4 l3 = some y

theorem twoSum_any (a b x fb fa lb la y : Nat) (w : World) (h : TwoSum a b x fb fa lb la y) :
    Calls Try.prog 83 #[.float .f64 a, .float .f64 b] w fun e w' => e = .returned (.tuple #[.float .f64 x, .float .f64 y]) ∧ w' = w := by
  have r0 : ∀ w, (binOp .add 22 (.float .f64 a) (.float .f64 b)).run Try.prog w = .ok (.float .f64 x) w := fun w => run_float_arith w .add _ .f64 _ _ _ h.s0
  have r1 : ∀ w, (binOp .sub 22 (.float .f64 x) (.float .f64 a)).run Try.prog w = .ok (.float .f64 fb) w := fun w => run_float_arith w .sub _ .f64 _ _ _ h.s1
  have r2 : ∀ w, (binOp .sub 22 (.float .f64 x) (.float .f64 fb)).run Try.prog w = .ok (.float .f64 fa) w := fun w => run_float_arith w .sub _ .f64 _ _ _ h.s2
  have r3 : ∀ w, (binOp .sub 22 (.float .f64 b) (.float .f64 fb)).run Try.prog w = .ok (.float .f64 lb) w := fun w => run_float_arith w .sub _ .f64 _ _ _ h.s3
  have r4 : ∀ w, (binOp .sub 22 (.float .f64 a) (.float .f64 fa)).run Try.prog w = .ok (.float .f64 la) w := fun w => run_float_arith w .sub _ .f64 _ _ _ h.s4
  have r5 : ∀ w, (binOp .add 22 (.float .f64 la) (.float .f64 lb)).run Try.prog w = .ok (.float .f64 y) w := fun w => run_float_arith w .add _ .f64 _ _ _ h.s5
  clear h
  go_enter Try.func83, Try.ntmps83
  go_wp2
  go_ret2
  exact ⟨rfl, rfl⟩

theorem halves_any (a c d x y : Nat) (w : World) (h : Halves a c d x y) :
    Calls Try.prog 106 #[.float .f64 a] w fun e w' => e = .returned (.tuple #[.float .f64 x, .float .f64 y]) ∧ w' = w := by
  have r0 : ∀ w, (binOp .mul 22 (.float .f64 4728779608772575232) (.float .f64 a)).run Try.prog w = .ok (.float .f64 c) w := fun w => run_float_arith w .mul _ .f64 _ _ _ h.s0
  have r1 : ∀ w, (binOp .sub 22 (.float .f64 c) (.float .f64 a)).run Try.prog w = .ok (.float .f64 d) w := fun w => run_float_arith w .sub _ .f64 _ _ _ h.s1
  have r2 : ∀ w, (binOp .sub 22 (.float .f64 c) (.float .f64 d)).run Try.prog w = .ok (.float .f64 x) w := fun w => run_float_arith w .sub _ .f64 _ _ _ h.s2
  have r3 : ∀ w, (binOp .sub 22 (.float .f64 a) (.float .f64 x)).run Try.prog w = .ok (.float .f64 y) w := fun w => run_float_arith w .sub _ .f64 _ _ _ h.s3
  clear h
  go_enter Try.func106, Try.ntmps106
  go_wp2
  go_ret2
  exact ⟨rfl, rfl⟩

set_option maxHeartbeats 1000000 in
theorem twoProd_any (a b x a1 a2 b1 b2 p1 l1 p2 l2 p3 l3 p4 y c d c' d' : Nat) (w : World) (ha : Halves a c d a1 a2) (hb : Halves b c' d' b1 b2) (h : TwoProd a b x a1 a2 b1 b2 p1 l1 p2 l2 p3 l3 p4 y) :
    Calls Try.prog 102 #[.float .f64 a, .float .f64 b] w fun e w' => e = .returned (.tuple #[.float .f64 x, .float .f64 y]) ∧ w' = w := by
  have r0 : ∀ w, (binOp .mul 22 (.float .f64 a) (.float .f64 b)).run Try.prog w = .ok (.float .f64 x) w := fun w => run_float_arith w .mul _ .f64 _ _ _ h.s0
  have r1 : ∀ w, (binOp .mul 22 (.float .f64 a1) (.float .f64 b1)).run Try.prog w = .ok (.float .f64 p1) w := fun w => run_float_arith w .mul _ .f64 _ _ _ h.s1
  have r2 : ∀ w, (binOp .sub 22 (.float .f64 x) (.float .f64 p1)).run Try.prog w = .ok (.float .f64 l1) w := fun w => run_float_arith w .sub _ .f64 _ _ _ h.s2
  have r3 : ∀ w, (binOp .mul 22 (.float .f64 a2) (.float .f64 b1)).run Try.prog w = .ok (.float .f64 p2) w := fun w => run_float_arith w .mul _ .f64 _ _ _ h.s3
  have r4 : ∀ w, (binOp .sub 22 (.float .f64 l1) (.float .f64 p2)).run Try.prog w = .ok (.float .f64 l2) w := fun w => run_float_arith w .sub _ .f64 _ _ _ h.s4
  have r5 : ∀ w, (binOp .mul 22 (.float .f64 a1) (.float .f64 b2)).run Try.prog w = .ok (.float .f64 p3) w := fun w => run_float_arith w .mul _ .f64 _ _ _ h.s5
  have r6 : ∀ w, (binOp .sub 22 (.float .f64 l2) (.float .f64 p3)).run Try.prog w = .ok (.float .f64 l3) w := fun w => run_float_arith w .sub _ .f64 _ _ _ h.s6
  have r7 : ∀ w, (binOp .mul 22 (.float .f64 a2) (.float .f64 b2)).run Try.prog w = .ok (.float .f64 p4) w := fun w => run_float_arith w .mul _ .f64 _ _ _ h.s7
  have r8 : ∀ w, (binOp .sub 22 (.float .f64 p4) (.float .f64 l3)).run Try.prog w = .ok (.float .f64 y) w := fun w => run_float_arith w .sub _ .f64 _ _ _ h.s8
  clear h
  have HA : Hid (Halves a c d a1 a2) := ha
  have HB : Hid (Halves b c' d' b1 b2) := hb
  clear ha hb
  go_enter Try.func102, Try.ntmps102
  go_wp2_with fail
  refine (halves_any _ _ _ _ _ _ HA.out).mono ?_
  rintro e w1 ⟨rfl, rfl⟩
  go_wp2_with fail
  refine (halves_any _ _ _ _ _ _ HB.out).mono ?_
  rintro e w2 ⟨rfl, rfl⟩
  go_wp2
  go_ret2
  exact ⟨rfl, rfl⟩

set_option maxHeartbeats 1000000 in
theorem sum_yes (a b x fb fa lb la y : Nat) (w : World) (ha : a < 18446744073709551616) (hb : b < 18446744073709551616) (ta : frung a ≤ 9110782046170513408) (tb : frung b ≤ 9110782046170513408) (h : TwoSum a b x fb fa lb la y) :
    Calls Try.prog 90 #[.float .f64 a, .float .f64 b] w fun e w' => e = .returned (.tuple #[.float .f64 x, .float .f64 y]) ∧ Below w.heap.size w w' := by
  have HR : Hid (∀ W g, (∀ j, j < 2 → W.cell? ⟨g, j, none⟩ = some (.float .f64 (if j = 0 then a else b))) → Calls Try.prog 81 #[.func (Fn.func 82) #[] #[], .slice (some ⟨g, 0, none⟩) 2 2] W fun e w' => e = .returned (.bool false) ∧ Below W.heap.size W w') := fun W g hc =>
    (refused_tame 2 (fun j => if j = 0 then a else b) (fun _ => true) g W (by omega) hc (fun j hj w => by
      by_cases e : j = 0
      · simp only [e, if_true]
        have := tame_any a w ha
        rwa [decide_eq_true ta] at this
      · simp only [e, if_false]
        have := tame_any b w hb
        rwa [decide_eq_true tb] at this)).mono (by
      rintro e w' ⟨⟨x, rfl, hx⟩, hbel⟩
      rcases hx with ⟨rfl, _⟩ | ⟨_, j, _, hj⟩
      · exact ⟨rfl, hbel⟩
      · cases hj)
  have HI : Hid (TwoSum a b x fb fa lb la y) := h
  clear ha hb ta tb h
  go_enter Try.func90, Try.ntmps90
  go_wp2_with fail
  refine (HR.out _ _ (fun j hj => by rcases (by omega : j = 0 ∨ j = 1) with rfl | rfl <;> go_simp)).mono ?_
  rintro e w1 ⟨rfl, hb1⟩
  have HB : Hid (Below w.heap.size w w1) := ((Below.refl _ _).alloc (Nat.le_refl _) _).trans (hb1.mono (by simp))
  clear hb1
  go_wp2_with fail
  refine (twoSum_any _ _ _ _ _ _ _ _ _ HI.out).mono ?_
  rintro e w2 ⟨rfl, rfl⟩
  go_wp2
  go_ret2
  exact ⟨rfl, HB.out⟩

set_option maxHeartbeats 1000000 in
theorem sum_no (a b : Nat) (w : World) (ha : a < 18446744073709551616) (hb : b < 18446744073709551616) (hno : ¬ (frung a ≤ 9110782046170513408 ∧ frung b ≤ 9110782046170513408)) :
    Calls Try.prog 90 #[.float .f64 a, .float .f64 b] w fun e w' => e = .returned (.tuple #[.float .f64 0, .float .f64 0]) ∧ Below w.heap.size w w' := by
  have HR : Hid (∀ W g, (∀ j, j < 2 → W.cell? ⟨g, j, none⟩ = some (.float .f64 (if j = 0 then a else b))) → Calls Try.prog 81 #[.func (Fn.func 82) #[] #[], .slice (some ⟨g, 0, none⟩) 2 2] W fun e w' => e = .returned (.bool true) ∧ Below W.heap.size W w') := fun W g hc =>
    (refused_tame 2 (fun j => if j = 0 then a else b) (fun j => if j = 0 then decide (frung a ≤ 9110782046170513408) else decide (frung b ≤ 9110782046170513408)) g W (by omega) hc (fun j hj w => by
      by_cases e : j = 0
      · simp only [e, if_true]
        exact tame_any a w ha
      · simp only [e, if_false]
        exact tame_any b w hb)).mono (by
      rintro e w' ⟨⟨x, rfl, hx⟩, hbel⟩
      rcases hx with ⟨_, hall⟩ | ⟨rfl, _⟩
      · exact absurd ⟨of_decide_eq_true (hall 0 (by omega)), of_decide_eq_true (hall 1 (by omega))⟩ hno
      · exact ⟨rfl, hbel⟩)
  clear ha hb hno
  go_enter Try.func90, Try.ntmps90
  go_wp2_with fail
  refine (HR.out _ _ (fun j hj => by rcases (by omega : j = 0 ∨ j = 1) with rfl | rfl <;> go_simp)).mono ?_
  rintro e w1 ⟨rfl, hb1⟩
  have HB : Hid (Below w.heap.size w w1) := ((Below.refl _ _).alloc (Nat.le_refl _) _).trans (hb1.mono (by simp))
  clear hb1
  go_wp2
  go_ret2
  exact ⟨rfl, HB.out⟩

set_option maxHeartbeats 1000000 in
theorem diff_yes (a b x fb fa lb la y : Nat) (w : World) (ha : a < 18446744073709551616) (hb : b < 18446744073709551616) (ta : frung a ≤ 9110782046170513408) (tb : frung b ≤ 9110782046170513408) (h : TwoSum a (fflip b) x fb fa lb la y) :
    Calls Try.prog 58 #[.float .f64 a, .float .f64 b] w fun e w' => e = .returned (.tuple #[.float .f64 x, .float .f64 y]) ∧ Below w.heap.size w w' := by
  have HR : Hid (∀ W g, (∀ j, j < 2 → W.cell? ⟨g, j, none⟩ = some (.float .f64 (if j = 0 then a else b))) → Calls Try.prog 81 #[.func (Fn.func 82) #[] #[], .slice (some ⟨g, 0, none⟩) 2 2] W fun e w' => e = .returned (.bool false) ∧ Below W.heap.size W w') := fun W g hc =>
    (refused_tame 2 (fun j => if j = 0 then a else b) (fun _ => true) g W (by omega) hc (fun j hj w => by
      by_cases e : j = 0
      · simp only [e, if_true]
        have := tame_any a w ha
        rwa [decide_eq_true ta] at this
      · simp only [e, if_false]
        have := tame_any b w hb
        rwa [decide_eq_true tb] at this)).mono (by
      rintro e w' ⟨⟨x, rfl, hx⟩, hbel⟩
      rcases hx with ⟨rfl, _⟩ | ⟨_, j, _, hj⟩
      · exact ⟨rfl, hbel⟩
      · cases hj)
  have HI : Hid (TwoSum a (fflip b) x fb fa lb la y) := h
  have hneg := run_negF b hb
  clear ha hb ta tb h
  go_enter Try.func58, Try.ntmps58
  go_wp2_with fail
  refine (HR.out _ _ (fun j hj => by rcases (by omega : j = 0 ∨ j = 1) with rfl | rfl <;> go_simp)).mono ?_
  rintro e w1 ⟨rfl, hb1⟩
  have HB : Hid (Below w.heap.size w w1) := ((Below.refl _ _).alloc (Nat.le_refl _) _).trans (hb1.mono (by simp))
  clear hb1
  go_wp2_with fail
  refine (twoSum_any _ _ _ _ _ _ _ _ _ HI.out).mono ?_
  rintro e w2 ⟨rfl, rfl⟩
  go_wp2
  go_ret2
  exact ⟨rfl, HB.out⟩

set_option maxHeartbeats 1000000 in
theorem diff_no (a b : Nat) (w : World) (ha : a < 18446744073709551616) (hb : b < 18446744073709551616) (hno : ¬ (frung a ≤ 9110782046170513408 ∧ frung b ≤ 9110782046170513408)) :
    Calls Try.prog 58 #[.float .f64 a, .float .f64 b] w fun e w' => e = .returned (.tuple #[.float .f64 0, .float .f64 0]) ∧ Below w.heap.size w w' := by
  have HR : Hid (∀ W g, (∀ j, j < 2 → W.cell? ⟨g, j, none⟩ = some (.float .f64 (if j = 0 then a else b))) → Calls Try.prog 81 #[.func (Fn.func 82) #[] #[], .slice (some ⟨g, 0, none⟩) 2 2] W fun e w' => e = .returned (.bool true) ∧ Below W.heap.size W w') := fun W g hc =>
    (refused_tame 2 (fun j => if j = 0 then a else b) (fun j => if j = 0 then decide (frung a ≤ 9110782046170513408) else decide (frung b ≤ 9110782046170513408)) g W (by omega) hc (fun j hj w => by
      by_cases e : j = 0
      · simp only [e, if_true]
        exact tame_any a w ha
      · simp only [e, if_false]
        exact tame_any b w hb)).mono (by
      rintro e w' ⟨⟨x, rfl, hx⟩, hbel⟩
      rcases hx with ⟨_, hall⟩ | ⟨rfl, _⟩
      · exact absurd ⟨of_decide_eq_true (hall 0 (by omega)), of_decide_eq_true (hall 1 (by omega))⟩ hno
      · exact ⟨rfl, hbel⟩)
  clear ha hb hno
  go_enter Try.func58, Try.ntmps58
  go_wp2_with fail
  refine (HR.out _ _ (fun j hj => by rcases (by omega : j = 0 ∨ j = 1) with rfl | rfl <;> go_simp)).mono ?_
  rintro e w1 ⟨rfl, hb1⟩
  have HB : Hid (Below w.heap.size w w1) := ((Below.refl _ _).alloc (Nat.le_refl _) _).trans (hb1.mono (by simp))
  clear hb1
  go_wp2
  go_ret2
  exact ⟨rfl, HB.out⟩

set_option maxHeartbeats 1000000 in
theorem prod_yes (a b x a1 a2 b1 b2 p1 l1 p2 l2 p3 l3 p4 y c d c' d' : Nat) (w : World) (ha : a < 18446744073709551616) (hb : b < 18446744073709551616) (ta : SafeW (frung a)) (tb : SafeW (frung b)) (h1 : Halves a c d a1 a2) (h2 : Halves b c' d' b1 b2) (h : TwoProd a b x a1 a2 b1 b2 p1 l1 p2 l2 p3 l3 p4 y) :
    Calls Try.prog 94 #[.float .f64 a, .float .f64 b] w fun e w' => e = .returned (.tuple #[.float .f64 x, .float .f64 y]) ∧ Below w.heap.size w w' := by
  have HR : Hid (∀ W g, (∀ j, j < 2 → W.cell? ⟨g, j, none⟩ = some (.float .f64 (if j = 0 then a else b))) → Calls Try.prog 81 #[.func (Fn.func 101) #[] #[], .slice (some ⟨g, 0, none⟩) 2 2] W fun e w' => e = .returned (.bool false) ∧ Below W.heap.size W w') := fun W g hc =>
    (refused_safe 2 (fun j => if j = 0 then a else b) (fun _ => true) g W (by omega) hc (fun j hj w => by
      by_cases e : j = 0
      · simp only [e, if_true]
        have := safe_any a w ha
        rwa [decide_eq_true ta] at this
      · simp only [e, if_false]
        have := safe_any b w hb
        rwa [decide_eq_true tb] at this)).mono (by
      rintro e w' ⟨⟨x, rfl, hx⟩, hbel⟩
      rcases hx with ⟨rfl, _⟩ | ⟨_, j, _, hj⟩
      · exact ⟨rfl, hbel⟩
      · cases hj)
  have HI : Hid (Halves a c d a1 a2 ∧ Halves b c' d' b1 b2 ∧ TwoProd a b x a1 a2 b1 b2 p1 l1 p2 l2 p3 l3 p4 y) := ⟨h1, h2, h⟩
  clear ha hb ta tb h h1 h2
  go_enter Try.func94, Try.ntmps94
  go_wp2_with fail
  refine (HR.out _ _ (fun j hj => by rcases (by omega : j = 0 ∨ j = 1) with rfl | rfl <;> go_simp)).mono ?_
  rintro e w1 ⟨rfl, hb1⟩
  have HB : Hid (Below w.heap.size w w1) := ((Below.refl _ _).alloc (Nat.le_refl _) _).trans (hb1.mono (by simp))
  clear hb1
  go_wp2_with fail
  refine (twoProd_any _ _ _ _ _ _ _ _ _ _ _ _ _ _ _ _ _ _ _ _ HI.out.1 HI.out.2.1 HI.out.2.2).mono ?_
  rintro e w2 ⟨rfl, rfl⟩
  go_wp2
  go_ret2
  exact ⟨rfl, HB.out⟩

set_option maxHeartbeats 1000000 in
theorem prod_no (a b : Nat) (w : World) (ha : a < 18446744073709551616) (hb : b < 18446744073709551616) (hno : ¬ (SafeW (frung a) ∧ SafeW (frung b))) :
    Calls Try.prog 94 #[.float .f64 a, .float .f64 b] w fun e w' => e = .returned (.tuple #[.float .f64 0, .float .f64 0]) ∧ Below w.heap.size w w' := by
  have HR : Hid (∀ W g, (∀ j, j < 2 → W.cell? ⟨g, j, none⟩ = some (.float .f64 (if j = 0 then a else b))) → Calls Try.prog 81 #[.func (Fn.func 101) #[] #[], .slice (some ⟨g, 0, none⟩) 2 2] W fun e w' => e = .returned (.bool true) ∧ Below W.heap.size W w') := fun W g hc =>
    (refused_safe 2 (fun j => if j = 0 then a else b) (fun j => if j = 0 then decide (SafeW (frung a)) else decide (SafeW (frung b))) g W (by omega) hc (fun j hj w => by
      by_cases e : j = 0
      · simp only [e, if_true]
        exact safe_any a w ha
      · simp only [e, if_false]
        exact safe_any b w hb)).mono (by
      rintro e w' ⟨⟨x, rfl, hx⟩, hbel⟩
      rcases hx with ⟨_, hall⟩ | ⟨rfl, _⟩
      · exact absurd ⟨of_decide_eq_true (hall 0 (by omega)), of_decide_eq_true (hall 1 (by omega))⟩ hno
      · exact ⟨rfl, hbel⟩)
  clear ha hb hno
  go_enter Try.func94, Try.ntmps94
  go_wp2_with fail
  refine (HR.out _ _ (fun j hj => by rcases (by omega : j = 0 ∨ j = 1) with rfl | rfl <;> go_simp)).mono ?_
  rintro e w1 ⟨rfl, hb1⟩
  have HB : Hid (Below w.heap.size w w1) := ((Below.refl _ _).alloc (Nat.le_refl _) _).trans (hb1.mono (by simp))
  clear hb1
  go_wp2
  go_ret2
  exact ⟨rfl, HB.out⟩

end Go.Proofs.Ytghchejehlljkaa

/- Sums of tame words: what is rounded off is told exactly. -/
namespace Go.Proofs.Ytghchejehlljkaa

/-- A rounded number is at most twice as great. -/
theorem RN.twice {q x c : Rat} (h : RN q x) (h1 : q ≤ c) (h2 : -q ≤ c) : x ≤ 2 * c ∧ -x ≤ 2 * c := by
  obtain ⟨T, k, R⟩ := h
  have := R.best (y := 0) (c := c) F_zero (by grind) (by grind)
  constructor <;> grind

theorem fval_abs (b : Nat) : (fval b = fval (frung b) ∨ fval b = -fval (frung b)) := by
  have e1 : frung (frung b) = frung b := by unfold frung; omega
  have e2 : fneg (frung b) = false := by unfold fneg frung; simp
  rw [fval_eq b, fval_eq (frung b), e1, e2]
  generalize ((fmag (frung b) : Nat) : Rat) * p2 (fpl (frung b)) = z
  cases fneg b <;> simp [sgn1] <;> grind

theorem tame_top : fval 9110782046170513408 = p2 1000 := by
  rw [(fval_pos_lt (by omega)).1, show fmag 9110782046170513408 = 4503599627370496 by decide, show fpl 9110782046170513408 = 948 by decide]
  rw [show (1000 : Int) = 948 + ((52 : Nat) : Int) by omega, p2_add, p2_nat, Rat.mul_comm]

theorem tame_bound {a : Nat} (h : frung a ≤ 9110782046170513408) : fval a ≤ p2 1000 ∧ -fval a ≤ p2 1000 := by
  have h1 : fval (frung a) ≤ p2 1000 := by
    rw [← tame_top]
    rcases Nat.lt_or_ge (frung a) 9110782046170513408 with e | e
    · exact Rat.le_of_lt (fval_lt e (by omega))
    · rw [show frung a = 9110782046170513408 by omega]; exact Rat.le_refl
  have h2 := fval_nonneg (r := frung a) (by omega)
  rcases fval_abs a with e | e <;> rw [e] <;> constructor <;> grind

theorem lim_top : p2 1023 = 8388608 * p2 1000 := by
  rw [show (1023 : Int) = ((23 : Nat) : Int) + 1000 by omega, p2_add, p2_nat]; rfl

theorem twoSum_words {a b : Nat} (ha : frung a ≤ 9110782046170513408) (hb : frung b ≤ 9110782046170513408) :
    ∃ x fb fa lb la y, TwoSum a b x fb fa lb la y ∧ Fin64 x ∧ Fin64 y ∧ x < 18446744073709551616 ∧ y < 18446744073709551616 ∧ RV (fval a + fval b) (fval x) ∧ fval x + fval y = fval a + fval b := by
  have fa_ : Fin64 a := by unfold Fin64; omega
  have fb_ : Fin64 b := by unfold Fin64; omega
  have ba := tame_bound ha
  have bb := tame_bound hb
  have hc := p2_pos 1000
  have ht := lim_top
  generalize p2 1000 = c at *
  have lim : ∀ q : Rat, q ≤ 1000 * c → -q ≤ 1000 * c → Lim q := fun q h1 h2 => ⟨by rw [ht]; grind, by rw [ht]; grind⟩
  obtain ⟨x, s0, fx, lx, rx⟩ := add_bits fa_ fb_ (lim _ (by grind) (by grind))
  have bx := rx.rn.twice (c := 2 * c) (by grind) (by grind)
  obtain ⟨vb, s1, fvb, lvb, rvb⟩ := sub_bits fx fa_ (lim _ (by grind) (by grind))
  have bvb := rvb.rn.twice (c := 5 * c) (by grind) (by grind)
  obtain ⟨va, s2, fva, lva, rva⟩ := sub_bits fx fvb (lim _ (by grind) (by grind))
  have bva := rva.rn.twice (c := 14 * c) (by grind) (by grind)
  obtain ⟨lb, s3, flb, llb, rlb⟩ := sub_bits fb_ fvb (lim _ (by grind) (by grind))
  have blb := rlb.rn.twice (c := 11 * c) (by grind) (by grind)
  obtain ⟨la, s4, fla, lla, rla⟩ := sub_bits fa_ fva (lim _ (by grind) (by grind))
  have bla := rla.rn.twice (c := 29 * c) (by grind) (by grind)
  obtain ⟨y, s5, fy, ly, ry⟩ := add_bits fla flb (lim _ (by grind) (by grind))
  exact ⟨x, vb, va, lb, la, y, ⟨s0, s1, s2, s3, s4, s5⟩, fx, fy, lx, ly, rx, twoSum_exact (fc_word fa_) (fc_word fb_) (fc_word fx) rx.rn rvb.rn rva.rn rlb.rn rla.rn ry.rn⟩

end Go.Proofs.Ytghchejehlljkaa

/- A float's halves, and two floats multiplied (Veltkamp, Dekker), in plain numbers. -/
namespace Go.Proofs.Ytghchejehlljkaa

theorem U_up (S j : Nat) (n : Rat) (h : ((2 ^ j : Nat) : Rat) = n) : U (S + j) = n * U S := by rw [U_add, h]

/-- Halves of a float above 0. -/
theorem halves_pos {a c d x y : Rat} {S : Nat} {A : Int} (ca : FC a S A) (hA : 4503599627370496 ≤ A) (R1 : RN (134217729 * a) c) (R2 : RN (c - a) d) (R3 : RN (c - d) x) (R4 : RN (a - x) y) :
    ∃ X Y : Int, x = (X : Rat) * U (S + 27) ∧ -67108864 ≤ X ∧ X ≤ 67108864 ∧ y = (Y : Rat) * U S ∧ -67108864 ≤ Y ∧ Y ≤ 67108864 ∧ x + y = a := by
  have hu := U_pos S
  have u26 := U_up S 26 67108864 rfl
  have u27 := U_up S 27 134217728 rfl
  have u28 := U_up S 28 268435456 rfl
  have u29 := U_up S 29 536870912 rfl
  have hs := (ca.size).1
  have hl : 4503599627370496 * U S ≤ a := by
    have := Rat.mul_le_mul_of_nonneg_right (Rat.intCast_le_intCast.2 hA) (Rat.le_of_lt hu)
    rw [show ((4503599627370496 : Int) : Rat) = 4503599627370496 from rfl] at this
    rw [ca.hz]; exact this
  obtain ⟨T, k, R⟩ := R1
  have hT : S + 27 ≤ T := by
    rcases Nat.lt_or_ge T (S + 27) with h | h
    · have := U_mono (show T ≤ S + 26 by omega)
      have h4 := R.h4
      exfalso; grind
    · exact h
  have hT2 : T ≤ S + 28 := by
    rcases Nat.lt_or_ge (S + 28) T with h | h
    · have := U_mono (show S + 29 ≤ T by omega)
      exfalso
      rcases R.h3 with h3 | h3 | h3
      · omega
      · grind
      · grind
    · exact h
  have mc : M (U (S + 27)) c := M.down hT R.m
  have r1 := R.h1
  have r2 := R.h2
  -- what is rounded next lies between 2^79 and 2^80 units
  have low : 604462909807314587353088 * U S ≤ c - a := by
    rcases (by omega : T = S + 27 ∨ T = S + 28) with rfl | rfl
    · by_cases e : A = 4503599627370496
      · have ea : a = 4503599627370496 * U S := by rw [ca.hz, e]; rfl
        have : c = 134217729 * a := R.mult ⟨4503599660924928, by rw [ea, u27, show ((4503599660924928 : Int) : Rat) = 4503599660924928 from rfl]; grind⟩
        rw [this, ea]; grind
      · have := Rat.mul_le_mul_of_nonneg_right (Rat.intCast_le_intCast.2 (show (4503599627370497 : Int) ≤ A by omega)) (Rat.le_of_lt hu)
        rw [show ((4503599627370497 : Int) : Rat) = 4503599627370497 from rfl, ← ca.hz] at this
        grind
    · rcases R.h3 with h3 | h3 | h3
      · omega
      · grind
      · grind
  have high : c - a ≤ 1208925819614629174706176 * U S := by
    have : U T ≤ U (S + 28) := U_mono hT2
    grind
  obtain ⟨T2, k2, Q⟩ := R2
  have hT3 : S + 27 ≤ T2 := by
    rcases Nat.lt_or_ge T2 (S + 27) with h | h
    · have := U_mono (show T2 ≤ S + 26 by omega)
      have h4 := Q.h4
      exfalso; grind
    · exact h
  have md : M (U (S + 27)) d := M.down hT3 Q.m
  have err : d - (c - a) ≤ 67108864 * U S ∧ -(d - (c - a)) ≤ 67108864 * U S := by
    have q1 := Q.h1
    have q2 := Q.h2
    rcases Nat.lt_or_ge T2 (S + 28) with h | h
    · have e : T2 = S + 27 := by omega
      subst e
      constructor <;> grind
    · have hle := U_mono h
      have e : c - a = 4503599627370496 * U (S + 28) := by
        rcases Q.h3 with h3 | h3 | h3
        · omega
        · grind
        · grind
      have : T2 = S + 28 := by
        rcases Nat.lt_or_ge (S + 28) T2 with h' | h'
        · have := U_mono (show S + 29 ≤ T2 by omega)
          exfalso
          rcases Q.h3 with h3 | h3 | h3
          · omega
          · grind
          · grind
        · omega
      subst this
      have := Q.mult ⟨4503599627370496, by rw [e]; rfl⟩
      rw [this]; constructor <;> grind
  have m3 : M (U (S + 27)) (c - d) := mc.sub md
  obtain ⟨X, hX⟩ := m3
  have hu27 := U_pos (S + 27)
  have x1 : X ≤ 67108864 := by
    have : (X : Rat) * U (S + 27) < ((67108865 : Int) : Rat) * U (S + 27) := by
      rw [← hX, show ((67108865 : Int) : Rat) = 67108865 from rfl, u27]; grind
    have := cast_lt hu27 this
    omega
  have x2 : -67108864 ≤ X := by
    have : ((-67108865 : Int) : Rat) * U (S + 27) < (X : Rat) * U (S + 27) := by
      rw [← hX, show ((-67108865 : Int) : Rat) = -67108865 from rfl, u27]; grind
    have := cast_lt hu27 this
    omega
  have ex : x = c - d := R3.exact ⟨S + 27, X, hX, by omega, by omega⟩
  have m4 : M (U S) (a - x) := by rw [ex]; exact ca.mul.sub (M.down (by omega) (mc.sub md))
  obtain ⟨Y, hY⟩ := m4
  have ey0 : a - x = d - (c - a) := by rw [ex]; grind
  have y1 : Y ≤ 67108864 := by
    have : (Y : Rat) * U S < ((67108865 : Int) : Rat) * U S := by
      rw [← hY, ey0, show ((67108865 : Int) : Rat) = 67108865 from rfl]; grind
    have := cast_lt hu this
    omega
  have y2 : -67108864 ≤ Y := by
    have : ((-67108865 : Int) : Rat) * U S < (Y : Rat) * U S := by
      rw [← hY, ey0, show ((-67108865 : Int) : Rat) = -67108865 from rfl]; grind
    have := cast_lt hu this
    omega
  have ey : y = a - x := R4.exact ⟨S, Y, hY, by omega, by omega⟩
  exact ⟨X, Y, by rw [ex, hX], x2, x1, by rw [ey, hY], y2, y1, by rw [ey]; grind⟩

end Go.Proofs.Ytghchejehlljkaa

/- Two floats multiplied: what is rounded off is told exactly (Dekker), in plain numbers. -/
namespace Go.Proofs.Ytghchejehlljkaa

theorem RN.neg {q x : Rat} (h : RN q x) : RN (-q) (-x) := by obtain ⟨T, k, R⟩ := h; exact ⟨T, _, R.neg⟩

/-- A float and its halves. -/
structure NH (a a1 a2 : Rat) (S : Nat) (X Y : Int) : Prop where
  h1 : a1 = (X : Rat) * U (S + 27)
  x1 : -67108864 ≤ X
  x2 : X ≤ 67108864
  h2 : a2 = (Y : Rat) * U S
  y1 : -67108864 ≤ Y
  y2 : Y ≤ 67108864
  sum : a1 + a2 = a
  lo : 4503599627370496 * U S ≤ a ∨ 4503599627370496 * U S ≤ -a
  hi1 : a < 9007199254740992 * U S
  hi2 : -(9007199254740992 * U S) < a

theorem halves_nh {a c d x y : Rat} {S : Nat} {A : Int} (ca : FC a S A) (hA : 4503599627370496 ≤ A ∨ A ≤ -4503599627370496) (R1 : RN (134217729 * a) c) (R2 : RN (c - a) d) (R3 : RN (c - d) x) (R4 : RN (a - x) y) : ∃ X Y, NH a x y S X Y := by
  have hu := U_pos S
  have hs := ca.size
  have lo : 4503599627370496 * U S ≤ a ∨ 4503599627370496 * U S ≤ -a := by
    rcases hA with h | h
    · left
      have := Rat.mul_le_mul_of_nonneg_right (Rat.intCast_le_intCast.2 h) (Rat.le_of_lt hu)
      rw [show ((4503599627370496 : Int) : Rat) = 4503599627370496 from rfl] at this
      rw [ca.hz]; exact this
    · right
      have := Rat.mul_le_mul_of_nonneg_right (Rat.intCast_le_intCast.2 h) (Rat.le_of_lt hu)
      rw [show ((-4503599627370496 : Int) : Rat) = -4503599627370496 from rfl] at this
      rw [ca.hz]; grind
  rcases hA with hA | hA
  · obtain ⟨X, Y, e1, b1, b2, e2, b3, b4, e3⟩ := halves_pos ca hA R1 R2 R3 R4
    exact ⟨X, Y, e1, b1, b2, e2, b3, b4, e3, lo, by grind, by grind⟩
  · have n1 := R1.neg
    have n2 := R2.neg
    have n3 := R3.neg
    have n4 := R4.neg
    rw [show -(134217729 * a) = 134217729 * -a by grind] at n1
    rw [show -(c - a) = -c - -a by grind] at n2
    rw [show -(c - d) = -c - -d by grind] at n3
    rw [show -(a - x) = -a - -x by grind] at n4
    obtain ⟨X, Y, e1, b1, b2, e2, b3, b4, e3⟩ := halves_pos ca.neg (by omega) n1 n2 n3 n4
    exact ⟨-X, -Y, by rw [Rat.intCast_neg]; grind, by omega, by omega, by rw [Rat.intCast_neg]; grind, by omega, by omega, by grind, lo, by grind, by grind⟩

theorem mul_bound {X Y : Int} (a : -67108864 ≤ X) (b : X ≤ 67108864) (c : -67108864 ≤ Y) (d : Y ≤ 67108864) : -4503599627370496 ≤ X * Y ∧ X * Y ≤ 4503599627370496 := by
  have h : (X * Y).natAbs ≤ 67108864 * 67108864 := by rw [Int.natAbs_mul]; exact Nat.mul_le_mul (by omega) (by omega)
  omega

theorem prod_lo {a b c d : Rat} (hc : 0 < c) (hd : 0 < d) (h1 : c ≤ a ∨ c ≤ -a) (h2 : d ≤ b ∨ d ≤ -b) : c * d ≤ a * b ∨ c * d ≤ -(a * b) := by
  have key : ∀ {p q : Rat}, c ≤ p → d ≤ q → c * d ≤ p * q := fun {p q} h h' => by
    have e1 := Rat.mul_le_mul_of_nonneg_right h (Rat.le_of_lt hd)
    have e2 := Rat.mul_le_mul_of_nonneg_left h' (show 0 ≤ p by grind)
    exact Rat.le_trans e1 e2
  rcases h1 with h1 | h1 <;> rcases h2 with h2 | h2
  · exact Or.inl (key h1 h2)
  · right; have := key h1 h2; grind
  · right; have := key h1 h2; grind
  · left; have := key h1 h2; grind

theorem twoProd_core {a b x a1 a2 b1 b2 p1 l1 q2 l2 p3 l3 p4 y : Rat} {S1 S2 R : Nat} {X1 Y1 X2 Y2 : Int} (ha : NH a a1 a2 S1 X1 Y1) (hb : NH b b1 b2 S2 X2 Y2) (hR : U S1 * U S2 = U R)
    (Rx : RN (a * b) x) (R1 : RN (a1 * b1) p1) (R2 : RN (x - p1) l1) (R3 : RN (a2 * b1) q2) (R4 : RN (l1 - q2) l2) (R5 : RN (a1 * b2) p3) (R6 : RN (l2 - p3) l3) (R7 : RN (a2 * b2) p4) (R8 : RN (p4 - l3) y) : x + y = a * b := by
  have hu1 := U_pos S1
  have hu2 := U_pos S2
  have hV := U_pos R
  have v27 := U_up R 27 134217728 rfl
  have v51 := U_up R 51 2251799813685248 rfl
  have v52 := U_up R 52 4503599627370496 rfl
  have v53 := U_up R 53 9007199254740992 rfl
  have v54 := U_up R 54 18014398509481984 rfl
  have s27 := U_up S1 27 134217728 rfl
  have t27 := U_up S2 27 134217728 rfl
  have e1 : a1 * b1 = ((X1 * X2 : Int) : Rat) * U (R + 54) := by rw [ha.h1, hb.h1, s27, t27, v54, ← hR, Rat.intCast_mul]; grind
  have e2 : a2 * b1 = ((Y1 * X2 : Int) : Rat) * U (R + 27) := by rw [ha.h2, hb.h1, t27, v27, ← hR, Rat.intCast_mul]; grind
  have e3 : a1 * b2 = ((X1 * Y2 : Int) : Rat) * U (R + 27) := by rw [ha.h1, hb.h2, s27, v27, ← hR, Rat.intCast_mul]; grind
  have e4 : a2 * b2 = ((Y1 * Y2 : Int) : Rat) * U R := by rw [ha.h2, hb.h2, ← hR, Rat.intCast_mul]; grind
  have m1 := mul_bound ha.x1 ha.x2 hb.x1 hb.x2
  have m2 := mul_bound ha.y1 ha.y2 hb.x1 hb.x2
  have m3 := mul_bound ha.x1 ha.x2 hb.y1 hb.y2
  have m4 := mul_bound ha.y1 ha.y2 hb.y1 hb.y2
  have big : ∀ {z : Rat} {T : Nat} {n : Int}, z = (n : Rat) * U T → -4503599627370496 ≤ n ∧ n ≤ 4503599627370496 → z ≤ 4503599627370496 * U T ∧ -z ≤ 4503599627370496 * U T := by
    intro z T n hz hn
    have hu := U_pos T
    have f1 := Rat.mul_le_mul_of_nonneg_right (Rat.intCast_le_intCast.2 hn.2) (Rat.le_of_lt hu)
    have f2 := Rat.mul_le_mul_of_nonneg_right (Rat.intCast_le_intCast.2 hn.1) (Rat.le_of_lt hu)
    rw [show ((4503599627370496 : Int) : Rat) = 4503599627370496 from rfl] at f1
    rw [show ((-4503599627370496 : Int) : Rat) = -4503599627370496 from rfl] at f2
    rw [hz]; constructor <;> grind
  have z2 := big e2 m2
  have z3 := big e3 m3
  have z4 := big e4 m4
  have x1 := R1.exact ⟨_, _, e1, by omega, by omega⟩
  have x3 := R3.exact ⟨_, _, e2, by omega, by omega⟩
  have x5 := R5.exact ⟨_, _, e3, by omega, by omega⟩
  have x7 := R7.exact ⟨_, _, e4, by omega, by omega⟩
  have M1 : M (U (R + 54)) (a1 * b1) := ⟨_, e1⟩
  have M2 : M (U (R + 27)) (a2 * b1) := ⟨_, e2⟩
  have M3 : M (U (R + 27)) (a1 * b2) := ⟨_, e3⟩
  have M4 : M (U R) (a2 * b2) := ⟨_, e4⟩
  have eN : a * b = a1 * b1 + a2 * b1 + a1 * b2 + a2 * b2 := by rw [← ha.sum, ← hb.sum]; grind
  have lo := prod_lo (by grind) (by grind) ha.lo hb.lo
  have hi := abs_mul_lt ha.hi2 ha.hi1 hb.hi2 hb.hi1
  rw [show 4503599627370496 * U S1 * (4503599627370496 * U S2) = 20282409603651670423947251286016 * (U S1 * U S2) by grind, hR] at lo
  rw [show 9007199254740992 * U S1 * (9007199254740992 * U S2) = 81129638414606681695789005144064 * (U S1 * U S2) by grind, hR] at hi
  clear e1 e2 e3 e4 m1 m2 m3 m4 big R1 R3 R5 R7 hR s27 t27
  subst x1 x3 x5 x7
  generalize a * b = N at *
  generalize a1 * b1 = w1 at *
  generalize a2 * b1 = w2 at *
  generalize a1 * b2 = w3 at *
  generalize a2 * b2 = w4 at *
  obtain ⟨T, k, Q⟩ := Rx
  have q1 := Q.h1
  have q2 := Q.h2
  have hT : R + 52 ≤ T := by
    rcases Nat.lt_or_ge T (R + 52) with h | h
    · have := U_mono (show T ≤ R + 51 by omega)
      have h4 := Q.h4
      have h5 := Q.h5
      exfalso
      rcases lo with lo | lo <;> grind
    · exact h
  have hT2 : U T ≤ 9007199254740992 * U R := by
    rcases Nat.lt_or_ge T (R + 54) with h | h
    · have := U_mono (show T ≤ R + 53 by omega)
      grind
    · have := U_mono h
      exfalso
      rcases Q.h3 with h3 | h3 | h3
      · omega
      · grind
      · grind
  have mx : M (U (R + 52)) x := M.down hT Q.m
  have k1 := R2.exact (M.small 268435458 (by omega) (mx.sub (M.down (by omega) M1))
    (by rw [show ((268435458 + 1 : Int) : Rat) = 268435459 from rfl, v52]; grind) (by rw [show ((268435458 + 1 : Int) : Rat) = 268435459 from rfl, v52]; grind))
  have k2 := R4.exact (by
    rw [k1]
    exact M.small 4503599694479360 (by omega) (((M.down (by omega) mx).sub (M.down (by omega) M1)).sub M2)
      (by rw [show ((4503599694479360 + 1 : Int) : Rat) = 4503599694479361 from rfl, v27]; grind) (by rw [show ((4503599694479360 + 1 : Int) : Rat) = 4503599694479361 from rfl, v27]; grind))
  have k3 := R6.exact (by
    rw [k2, k1]
    exact M.small 67108864 (by omega) ((((M.down (by omega) mx).sub (M.down (by omega) M1)).sub M2).sub M3)
      (by rw [show ((67108864 + 1 : Int) : Rat) = 67108865 from rfl, v27]; grind) (by rw [show ((67108864 + 1 : Int) : Rat) = 67108865 from rfl, v27]; grind))
  have k4 := R8.exact (by
    rw [k3, k2, k1]
    exact M.small 4503599627370496 (by omega) (M4.sub ((((M.down (by omega) mx).sub (M.down (by omega) M1)).sub (M.down (by omega) M2)).sub (M.down (by omega) M3)))
      (by rw [show ((4503599627370496 + 1 : Int) : Rat) = 4503599627370497 from rfl]; grind) (by rw [show ((4503599627370496 + 1 : Int) : Rat) = 4503599627370497 from rfl]; grind))
  rw [k4, k3, k2, k1, eN]; grind

end Go.Proofs.Ytghchejehlljkaa

/- Products of safe words: what is rounded off is told exactly. -/
namespace Go.Proofs.Ytghchejehlljkaa

theorem fc_norm {b : Nat} (hn : 9007199254740992 ≤ frung b) : ∃ m, FC (fval b) (frung b / 4503599627370496 - 1) m ∧ (4503599627370496 ≤ m ∨ m ≤ -4503599627370496) := by
  have hm := fmag_lt (frung b)
  have hm2 : 4503599627370496 ≤ fmag (frung b) := by unfold fmag; rw [if_neg (by omega)]; omega
  have c : FC ((fmag (frung b) : Nat) * p2 (fpl (frung b))) (frung b / 4503599627370496 - 1) (fmag (frung b) : Int) := by
    refine ⟨?_, by omega, by omega, Or.inr (Or.inl (by omega))⟩
    unfold U fpl
    rw [if_neg (by omega), show ((frung b / 4503599627370496 - 1 : Nat) : Int) - 1074 = -1074 + ((frung b / 4503599627370496 - 1 : Nat) : Int) by omega]; rfl
  rw [fval_eq]
  unfold sgn1
  cases fneg b
  · refine ⟨_, ?_, Or.inl (by omega : (4503599627370496 : Int) ≤ (fmag (frung b) : Int))⟩
    rw [if_neg (by decide), Rat.one_mul]; exact c
  · refine ⟨-(fmag (frung b) : Int), ?_, Or.inr (by omega)⟩
    rw [if_pos rfl]
    have := c.neg
    rwa [show -((fmag (frung b) : Nat) * p2 (fpl (frung b)) : Rat) = -1 * ((fmag (frung b) : Nat) * p2 (fpl (frung b))) by grind] at this

theorem safe_top : fval 6633802251116740608 = p2 450 := by
  rw [(fval_pos_lt (by omega)).1, show fmag 6633802251116740608 = 4503599627370496 by decide, show fpl 6633802251116740608 = 398 by decide]
  rw [show (450 : Int) = 398 + ((52 : Nat) : Int) by omega, p2_add, p2_nat, Rat.mul_comm]

theorem safe_bound {a : Nat} (h : SafeW (frung a)) : fval a ≤ p2 450 ∧ -fval a ≤ p2 450 := by
  have hr : frung a ≤ 6633802251116740608 := by unfold SafeW at h; omega
  have h1 : fval (frung a) ≤ p2 450 := by
    rw [← safe_top]
    rcases Nat.lt_or_ge (frung a) 6633802251116740608 with e | e
    · exact Rat.le_of_lt (fval_lt e (by omega))
    · rw [show frung a = 6633802251116740608 by omega]; exact Rat.le_refl
  have h2 := fval_nonneg (r := frung a) (by omega)
  rcases fval_abs a with e | e <;> rw [e] <;> constructor <;> grind

theorem split_const : fval 4728779608772575232 = 134217729 := by
  rw [(fval_pos_lt (by omega)).1, show fmag 4728779608772575232 = 4503599660924928 by decide, show fpl 4728779608772575232 = -((25 : Nat) : Int) by decide]
  have h := p2_neg ((25 : Nat) : Int)
  rw [p2_nat, show ((2 ^ 25 : Nat) : Rat) = 33554432 from rfl] at h
  rw [show ((4503599660924928 : Nat) : Rat) = 4503599660924928 from rfl]
  generalize p2 (-((25 : Nat) : Int)) = v at *
  grind

theorem halves_words {a : Nat} (h : SafeW (frung a)) :
    ∃ c d x y, Halves a c d x y ∧ Fin64 x ∧ Fin64 y ∧ x < 18446744073709551616 ∧ y < 18446744073709551616 ∧ (fval x < 4294967296 * p2 450 ∧ -(4294967296 * p2 450) < fval x) ∧ (fval y < 4294967296 * p2 450 ∧ -(4294967296 * p2 450) < fval y) ∧
      ((fval a = 0 ∧ fval x = 0 ∧ fval y = 0) ∨ (573 ≤ frung a / 4503599627370496 ∧ ∃ X Y, NH (fval a) (fval x) (fval y) (frung a / 4503599627370496 - 1) X Y)) := by
  have fa_ : Fin64 a := by unfold Fin64; unfold SafeW at h; omega
  have fk : Fin64 4728779608772575232 := by unfold Fin64 frung; decide
  have ba := safe_bound h
  have he := p2_pos 450
  have ht : 1099511627776 * p2 450 ≤ p2 1023 := by
    have : p2 490 = 1099511627776 * p2 450 := by rw [show (490 : Int) = ((40 : Nat) : Int) + 450 by omega, p2_add, p2_nat]; rfl
    rw [← this]; exact p2_mono (by omega)
  have hk := split_const
  have lim : ∀ q : Rat, q ≤ 549755813888 * p2 450 → -q ≤ 549755813888 * p2 450 → Lim q := fun q h1 h2 => ⟨by grind, by grind⟩
  generalize p2 450 = c0 at *
  obtain ⟨c, s0, fc, lc, rc⟩ := mul_bits fk fa_ (by rw [hk]; exact lim _ (by grind) (by grind))
  rw [hk] at rc
  have bc := rc.rn.twice (c := 134217729 * c0) (by grind) (by grind)
  obtain ⟨d, s1, fd, ld, rd⟩ := sub_bits fc fa_ (lim _ (by grind) (by grind))
  have bd := rd.rn.twice (c := 268435459 * c0) (by grind) (by grind)
  obtain ⟨x, s2, fx, lx, rx⟩ := sub_bits fc fd (lim _ (by grind) (by grind))
  have bx := rx.rn.twice (c := 805306376 * c0) (by grind) (by grind)
  obtain ⟨y, s3, fy, ly, ry⟩ := sub_bits fa_ fx (lim _ (by grind) (by grind))
  have bY := ry.rn.twice (c := 1610612753 * c0) (by grind) (by grind)
  refine ⟨c, d, x, y, ⟨s0, s1, s2, s3⟩, fx, fy, lx, ly, ⟨by grind, by grind⟩, ⟨by grind, by grind⟩, ?_⟩
  rcases h with h | h
  · left
    have a0 : fval a = 0 := fval_zero_iff.2 h
    have e1 := rc.rn.exact (by rw [a0, show (134217729 : Rat) * 0 = 0 by grind]; exact F_zero)
    rw [a0, show (134217729 : Rat) * 0 = 0 by grind] at e1
    have e2 := rd.rn.exact (by rw [a0, e1, show (0 : Rat) - 0 = 0 by grind]; exact F_zero)
    rw [a0, e1, show (0 : Rat) - 0 = 0 by grind] at e2
    have e3 := rx.rn.exact (by rw [e2, e1, show (0 : Rat) - 0 = 0 by grind]; exact F_zero)
    rw [e2, e1, show (0 : Rat) - 0 = 0 by grind] at e3
    have e4 := ry.rn.exact (by rw [a0, e3, show (0 : Rat) - 0 = 0 by grind]; exact F_zero)
    rw [a0, e3, show (0 : Rat) - 0 = 0 by grind] at e4
    exact ⟨a0, e3, e4⟩
  · right
    refine ⟨by omega, ?_⟩
    obtain ⟨m, hc, hm⟩ := fc_norm (b := a) (by omega)
    exact halves_nh hc hm rc.rn rd.rn rx.rn ry.rn

theorem U_mul (S1 S2 R : Nat) (h : S1 + S2 = R + 1074) : U S1 * U S2 = U R := by
  unfold U
  rw [← p2_add]; congr 1; omega

set_option maxHeartbeats 1000000 in
theorem prod_words {a b : Nat} (ha : SafeW (frung a)) (hb : SafeW (frung b)) :
    ∃ x a1 a2 b1 b2 p1 l1 q2 l2 p3 l3 p4 y c d c' d', Halves a c d a1 a2 ∧ Halves b c' d' b1 b2 ∧ TwoProd a b x a1 a2 b1 b2 p1 l1 q2 l2 p3 l3 p4 y ∧ Fin64 x ∧ Fin64 y ∧ x < 18446744073709551616 ∧ y < 18446744073709551616 ∧ RV (fval a * fval b) (fval x) ∧ fval x + fval y = fval a * fval b := by
  have fa_ : Fin64 a := by unfold Fin64; unfold SafeW at ha; omega
  have fb_ : Fin64 b := by unfold Fin64; unfold SafeW at hb; omega
  have ba := safe_bound ha
  have bb := safe_bound hb
  obtain ⟨c, d, a1, a2, H1, f1, f2, _, _, u1, u2, n1⟩ := halves_words ha
  obtain ⟨c', d', b1, b2, H2, g1, g2, _, _, v1, v2, n2⟩ := halves_words hb
  have he := p2_pos 450
  have ht : 1208925819614629174706176 * (p2 450 * p2 450) ≤ p2 1023 := by
    rw [← p2_add]
    have : p2 980 = 1208925819614629174706176 * p2 (450 + 450) := by rw [show (980 : Int) = ((80 : Nat) : Int) + (450 + 450) by omega, p2_add, p2_nat]; rfl
    rw [← this]; exact p2_mono (by omega)
  have hg : 0 < p2 450 * p2 450 := Rat.mul_pos he he
  have bnd : ∀ {s t : Rat}, s < 4294967296 * p2 450 → -(4294967296 * p2 450) < s → t < 4294967296 * p2 450 → -(4294967296 * p2 450) < t → s * t ≤ 18446744073709551616 * (p2 450 * p2 450) ∧ -(s * t) ≤ 18446744073709551616 * (p2 450 * p2 450) := by
    intro s t h1 h2 h3 h4
    have := abs_mul_lt h2 h1 h4 h3
    rw [show 4294967296 * p2 450 * (4294967296 * p2 450) = 18446744073709551616 * (p2 450 * p2 450) by grind] at this
    constructor <;> grind
  have w0 := bnd (s := fval a) (t := fval b) (by grind) (by grind) (by grind) (by grind)
  have w1 := bnd u1.1 u1.2 v1.1 v1.2
  have w2 := bnd u2.1 u2.2 v1.1 v1.2
  have w3 := bnd u1.1 u1.2 v2.1 v2.2
  have w4 := bnd u2.1 u2.2 v2.1 v2.2
  have lim : ∀ q : Rat, q ≤ 604462909807314587353088 * (p2 450 * p2 450) → -q ≤ 604462909807314587353088 * (p2 450 * p2 450) → Lim q := fun q h1 h2 => ⟨by grind, by grind⟩
  clear bnd ba bb u1 u2 v1 v2 ht he
  generalize p2 450 * p2 450 = g at *
  obtain ⟨x, s0, fx, lx, rx⟩ := mul_bits fa_ fb_ (lim _ (by grind) (by grind))
  have bx := rx.rn.twice (c := 18446744073709551616 * g) (by grind) (by grind)
  obtain ⟨p1, s1, fp1, _, r1⟩ := mul_bits f1 g1 (lim _ (by grind) (by grind))
  have k1 := r1.rn.twice (c := 18446744073709551616 * g) (by grind) (by grind)
  obtain ⟨l1, s2, fl1, _, r2⟩ := sub_bits fx fp1 (lim _ (by grind) (by grind))
  have k2 := r2.rn.twice (c := 73786976294838206464 * g) (by grind) (by grind)
  obtain ⟨q2, s3, fq2, _, r3⟩ := mul_bits f2 g1 (lim _ (by grind) (by grind))
  have k3 := r3.rn.twice (c := 18446744073709551616 * g) (by grind) (by grind)
  obtain ⟨l2, s4, fl2, _, r4⟩ := sub_bits fl1 fq2 (lim _ (by grind) (by grind))
  have k4 := r4.rn.twice (c := 295147905179352825856 * g) (by grind) (by grind)
  obtain ⟨p3, s5, fp3, _, r5⟩ := mul_bits f1 g2 (lim _ (by grind) (by grind))
  have k5 := r5.rn.twice (c := 18446744073709551616 * g) (by grind) (by grind)
  obtain ⟨l3, s6, fl3, _, r6⟩ := sub_bits fl2 fp3 (lim _ (by grind) (by grind))
  have k6 := r6.rn.twice (c := 1180591620717411303424 * g) (by grind) (by grind)
  obtain ⟨p4, s7, fp4, _, r7⟩ := mul_bits f2 g2 (lim _ (by grind) (by grind))
  have k7 := r7.rn.twice (c := 18446744073709551616 * g) (by grind) (by grind)
  obtain ⟨y, s8, fy, ly, r8⟩ := sub_bits fp4 fl3 (lim _ (by grind) (by grind))
  refine ⟨x, a1, a2, b1, b2, p1, l1, q2, l2, p3, l3, p4, y, c, d, c', d', H1, H2, ⟨s0, s1, s2, s3, s4, s5, s6, s7, s8⟩, fx, fy, lx, ly, rx, ?_⟩
  have zero : fval a * fval b = 0 → fval a1 * fval b1 = 0 → fval a2 * fval b1 = 0 → fval a1 * fval b2 = 0 → fval a2 * fval b2 = 0 → fval x + fval y = fval a * fval b := by
    intro z0 z1 z2 z3 z4
    rw [z0] at rx
    rw [z1] at r1
    rw [z2] at r3
    rw [z3] at r5
    rw [z4] at r7
    have o : (0 : Rat) - 0 = 0 := by grind
    have ex := rx.rn.exact F_zero
    have e1 := r1.rn.exact F_zero
    rw [ex, e1, o] at r2
    have e2 := r2.rn.exact F_zero
    have e3 := r3.rn.exact F_zero
    rw [e2, e3, o] at r4
    have e4 := r4.rn.exact F_zero
    have e5 := r5.rn.exact F_zero
    rw [e4, e5, o] at r6
    have e6 := r6.rn.exact F_zero
    have e7 := r7.rn.exact F_zero
    rw [e7, e6, o] at r8
    have e8 := r8.rn.exact F_zero
    rw [ex, e8, z0]; grind
  rcases n1 with ⟨z, z1, z2⟩ | ⟨i1, X1, Y1, N1⟩
  · exact zero (by rw [z]; grind) (by rw [z1]; grind) (by rw [z2]; grind) (by rw [z1]; grind) (by rw [z2]; grind)
  · rcases n2 with ⟨z, z1, z2⟩ | ⟨i2, X2, Y2, N2⟩
    · exact zero (by rw [z]; grind) (by rw [z1]; grind) (by rw [z1]; grind) (by rw [z2]; grind) (by rw [z2]; grind)
    · exact twoProd_core N1 N2 (U_mul _ _ (frung a / 4503599627370496 - 1 + (frung b / 4503599627370496 - 1) - 1074) (by omega)) rx.rn r1.rn r2.rn r3.rn r4.rn r5.rn r6.rn r7.rn r8.rn

end Go.Proofs.Ytghchejehlljkaa

/- awake: the examples. -/
namespace Go.Proofs.Ytghchejehlljkaa
open Go.RowKit

theorem ex1 : TwoSum 4845873199050653696 4607182418800017408 4845873199050653696 0 4845873199050653696 4607182418800017408 0 4607182418800017408 := ⟨by decide +kernel, by decide +kernel, by decide +kernel, by decide +kernel, by decide +kernel, by decide +kernel⟩
theorem ex2 : TwoSum 4845873199050653697 4607182418800017408 4845873199050653698 4611686018427387904 4845873199050653697 13830554455654793216 0 13830554455654793216 := ⟨by decide +kernel, by decide +kernel, by decide +kernel, by decide +kernel, by decide +kernel, by decide +kernel⟩
theorem ex3 : TwoSum 4607182418800017408 13826050856027422720 4602678819172646912 13826050856027422720 4607182418800017408 0 0 0 := ⟨by decide +kernel, by decide +kernel, by decide +kernel, by decide +kernel, by decide +kernel, by decide +kernel⟩
theorem ex4 : Halves 4728779608772575232 4850376798745133056 4850376798711578624 4728779608739020800 4607182418800017408 := ⟨by decide +kernel, by decide +kernel, by decide +kernel, by decide +kernel⟩
theorem ex5 : TwoProd 4728779608772575232 4728779608772575232 4850376798745133056 4728779608739020800 4607182418800017408 4728779608739020800 4607182418800017408 4850376798678024192 4733283208366391296 4728779608739020800 4728779608739020800 4728779608739020800 0 4607182418800017408 4607182418800017408 := ⟨by decide +kernel, by decide +kernel, by decide +kernel, by decide +kernel, by decide +kernel, by decide +kernel, by decide +kernel, by decide +kernel, by decide +kernel⟩
theorem ex3' : TwoSum 4607182418800017408 (fflip 4602678819172646912) 4602678819172646912 13826050856027422720 4607182418800017408 0 0 0 := ex3

end Go.Proofs.Ytghchejehlljkaa

/- What Sum, Diff and Prod answer, and what follows of it. -/
namespace Go.Proofs.Ytghchejehlljkaa
open Go.RowKit

/-- A number's float and what was rounded off, if that is promised; else 0, 0. -/
def Pair (dom : Prop) (q : Rat) (x y : Nat) : Prop :=
  Fin64 x ∧ Fin64 y ∧ x < 18446744073709551616 ∧ y < 18446744073709551616 ∧ ((dom ∧ RV q (fval x) ∧ fval x + fval y = q) ∨ (¬ dom ∧ x = 0 ∧ y = 0))

theorem pair_zero {dom : Prop} {q : Rat} (h : ¬ dom) : Pair dom q 0 0 := ⟨fin_zero, fin_zero, by omega, by omega, Or.inr ⟨h, rfl, rfl⟩⟩

theorem flip_lt {a : Nat} (h : a < 18446744073709551616) : fflip a < 18446744073709551616 := by unfold fflip; split <;> omega
theorem frung_flip {a : Nat} (h : a < 18446744073709551616) : frung (fflip a) = frung a := by unfold fflip frung; split <;> omega
theorem fval_flip {a : Nat} (h : a < 18446744073709551616) (hf : Fin64 a) : fval (fflip a) = -fval a := by
  unfold Fin64 frung at hf
  unfold fflip
  split
  · rename_i hs
    rw [Nat.add_comm]; exact fval_word (by omega)
  · rename_i hs
    obtain ⟨r, rfl⟩ : ∃ r, a = 9223372036854775808 + r := ⟨a - 9223372036854775808, by omega⟩
    rw [fval_word (by omega), show 9223372036854775808 + r - 9223372036854775808 = r by omega]; grind

theorem order_same {x v : Nat} (hx : Fin64 x) (hv : Fin64 v) (h : fval x = fval v) : (FloatKind.f64.format.order x v == some .eq) = true := by
  show (Ieee.double.order x v == some .eq) = true
  rw [order_fin hx hv, h, if_neg Rat.lt_irrefl, if_pos rfl]; rfl

theorem pair_rest {dom : Prop} {q : Rat} {x y : Nat} (h : Pair dom q x y) (hL : dom → Lim q) : ∃ s, floatBits .add .f64 x y = some s ∧ (FloatKind.f64.format.order s x == some .eq) = true := by
  obtain ⟨fx, fy, _, _, h⟩ := h
  rcases h with ⟨hd, hv, he⟩ | ⟨_, rfl, rfl⟩
  · obtain ⟨s, hs, fs, _, hr⟩ := add_bits fx fy (by rw [he]; exact hL hd)
    rw [he] at hr
    exact ⟨s, hs, order_same fs fx (hr.fn hv)⟩
  · exact ⟨0, by decide +kernel, by decide +kernel⟩

theorem pair_eq {dom dom' : Prop} {q q' : Rat} {x y v w : Nat} (h : Pair dom q x y) (h' : Pair dom' q' v w) (hd : dom ↔ dom') (hq : dom → q = q') :
    (FloatKind.f64.format.order x v == some .eq) = true ∧ (FloatKind.f64.format.order y w == some .eq) = true := by
  obtain ⟨fx, fy, _, _, h⟩ := h
  obtain ⟨fv, fw, _, _, h'⟩ := h'
  rcases h with ⟨d, hv, he⟩ | ⟨d, rfl, rfl⟩ <;> rcases h' with ⟨d', hv', he'⟩ | ⟨d', rfl, rfl⟩
  · have e := hq d
    subst e
    have e1 := hv.fn hv'
    exact ⟨order_same fx fv e1, order_same fy fw (by grind)⟩
  · exact absurd (hd.1 d) d'
  · exact absurd (hd.2 d') d
  · exact ⟨order_same fx fv rfl, order_same fy fw rfl⟩

theorem pair_neg {dom dom' : Prop} {q q' : Rat} {x y v w : Nat} (h : Pair dom q x y) (h' : Pair dom' q' v w) (hd : dom ↔ dom') (hq : dom → q' = -q) :
    (FloatKind.f64.format.order v (fflip x) == some .eq) = true ∧ (FloatKind.f64.format.order w (fflip y) == some .eq) = true := by
  obtain ⟨fx, fy, lx, ly, h⟩ := h
  obtain ⟨fv, fw, _, _, h'⟩ := h'
  have gx : Fin64 (fflip x) := by unfold Fin64; rw [frung_flip lx]; exact fx
  have gy : Fin64 (fflip y) := by unfold Fin64; rw [frung_flip ly]; exact fy
  have vx := fval_flip lx fx
  have vy := fval_flip ly fy
  rcases h with ⟨d, hv, he⟩ | ⟨d, rfl, rfl⟩ <;> rcases h' with ⟨d', hv', he'⟩ | ⟨d', rfl, rfl⟩
  · have e := hq d
    subst e
    have e1 := hv.neg.fn hv'
    exact ⟨order_same fv gx (by rw [vx]; grind), order_same fw gy (by rw [vy]; grind)⟩
  · exact absurd (hd.1 d) d'
  · exact absurd (hd.2 d') d
  · rw [fval_zero] at vx
    have z : (0 : Rat) = -0 := by grind
    exact ⟨order_same fv gx (by rw [vx, fval_zero]; exact z), order_same fw gy (by rw [vx, fval_zero]; exact z)⟩

def TameW (a b : Nat) : Prop := frung a ≤ 9110782046170513408 ∧ frung b ≤ 9110782046170513408
def SafeP (a b : Nat) : Prop := SafeW (frung a) ∧ SafeW (frung b)

theorem sum_pair (a b : Nat) (w : World) (ha : a < 18446744073709551616) (hb : b < 18446744073709551616) :
    Calls Try.prog 90 #[.float .f64 a, .float .f64 b] w fun e w' => (∃ x y, e = .returned (.tuple #[.float .f64 x, .float .f64 y]) ∧ Pair (TameW a b) (fval a + fval b) x y) ∧ Below w.heap.size w w' := by
  by_cases h : TameW a b
  · obtain ⟨x, fb, fa, lb, la, y, hs, fx, fy, lx, ly, hv, he⟩ := twoSum_words h.1 h.2
    refine (sum_yes a b x fb fa lb la y w ha hb h.1 h.2 hs).mono ?_
    rintro e w' ⟨rfl, hbel⟩
    exact ⟨⟨x, y, rfl, fx, fy, lx, ly, Or.inl ⟨h, hv, he⟩⟩, hbel⟩
  · refine (sum_no a b w ha hb h).mono ?_
    rintro e w' ⟨rfl, hbel⟩
    exact ⟨⟨0, 0, rfl, pair_zero h⟩, hbel⟩

theorem diff_pair (a b : Nat) (w : World) (ha : a < 18446744073709551616) (hb : b < 18446744073709551616) :
    Calls Try.prog 58 #[.float .f64 a, .float .f64 b] w fun e w' => (∃ x y, e = .returned (.tuple #[.float .f64 x, .float .f64 y]) ∧ Pair (TameW a b) (fval a - fval b) x y) ∧ Below w.heap.size w w' := by
  by_cases h : TameW a b
  · obtain ⟨x, fb, fa, lb, la, y, hs, fx, fy, lx, ly, hv, he⟩ := twoSum_words (b := fflip b) h.1 (by rw [frung_flip hb]; exact h.2)
    rw [fval_flip hb (by unfold Fin64; have := h.2; omega), show fval a + -fval b = fval a - fval b by grind] at hv he
    refine (diff_yes a b x fb fa lb la y w ha hb h.1 h.2 hs).mono ?_
    rintro e w' ⟨rfl, hbel⟩
    exact ⟨⟨x, y, rfl, fx, fy, lx, ly, Or.inl ⟨h, hv, he⟩⟩, hbel⟩
  · refine (diff_no a b w ha hb h).mono ?_
    rintro e w' ⟨rfl, hbel⟩
    exact ⟨⟨0, 0, rfl, pair_zero h⟩, hbel⟩

theorem prod_pair (a b : Nat) (w : World) (ha : a < 18446744073709551616) (hb : b < 18446744073709551616) :
    Calls Try.prog 94 #[.float .f64 a, .float .f64 b] w fun e w' => (∃ x y, e = .returned (.tuple #[.float .f64 x, .float .f64 y]) ∧ Pair (SafeP a b) (fval a * fval b) x y) ∧ Below w.heap.size w w' := by
  by_cases h : SafeP a b
  · obtain ⟨x, a1, a2, b1, b2, p1, l1, q2, l2, p3, l3, p4, y, c, d, c', d', H1, H2, hs, fx, fy, lx, ly, hv, he⟩ := prod_words h.1 h.2
    refine (prod_yes a b x a1 a2 b1 b2 p1 l1 q2 l2 p3 l3 p4 y c d c' d' w ha hb h.1 h.2 H1 H2 hs).mono ?_
    rintro e w' ⟨rfl, hbel⟩
    exact ⟨⟨x, y, rfl, fx, fy, lx, ly, Or.inl ⟨h, hv, he⟩⟩, hbel⟩
  · refine (prod_no a b w ha hb h).mono ?_
    rintro e w' ⟨rfl, hbel⟩
    exact ⟨⟨0, 0, rfl, pair_zero h⟩, hbel⟩

theorem lim_sum {a b : Nat} (h : TameW a b) : Lim (fval a + fval b) ∧ Lim (fval a - fval b) := by
  have b1 := tame_bound h.1
  have b2 := tame_bound h.2
  have hc := p2_pos 1000
  have ht := lim_top
  refine ⟨⟨?_, ?_⟩, ⟨?_, ?_⟩⟩ <;> rw [ht] <;> grind

theorem lim_prod {a b : Nat} (h : SafeP a b) : Lim (fval a * fval b) := by
  have b1 := safe_bound h.1
  have b2 := safe_bound h.2
  have he := p2_pos 450
  have := abs_mul_lt (a := fval a) (b := 2 * p2 450) (c := fval b) (d := 2 * p2 450) (by grind) (by grind) (by grind) (by grind)
  have ht : 2 * p2 450 * (2 * p2 450) ≤ p2 1023 := by
    rw [show 2 * p2 450 * (2 * p2 450) = p2 (1 + 450 + (1 + 450)) by rw [p2_add, p2_add, p2_one]]; exact p2_mono (by omega)
  exact ⟨by grind, by grind⟩


end Go.Proofs.Ytghchejehlljkaa
