/- Own texts, put together: Ee Ef. -/
import Derived.Test.YtcgbnjoajieggaaGreatQ16
import Derived.Below
namespace Go.Proofs.YtcgbnjoajieggaaGreat
/- Tame and safe, as the document has them: the two questions. -/
section
open Go.RowKit
end

/- What is refused. -/
section
open Go.RowKit
set_option maxHeartbeats 1000000 in
theorem index_tame (n : Nat) (fs : Nat → Nat) (p : Nat → Bool) (g h : Nat) (w : World) (hn : n ≤ 1000) (hc : ∀ j, j < n → w.cell? ⟨g, j, none⟩ = some (.float .f64 (fs j)))
   (hf : w.cell? ⟨h, 0, none⟩ = some (.func (Fn.func 131) #[] #[]))
   (hp : ∀ j, j < n → ∀ w, Calls Tryz.prog 131 #[.float .f64 (fs j)] w fun e w' => e = .returned (.bool (p j)) ∧ w' = w) :
   Calls Tryz.prog 189 #[.slice (some ⟨g, 0, none⟩) n n, .func (Fn.func 168) #[] #[.pointer (some ⟨h, 0, none⟩)]] w fun e w' =>
     (∃ i : Int, e = .returned (.int .i64 i) ∧ ((i = -1 ∧ ∀ j, j < n → p j = true) ∨ (0 ≤ i ∧ ∃ j, j < n ∧ p j = false))) ∧ w' = w := by
 have HP : Hid (∀ j, j < n → ∀ w, Calls Tryz.prog 131 #[.float .f64 (fs j)] w fun e w' => e = .returned (.bool (p j)) ∧ w' = w) := hp
 have HC : Hid (∀ j, j < n → w.cell? ⟨g, j, none⟩ = some (.float .f64 (fs j))) := hc
 clear hp hc
 have hn' : (n : Int) ≤ 1000 := by omega
 go_enter Tryz.func189, Tryz.ntmps189
 go_wp2
 go_loop [8] (fun i => ∃ k : Nat, k ≤ n ∧ i = .int .i64 k ∧ Hid (∀ j, j < k → p j = true)) (fun i => n - (intOf i).toNat)
 case atStart => exact ⟨0, Nat.zero_le _, rfl, fun j hj => by omega⟩
 case round =>
   obtain ⟨k, hk, rfl, hz⟩ := hrel
   have hki : (k : Int) ≤ (n : Int) := by omega
   by_cases hlt : k < n
   · have hl : (k : Int) < (n : Int) := by omega
     have hl0 : (0 : Int) ≤ (k : Int) := by omega
     have hck : w.cell? ⟨g, k, none⟩ = some (.float .f64 (fs k)) := HC.out k hlt
     have HPk : Hid (∀ w, Calls Tryz.prog 131 #[.float .f64 (fs k)] w fun e w' => e = .returned (.bool (p k)) ∧ w' = w) := HP.out k hlt
     obtain ⟨x, hx⟩ : ∃ x, Hid (p k = x) := ⟨_, rfl⟩
     rw [hx.out] at HPk
     generalize fs k = f at *
     go_wp2_with (first | (go_at_call 168; go_in))
     refine (HPk.out _).mono ?_
     rintro e w1 ⟨rfl, rfl⟩
     cases x
     · go_wp2
       go_ret
       exact ⟨⟨_, rfl, Or.inr ⟨by omega, k, hlt, hx.out⟩⟩, rfl⟩
     · go_wp2
       go_round
       case rel =>
         refine ⟨k + 1, by omega, by go_num, ?_⟩
         intro j hj
         by_cases e : j = k
         · rw [e]; exact hx.out
         · exact hz.out j (by omega)
       case measure => simp [intOf]; omega
   · have e : k = n := by omega
     subst e
     go_wp2
     go_ret
     exact ⟨⟨_, rfl, Or.inl ⟨rfl, hz.out⟩⟩, rfl⟩
theorem refused_tame (n : Nat) (fs : Nat → Nat) (p : Nat → Bool) (g : Nat) (w : World) (hn : n ≤ 1000) (hc : ∀ j, j < n → w.cell? ⟨g, j, none⟩ = some (.float .f64 (fs j)))
   (hp : ∀ j, j < n → ∀ w, Calls Tryz.prog 131 #[.float .f64 (fs j)] w fun e w' => e = .returned (.bool (p j)) ∧ w' = w) :
   Calls Tryz.prog 130 #[.func (Fn.func 131) #[] #[], .slice (some ⟨g, 0, none⟩) n n] w fun e w' =>
     (∃ x : Bool, e = .returned (.bool x) ∧ ((x = false ∧ ∀ j, j < n → p j = true) ∨ (x = true ∧ ∃ j, j < n ∧ p j = false))) ∧ Below w.heap.size w w' := by
 have HI : Hid (∀ W, (∀ j, j < n → W.cell? ⟨g, j, none⟩ = some (.float .f64 (fs j))) → W.cell? ⟨w.heap.size, 0, none⟩ = some (.func (Fn.func 131) #[] #[]) → Calls Tryz.prog 189 #[.slice (some ⟨g, 0, none⟩) n n, .func (Fn.func 168) #[] #[.pointer (some ⟨w.heap.size, 0, none⟩)]] W fun e w' =>
     (∃ i : Int, e = .returned (.int .i64 i) ∧ ((i = -1 ∧ ∀ j, j < n → p j = true) ∨ (0 ≤ i ∧ ∃ j, j < n ∧ p j = false))) ∧ w' = W) := fun W h1 h2 => index_tame n fs p g _ W hn h1 h2 hp
 have HC : Hid (∀ j, j < n → (w.alloc (.cells #[.func (Fn.func 131) #[] #[]] 130)).cell? ⟨g, j, none⟩ = some (.float .f64 (fs j))) := fun j hj => by rw [World.cell?_alloc_lt _ _ _ (World.block_lt_of_cell? _ _ (hc j hj))]; exact hc j hj
 clear hc hp
 go_enter Tryz.func130, Tryz.ntmps130
 go_wp2_with (first | (go_at_call 167; go_in))
 refine (HI.out _ HC.out (by go_simp)).mono ?_
 rintro e w1 ⟨⟨i, rfl, hi⟩, rfl⟩
 rcases hi with ⟨rfl, ha⟩ | ⟨h0, ha⟩
 · have HA : Hid (∀ j, j < n → p j = true) := ha
   clear ha
   go_wp2
   go_ret
   exact ⟨⟨_, rfl, Or.inl ⟨rfl, HA.out⟩⟩, (Below.refl _ _).alloc (Nat.le_refl _) _⟩
 · have HA : Hid (∃ j, j < n ∧ p j = false) := ha
   clear ha
   go_wp2
   go_ret
   exact ⟨⟨_, rfl, Or.inr ⟨by simp, HA.out⟩⟩, (Below.refl _ _).alloc (Nat.le_refl _) _⟩
set_option maxHeartbeats 1000000 in
theorem index_safe (n : Nat) (fs : Nat → Nat) (p : Nat → Bool) (g h : Nat) (w : World) (hn : n ≤ 1000) (hc : ∀ j, j < n → w.cell? ⟨g, j, none⟩ = some (.float .f64 (fs j)))
   (hf : w.cell? ⟨h, 0, none⟩ = some (.func (Fn.func 192) #[] #[]))
   (hp : ∀ j, j < n → ∀ w, Calls Tryz.prog 192 #[.float .f64 (fs j)] w fun e w' => e = .returned (.bool (p j)) ∧ w' = w) :
   Calls Tryz.prog 189 #[.slice (some ⟨g, 0, none⟩) n n, .func (Fn.func 168) #[] #[.pointer (some ⟨h, 0, none⟩)]] w fun e w' =>
     (∃ i : Int, e = .returned (.int .i64 i) ∧ ((i = -1 ∧ ∀ j, j < n → p j = true) ∨ (0 ≤ i ∧ ∃ j, j < n ∧ p j = false))) ∧ w' = w := by
 have HP : Hid (∀ j, j < n → ∀ w, Calls Tryz.prog 192 #[.float .f64 (fs j)] w fun e w' => e = .returned (.bool (p j)) ∧ w' = w) := hp
 have HC : Hid (∀ j, j < n → w.cell? ⟨g, j, none⟩ = some (.float .f64 (fs j))) := hc
 clear hp hc
 have hn' : (n : Int) ≤ 1000 := by omega
 go_enter Tryz.func189, Tryz.ntmps189
 go_wp2
 go_loop [8] (fun i => ∃ k : Nat, k ≤ n ∧ i = .int .i64 k ∧ Hid (∀ j, j < k → p j = true)) (fun i => n - (intOf i).toNat)
 case atStart => exact ⟨0, Nat.zero_le _, rfl, fun j hj => by omega⟩
 case round =>
   obtain ⟨k, hk, rfl, hz⟩ := hrel
   have hki : (k : Int) ≤ (n : Int) := by omega
   by_cases hlt : k < n
   · have hl : (k : Int) < (n : Int) := by omega
     have hl0 : (0 : Int) ≤ (k : Int) := by omega
     have hck : w.cell? ⟨g, k, none⟩ = some (.float .f64 (fs k)) := HC.out k hlt
     have HPk : Hid (∀ w, Calls Tryz.prog 192 #[.float .f64 (fs k)] w fun e w' => e = .returned (.bool (p k)) ∧ w' = w) := HP.out k hlt
     obtain ⟨x, hx⟩ : ∃ x, Hid (p k = x) := ⟨_, rfl⟩
     rw [hx.out] at HPk
     generalize fs k = f at *
     go_wp2_with (first | (go_at_call 168; go_in))
     refine (HPk.out _).mono ?_
     rintro e w1 ⟨rfl, rfl⟩
     cases x
     · go_wp2
       go_ret
       exact ⟨⟨_, rfl, Or.inr ⟨by omega, k, hlt, hx.out⟩⟩, rfl⟩
     · go_wp2
       go_round
       case rel =>
         refine ⟨k + 1, by omega, by go_num, ?_⟩
         intro j hj
         by_cases e : j = k
         · rw [e]; exact hx.out
         · exact hz.out j (by omega)
       case measure => simp [intOf]; omega
   · have e : k = n := by omega
     subst e
     go_wp2
     go_ret
     exact ⟨⟨_, rfl, Or.inl ⟨rfl, hz.out⟩⟩, rfl⟩
theorem refused_safe (n : Nat) (fs : Nat → Nat) (p : Nat → Bool) (g : Nat) (w : World) (hn : n ≤ 1000) (hc : ∀ j, j < n → w.cell? ⟨g, j, none⟩ = some (.float .f64 (fs j)))
   (hp : ∀ j, j < n → ∀ w, Calls Tryz.prog 192 #[.float .f64 (fs j)] w fun e w' => e = .returned (.bool (p j)) ∧ w' = w) :
   Calls Tryz.prog 130 #[.func (Fn.func 192) #[] #[], .slice (some ⟨g, 0, none⟩) n n] w fun e w' =>
     (∃ x : Bool, e = .returned (.bool x) ∧ ((x = false ∧ ∀ j, j < n → p j = true) ∨ (x = true ∧ ∃ j, j < n ∧ p j = false))) ∧ Below w.heap.size w w' := by
 have HI : Hid (∀ W, (∀ j, j < n → W.cell? ⟨g, j, none⟩ = some (.float .f64 (fs j))) → W.cell? ⟨w.heap.size, 0, none⟩ = some (.func (Fn.func 192) #[] #[]) → Calls Tryz.prog 189 #[.slice (some ⟨g, 0, none⟩) n n, .func (Fn.func 168) #[] #[.pointer (some ⟨w.heap.size, 0, none⟩)]] W fun e w' =>
     (∃ i : Int, e = .returned (.int .i64 i) ∧ ((i = -1 ∧ ∀ j, j < n → p j = true) ∨ (0 ≤ i ∧ ∃ j, j < n ∧ p j = false))) ∧ w' = W) := fun W h1 h2 => index_safe n fs p g _ W hn h1 h2 hp
 have HC : Hid (∀ j, j < n → (w.alloc (.cells #[.func (Fn.func 192) #[] #[]] 130)).cell? ⟨g, j, none⟩ = some (.float .f64 (fs j))) := fun j hj => by rw [World.cell?_alloc_lt _ _ _ (World.block_lt_of_cell? _ _ (hc j hj))]; exact hc j hj
 clear hc hp
 go_enter Tryz.func130, Tryz.ntmps130
 go_wp2_with (first | (go_at_call 167; go_in))
 refine (HI.out _ HC.out (by go_simp)).mono ?_
 rintro e w1 ⟨⟨i, rfl, hi⟩, rfl⟩
 rcases hi with ⟨rfl, ha⟩ | ⟨h0, ha⟩
 · have HA : Hid (∀ j, j < n → p j = true) := ha
   clear ha
   go_wp2
   go_ret
   exact ⟨⟨_, rfl, Or.inl ⟨rfl, HA.out⟩⟩, (Below.refl _ _).alloc (Nat.le_refl _) _⟩
 · have HA : Hid (∃ j, j < n ∧ p j = false) := ha
   clear ha
   go_wp2
   go_ret
   exact ⟨⟨_, rfl, Or.inr ⟨by simp, HA.out⟩⟩, (Below.refl _ _).alloc (Nat.le_refl _) _⟩
end
end Go.Proofs.YtcgbnjoajieggaaGreat
