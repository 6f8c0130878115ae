/- Own texts, put together: Ig. -/
import Derived.Test.YtkbhmglmbolbiaaGreatDoorQ39
/- The law DigitsReads. -/
namespace Go.Proofs.YtkbhmglmbolbiaaGreatDoor
open Go.RowKit Go.Shelf Go.Lib
theorem sinv_fin {n e : Int} {l : List UInt8} {x : Nat} {er : Int} (hR : FloatR l x er) (ht : rdTell l = some (n, e)) (h0 : n ≠ 0) :
   ∀ lo, SInv8 (((n.natAbs : Nat) : Rat) * p2 e) lo lo → lo < 9218868437227405312 ∧ ((fval lo = ((n.natAbs : Nat) : Rat) * p2 e → er = 0 ∧ x = if n < 0 then fflip lo else lo) ∧ (fval lo ≠ ((n.natAbs : Nat) : Rat) * p2 e → er = 10 ∧ x = 0)) := by
 intro lo h
 have hlo : lo < 9218868437227405312 := by have := h.2.1; omega
 have ha := abs_total n (p2 e)
 have fl : Fin64 lo := by unfold Fin64 frung; omega
 refine ⟨hlo, fun he => ?_, fun hne => ?_⟩
 · by_cases hn : n < 0
   · rw [if_pos hn] at ha ⊢
     obtain ⟨f1, f2, f3⟩ := eq_flipI fl (by omega)
     obtain ⟨a, b⟩ := hR.ok ht f1 f2 (by rw [f3, he, ha]; grind) (fun h => absurd h h0)
     exact ⟨b, a⟩
   · rw [if_neg hn] at ha ⊢
     obtain ⟨a, b⟩ := hR.ok ht fl (by omega) (by rw [he, ha]) (fun h => absurd h h0)
     exact ⟨b, a⟩
 · obtain ⟨a, b⟩ := hR.no ht (fun y hy ly hv => by
     have hnn := fval_nonneg (r := frung y) hy
     have hQ : (0 : Rat) ≤ ((n.natAbs : Nat) : Rat) * p2 e := Rat.mul_nonneg Rat.natCast_nonneg (Rat.le_of_lt (p2_pos _))
     refine sinv_end h hne (frung y) hy ?_
     generalize ((n.natAbs : Nat) : Rat) * p2 e = Q at *
     rcases fval_sgn hy ly with ⟨_, v⟩ | ⟨_, v⟩ <;> split at ha <;> grind)
   exact ⟨b, a⟩
theorem far_low {n e : Int} (h0 : n ≠ 0) (hn : InR n) (he : e < -2000) : ∀ y, Fin64 y → y < 18446744073709551616 → fval y ≠ (n : Rat) * p2 e := by
 obtain ⟨n', ho, _⟩ := odd_math n h0 hn
 intro y hy _
 rw [odd_val ho]
 have := ho.2.2
 exact no_low ho.2.1 (by omega) y hy
set_option maxHeartbeats 4000000 in
set_option maxRecDepth 100000 in
theorem refFloat_any (s : ByteArray) (w : World) (hs : s.size ≤ 5000) (x : Nat) (er : Int) (hR : FloatR s.data.toList x er) :
   Calls Tryz.prog 39 #[.string s] w fun r w' => r = .returned (.tuple #[.float .f64 x, .int .i64 er]) ∧ Below w.heap.size w w' := by
 obtain ⟨l, hl⟩ : ∃ l, s.data.toList = l := ⟨_, rfl⟩
 have hP := fun w => refParts_any s w (by omega)
 have hsz : s.size = l.length := by rw [Lib.size_eq, hl]
 rw [hl] at hR hP
 cases ht : rdTell l with
 | none =>
   obtain ⟨rfl, rfl⟩ := hR.form ht
   have HP : Hid (∀ w, Calls Tryz.prog 73 #[.string s] w fun r w' => (∃ n p, r = .returned (.tuple #[.int .i64 n, .int .i64 p, .bool false])) ∧ Below w.heap.size w w') := fun w => (hP w).mono (by
     rintro r w' ⟨⟨n, p, ok, rfl, hp⟩, hb⟩
     rcases hp with ⟨_, h⟩ | ⟨rfl, _⟩
     · rw [ht] at h; cases h
     · exact ⟨⟨n, p, rfl⟩, hb⟩)
   clear hP hR ht hsz hl
   go_enter Tryz.func39, Tryz.ntmps39
   go_wp2_with fail
   refine (HP.out _).mono ?_
   rintro r w1 ⟨⟨n, p, rfl⟩, hb1⟩
   have HB1 := Lib.hid hb1
   clear hb1
   by_cases h4 : 400 < s.size
   · have h4i : (400 : Int) < (s.size : Int) := by omega
     go_wp2
     all_goals (go_ret2; exact ⟨rfl, HB1.out⟩)
   · have h4i : ¬ (400 : Int) < (s.size : Int) := by omega
     go_wp2
     all_goals (go_ret2; exact ⟨rfl, HB1.out⟩)
 | some p =>
   obtain ⟨n, e⟩ := p
   have hlen := tell_length ht
   obtain ⟨hn, he, _⟩ := tell_cases ht
   have hPT : ∀ w, Calls Tryz.prog 73 #[.string s] w fun r w' => r = .returned (.tuple #[.int .i64 n, .int .i64 e, .bool true]) ∧ Below w.heap.size w w' := fun w => (hP w).mono (by
     rintro r w' ⟨⟨n', p', ok, rfl, hp⟩, hb⟩
     rcases hp with ⟨rfl, h⟩ | ⟨_, h⟩
     · rw [ht] at h
       simp at h
       obtain ⟨rfl, rfl⟩ := h
       exact ⟨rfl, hb⟩
     · rw [ht] at h; cases h)
   have HPT : Hid (∀ w, Calls Tryz.prog 73 #[.string s] w fun r w' => r = .returned (.tuple #[.int .i64 n, .int .i64 e, .bool true]) ∧ Below w.heap.size w w') := hPT
   have h4i : (s.size : Int) ≤ 400 := by omega
   by_cases h0 : n = 0
   · subst h0
     obtain ⟨rfl, rfl⟩ := hR.ok ht fin_zero (by omega) (by rw [fval_zero]; show (0 : Rat) = 0 * _; grind) (fun _ => rfl)
     clear hP hR ht hsz hl hlen hn he hPT
     go_enter Tryz.func39, Tryz.ntmps39
     go_wp2_with fail
     refine (HPT.out _).mono ?_
     rintro r w1 ⟨rfl, hb1⟩
     go_wp2
     go_ret2
     exact ⟨rfl, hb1⟩
   · by_cases h2 : -2000 ≤ e ∧ e ≤ 2000
     · exact refFloat_core s w (by omega) n e hn h0 h2.1 h2.2 x er hPT (sinv_fin hR ht h0)
     · obtain ⟨rfl, rfl⟩ := hR.no ht (by
         rcases Int.lt_or_le e (-2000) with h | h
         · exact far_low h0 hn h
         · exact no_high h0 (by omega))
       have hn0 : (n == 0) = false := by rw [beq_eq_false_iff_ne]; exact h0
       clear hP hR ht hsz hl hlen hPT
       obtain ⟨he1, he2⟩ := he
       rcases Int.lt_or_le e (-2000) with h | h
       · go_enter Tryz.func39, Tryz.ntmps39
         go_wp2_with fail
         refine (HPT.out _).mono ?_
         rintro r w1 ⟨rfl, hb1⟩
         go_wp2
         go_ret2
         exact ⟨rfl, hb1⟩
       · have h' : 2000 < e := by omega
         go_enter Tryz.func39, Tryz.ntmps39
         go_wp2_with fail
         refine (HPT.out _).mono ?_
         rintro r w1 ⟨rfl, hb1⟩
         go_wp2
         go_ret2
         exact ⟨rfl, hb1⟩
end Go.Proofs.YtkbhmglmbolbiaaGreatDoor
