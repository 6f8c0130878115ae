import Derived.Test.YtgfloegaoofbbaaDoorEl0z
import Derived.Test.YtgfloegaoofbbaaDoorEl1z
/- The law ElefileReads, whole. -/
namespace Go.Proofs.YtgfloegaoofbbaaDoor
open Go.RowKit Go.Shelf Go.Lib
theorem textE_ex (x : Nat) (lx : x < 18446744073709551616) : ∃ l, TextR x l := by
  by_cases hx : Fin64 x
  · by_cases h : ∃ k : Int, fval x = (k : Rat) ∧ -9007199254740992 < k ∧ k < 9007199254740992
    · obtain ⟨k, e, h1, h2⟩ := h
      exact ⟨itoa k, Or.inr ⟨hx, Or.inl ⟨k, e, h1, h2, rfl⟩⟩⟩
    · have hx0 : fval x ≠ 0 := fun e => h ⟨0, by rw [e]; rfl, by omega, by omega⟩
      obtain ⟨f, ex, m, ff, lf, vf, hm, vx, hex1, hex2, _⟩ := frexp_val x hx lx hx0
      obtain ⟨n, ho, _⟩ := odd_math m (by omega) ⟨by omega, by omega⟩
      generalize hk0 : ctz 64 (m % 18446744073709551616).toNat = k at ho
      have hk := ho.2.2
      have hnb : -9007199254740992 < n ∧ n < 9007199254740992 := by
        have e1 := congrArg Int.natAbs ho.1
        rw [Int.natAbs_mul, Int.natAbs_natCast] at e1
        have e2 : n.natAbs * 1 ≤ n.natAbs * 2 ^ k := Nat.mul_le_mul_left _ (Nat.two_pow_pos k)
        omega
      exact ⟨itoa n ++ 98 :: itoa (ex - 53 + (k : Nat)), Or.inr ⟨hx, Or.inr ⟨h, n, _, ho.2.1, hnb.1, hnb.2, by omega, by omega, by rw [vx, odd_val ho], rfl⟩⟩⟩
  · exact ⟨[], Or.inl ⟨hx, rfl⟩⟩
theorem pmE_ex : ∃ p : Pm, p.Ok := by
  obtain ⟨rf, h1⟩ := Classical.skolem.1 floatR_ex
  obtain ⟨tx, h3⟩ := Classical.skolem.1 (fun x : Nat => (by
    by_cases h : x < 18446744073709551616
    · obtain ⟨l, hl⟩ := textE_ex x h
      exact ⟨l, fun _ => hl⟩
    · exact ⟨[], fun e => absurd e h⟩ : ∃ l : Bs, x < 18446744073709551616 → TextR x l))
  have hd : ∀ q : Nat × Nat, ∃ b : Bool, b = true ↔ Pt q.1 q.2 := fun q => by
    by_cases h : Pt q.1 q.2
    · exact ⟨true, by simp [h]⟩
    · exact ⟨false, by simp [h]⟩
  obtain ⟨pt, h2⟩ := Classical.skolem.1 hd
  exact ⟨⟨rf, fun x y => pt (x, y), tx⟩, h1, fun x y => h2 (x, y), h3⟩
theorem reads11_fin (t : Bs) (w : World) (ht : t.length ≤ 9223372036854775807) (hT : Tab w) :
    Calls Tryd.prog 3 #[sv t] w fun e w' => e = .returned (.bool true) ∧ Below w.heap.size w w' := by
  obtain ⟨p, hp⟩ := pmE_ex
  exact reads11_law hp t w ht hT (fun W hl => refRead11_any hp ⟨t.toArray⟩ t W rfl (by omega))
end Go.Proofs.YtgfloegaoofbbaaDoor
