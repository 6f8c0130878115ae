/- Own texts, put together: Zl Zm Zn Zo Zp. -/
import Derived.Test.YtcgbnjoajieggaaGreatQ9
import Derived.Test.YtcgbnjoajieggaaGreatQ22
import Derived.Deep.DrawnRows
import Derived.BigRegion
namespace Go.Proofs.YtcgbnjoajieggaaGreat
/- The reference's Add, Sub, Cmp, Abs, of whatever numbers. -/
section
open Go.RowKit
end

/- The reference's Add of whatever numbers; Sub, Cmp, Abs. -/
section
open Go.RowKit
end

/- The reference's Mul: what stands while it goes. -/
section
open Go.RowKit
theorem v24_set {zs : List Nat} {j : Nat} (h : j < zs.length) (x : Nat) : v24 (zs.set j x) + 2 ^ (24 * j) * zs.getD j 0 = v24 zs + 2 ^ (24 * j) * x := by
 induction zs generalizing j with
 | nil => simp at h
 | cons a r ih =>
   cases j with
   | zero => simp [v24]; omega
   | succ j =>
     simp only [List.set_cons_succ, v24, List.getD_cons_succ]
     have := ih (j := j) (by simp at h; omega)
     rw [p24]
     grind
theorem v24_rep (n : Nat) : v24 (List.replicate n 0) = 0 := by
 induction n with
 | zero => rfl
 | succ n ih => rw [List.replicate_succ, v24, ih]
theorem set_small {zs : List Nat} {j x : Nat} (h : ∀ d ∈ zs, d < 16777216) (hx : x < 16777216) : ∀ d ∈ zs.set j x, d < 16777216 := by
 intro d hd
 rcases List.mem_or_eq_of_mem_set hd with hd | rfl
 · exact h d hd
 · exact hx
theorem getD_small {zs : List Nat} (h : ∀ d ∈ zs, d < 16777216) (j : Nat) : zs.getD j 0 < 16777216 := by
 by_cases hj : j < zs.length
 · rw [show zs.getD j 0 = zs[j] by simp [List.getD, hj]]
   exact h _ (List.getElem_mem hj)
 · simp [List.getD, List.getElem?_eq_none (Nat.le_of_not_lt hj)]
theorem set_getD {zs : List Nat} {j k x : Nat} (h : j ≠ k) : (zs.set j x).getD k 0 = zs.getD k 0 := by
 simp only [List.getD, List.getElem?_set]; rw [if_neg h]
structure MulO (ds1 ds2 zs : List Nat) (i : Nat) : Prop where
 len : zs.length = ds1.length + ds2.length
 small : ∀ d ∈ zs, d < 16777216
 val : v24 zs = v24 (ds1.take i) * v24 ds2
 top : ∀ j, i + ds2.length ≤ j → zs.getD j 0 = 0
structure MulI (ds1 ds2 zs0 zs : List Nat) (i k c : Nat) : Prop where
 len : zs.length = ds1.length + ds2.length
 small : ∀ d ∈ zs, d < 16777216
 val : v24 zs + 2 ^ (24 * (i + k)) * c = v24 zs0 + 2 ^ (24 * i) * (ds1.getD i 0 * v24 (ds2.take k))
 rest : ∀ j, i + k ≤ j → zs.getD j 0 = zs0.getD j 0
 carry : c < 16777216
theorem MulO.start (ds1 ds2 : List Nat) : MulO ds1 ds2 (List.replicate (ds1.length + ds2.length) 0) 0 :=
 ⟨by simp, fun d hd => by have := List.eq_of_mem_replicate hd; omega, by simp [v24_rep, v24], fun j _ => by rw [List.getD, List.getElem?_replicate]; split <;> rfl⟩
theorem MulI.step {ds1 ds2 zs0 zs : List Nat} {i k c v : Nat} (h : MulI ds1 ds2 zs0 zs i k c) (hi : i < ds1.length) (hk : k < ds2.length) (s1 : ∀ d ∈ ds1, d < 16777216) (s2 : ∀ d ∈ ds2, d < 16777216) (hv : v = zs.getD (i + k) 0 + ds1.getD i 0 * ds2.getD k 0 + c) :
   MulI ds1 ds2 zs0 (zs.set (i + k) (v % 16777216)) i (k + 1) (v / 16777216) := by
 have hl : i + k < zs.length := by rw [h.len]; omega
 have hx := getD_small h.small (i + k)
 have ha := getD_small s1 i
 have hb := getD_small s2 k
 have hc := h.carry
 refine ⟨by simp [h.len], set_small h.small (Nat.mod_lt _ (by omega)), ?_, fun j hj => ?_, ?_⟩
 · have e1 := v24_set hl (v % 16777216)
   have e2 := h.val
   have e3 := Nat.mod_add_div v 16777216
   rw [v24_take_succ, show i + (k + 1) = i + k + 1 by omega, p24]
   have e4 : 2 ^ (24 * (i + k)) = 2 ^ (24 * i) * 2 ^ (24 * k) := by rw [← Nat.pow_add]; congr 1; omega
   generalize v % 16777216 = r at *
   generalize v / 16777216 = q at *
   generalize zs.getD (i + k) 0 = x at *
   generalize ds1.getD i 0 = a at *
   generalize ds2.getD k 0 = b at *
   generalize v24 (zs.set (i + k) r) = V at *
   rw [e4] at e1 e2 ⊢
   generalize 2 ^ (24 * i) = P at *
   generalize 2 ^ (24 * k) = R at *
   subst hv
   grind
 · rw [set_getD (by omega)]; exact h.rest j (by omega)
 · rw [Nat.div_lt_iff_lt_mul (by omega), hv]
   have : ds1.getD i 0 * ds2.getD k 0 ≤ 16777215 * 16777215 := Nat.mul_le_mul (by omega) (by omega)
   omega
theorem MulI.done {ds1 ds2 zs0 zs : List Nat} {i c : Nat} (h : MulI ds1 ds2 zs0 zs i ds2.length c) (h0 : MulO ds1 ds2 zs0 i) (hi : i < ds1.length) : zs.getD (i + ds2.length) 0 = 0 ∧ MulO ds1 ds2 (zs.set (i + ds2.length) c) (i + 1) := by
 have hl : i + ds2.length < zs.length := by rw [h.len]; omega
 have hz : zs.getD (i + ds2.length) 0 = 0 := by rw [h.rest _ (Nat.le_refl _)]; exact h0.top _ (Nat.le_refl _)
 refine ⟨hz, by simp [h.len], set_small h.small h.carry, ?_, fun j hj => ?_⟩
 · have e1 := v24_set hl c
   rw [hz] at e1
   have e2 := h.val
   rw [List.take_of_length_le (Nat.le_refl _)] at e2
   rw [v24_take_succ, h0.val] at *
   grind
 · rw [set_getD (by omega), h.rest j (by omega)]; exact h0.top j (by omega)
structure MulW (w : World) (O R : Nat) (S1 S2 SS E1 E2 : Int) (sv1 sv2 : Value) (zs : List Nat) (W : World) : Prop where
 a : BoxN W w.heap.size S1 sv1 E1
 b : BoxN W (w.heap.size + 1) S2 sv2 E2
 r : BoxN W (w.heap.size + 2) 0 (.slice none 0 0) 0
 o : BoxN W O SS (.slice (some ⟨R, 0, none⟩) zs.length zs.length) (E1 + E2)
 row : W.ownsRow R 2 1 (.slice (some ⟨R, 0, none⟩) zs.length zs.length) zs.length (i64s zs)
 bel : Below w.heap.size w W
 o1 : w.heap.size + 3 ≤ O
 o2 : w.heap.size + 3 ≤ R
 o3 : O ≠ R
theorem MulW.drew {w W : World} {O R : Nat} {S1 S2 SS E1 E2 : Int} {sv1 sv2 : Value} {zs : List Nat} (h : MulW w O R S1 S2 SS E1 E2 sv1 sv2 zs W) : MulW w O R S1 S2 SS E1 E2 sv1 sv2 zs W.drew := ⟨h.a, h.b, h.r, h.o, h.row, h.bel.drew, h.o1, h.o2, h.o3⟩
end

/- The reference's Mul: the walk. -/
section
open Go.RowKit
attribute [local go_sem ↓] Go.wp_at_zero Go.wp_at_succ
end

/- The reference's Neg, Sub, Cmp, Abs of whatever numbers. -/
section
open Go.RowKit
attribute [local go_sem ↓] Go.wp_at_zero Go.wp_at_succ
theorem Canon.neg {S E : Int} {ds : List Nat} (h : Canon S ds E) : Canon (-S) ds E := by
 rcases h with ⟨a, b, c⟩ | ⟨a, b, c, d⟩
 · exact Or.inl ⟨a, by omega, c⟩
 · exact Or.inr ⟨a, by omega, c, d⟩
theorem Rf.sgn {w : World} {v : Value} {q : Rat} (h : Rf w v q) : ∃ S a n c E, v = .agg #[.int .i64 S, .slice a n c, .int .i64 E] ∧ ((S = 0 ∧ q = 0) ∨ (S = 1 ∧ 0 < q) ∨ (S = -1 ∧ q < 0)) := by
 obtain ⟨S, ds, E, h1, h2, rfl⟩ := h
 obtain ⟨a, c, rfl, _⟩ := h1.form
 exact ⟨S, a, _, c, E, rfl, canon_sgn h2⟩
def sgq (q : Rat) : Int := if q < 0 then -1 else if q = 0 then 0 else 1
end
end Go.Proofs.YtcgbnjoajieggaaGreat
