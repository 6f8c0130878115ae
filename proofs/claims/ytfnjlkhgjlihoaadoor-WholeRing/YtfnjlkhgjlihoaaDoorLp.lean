/- A drawn region, operation by operation, where some are not wanted. -/
import Derived.Deep.RegionHeld3
import Derived.Test.YtfnjlkhgjlihoaaDoorLd
namespace Go.Proofs.YtfnjlkhgjlihoaaDoor
open Go

section
variable {P : Program} {ops : Array Oper} {Q : Exit → Act → World → Prop} {md : Region.Mode} {S : World → Prop}

theorem take_at {i : Nat} {d : Option Tmp} {v : Value} {fuel : Nat} {listed : Array Bool} {a : Act} {w : World} (hd : (ops[i]?).map (·.dst) = some d)
    (hs : Region.noSelect ops = true) (hf : Region.free md ops listed i = true) (hr : (Region.ready md ops listed).contains i = true)
    (hQ : ∀ c a w, Q (.panic c) (a.put d v) w → Q (.panic c) a w) (hy : ∀ oi, ops[i]? = some oi → YieldsIf P ops S oi v a) (hS : S w)
    (h : wpAnyH P md ops Q S fuel (listed.setIfInBounds i true) (a.put d v) w) : wpAnyH P md ops Q S (fuel + 1) listed a w := by
  cases ho : ops[i]? with
  | none => rw [ho] at hd; cases hd
  | some oi =>
    rw [ho] at hd
    have e : oi.dst = d := Option.some.inj hd
    subst e
    exact wpAnyH_take ho hs hf hr hQ (hy oi ho) hS h

/-- What is not wanted is passed by. -/
theorem skip_at (i : Nat) {d : Option Tmp} {fuel : Nat} {listed : Array Bool} {a : Act} {w : World} (hd : (ops[i]?).map (·.dst) = some d)
    (hs : Region.noSelect ops = true) (hf : Region.free md ops listed i = true) (hr : (Region.ready md ops listed).contains i = true)
    (hQ : ∀ c a w, Q (.panic c) (a.put d undef) w → Q (.panic c) a w) (hw : (ops[i]?).map (fun o => Region.wanted o (yielded ops a.tmps)) = some false) (hS : S w)
    (h : wpAnyH P md ops Q S fuel (listed.setIfInBounds i true) (a.put d undef) w) : wpAnyH P md ops Q S (fuel + 1) listed a w :=
  take_at hd hs hf hr hQ (fun oi ho => Or.inr ⟨by rw [ho] at hw; exact Option.some.inj hw, rfl⟩) hS h

theorem call_at (i : Nat) {fuel : Nat} {listed : Array Bool} {a : Act} {w : World} (hr : Region.ready md ops listed = [i])
    (hi : (ops[i]?).isSome = true)
    (h : ∀ o, ops[i]? = some o → ∀ K' : Act → World → Prop, Shut (∀ a w, S w → (S w → wpAnyH P md ops Q S fuel (listed.setIfInBounds i true) a w) → K' a w) → if Region.wanted o (yielded ops a.tmps) = true then Oper.wp P o a w K' Q else K' (a.put o.dst undef) w) :
    wpAnyH P md ops Q S (fuel + 1) listed a w := by
  obtain ⟨o, ho⟩ := Option.isSome_iff_exists.1 hi
  exact wpAnyH_ready hr (by simp) (AllReadyH.cons ho (h o ho) AllReadyH.nil)
end

/-- A number is what it was where a box that holds another is written anew. -/
theorem isNum_set4g {W : World} {v : Value} {x : Option Rat} {r n c : Nat} {a : Option Addr} {low : Int} {neg nn : Bool} (h : IsNum W v x) (t0 : W.cell? ⟨r, 0, none⟩ = some (.slice a n c)) (t1 : W.cell? ⟨r, 1, none⟩ = some (.int .i64 low)) (t2 : W.cell? ⟨r, 2, none⟩ = some (.bool neg)) (t3 : W.cell? ⟨r, 3, none⟩ = some (.bool nn)) (v0 v1 v2 v3 : Value) :
    IsNum ((((W.setCell ⟨r, 0, none⟩ v0).setCell ⟨r, 1, none⟩ v1).setCell ⟨r, 2, none⟩ v2).setCell ⟨r, 3, none⟩ v3) v x := by
  obtain ⟨a', ns, c', low', neg', nn', rfl, hw, hr⟩ := h
  refine ⟨a', ns, c', low', neg', nn', rfl, ?_, hr⟩
  have o : ∀ (W : World) (i j : Nat) (x : Value) (v : Value), i ≠ j → W.cell? ⟨r, i, none⟩ = some x → (W.setCell ⟨r, j, none⟩ v).cell? ⟨r, i, none⟩ = some x := fun W i j x v hij hx => by
    rw [World.cell?_setCell_other W _ _ v (by intro e; cases e; exact hij rfl)]; exact hx
  have a1 := hw.set t0 (by intro n; simp) v0
  have a2 := a1.set (o _ 1 0 _ v0 (by omega) t1) (by intro n; simp) v1
  have a3 := a2.set (o _ 2 1 _ v1 (by omega) (o _ 2 0 _ v0 (by omega) t2)) (by intro n; simp) v2
  exact a3.set (o _ 3 2 _ v2 (by omega) (o _ 3 1 _ v1 (by omega) (o _ 3 0 _ v0 (by omega) t3))) (by intro n; simp) v3

/-- Four cells of a box, written anew. -/
theorem set4_cells {W : World} {r : Nat} {x0 x1 x2 x3 : Value} (t0 : W.cell? ⟨r, 0, none⟩ = some x0) (t1 : W.cell? ⟨r, 1, none⟩ = some x1) (t2 : W.cell? ⟨r, 2, none⟩ = some x2) (t3 : W.cell? ⟨r, 3, none⟩ = some x3) (v0 v1 v2 v3 : Value) :
    let W' := (((W.setCell ⟨r, 0, none⟩ v0).setCell ⟨r, 1, none⟩ v1).setCell ⟨r, 2, none⟩ v2).setCell ⟨r, 3, none⟩ v3
    W'.cell? ⟨r, 0, none⟩ = some v0 ∧ W'.cell? ⟨r, 1, none⟩ = some v1 ∧ W'.cell? ⟨r, 2, none⟩ = some v2 ∧ W'.cell? ⟨r, 3, none⟩ = some v3 := by
  have s : ∀ (W : World) (p : Addr) (x v : Value), W.cell? p = some x → (W.setCell p v).cell? p = some v := fun W p x v h => World.cell?_setCell_same W p v (by rw [h])
  have o : ∀ (W : World) (i j : Nat) (x : Value) (v : Value), i ≠ j → W.cell? ⟨r, i, none⟩ = some x → (W.setCell ⟨r, j, none⟩ v).cell? ⟨r, i, none⟩ = some x := fun W i j x v hij hx => by
    rw [World.cell?_setCell_other W _ _ v (by intro e; cases e; exact hij rfl)]; exact hx
  refine ⟨?_, ?_, ?_, ?_⟩
  · exact o _ 0 3 _ _ (by omega) (o _ 0 2 _ _ (by omega) (o _ 0 1 _ _ (by omega) (s _ _ _ _ t0)))
  · exact o _ 1 3 _ _ (by omega) (o _ 1 2 _ _ (by omega) (s _ _ _ _ (o _ 1 0 _ _ (by omega) t1)))
  · exact o _ 2 3 _ _ (by omega) (s _ _ _ _ (o _ 2 1 _ _ (by omega) (o _ 2 0 _ _ (by omega) t2)))
  · exact s _ _ _ _ (o _ 3 2 _ _ (by omega) (o _ 3 1 _ _ (by omega) (o _ 3 0 _ _ (by omega) t3)))

end Go.Proofs.YtfnjlkhgjlihoaaDoor
