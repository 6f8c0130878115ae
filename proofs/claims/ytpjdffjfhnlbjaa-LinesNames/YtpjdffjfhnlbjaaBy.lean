/- A drawn region is carried out in one of finitely many orders: each of them may be walked as a list. -/
import Derived.OrdersIn
import Derived.TacticsIn
import Derived.RegionTactic
namespace Go.Proofs.Ytpjdffjfhnlbjaa
open Go

/-- All orders in which a region's operations may come up. -/
def lin (md : Region.Mode) (ops : Array Oper) : Nat → Array Bool → List (List Nat)
  | 0, _ => [[]]
  | fuel + 1, listed => match Region.ready md ops listed with
    | [] => [[]]
    | r => r.flatMap fun i => (lin md ops fuel (listed.setIfInBounds i true)).map (i :: ·)

theorem lin_sound (md : Region.Mode) (ops : Array Oper) : ∀ (fuel t : Nat) (listed : Array Bool), Region.linearise.go md ops fuel t listed [] ∈ lin md ops fuel listed := by
  intro fuel
  induction fuel with
  | zero => intro t listed; simp [Region.linearise.go, lin]
  | succ fuel ih =>
    intro t listed
    simp only [Region.linearise.go]
    change (match (Region.ready md ops listed)[t % (Region.ready md ops listed).length]? with
      | some i => Region.linearise.go md ops fuel (t / (Region.ready md ops listed).length) (listed.setIfInBounds i true) [i]
      | none => [].reverse) ∈ _
    cases hi : (Region.ready md ops listed)[t % (Region.ready md ops listed).length]? with
    | none =>
      have hnil : Region.ready md ops listed = [] := by
        cases hr : Region.ready md ops listed with
        | nil => rfl
        | cons x xs =>
          rw [hr] at hi
          have hlt : t % (x :: xs).length < (x :: xs).length := Nat.mod_lt _ (by simp)
          simp at hi
          simp at hlt
          omega
      simp [lin, hnil]
    | some i =>
      simp only []
      rw [linearise_go_acc, List.reverse_singleton, List.singleton_append, lin]
      have hm := List.mem_of_getElem? hi
      split
      · rename_i e; rw [e] at hm; simp at hm
      · rw [List.mem_flatMap]
        exact ⟨i, hm, List.mem_map.2 ⟨_, ih _ _, rfl⟩⟩

section
variable {F : Fence} {n : Nat} {P : Program} {ops : Array Oper} {Q : Exit → Act → World → Prop}
theorem wpOpsIn_list : ∀ (is : List Nat), wpOpsIn F n P ops Q is = wpListIn F n P ops Q (is.filterMap (fun i => ops[i]?)) := by
  intro is
  induction is with
  | nil => funext a w; simp [wpOpsIn, wpListIn]
  | cons i is ih =>
    funext a w
    cases h : ops[i]? with
    | none => simp only [wpOpsIn, h, List.filterMap_cons, ih]
    | some o => simp only [wpOpsIn, h, List.filterMap_cons, ih, wpListIn]

/-- Each order, as a list of operations. -/
theorem region_orders {id : Nat} {l : List Oper} {a : Act} {w : World} (hm : P.follows .mixedOrders = true) (os : List (List Nat))
    (hos : lin .any l.toArray l.length (Array.replicate l.length false) = os)
    (h : ∀ o ∈ os, wpListIn F n P l.toArray Q (o.filterMap (fun i => l.toArray[i]?)) a w.drew) : (Code.region id l.toArray true).wpIn F n P Q a w :=
  wpIn_region_draw fun t => by
    simp only [Region.schedule, hm, Bool.true_or, if_true]
    show wpOpsIn F n P l.toArray Q (Region.linearise.go .any l.toArray l.toArray.size t (Array.replicate l.toArray.size false) []) a w.drew
    rw [wpOpsIn_list]
    refine h _ ?_
    rw [← hos]
    have := lin_sound .any l.toArray l.toArray.size t (Array.replicate l.toArray.size false)
    rw [List.size_toArray] at this ⊢
    exact this
end
section
variable {P : Program} {ops : Array Oper} {Q : Exit → Act → World → Prop}
theorem wpOps_list : ∀ (is : List Nat), wpOps P ops Q is = wpList P ops Q (is.filterMap (fun i => ops[i]?)) := by
  intro is
  induction is with
  | nil => funext a w; simp [wpOps, wpList]
  | cons i is ih =>
    funext a w
    cases h : ops[i]? with
    | none => simp only [wpOps, h, List.filterMap_cons, ih]
    | some o => simp only [wpOps, h, List.filterMap_cons, ih, wpList]
theorem wp_region_orders {id : Nat} {l : List Oper} {a : Act} {w : World} (hm : P.follows .mixedOrders = true) (os : List (List Nat))
    (hos : lin .any l.toArray l.length (Array.replicate l.length false) = os)
    (h : ∀ o ∈ os, wpList P l.toArray Q (o.filterMap (fun i => l.toArray[i]?)) a w.drew) : (Code.region id l.toArray true).wp P Q a w :=
  wp_region_draw fun t => by
    simp only [Region.schedule, hm, Bool.true_or, if_true]
    show wpOps P l.toArray Q (Region.linearise.go .any l.toArray l.toArray.size t (Array.replicate l.toArray.size false) []) a w.drew
    rw [wpOps_list]
    refine h _ ?_
    rw [← hos]
    have := lin_sound .any l.toArray l.toArray.size t (Array.replicate l.toArray.size false)
    rw [List.size_toArray] at this ⊢
    exact this
end
theorem region6x4 {F : Fence} {n : Nat} {P : Program} {Q : Exit → Act → World → Prop} {id : Nat} {o0 o1 o2 o3 o4 o5 : Oper} {a : Act} {w : World} (hm : P.follows .mixedOrders = true)
    (hos : lin .any [o0, o1, o2, o3, o4, o5].toArray 6 (Array.replicate 6 false) = [[0, 1, 2, 3, 4, 5], [1, 0, 2, 3, 4, 5], [1, 2, 0, 3, 4, 5], [1, 2, 3, 0, 4, 5]])
    (h0 : wpListIn F n P [o0, o1, o2, o3, o4, o5].toArray Q [o0, o1, o2, o3, o4, o5] a w.drew)
    (h1 : wpListIn F n P [o0, o1, o2, o3, o4, o5].toArray Q [o1, o0, o2, o3, o4, o5] a w.drew)
    (h2 : wpListIn F n P [o0, o1, o2, o3, o4, o5].toArray Q [o1, o2, o0, o3, o4, o5] a w.drew)
    (h3 : wpListIn F n P [o0, o1, o2, o3, o4, o5].toArray Q [o1, o2, o3, o0, o4, o5] a w.drew) : (Code.region id [o0, o1, o2, o3, o4, o5].toArray true).wpIn F n P Q a w := by
  refine region_orders hm _ hos ?_
  intro o ho
  simp only [List.mem_cons, List.not_mem_nil, or_false] at ho
  rcases ho with rfl | rfl | rfl | rfl
  · exact h0
  · exact h1
  · exact h2
  · exact h3
end Go.Proofs.Ytpjdffjfhnlbjaa
