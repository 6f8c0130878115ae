/- Own texts, put together: Tk Qra. -/
import Derived.Test.YtofklahgpkmfmaaGreatDoorQ4
import Derived.KernelRfl
import Derived.Tactics
namespace Go.Proofs.YtofklahgpkmfmaaGreatDoor
/- A drawn region's operations in fewer words. -/
section
open Go
section
variable {P : Program} {ops : Array Oper} {Q : Exit → Act → World → Prop} {md : Region.Mode} {S : World → Prop}
theorem takA {i : Nat} {d : Option Tmp} {v : Value} {fuel : Nat} {listed : Array Bool} {a : Act} {w : World} (hS : S w)
   (h : wpAnyH P md ops Q S fuel (listed.setIfInBounds i true) (a.put d v) w)
   (hd : (ops[i]?).map (·.dst) = some d := by kernel_rfl) (hs : Region.noSelect ops = true := by kernel_rfl)
   (hf : Region.free md ops listed i = true := by kernel_rfl) (hr : (Region.ready md ops listed).contains i = true := by kernel_rfl)
   (hQ : ∀ c a w, Q (.panic c) (a.put d v) w → Q (.panic c) a w := by exact fun _ _ _ h => h)
   (hy : ∀ oi, ops[i]? = some oi → YieldsIf P ops S oi v a := by
     intro o ho
     simp only [List.getElem?_toArray, List.getElem?_cons_succ, List.getElem?_cons_zero, Option.some.injEq] at ho
     subst ho
     refine Or.inl ⟨by rfl, ?_⟩
     intro w hSw
     (try dsimp only at hSw)
     go_simp) : wpAnyH P md ops Q S (fuel + 1) listed a w := take_at hd hs hf hr hQ hy hS h
theorem calA (i : Nat) {o : Oper} {fuel : Nat} {listed : Array Bool} {a : Act} {w : World}
   (h : ∀ K' : Act → World → Prop, Shut (∀ a w, S w → (S w → wpAnyH P md ops Q S fuel (listed.setIfInBounds i true) a w) → K' a w) → if Region.wanted o (yielded ops a.tmps) = true then Oper.wp P o a w K' Q else K' (a.put o.dst undef) w)
   (hr : Region.ready md ops listed = [i] := by kernel_rfl)
   (ho : ops[i]? = some o := by
     simp only [List.getElem?_toArray, List.getElem?_cons_succ, List.getElem?_cons_zero]
     rfl) :
   wpAnyH P md ops Q S (fuel + 1) listed a w :=
 call_at i hr (by rw [ho]; rfl) (fun o' ho' => by rw [ho] at ho'; cases ho'; exact h)
end
theorem AP : (∀ (a : Act) (t : Tmp) (v : Value), a.put (some t) v = { a with tmps := a.tmps.setIfInBounds t v }) ∧ (∀ (a : Act) (v : Value), a.put none v = a) ∧ (∀ {α : Type} (l : List α) (i : Nat) (x : α), l.toArray.setIfInBounds i x = (l.set i x).toArray) ∧ (∀ {α : Type} (x y : α) (l : List α), (x :: l).set 0 y = y :: l) ∧ (∀ {α : Type} (x y : α) (l : List α) (i : Nat), (x :: l).set (i + 1) y = x :: l.set i y) :=
 ⟨fun _ _ _ => rfl, fun _ _ => rfl, fun _ _ _ => List.setIfInBounds_toArray .., fun _ _ _ => rfl, fun _ _ _ _ => rfl⟩
end

/- Drawn regions as their orders. -/
section
open Go
theorem region8x10 {P : Program} {Q : Exit → Act → World → Prop} {id : Nat} {o0 o1 o2 o3 o4 o5 o6 o7 : Oper} {a : Act} {w : World} (hm : P.follows .mixedOrders = true)
   (hos : lin .any [o0, o1, o2, o3, o4, o5, o6, o7].toArray 8 (Array.replicate 8 false) = [[0, 1, 2, 3, 4, 5, 6, 7], [0, 2, 1, 3, 4, 5, 6, 7], [0, 2, 3, 1, 4, 5, 6, 7], [0, 2, 3, 4, 1, 5, 6, 7], [2, 0, 1, 3, 4, 5, 6, 7], [2, 0, 3, 1, 4, 5, 6, 7], [2, 0, 3, 4, 1, 5, 6, 7], [2, 3, 0, 1, 4, 5, 6, 7], [2, 3, 0, 4, 1, 5, 6, 7], [2, 3, 4, 0, 1, 5, 6, 7]])
   (h0 : wpList P [o0, o1, o2, o3, o4, o5, o6, o7].toArray Q [o0, o1, o2, o3, o4, o5, o6, o7] a w.drew)
   (h1 : wpList P [o0, o1, o2, o3, o4, o5, o6, o7].toArray Q [o0, o2, o1, o3, o4, o5, o6, o7] a w.drew)
   (h2 : wpList P [o0, o1, o2, o3, o4, o5, o6, o7].toArray Q [o0, o2, o3, o1, o4, o5, o6, o7] a w.drew)
   (h3 : wpList P [o0, o1, o2, o3, o4, o5, o6, o7].toArray Q [o0, o2, o3, o4, o1, o5, o6, o7] a w.drew)
   (h4 : wpList P [o0, o1, o2, o3, o4, o5, o6, o7].toArray Q [o2, o0, o1, o3, o4, o5, o6, o7] a w.drew)
   (h5 : wpList P [o0, o1, o2, o3, o4, o5, o6, o7].toArray Q [o2, o0, o3, o1, o4, o5, o6, o7] a w.drew)
   (h6 : wpList P [o0, o1, o2, o3, o4, o5, o6, o7].toArray Q [o2, o0, o3, o4, o1, o5, o6, o7] a w.drew)
   (h7 : wpList P [o0, o1, o2, o3, o4, o5, o6, o7].toArray Q [o2, o3, o0, o1, o4, o5, o6, o7] a w.drew)
   (h8 : wpList P [o0, o1, o2, o3, o4, o5, o6, o7].toArray Q [o2, o3, o0, o4, o1, o5, o6, o7] a w.drew)
   (h9 : wpList P [o0, o1, o2, o3, o4, o5, o6, o7].toArray Q [o2, o3, o4, o0, o1, o5, o6, o7] a w.drew) : (Code.region id [o0, o1, o2, o3, o4, o5, o6, o7].toArray true).wp P Q a w := by
 refine wp_region_orders hm _ hos ?_
 intro o ho
 simp only [List.mem_cons, List.not_mem_nil, or_false] at ho
 rcases ho with rfl | rfl | rfl | rfl | rfl | rfl | rfl | rfl | rfl | rfl
 · exact h0
 · exact h1
 · exact h2
 · exact h3
 · exact h4
 · exact h5
 · exact h6
 · exact h7
 · exact h8
 · exact h9
end
end Go.Proofs.YtofklahgpkmfmaaGreatDoor
