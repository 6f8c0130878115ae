/- Own texts, put together: Yf. -/
import Derived.Test.YtkgnlobakicnjaaDoorQ4
/- A drawn region whose operations bear no guards: an invariant over what is done. -/
namespace Go.Proofs.YtkgnlobakicnjaaDoor
open Go Go.RowKit
section
variable {P : Program} {ops : Array Oper} {Q : Exit → Act → World → Prop}
def regOkI (ops : Array Oper) : Bool := (List.range ops.size).all fun j => match ops[j]? with
 | some o => o.guard.isNone && o.after.all (fun e => decide (e.on < j))
 | none => false
theorem regOkI_at {ops : Array Oper} (h : regOkI ops = true) {j : Nat} {o : Oper} (ho : ops[j]? = some o) : o.guard = none ∧ ∀ e ∈ o.after, e.on < j := by
 have hj : j < ops.size := (Array.getElem?_eq_some_iff.1 ho).1
 have := List.all_eq_true.1 h j (List.mem_range.2 hj)
 rw [ho] at this
 simp only [Bool.and_eq_true] at this
 obtain ⟨h2, h3⟩ := this
 refine ⟨by simpa using h2, fun e he => ?_⟩
 have := (Array.all_eq_true'.1 h3) e he
 simpa using this
theorem region_inv {id : Nat} {a0 : Act} {w0 : World} (n : Nat) (I : (Nat → Bool) → Act → World → Prop) (hm : P.follows .mixedOrders = true) (hn : ops.size = n) (hok : regOkI ops = true) (h0 : I (fun _ => false) a0 w0.drew)
   (step : ∀ (Q' : Exit → Act → World → Prop) (j : Nat) (o : Oper) (d : Nat → Bool) (a : Act) (w : World), j < n → ops[j]? = some o → d j = false → (∀ e ∈ o.after, Region.binds .any e = true → d e.on = true) → I d a w → Oper.wp P o a w (fun a' w' => I (fun i => d i || i == j) a' w') Q')
   (fin : ∀ d a w, (∀ j, j < n → d j = true) → I d a w → Q .normal a w) : (Code.region id ops true).wp P Q a0 w0 := by
 have allD : ∀ listed : Array Bool, listed.size = n → Region.ready .any ops listed = [] → ∀ j, j < n → listed.getD j false = true := by
   intro listed hl hr j
   induction j using Nat.strongRecOn with
   | ind j ih =>
     intro hj
     cases hc : listed.getD j false with
     | true => rfl
     | false =>
       obtain ⟨o, ho⟩ : ∃ o, ops[j]? = some o := ⟨_, Array.getElem?_eq_getElem (by omega)⟩
       have hb := (regOkI_at hok ho).2
       have : j ∈ Region.ready .any ops listed := by
         unfold Region.ready
         rw [List.mem_filter]
         refine ⟨List.mem_range.2 (by omega), ?_⟩
         have e1 : listed.getD j true = false := by
           rw [Array.getD_eq_getD_getElem?, Array.getElem?_eq_getElem (by omega)] at hc ⊢
           exact hc
         rw [e1, ho]
         simp only [Bool.not_false, Bool.true_and, Option.map_some, Option.getD_some]
         rw [Array.all_eq_true']
         intro e he
         rw [ih e.on (hb e he) (by have := hb e he; omega)]
         simp
       rw [hr] at this
       simp at this
 have main : ∀ (fuel : Nat) (listed : Array Bool) (a : Act) (w : World), listed.size = n → cntD listed n + fuel = n → I (fun j => listed.getD j false) a w → wpAny P .any ops Q fuel listed a w := by
   intro fuel
   induction fuel with
   | zero =>
     intro listed a w hl hc hI
     have hall := cntD_all listed n (by omega)
     refine ⟨?_, fin _ a w hall hI⟩
     unfold Region.ready
     rw [List.filter_eq_nil_iff]
     intro j hj
     rw [List.mem_range, hn] at hj
     have e1 : listed.getD j true = true := by
       have := hall j hj
       rw [Array.getD_eq_getD_getElem?, Array.getElem?_eq_getElem (by omega)] at this ⊢
       exact this
     simp [e1]
   | succ fuel ih =>
     intro listed a w hl hc hI
     refine ⟨fun hr => fin _ a w (allD listed hl hr) hI, fun i hi => ?_⟩
     unfold Region.ready at hi
     rw [List.mem_filter, List.mem_range, hn] at hi
     obtain ⟨hin, hi⟩ := hi
     obtain ⟨o, ho⟩ : ∃ o, ops[i]? = some o := ⟨_, Array.getElem?_eq_getElem (by omega)⟩
     rw [ho] at hi
     simp only [Option.map_some, Option.getD_some, Bool.and_eq_true, Bool.not_eq_true'] at hi
     obtain ⟨h1, h2⟩ := hi
     have h1' : listed.getD i false = false := by
       rw [Array.getD_eq_getD_getElem?, Array.getElem?_eq_getElem (by omega)] at h1 ⊢
       exact h1
     obtain ⟨hg, hb⟩ := regOkI_at hok ho
     unfold wpOp
     rw [ho]
     simp only []
     have hw : Region.wanted o (yielded ops a.tmps) = true := by unfold Region.wanted; rw [hg]
     rw [if_pos hw]
     refine Or.inl (Oper.wp_mono ?_ (step Q i o _ a w hin ho h1' ?_ hI))
     · intro a' w' hI'
       refine ih _ _ _ (by simpa using hl) ?_ ?_
       · rw [cntD_set listed i (by omega) h1', if_pos hin]; omega
       · have e : (fun j => (listed.setIfInBounds i true).getD j false) = fun j => listed.getD j false || j == i := by
           funext j
           rw [getD_set _ _ _ (by omega)]
         rw [e]; exact hI'
     · intro e he hbi
       have := Array.all_eq_true'.1 h2 e he
       rw [hbi] at this
       simpa using this
 have hz : ∀ k, (Array.replicate ops.size false).getD k false = false := fun k => by
   rw [Array.getD_eq_getD_getElem?, Array.getElem?_replicate]; split <;> rfl
 refine wp_region_any hm ?_
 refine main _ _ _ _ (by simpa using hn) ?_ ?_
 · have : ∀ k, cntD (Array.replicate ops.size false) k = 0 := by
     intro k
     induction k with
     | zero => rfl
     | succ k ih =>
       rw [cntD, ih, hz]; simp
   rw [this]; omega
 · have e : (fun j => (Array.replicate ops.size false).getD j false) = fun _ => false := funext hz
   rw [e]; exact h0
end
end Go.Proofs.YtkgnlobakicnjaaDoor
