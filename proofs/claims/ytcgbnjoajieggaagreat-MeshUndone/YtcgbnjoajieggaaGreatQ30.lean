/- Own texts, put together: Ac Ss. -/
import Derived.Test.YtcgbnjoajieggaaGreatQ3
import Derived.Test.YtcgbnjoajieggaaGreatQ4
import Derived.Test.YtcgbnjoajieggaaGreatQ28
import Derived.Sort.Grow
import Derived.ProofKit
import Derived.OpenShut
import Derived.Laws.Cover2
import Derived.ChangeOld
import Derived.Below
import Derived.Carry
import Derived.Deep.SlicePairs
namespace Go.Proofs.YtcgbnjoajieggaaGreat
/- Package admit: two points held against each other. -/
section
open Go.RowKit Go.Shelf Go.Sort
attribute [local go_sem ↓] Go.wp_at_zero Go.wp_at_succ
attribute [local go_sem] run_store_float
def GrW (w W : World) : Prop := ∃ q os, W = grow (w.drewN q) os
theorem GrW.refl (w : World) : GrW w w := ⟨0, #[], by rw [grow_empty]; rfl⟩
theorem GrW.alloc {w W : World} (h : GrW w W) (o : Obj) : GrW w (W.alloc o) := by
 obtain ⟨q, os, rfl⟩ := h
 exact ⟨q, os ++ #[o], by rw [alloc_eq_grow, grow_grow]⟩
theorem GrW.drew {w W : World} (h : GrW w W) : GrW w W.drew := by
 obtain ⟨q, os, rfl⟩ := h
 exact ⟨q + 1, os, rfl⟩
theorem GrW.trans {w W V : World} (h : GrW w W) (h' : GrW W V) : GrW w V := by
 obtain ⟨q, os, rfl⟩ := h
 obtain ⟨q', os', rfl⟩ := h'
 refine ⟨q + q', os ++ os', ?_⟩
 show grow (grow ((w.drewN q).drewN q') os) os' = _
 rw [grow_grow]
 congr 1
 simp [World.drewN, Nat.add_assoc]
theorem GrW.below {w W : World} (h : GrW w W) : Below w.heap.size w W := by
 obtain ⟨q, os, rfl⟩ := h
 refine ⟨rfl, rfl, rfl, by simp [grow, World.drewN], fun k hk => ?_⟩
 show (w.heap ++ os)[k]? = _
 rw [Array.getElem?_append_left hk]
end

/- A slice of points that is handed in, opened. -/
section
open Go.ChangeShapes Go.WideShapes Go.ChangeAt Go.RowKit Go.Deep
theorem uFloat7 : Tryz.prog.underlying 33 = some (.float .f64) := by kernel_rfl
theorem uSl7 : Tryz.prog.underlying 27 = some (.slice 36) := by kernel_rfl
theorem float_of_trod7 {H : Type} {enc : TypeId × Value → H} {P : Program} {w : World} {base m : Nat} {sp : Nat → Bool} {held : Bool} {e : TypeId} {c : Value} {x : DataW H × List MemPlace}
   (he : P.underlying e = some (.float .f64)) (h : DataW.trod enc P w base sp held m e [c] = some x) : ∃ b, c = .float .f64 b ∧ b < 18446744073709551616 := by
 cases m with
 | zero => simp [DataW.trod] at h
 | succ m =>
   unfold DataW.trod at h
   rw [he] at h
   cases c with
   | float k b =>
     simp only [] at h
     split at h
     · rename_i hk
       obtain ⟨rfl, hw⟩ := hk
       exact ⟨b, rfl, by simpa [Lit.wf, FloatKind.has] using hw⟩
     · cases h
   | _ => simp at h
set_option maxRecDepth 100000 in
theorem open_ps {H : Type} {enc : TypeId × Value → H} {W : World} {b0 : Nat} {r : Reach} {v : Value} {d : DataW H} {ps : List MemPlace} (hval : Value.okWide Tryz.prog W r b0 27 v) (h : DataW.Trod enc Tryz.prog W 0 (fun _ => true) true 27 v d ps) :
   ∃ n f, Ps W v n f := by
 obtain ⟨a, len, cap, rfl⟩ := okWide_slice uSl7 hval
 obtain ⟨fuel, hf⟩ := h
 rcases open_slice_pairs uSl7 Tryz.underlying36 (by kernel_rfl) rfl rfl (by kernel_rfl) (by kernel_rfl) hf with ⟨hcs, _⟩ | ⟨a', len', cap', m, nn, V0, V1, D0, D1, P0, P1, hcs, _, hl, hm, hmm, _, hx⟩
 · simp [Value.cells] at hcs
   obtain ⟨rfl, rfl, rfl⟩ := hcs
   exact ⟨0, fun _ => (0, 0), ⟨none, 0, rfl, by simp, by omega, Or.inl rfl⟩, fun _ => by unfold WdP; decide⟩
 · simp [Value.cells] at hcs
   obtain ⟨rfl, rfl, rfl⟩ := hcs
   simp only [if_true] at hmm
   have key : ∀ i, i < len → ∃ p : Nat × Nat, (V0 i = .float .f64 p.1 ∧ V1 i = .float .f64 p.2) ∧ WdP p := fun i hi => by
     obtain ⟨x, e1, h1⟩ := float_of_trod7 uFloat7 (hx i (by omega)).2.2.1
     obtain ⟨y, e2, h2⟩ := float_of_trod7 uFloat7 (hx i (by omega)).2.2.2
     exact ⟨(x, y), ⟨e1, e2⟩, h1, h2⟩
   obtain ⟨q, hq⟩ := choose_lt key
   refine ⟨len, fun k => if k < len then q k else (0, 0), ⟨some a', cap, rfl, by omega, by unfold maxLen at hm; omega, ?_⟩, fun k => ?_⟩
   · by_cases h0 : len = 0
     · exact Or.inl h0
     · right
       obtain ⟨b, off, spot⟩ := a'
       have hspot : spot = none := by simpa [Addr.add] using World.cell?_spot (hx 0 (by omega)).1
       subst hspot
       have h1 := fun k (hk : k < len) => (hx k (by omega)).1
       have h2 := fun k (hk : k < len) => (hx k (by omega)).2.1
       refine ⟨b, off, rfl, World.block_lt_of_cell? _ _ (h1 0 (by omega)), fun k hk => ?_⟩
       rw [if_pos hk]
       have e1 := h1 k hk
       have e2 := h2 k hk
       rw [(hq k hk).1.1, Addr.add_lit] at e1
       rw [(hq k hk).1.2, Addr.add_lit] at e2
       exact ⟨e1, by rw [Nat.add_assoc]; exact e2⟩
   · by_cases hk : k < len
     · rw [if_pos hk]; exact (hq k hk).2
     · rw [if_neg hk]; unfold WdP; decide
end
end Go.Proofs.YtcgbnjoajieggaaGreat
