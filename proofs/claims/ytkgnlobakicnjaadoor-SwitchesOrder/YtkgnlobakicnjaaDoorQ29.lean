/- Own texts, put together: Yzh. -/
import Derived.Test.YtkgnlobakicnjaaDoorQ15
import Derived.Test.YtkgnlobakicnjaaDoorQ28
/- Lists of texts and lists of whole numbers that are handed in, opened. -/
namespace Go.Proofs.YtkgnlobakicnjaaDoor
set_option maxRecDepth 100000
open Go.ChangeShapes Go.WideShapes Go.ChangeAt Go.RowKit Go.Deep Go.Lib
theorem open_slw {H : Type} {enc : TypeId × Value → H} {W : World} {b0 : Nat} {r : Reach} {v : Value} {d : DataW H} {ps : List MemPlace} (hval : Value.okWide Tryd.prog W r b0 50 v) (h : DataW.Trod enc Tryd.prog W 0 (fun _ => true) true 50 v d ps) (hw : ∀ n ∈ d.weights Tryd.prog 50, n ≤ reachBytes) : ∃ ws, Sl W v ws ∧ ∀ x ∈ ws, x.length ≤ 140737488355328 := by
 obtain ⟨a, len, cap, rfl⟩ := okWide_slice uSs9 hval
 obtain ⟨fuel, hf⟩ := h
 obtain ⟨ws, h1, _, h3⟩ := slw_of_trod (by simpa [Value.cells] using hf) hw
 exact ⟨ws, h1, h3⟩
theorem uIsY : Tryd.prog.underlying 35 = some (.slice 3) := by kernel_rfl
theorem uIntY : Tryd.prog.underlying 3 = some (.int .i64) := by kernel_rfl
theorem open_isY {H : Type} {enc : TypeId × Value → H} {W : World} {b0 : Nat} {r : Reach} {v : Value} {d : DataW H} {ps : List MemPlace} (hval : Value.okWide Tryd.prog W r b0 35 v) (h : DataW.Trod enc Tryd.prog W 0 (fun _ => true) true 35 v d ps) : ∃ ns, Iy W v ns := by
 obtain ⟨a, len, cap, rfl⟩ := okWide_slice uIsY hval
 obtain ⟨fuel, hf⟩ := h
 rcases open_ints uIsY uIntY (by kernel_rfl) hf with ⟨hcs, _⟩ | ⟨a', len', cap', zs, hcs, _, hl, hm, hz, _, hc, _⟩
 · simp [Value.cells] at hcs
   obtain ⟨rfl, rfl, rfl⟩ := hcs
   exact ⟨[], ⟨none, 0, rfl, Or.inl rfl⟩⟩
 · simp [Value.cells] at hcs
   obtain ⟨rfl, rfl, rfl⟩ := hcs
   simp only [if_true] at hz
   refine ⟨zs.take len, ⟨some a', cap, by rw [List.length_take, hz, Nat.min_eq_left hl], ?_⟩⟩
   by_cases h0 : len = 0
   · left; subst h0; rfl
   · right
     obtain ⟨b, off, spot⟩ := a'
     have hspot : spot = none := by simpa [Addr.add] using World.cell?_spot (hc 0 (by omega))
     subst hspot
     refine ⟨b, off, rfl, World.block_lt_of_cell? _ _ (hc 0 (by omega)), fun k y hk => ?_⟩
     rw [List.getElem?_take] at hk
     split at hk
     · have hlt := (List.getElem?_eq_some_iff.1 hk).1
       have h9 := hc k hlt
       rw [Lib.add_plain] at h9
       rw [h9]
       have : zs.getD k 0 = y := by rw [List.getD_eq_getElem?_getD, hk]; rfl
       rw [this]
     · cases hk
end Go.Proofs.YtkgnlobakicnjaaDoor
