/- Own texts, put together: Qbc. -/
import Derived.Test.YtofklahgpkmfmaaGreatDoorQ42
import Derived.Test.YtofklahgpkmfmaaGreatDoorQ48
/- Bytes that are handed in, opened. -/
namespace Go.Proofs.YtofklahgpkmfmaaGreatDoor
set_option maxRecDepth 100000
open Go.ChangeShapes Go.WideShapes Go.ChangeAt Go.RowKit Go.Deep Go.Lib Go.Joins
theorem uU8x : Tryz.prog.underlying 5 = some (.int .u8) := by kernel_rfl
theorem uBy10 : Tryz.prog.underlying 66 = some (.slice 5) := by kernel_rfl
theorem byte_trod10 {H : Type} {enc : TypeId × Value → H} {P : Program} {w : World} {base m : Nat} {sp : Nat → Bool} {held : Bool} {e : TypeId} {c : Value} {x : DataW H × List MemPlace}
   (he : P.underlying e = some (.int .u8)) (h : DataW.trod enc P w base sp held m e [c] = some x) : ∃ n : Nat, c = .int .u8 ((n : Nat) : Int) := by
 cases m with
 | zero => simp [DataW.trod] at h
 | succ m =>
   unfold DataW.trod at h
   rw [he] at h
   cases c with
   | int k b =>
     simp only [] at h
     split at h
     · rename_i hk
       obtain ⟨rfl, hw⟩ := hk
       simp only [Lit.wf, Bool.and_eq_true, decide_eq_true_eq] at hw
       have h0 : 0 ≤ b := hw.1
       exact ⟨b.toNat, by rw [Int.toNat_of_nonneg h0]⟩
     · cases h
   | _ => simp at h
theorem open_bytes10 {H : Type} {enc : TypeId × Value → H} {W : World} {b0 : Nat} {r : Reach} {v : Value} {d : DataW H} {ps : List MemPlace} (hval : Value.okWide Tryz.prog W r b0 66 v) (h : DataW.Trod enc Tryz.prog W 0 (fun _ => true) true 66 v d ps) : ∃ pl, By W v pl := by
 obtain ⟨a, len, cap, rfl⟩ := okWide_slice uBy10 hval
 obtain ⟨fuel, hf⟩ := h
 rcases open_slice1 uBy10 (by kernel_rfl) hf with ⟨hcs, _⟩ | ⟨a', len', cap', m, n, V, D, Pl, hcs, _, hl, hm, hmm, _, hx⟩
 · simp [Value.cells] at hcs
   obtain ⟨rfl, rfl, rfl⟩ := hcs
   exact ⟨[], none, 0, rfl, by simp, by omega, Or.inl rfl⟩
 · simp [Value.cells] at hcs
   obtain ⟨rfl, rfl, rfl⟩ := hcs
   simp only [if_true] at hmm
   have key : ∀ i, i < len → ∃ b : Nat, V i = .int .u8 ((b : Nat) : Int) := fun i hi => byte_trod10 uU8x (hx i (by omega)).2
   obtain ⟨q, hq⟩ := choose_lt key
   refine ⟨(List.range len).map q, some a', cap, by simp, by simpa using hl, by unfold maxLen at hm; omega, ?_⟩
   by_cases h0 : len = 0
   · left; subst h0; rfl
   · right
     obtain ⟨b, off, spot⟩ := a'
     have hspot : spot = none := by simpa [Addr.add] using World.cell?_spot (hx 0 (by omega)).1
     subst hspot
     refine ⟨b, off, rfl, World.block_lt_of_cell? _ _ (hx 0 (by omega)).1, fun k hk => ?_⟩
     have hlt : k < len := by simpa using hk
     have := (hx k (by omega)).1
     rw [WideShapes.add_plain, hq k hlt] at this
     rw [this]
     simp [List.getD, List.getElem?_range hlt]
end Go.Proofs.YtofklahgpkmfmaaGreatDoor
