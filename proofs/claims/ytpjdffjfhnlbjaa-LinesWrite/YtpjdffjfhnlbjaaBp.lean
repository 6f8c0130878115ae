/- Lists of lists of texts that are handed in, opened. -/
import Derived.Test.YtpjdffjfhnlbjaaBh
import Derived.ProofKit
import Derived.OpenShut
import Derived.Laws.Cover2
import Derived.ChangeOld
import Derived.ChangeMaps5
import Derived.Below
import Derived.Carry
import Derived.Deep.Strs
import Derived.Deep.Slices
namespace Go.Proofs.Ytpjdffjfhnlbjaa
open Go.ChangeShapes Go.WideShapes Go.ChangeAt Go.RowKit Go.Deep Go.Lib

theorem uStr9 : Try.prog.underlying 9 = some .string := by kernel_rfl
theorem uSs9 : Try.prog.underlying 30 = some (.slice 9) := by kernel_rfl
theorem uLl9 : Try.prog.underlying 31 = some (.slice 30) := by kernel_rfl

set_option maxRecDepth 100000 in
theorem sl_of_trod {H : Type} {enc : TypeId × Value → H} {W : World} {fuel : Nat} {v : Value} {x : DataW H × List MemPlace} (h : DataW.trod enc Try.prog W 0 (fun _ => true) true fuel 30 [v] = some x) : ∃ ws, Sl W v ws := by
  rcases open_strs uSs9 uStr9 (by kernel_rfl) h with ⟨hcs, _⟩ | ⟨a, len, cap, m, Sx, hcs, _, hl, hm, hmm, _, hx⟩
  · obtain rfl : v = .slice none 0 0 := by simpa using hcs
    exact ⟨[], ⟨none, 0, rfl, by simp, by omega, Or.inl rfl⟩, fun x hx => by simp at hx⟩
  · obtain rfl : v = .slice (some a) len cap := by simpa using hcs
    simp only [if_true] at hmm
    refine ⟨(List.range len).map fun i => (Sx i).data.toList, ⟨some a, cap, by simp, by simpa using hl, by unfold maxLen at hm; omega, ?_⟩, fun x hx' => ?_⟩
    · by_cases h0 : len = 0
      · left; subst h0; rfl
      · right
        obtain ⟨b, off, spot⟩ := a
        have hspot : spot = none := by simpa [Addr.add] using World.cell?_spot (hx 0 (by omega)).1
        subst hspot
        refine ⟨b, off, rfl, World.block_lt_of_cell? _ _ (hx 0 (by omega)).1, fun k y hk => ?_⟩
        rw [List.getElem?_map] at hk
        have hlt : k < len := by
          rcases Nat.lt_or_ge k len with e | e
          · exact e
          · rw [List.getElem?_eq_none (by simpa using e)] at hk; cases hk
        rw [List.getElem?_range hlt] at hk
        obtain rfl : (Sx k).data.toList = y := by simpa using hk
        have := (hx k (by omega)).1
        rw [add_plain] at this
        rw [this]
    · obtain ⟨i, hi, rfl⟩ := List.mem_map.1 hx'
      have := (hx i (by have := List.mem_range.1 hi; omega)).2
      rw [Lib.size_eq] at this
      unfold maxLen at this
      omega

set_option maxRecDepth 100000 in
theorem open_ll {H : Type} {enc : TypeId × Value → H} {W : World} {b0 : Nat} {r : Reach} {v : Value} {d : DataW H} {ps : List MemPlace} (hval : Value.okWide Try.prog W r b0 31 v) (h : DataW.Trod enc Try.prog W 0 (fun _ => true) true 31 v d ps) : ∃ ls, Ll W v ls := by
  obtain ⟨a, len, cap, rfl⟩ := okWide_slice uLl9 hval
  obtain ⟨fuel, hf⟩ := h
  rcases open_slice1 uLl9 (by kernel_rfl) hf with ⟨hcs, _⟩ | ⟨a', len', cap', m, n, V, D, Pl, hcs, _, hl, hm, hmm, _, hx⟩
  · simp [Value.cells] at hcs
    obtain ⟨rfl, rfl, rfl⟩ := hcs
    exact ⟨[], ⟨none, 0, rfl, by simp, by omega, Or.inl rfl⟩, fun p hp => by simp at hp⟩
  · simp [Value.cells] at hcs
    obtain ⟨rfl, rfl, rfl⟩ := hcs
    simp only [if_true] at hmm
    have key : ∀ i, i < len → ∃ ws, Sl W (V i) ws := fun i hi => sl_of_trod (hx i (by omega)).2
    obtain ⟨q, hq⟩ := choose_lt key
    refine ⟨(List.range len).map fun i => (q i, V i), ⟨some a', cap, by simp, by simpa using hl, by unfold maxLen at hm; omega, ?_⟩, fun p hp => ?_⟩
    · by_cases h0 : len = 0
      · left; subst h0; rfl
      · right
        obtain ⟨b, off, spot⟩ := a'
        have hspot : spot = none := by simpa [Addr.add] using World.cell?_spot (hx 0 (by omega)).1
        subst hspot
        refine ⟨b, off, rfl, World.block_lt_of_cell? _ _ (hx 0 (by omega)).1, fun k y hk => ?_⟩
        rw [List.getElem?_map] at hk
        have hlt : k < len := by
          rcases Nat.lt_or_ge k len with e | e
          · exact e
          · rw [List.getElem?_eq_none (by simpa using e)] at hk; cases hk
        rw [List.getElem?_range hlt] at hk
        obtain rfl : (q k, V k) = y := by simpa using hk
        have := (hx k (by omega)).1
        rw [add_plain] at this
        rw [this]
    · obtain ⟨i, hi, rfl⟩ := List.mem_map.1 hp
      exact hq i (List.mem_range.1 hi)
end Go.Proofs.Ytpjdffjfhnlbjaa
