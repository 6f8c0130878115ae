/- Lists of lists of texts that are handed in, opened, with their bounds. -/
import Derived.Test.YtpjdffjfhnlbjaaBp
import Derived.ProofKit
import Derived.OpenShut
import Derived.Laws.Cover2
import Derived.ChangeOld
import Derived.ChangeMaps5
import Derived.Below
import Derived.Carry
import Derived.Deep.Strs
import Derived.Deep.Slices
import Derived.SizedLaws
namespace Go.Proofs.Ytpjdffjfhnlbjaa
open Go.ChangeShapes Go.WideShapes Go.ChangeAt Go.RowKit Go.Deep Go.Lib

/-- Lists that lie in a machine's memory. -/
structure Rch (ls : List Lv) : Prop where
  len : ls.length ≤ 140737488355328
  sub : ∀ p ∈ ls, p.1.length ≤ 140737488355328 ∧ ∀ x ∈ p.1, x.length ≤ 140737488355328
theorem weightsAll_mem {H : Type} {P : Program} {e : TypeId} : ∀ {ds : List (DataW H)} {d : DataW H} {n : Nat}, d ∈ ds → n ∈ d.weights P e → n ∈ DataW.weightsAll P e ds := by
  intro ds
  induction ds with
  | nil => intro d n h; simp at h
  | cons a r ih =>
    intro d n h hn
    simp only [DataW.weightsAll, List.mem_append]
    rcases List.mem_cons.1 h with e | e
    · subst e; exact Or.inl hn
    · exact Or.inr (ih e hn)
theorem bStr : Try.prog.bytesOf 9 = 16 := by kernel_rfl
theorem bSs : Try.prog.bytesOf 30 = 24 := by kernel_rfl

set_option maxRecDepth 100000 in
theorem slw_of_trod {H : Type} {enc : TypeId × Value → H} {W : World} {fuel : Nat} {v : Value} {d : DataW H} {pl : List MemPlace} (h : DataW.trod enc Try.prog W 0 (fun _ => true) true fuel 30 [v] = some (d, pl)) (hw : ∀ n ∈ d.weights Try.prog 30, n ≤ reachBytes) : ∃ ws, Sl W v ws ∧ ws.length ≤ 140737488355328 ∧ ∀ x ∈ ws, x.length ≤ 140737488355328 := by
  rcases open_strs uSs9 uStr9 (by kernel_rfl) h with ⟨hcs, _⟩ | ⟨a, len, cap, m, Sx, hcs, _, hl, hm, hmm, hx0, hx⟩
  · obtain rfl : v = .slice none 0 0 := by simpa using hcs
    exact ⟨[], ⟨⟨none, 0, rfl, by simp, by omega, Or.inl rfl⟩, fun x hx => by simp at hx⟩, by simp, fun x hx => by simp at hx⟩
  · obtain rfl : v = .slice (some a) len cap := by simpa using hcs
    simp only [if_true] at hmm
    have hd : d = .slice ((List.range len).map fun i => .lit (.string (Sx i).data.toList)) ((List.range (m - len)).map fun j => .lit (.string (Sx (len + j)).data.toList)) := congrArg Prod.fst hx0
    subst hd
    have hw1 : len ≤ 140737488355328 := by
      have := hw ((len + (m - len)) * 16) (by simp [DataW.weights, bStr])
      unfold reachBytes at this
      omega
    have hw2 : ∀ i, i < len → (Sx i).data.toList.length ≤ 140737488355328 := fun i hi => by
      have := hw (Sx i).data.toList.length (by
        simp only [DataW.weights, uSs9, List.mem_cons, List.mem_append]
        exact Or.inr (Or.inl (weightsAll_mem (d := .lit (.string (Sx i).data.toList)) (List.mem_map.2 ⟨i, List.mem_range.2 hi, rfl⟩) (by simp [DataW.weights]))))
      unfold reachBytes at this
      omega
    refine ⟨(List.range len).map fun i => (Sx i).data.toList, ⟨⟨some a, cap, by simp, by simpa using hl, by unfold maxLen at hm; omega, ?_⟩, fun x hx' => ?_⟩, by simpa using hw1, fun x hx' => ?_⟩
    · by_cases h0 : len = 0
      · left; subst h0; rfl
      · right
        obtain ⟨b, off, spot⟩ := a
        have hspot : spot = none := by simpa [Addr.add] using World.cell?_spot (hx 0 (by omega)).1
        subst hspot
        refine ⟨b, off, rfl, World.block_lt_of_cell? _ _ (hx 0 (by omega)).1, fun k y hk => ?_⟩
        rw [List.getElem?_map] at hk
        have hlt : k < len := by
          rcases Nat.lt_or_ge k len with e | e
          · exact e
          · rw [List.getElem?_eq_none (by simpa using e)] at hk; cases hk
        rw [List.getElem?_range hlt] at hk
        obtain rfl : (Sx k).data.toList = y := by simpa using hk
        have := (hx k (by omega)).1
        rw [add_plain] at this
        rw [this]
    · obtain ⟨i, hi, rfl⟩ := List.mem_map.1 hx'
      have := hw2 i (List.mem_range.1 hi)
      omega
    · obtain ⟨i, hi, rfl⟩ := List.mem_map.1 hx'
      exact hw2 i (List.mem_range.1 hi)

set_option maxRecDepth 100000 in
theorem open_llw {H : Type} {enc : TypeId × Value → H} {W : World} {b0 : Nat} {r : Reach} {v : Value} {d : DataW H} {ps : List MemPlace} (hval : Value.okWide Try.prog W r b0 31 v) (h : DataW.Trod enc Try.prog W 0 (fun _ => true) true 31 v d ps) (hw : ∀ n ∈ d.weights Try.prog 31, n ≤ reachBytes) : ∃ ls, Ll W v ls ∧ Rch ls := by
  obtain ⟨a, len, cap, rfl⟩ := okWide_slice uLl9 hval
  obtain ⟨fuel, hf⟩ := h
  rcases open_slice1 uLl9 (by kernel_rfl) hf with ⟨hcs, _⟩ | ⟨a', len', cap', m, n, V, D, Pl, hcs, _, hl, hm, hmm, hx0, hx⟩
  · simp [Value.cells] at hcs
    obtain ⟨rfl, rfl, rfl⟩ := hcs
    exact ⟨[], ⟨⟨none, 0, rfl, by simp, by omega, Or.inl rfl⟩, fun p hp => by simp at hp⟩, by simp, fun p hp => by simp at hp⟩
  · simp [Value.cells] at hcs
    obtain ⟨rfl, rfl, rfl⟩ := hcs
    simp only [if_true] at hmm
    have hd : d = .slice ((List.range len).map D) ((List.range (m - len)).map fun j => D (len + j)) := congrArg Prod.fst hx0
    subst hd
    have hw1 : len ≤ 140737488355328 := by
      have := hw ((len + (m - len)) * 24) (by simp [DataW.weights, bSs])
      unfold reachBytes at this
      omega
    have key : ∀ i, i < len → ∃ ws, Sl W (V i) ws ∧ ws.length ≤ 140737488355328 ∧ ∀ x ∈ ws, x.length ≤ 140737488355328 := fun i hi => slw_of_trod (hx i (by omega)).2 (fun n hn => hw n (by
        simp only [DataW.weights, uLl9, List.mem_cons, List.mem_append]
        exact Or.inr (Or.inl (weightsAll_mem (d := D i) (List.mem_map.2 ⟨i, List.mem_range.2 hi, rfl⟩) hn))))
    obtain ⟨q, hq⟩ := choose_lt key
    refine ⟨(List.range len).map fun i => (q i, V i), ⟨⟨some a', cap, by simp, by simpa using hl, by unfold maxLen at hm; omega, ?_⟩, fun p hp => ?_⟩, by simpa using hw1, fun p hp => ?_⟩
    · by_cases h0 : len = 0
      · left; subst h0; rfl
      · right
        obtain ⟨b, off, spot⟩ := a'
        have hspot : spot = none := by simpa [Addr.add] using World.cell?_spot (hx 0 (by omega)).1
        subst hspot
        refine ⟨b, off, rfl, World.block_lt_of_cell? _ _ (hx 0 (by omega)).1, fun k y hk => ?_⟩
        rw [List.getElem?_map] at hk
        have hlt : k < len := by
          rcases Nat.lt_or_ge k len with e | e
          · exact e
          · rw [List.getElem?_eq_none (by simpa using e)] at hk; cases hk
        rw [List.getElem?_range hlt] at hk
        obtain rfl : (q k, V k) = y := by simpa using hk
        have := (hx k (by omega)).1
        rw [add_plain] at this
        rw [this]
    · obtain ⟨i, hi, rfl⟩ := List.mem_map.1 hp
      exact (hq i (List.mem_range.1 hi)).1
    · obtain ⟨i, hi, rfl⟩ := List.mem_map.1 hp
      exact (hq i (List.mem_range.1 hi)).2
end Go.Proofs.Ytpjdffjfhnlbjaa
