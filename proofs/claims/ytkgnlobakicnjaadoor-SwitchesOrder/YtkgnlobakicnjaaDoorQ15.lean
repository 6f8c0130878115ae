/- Own texts, put together: Ee Ef Eg Eh Bh Bp Bpw. -/
import Derived.Test.YtkgnlobakicnjaaDoorQ8
import Derived.Test.YtkgnlobakicnjaaDoorQ11
import Derived.Below
import Derived.Lib.Join
import Derived.ProofKit
import Derived.OpenShut
import Derived.Laws.Cover2
import Derived.ChangeOld
import Derived.ChangeMaps5
import Derived.Carry
import Derived.Deep.Strs
import Derived.Deep.Slices
import Derived.SizedLaws
namespace Go.Proofs.YtkgnlobakicnjaaDoor
/- Tame and safe, as the document has them: the two questions. -/
section
open Go.RowKit
end

/- What is refused. -/
section
open Go.RowKit
end

/- The steps of sums, halves and products: each is the float that the language has of it. -/
section
open Go.RowKit
structure TwoSum (a b x fb fa lb la y : Nat) : Prop where
 s0 : floatBits .add .f64 a b = some x
 s1 : floatBits .sub .f64 x a = some fb
 s2 : floatBits .sub .f64 x fb = some fa
 s3 : floatBits .sub .f64 b fb = some lb
 s4 : floatBits .sub .f64 a fa = some la
 s5 : floatBits .add .f64 la lb = some y
end

/- awake: the examples. -/
section
open Go.RowKit
theorem ex1 : TwoSum 4845873199050653696 4607182418800017408 4845873199050653696 0 4845873199050653696 4607182418800017408 0 4607182418800017408 := ⟨by decide +kernel, by decide +kernel, by decide +kernel, by decide +kernel, by decide +kernel, by decide +kernel⟩
end

/- Package lines: what is written; allMayBe, sizeOf. -/
section
set_option maxRecDepth 100000
open Go.RowKit Go.Shelf Go.Lib
structure Sl (W : World) (v : Value) (ws : List Bs) : Prop where
 form : ∃ a c, v = .slice a ws.length c ∧ ws.length ≤ c ∧ c ≤ 9223372036854775807 ∧ (ws = [] ∨ ∃ g off, a = some ⟨g, off, none⟩ ∧ g < W.heap.size ∧ ∀ k x, ws[k]? = some x → W.cell? ⟨g, off + k, none⟩ = some (sv x))
 len : ∀ x ∈ ws, x.length ≤ 9223372036854775807
abbrev Lv := List Bs × Value
structure Ll (W : World) (v : Value) (ls : List Lv) : Prop where
 form : ∃ a c, v = .slice a ls.length c ∧ ls.length ≤ c ∧ c ≤ 9223372036854775807 ∧ (ls = [] ∨ ∃ g off, a = some ⟨g, off, none⟩ ∧ g < W.heap.size ∧ ∀ k p, ls[k]? = some p → W.cell? ⟨g, off + k, none⟩ = some p.2)
 sub : ∀ p ∈ ls, Sl W p.2 p.1
theorem cell_later {w w' : World} {n : Nat} (hb : Below n w w') {g o : Nat} (hg : g < n) {v : Value} (h : w.cell? ⟨g, o, none⟩ = some v) : w'.cell? ⟨g, o, none⟩ = some v := (hb.cell (p := ⟨g, o, none⟩) hg).trans h
theorem Sl.later {W W' : World} {v : Value} {ws : List Bs} (h : Sl W v ws) (hb : Below W.heap.size W W') : Sl W' v ws := by
 obtain ⟨⟨a, c, h1, h2, h3, h4⟩, h5⟩ := h
 refine ⟨⟨a, c, h1, h2, h3, ?_⟩, h5⟩
 rcases h4 with h4 | ⟨g, off, h6, h7, h8⟩
 · exact Or.inl h4
 · exact Or.inr ⟨g, off, h6, Nat.lt_of_lt_of_le h7 hb.size, fun k x hk => cell_later hb h7 (h8 k x hk)⟩
theorem Ll.later {W W' : World} {v : Value} {ls : List Lv} (h : Ll W v ls) (hb : Below W.heap.size W W') : Ll W' v ls := by
 obtain ⟨⟨a, c, h1, h2, h3, h4⟩, h5⟩ := h
 refine ⟨⟨a, c, h1, h2, h3, ?_⟩, fun p hp => (h5 p hp).later hb⟩
 rcases h4 with h4 | ⟨g, off, h6, h7, h8⟩
 · exact Or.inl h4
 · exact Or.inr ⟨g, off, h6, Nat.lt_of_lt_of_le h7 hb.size, fun k x hk => cell_later hb h7 (h8 k x hk)⟩
theorem own_cellL {w : World} {base e size n g c j : Nat} {u : Value} {xs : List Value} (h : w.ownsRow base e size (.slice (some ⟨g, 0, none⟩) n c) n xs) (hj : xs[j]? = some u) : w.cell? ⟨g, 0 + j, none⟩ = some u := by
 have := h.cells (g := g) rfl j u hj
 rw [← this]; unfold Addr.add; split
 · rename_i e; rw [e]
 · rfl
theorem Sr.sl {W : World} {B : Nat} {v : Value} {ws : List Bs} (h : Sr W B v ws) (hl : ∀ x ∈ ws, x.length ≤ 9223372036854775807) : Sl W v ws := by
 refine ⟨?_, hl⟩
 have h0 := h
 rcases h.2 with ⟨h1, h2⟩ | ⟨g, cap, cur, rfl, h2, h3, h4, h5, _⟩
 · exact ⟨none, 0, by rw [h1, h2], by omega, by omega, Or.inl (List.length_eq_zero_iff.1 h2)⟩
 · refine ⟨_, cap, rfl, h4, by unfold maxLen at h5; omega, Or.inr ⟨g, 0, rfl, (World.ownsRow.lt h0 g rfl).2, fun k x hk => ?_⟩⟩
   exact own_cellL h0 (by rw [List.getElem?_map, hk]; rfl)
end

/- Lists of lists of texts that are handed in, opened. -/
section
set_option maxRecDepth 100000
open Go.ChangeShapes Go.WideShapes Go.ChangeAt Go.RowKit Go.Deep Go.Lib
theorem uStr9 : Tryd.prog.underlying 9 = some .string := by kernel_rfl
theorem uSs9 : Tryd.prog.underlying 50 = some (.slice 9) := by kernel_rfl
end

/- Lists of lists of texts that are handed in, opened, with their bounds. -/
section
set_option maxRecDepth 100000
open Go.ChangeShapes Go.WideShapes Go.ChangeAt Go.RowKit Go.Deep Go.Lib
theorem weightsAll_mem {H : Type} {P : Program} {e : TypeId} : ∀ {ds : List (DataW H)} {d : DataW H} {n : Nat}, d ∈ ds → n ∈ d.weights P e → n ∈ DataW.weightsAll P e ds := by
 intro ds
 induction ds with
 | nil => intro d n h; simp at h
 | cons a r ih =>
   intro d n h hn
   simp only [DataW.weightsAll, List.mem_append]
   rcases List.mem_cons.1 h with e | e
   · subst e; exact Or.inl hn
   · exact Or.inr (ih e hn)
theorem bStr : Tryd.prog.bytesOf 9 = 16 := by kernel_rfl
set_option maxRecDepth 100000 in
theorem slw_of_trod {H : Type} {enc : TypeId × Value → H} {W : World} {fuel : Nat} {v : Value} {d : DataW H} {pl : List MemPlace} (h : DataW.trod enc Tryd.prog W 0 (fun _ => true) true fuel 50 [v] = some (d, pl)) (hw : ∀ n ∈ d.weights Tryd.prog 50, n ≤ reachBytes) : ∃ ws, Sl W v ws ∧ ws.length ≤ 140737488355328 ∧ ∀ x ∈ ws, x.length ≤ 140737488355328 := by
 rcases open_strs uSs9 uStr9 (by kernel_rfl) h with ⟨hcs, _⟩ | ⟨a, len, cap, m, Sx, hcs, _, hl, hm, hmm, hx0, hx⟩
 · obtain rfl : v = .slice none 0 0 := by simpa using hcs
   exact ⟨[], ⟨⟨none, 0, rfl, by simp, by omega, Or.inl rfl⟩, fun x hx => by simp at hx⟩, by simp, fun x hx => by simp at hx⟩
 · obtain rfl : v = .slice (some a) len cap := by simpa using hcs
   simp only [if_true] at hmm
   have hd : d = .slice ((List.range len).map fun i => .lit (.string (Sx i).data.toList)) ((List.range (m - len)).map fun j => .lit (.string (Sx (len + j)).data.toList)) := congrArg Prod.fst hx0
   subst hd
   have hw1 : len ≤ 140737488355328 := by
     have := hw ((len + (m - len)) * 16) (by simp [DataW.weights, bStr])
     unfold reachBytes at this
     omega
   have hw2 : ∀ i, i < len → (Sx i).data.toList.length ≤ 140737488355328 := fun i hi => by
     have := hw (Sx i).data.toList.length (by
       simp only [DataW.weights, uSs9, List.mem_cons, List.mem_append]
       exact Or.inr (Or.inl (weightsAll_mem (d := .lit (.string (Sx i).data.toList)) (List.mem_map.2 ⟨i, List.mem_range.2 hi, rfl⟩) (by simp [DataW.weights]))))
     unfold reachBytes at this
     omega
   refine ⟨(List.range len).map fun i => (Sx i).data.toList, ⟨⟨some a, cap, by simp, by simpa using hl, by unfold maxLen at hm; omega, ?_⟩, fun x hx' => ?_⟩, by simpa using hw1, fun x hx' => ?_⟩
   · by_cases h0 : len = 0
     · left; subst h0; rfl
     · right
       obtain ⟨b, off, spot⟩ := a
       have hspot : spot = none := by simpa [Addr.add] using World.cell?_spot (hx 0 (by omega)).1
       subst hspot
       refine ⟨b, off, rfl, World.block_lt_of_cell? _ _ (hx 0 (by omega)).1, fun k y hk => ?_⟩
       rw [List.getElem?_map] at hk
       have hlt : k < len := by
         rcases Nat.lt_or_ge k len with e | e
         · exact e
         · rw [List.getElem?_eq_none (by simpa using e)] at hk; cases hk
       rw [List.getElem?_range hlt] at hk
       obtain rfl : (Sx k).data.toList = y := by simpa using hk
       have := (hx k (by omega)).1
       rw [Lib.add_plain] at this
       rw [this]
   · obtain ⟨i, hi, rfl⟩ := List.mem_map.1 hx'
     have := hw2 i (List.mem_range.1 hi)
     omega
   · obtain ⟨i, hi, rfl⟩ := List.mem_map.1 hx'
     exact hw2 i (List.mem_range.1 hi)
end
end Go.Proofs.YtkgnlobakicnjaaDoor
