/- The document's side of layer 9: Write. -/
import Derived.Test.YtpjdffjfhnlbjaaBo
import Derived.Test.YtpjdffjfhnlbjaaBr
import Derived.Deep.DeepCutAuto
import Derived.Laws.IdiomStrings
import Derived.Laws.BytesArg
import Derived.Lib.AppendStr
namespace Go.Proofs.Ytpjdffjfhnlbjaa
open Go.RowKit Go.Shelf Go.Lib

theorem lineW_may {x : Bs} (h : mayW x = true) : lineW x = [x] := by
  have hg := may_gd h
  unfold lineW ahd
  rw [(cut_none (fun e => (gd_ne (hg.2 _ e)).1 rfl)).1, toks_none (fun c hc => (gd_ne (hg.2 c hc)).2), one_ne hg.1]
/-- What the document asks of a word that is to be written. -/
theorem may_iff (x : Bs) : mayW x = true ↔ (lineW x).all mayW = true ∧ (lineW x).length = 1 ∧ (lineW x).head? = some x := by
  constructor
  · intro h
    rw [lineW_may h]
    exact ⟨by simp [h], rfl, rfl⟩
  · rintro ⟨h1, h2, h3⟩
    rw [List.all_eq_true] at h1
    refine h1 x ?_
    cases hl : lineW x with
    | nil => rw [hl] at h3; cases h3
    | cons a r =>
      rw [hl] at h3
      obtain rfl : a = x := by simpa using h3
      simp
/-- What words tells of a word, as Write asks it: may it be? -/
theorem refWord_any (q : ByteArray) (x : Bs) (W : World) (hq : q.data.toList = x) (hl : x.length ≤ 1000000000) : Calls Try.prog 25 #[.string q] W fun e w' => Below W.heap.size W w' ∧
    ((mayW x = true ∧ ∃ g c, e = .returned (.tuple #[.slice (some ⟨g, 0, none⟩) 1 c, .bool true]) ∧ w'.cell? ⟨g, 0, none⟩ = some (.string q) ∧ 1 ≤ c ∧ c ≤ 9223372036854775807) ∨
     (mayW x = false ∧ (e = .returned (.tuple #[.slice none 0 0, .bool false]) ∨ (∃ a n c, e = .returned (.tuple #[.slice a n c, .bool true]) ∧ n ≠ 1 ∧ n ≤ 1000000001) ∨ ∃ g c q', e = .returned (.tuple #[.slice (some ⟨g, 0, none⟩) 1 c, .bool true]) ∧ w'.cell? ⟨g, 0, none⟩ = some (.string q') ∧ (q'.toList == q.toList) = false ∧ 1 ≤ c ∧ c ≤ 9223372036854775807))) := by
  refine (refWords_any q x W hq hl).mono ?_
  rintro e w' ⟨⟨v, rfl, h1, h2⟩, hb⟩
  refine ⟨hb, ?_⟩
  have hi := may_iff x
  cases hall : (lineW x).all mayW with
  | false =>
    refine Or.inr ⟨?_, Or.inl ?_⟩
    · cases hm : mayW x with
      | false => rfl
      | true => have := (hi.1 hm).1; rw [hall] at this; cases this
    · rw [h2 hall]
  | true =>
    have hS := h1 hall
    by_cases hn : (lineW x).length = 1
    · have hpos : 0 < (lineW x).length := by omega
      obtain ⟨g, c, rfl, hc1, hc2⟩ : ∃ g c, v = .slice (some ⟨g, 0, none⟩) 1 c ∧ 1 ≤ c ∧ c ≤ 9223372036854775807 := by
        rcases hS.2 with ⟨_, h7⟩ | ⟨g, cap, cur, h7, _, _, h8, h9, _⟩
        · omega
        · rw [hn] at h7 h8
          exact ⟨g, cap, h7, h8, by unfold maxLen at h9; omega⟩
      have hS' := hS
      unfold Sr at hS'
      rw [hn] at hS'
      have hc := own_cell (j := 0) hS' (by rw [List.getElem?_map, List.getElem?_eq_getElem hpos]; rfl)
      have hc' : w'.cell? ⟨g, 0, none⟩ = some (sv (lineW x)[0]) := hc
      by_cases he : (lineW x)[0] = x
      · refine Or.inl ⟨hi.2 ⟨hall, hn, by rw [List.head?_eq_getElem?, List.getElem?_eq_getElem hpos, he]⟩, g, c, rfl, ?_, hc1, hc2⟩
        rw [hc', he, ← hq]
      · refine Or.inr ⟨?_, Or.inr (Or.inr ⟨g, c, ⟨(lineW x)[0].toArray⟩, rfl, hc', ?_, hc1, hc2⟩)⟩
        · cases hm : mayW x with
          | false => rfl
          | true =>
            have := (hi.1 hm).2.2
            rw [List.head?_eq_getElem?, List.getElem?_eq_getElem hpos] at this
            exact absurd (Option.some.inj this) he
        · rw [Lib.toList_data, Lib.toList_data, hq, beq_eq_false_iff_ne]; exact he
    · obtain ⟨a, c, rfl, _, _⟩ := hS.form
      refine Or.inr ⟨?_, Or.inr (Or.inl ⟨a, _, c, rfl, hn, ?_⟩)⟩
      · cases hm : mayW x with
        | false => rfl
        | true => exact absurd (hi.1 hm).2.1 hn
      · have g1 := toks_len (ahd x)
        have g2 : (ahd x).length ≤ x.length := cutT_len _ _
        show (toks (ahd x)).length ≤ _
        omega
end Go.Proofs.Ytpjdffjfhnlbjaa
