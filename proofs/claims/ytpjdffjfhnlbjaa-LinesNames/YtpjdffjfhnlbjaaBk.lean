/- The document's side of layer 9: words. -/
import Derived.Test.YtpjdffjfhnlbjaaBj
namespace Go.Proofs.Ytpjdffjfhnlbjaa
open Go.RowKit Go.Shelf Go.Lib

theorem ahd_app {a r : Bs} (h : ∀ x ∈ a, x ≠ 35) : ahd (a ++ r) = a ++ ahd r := by
  unfold ahd cutT
  induction a with
  | nil => rfl
  | cons x a ih =>
    rw [List.cons_append, List.takeWhile_cons_of_pos (p := fun y => y != 35) (by simpa using h x (by simp)), ih (fun y hy => h y (by simp [hy])), List.cons_append]
theorem ahd_stop (r : Bs) : ahd (35 :: r) = [] := by simp [ahd, cutT]
theorem ahd_cons {c : UInt8} {r : Bs} (h : c ≠ 35) : ahd (c :: r) = c :: ahd r := ahd_app (a := [c]) (fun x hx => by rw [List.mem_singleton.1 hx]; exact h)
theorem tok_mem {c : UInt8} (hc : bl c = false) : ∀ {l : Bs}, c ∈ l → ∃ t ∈ toks l, c ∈ t := by
  have key : ∀ {l : Bs}, c ∈ l → ∃ t ∈ spl bl l, c ∈ t := by
    intro l
    induction l with
    | nil => intro h; simp at h
    | cons a r ih =>
      intro h
      rw [spl]
      by_cases hp : bl a = true
      · rw [if_pos hp]
        rcases List.mem_cons.1 h with e | e
        · rw [e, hp] at hc; cases hc
        · obtain ⟨t, h1, h2⟩ := ih e
          exact ⟨t, by simp [h1], h2⟩
      · rw [if_neg hp]
        split
        · rename_i e; exact absurd e (spl_ne _ _)
        · rename_i x y e
          rcases List.mem_cons.1 h with e2 | e2
          · exact ⟨a :: x, by simp, by simp [e2]⟩
          · obtain ⟨t, h1, h2⟩ := ih e2
            rw [e] at h1
            rcases List.mem_cons.1 h1 with e3 | e3
            · exact ⟨a :: x, by simp, by rw [e3] at h2; simp [h2]⟩
            · exact ⟨t, by simp [e3], h2⟩
  intro l h
  obtain ⟨t, h1, h2⟩ := key h
  refine ⟨t, ?_, h2⟩
  unfold toks
  rw [List.mem_filter]
  refine ⟨h1, ?_⟩
  cases t with
  | nil => simp at h2
  | cons a r => rfl
theorem gd_ne {c : UInt8} (h : gd c = true) : c ≠ 35 ∧ bl c = false := by
  unfold gd at h
  simp at h
  refine ⟨fun e => ?_, ?_⟩
  · rw [e] at h; exact absurd h.2 (by decide)
  · unfold bl; simp; omega

/-- What has been gathered when k bytes are over, the last word having begun at st. -/
structure WInv (l : Bs) (st k : Nat) (ts : List Bs) : Prop where
  all : ts ++ toks (ahd (l.drop st)) = lineW l
  may : ∀ x ∈ ts, mayW x = true
  gds : ∀ c ∈ (l.drop st).take (k - st), gd c = true
  le : st ≤ k
theorem WInv.start (l : Bs) : WInv l 0 0 [] := ⟨rfl, fun x hx => by simp at hx, fun c hc => by simp at hc, Nat.le_refl _⟩
abbrev cw (l : Bs) (st k : Nat) : Bs := (l.drop st).take (k - st)
theorem cw_len {l : Bs} {st k : Nat} (hk : k ≤ l.length) : (cw l st k).length = k - st := by
  rw [List.length_take, List.length_drop]; omega
theorem cw_drop {l : Bs} {st k : Nat} (h : st ≤ k) : l.drop st = cw l st k ++ l.drop k := by
  have := (List.take_append_drop (k - st) (l.drop st)).symm
  rw [List.drop_drop, show st + (k - st) = k by omega] at this
  exact this
theorem WInv.ahd {l : Bs} {st k : Nat} {ts : List Bs} (h : WInv l st k ts) : Go.Proofs.Ytpjdffjfhnlbjaa.ahd (l.drop st) = cw l st k ++ Go.Proofs.Ytpjdffjfhnlbjaa.ahd (l.drop k) := by
  rw [cw_drop (l := l) h.le, ahd_app (fun x hx => (gd_ne (h.gds x hx)).1)]
theorem mayW_gds {x : Bs} (h : ∀ c ∈ x, gd c = true) (h0 : x ≠ []) (hl : x.length ≤ 400) : mayW x = true := mayW_yes h0 hl (fun _ hj => h _ (List.getElem_mem hj))
/-- The words are over, or a blank comes: what is told then. -/
theorem WInv.long {l : Bs} {st k : Nat} {ts r : List Bs} (h : WInv l st k ts) (he : toks (Go.Proofs.Ytpjdffjfhnlbjaa.ahd (l.drop st)) = one (cw l st k) ++ r) (hl : 400 < (cw l st k).length) : (lineW l).all mayW = false := by
  rw [List.all_eq_false]
  refine ⟨cw l st k, ?_, ?_⟩
  · rw [← h.all, he, one_ne (fun e => by rw [e] at hl; simp at hl)]; simp
  · unfold mayW; rw [decide_eq_false (by omega : ¬ (cw l st k).length ≤ 400)]; simp
theorem WInv.more {l : Bs} {st k : Nat} {ts : List Bs} {r : List Bs} (h : WInv l st k ts) (he : toks (Go.Proofs.Ytpjdffjfhnlbjaa.ahd (l.drop st)) = one (cw l st k) ++ r) (hl : (cw l st k).length ≤ 400) : (ts ++ one (cw l st k)) ++ r = lineW l ∧ ∀ x ∈ ts ++ one (cw l st k), mayW x = true := by
  refine ⟨by rw [← h.all, he, List.append_assoc], fun x hx => ?_⟩
  rcases List.mem_append.1 hx with e | e
  · exact h.may x e
  · by_cases h0 : cw l st k = []
    · rw [h0] at e; simp [one] at e
    · rw [one_ne h0, List.mem_singleton] at e
      rw [e]; exact mayW_gds h.gds h0 hl
theorem WInv.fin {l : Bs} {st k : Nat} {ts : List Bs} (h : WInv l st k ts) (hk : k ≤ l.length) (he : ∀ hk : k < l.length, l[k] = 35) : toks (Go.Proofs.Ytpjdffjfhnlbjaa.ahd (l.drop st)) = one (cw l st k) ++ [] := by
  have e : Go.Proofs.Ytpjdffjfhnlbjaa.ahd (l.drop k) = [] := by
    by_cases hlt : k < l.length
    · rw [List.drop_eq_getElem_cons hlt, he hlt, ahd_stop]
    · rw [List.drop_of_length_le (by omega)]; rfl
  rw [h.ahd, e, List.append_nil, List.append_nil, toks_none (fun c hc => (gd_ne (h.gds c hc)).2)]
theorem WInv.blank {l : Bs} {st k : Nat} {ts : List Bs} (h : WInv l st k ts) (hk : k < l.length) (hb : bl l[k] = true) : toks (Go.Proofs.Ytpjdffjfhnlbjaa.ahd (l.drop st)) = one (cw l st k) ++ toks (Go.Proofs.Ytpjdffjfhnlbjaa.ahd (l.drop (k + 1))) := by
  have hne : l[k] ≠ 35 := fun e => by rw [e] at hb; cases hb
  rw [h.ahd, List.drop_eq_getElem_cons hk, ahd_cons hne, toks_app (fun c hc => (gd_ne (h.gds c hc)).2) hb]
theorem WInv.next {l : Bs} {st k : Nat} {ts : List Bs} (h : WInv l st k ts) (hk : k < l.length) (hb : bl l[k] = true) (hl : (cw l st k).length ≤ 400) : WInv l (k + 1) (k + 1) (ts ++ one (cw l st k)) := by
  have := h.more (h.blank hk hb) hl
  exact ⟨this.1, this.2, fun c hc => by simp at hc, Nat.le_refl _⟩
theorem WInv.bad {l : Bs} {st k : Nat} {ts : List Bs} (h : WInv l st k ts) (hk : k < l.length) (hne : l[k] ≠ 35) (hb : bl l[k] = false) (hg : gd l[k] = false) : (lineW l).all mayW = false := by
  have hm : l[k] ∈ Go.Proofs.Ytpjdffjfhnlbjaa.ahd (l.drop st) := by
    rw [h.ahd, List.drop_eq_getElem_cons hk, ahd_cons hne]; simp
  obtain ⟨t, h1, h2⟩ := tok_mem hb hm
  rw [List.all_eq_false]
  refine ⟨t, by rw [← h.all]; simp [h1], ?_⟩
  obtain ⟨j, hj, e⟩ := List.mem_iff_getElem.1 h2
  rw [mayW_no hj (by rw [e]; exact hg)]; simp
theorem WInv.good {l : Bs} {st k : Nat} {ts : List Bs} (h : WInv l st k ts) (hk : k < l.length) (hg : gd l[k] = true) : WInv l st (k + 1) ts := by
  refine ⟨h.all, h.may, fun c hc => ?_, by have := h.le; omega⟩
  have := h.le
  rw [show k + 1 - st = (k - st) + 1 by omega, List.take_add_one] at hc
  rcases List.mem_append.1 hc with e | e
  · exact h.gds c e
  · rw [List.getElem?_drop, show st + (k - st) = k by omega, List.getElem?_eq_getElem hk] at e
    obtain rfl : c = l[k] := by simpa using e
    exact hg
/-- What words tells. -/
def WdR (w w' : World) (l : Bs) (e : Ending) : Prop := (∃ v, e = .returned (.tuple #[v, .bool ((lineW l).all mayW)]) ∧ ((lineW l).all mayW = true → Sr w' w.heap.size v (lineW l)) ∧ ((lineW l).all mayW = false → v = .slice none 0 0)) ∧ Below w.heap.size w w'
theorem WdR.no {w w' : World} {l : Bs} (h : (lineW l).all mayW = false) (hb : Below w.heap.size w w') : WdR w w' l (.returned (.tuple #[.slice none 0 0, .bool false])) := by
  refine ⟨⟨_, by rw [h], fun e => ?_, fun _ => rfl⟩, hb⟩
  rw [h] at e; cases e
theorem WdR.yes {w w' : World} {l : Bs} {v : Value} {ts : List Bs} (h : ts = lineW l) (hm : ∀ x ∈ ts, mayW x = true) (hS : Sr w' w.heap.size v ts) (hb : Below w.heap.size w w') : WdR w w' l (.returned (.tuple #[v, .bool true])) := by
  have e : (lineW l).all mayW = true := by rw [← h, List.all_eq_true]; exact hm
  refine ⟨⟨v, by rw [e], fun _ => by rw [← h]; exact hS, fun e2 => ?_⟩, hb⟩
  rw [e] at e2; cases e2
end Go.Proofs.Ytpjdffjfhnlbjaa
