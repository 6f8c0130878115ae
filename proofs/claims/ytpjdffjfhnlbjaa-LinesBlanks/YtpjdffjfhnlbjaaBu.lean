/- More blanks, remarks, lines without words: plain facts. -/
import Derived.Test.YtpjdffjfhnlbjaaBr
namespace Go.Proofs.Ytpjdffjfhnlbjaa
open Go.RowKit Go.Shelf Go.Lib

/-- Blanks put in behind each blank. -/
def ins (b : Bs) : Bs → Bs
  | [] => []
  | c :: r => if c = 32 then c :: (b ++ ins b r) else c :: ins b r
theorem ins_snoc (b : Bs) (l : Bs) (c : UInt8) : ins b (l ++ [c]) = ins b l ++ (if c = 32 then c :: b else [c]) := by
  induction l with
  | nil => simp only [List.nil_append, ins]; split <;> simp
  | cons a r ih =>
    rw [List.cons_append, ins, ins, ih]
    split <;> simp
theorem ins_len {b : Bs} (hb : b.length ≤ 8) (l : Bs) : (ins b l).length ≤ 9 * l.length := by
  induction l with
  | nil => simp [ins]
  | cons a r ih =>
    rw [ins]
    split
    · simp only [List.length_cons, List.length_append]; omega
    · simp only [List.length_cons]; omega
theorem toks_blanks {b : Bs} (hb : ∀ c ∈ b, bl c = true) (l : Bs) : toks (b ++ l) = toks l := by
  induction b with
  | nil => rfl
  | cons c r ih => rw [List.cons_append, toks_cons (hb c (by simp)), ih (fun x hx => hb x (by simp [hx]))]
theorem toks_ins {b : Bs} (hb : ∀ c ∈ b, bl c = true) : ∀ (l a : Bs), (∀ c ∈ a, bl c = false) → toks (a ++ ins b l) = toks (a ++ l) := by
  intro l
  induction l with
  | nil => intro a _; rfl
  | cons c r ih =>
    intro a ha
    have h0 := ih [] (fun c hc => by simp at hc)
    rw [List.nil_append, List.nil_append] at h0
    rw [ins]
    by_cases hc : bl c = true
    · rw [toks_app ha hc]
      split
      · rw [toks_app ha hc, toks_blanks hb, h0]
      · rw [toks_app ha hc, h0]
    · have hc' : bl c = false := by simpa using hc
      rw [if_neg (fun e => by rw [e] at hc'; cases hc')]
      have := ih (a ++ [c]) (fun x hx => by
        rcases List.mem_append.1 hx with e | e
        · exact ha x e
        · rw [List.mem_singleton.1 e]; exact hc')
      simpa using this
theorem toks_snoc {c : UInt8} (hc : bl c = true) : ∀ (l a : Bs), (∀ c ∈ a, bl c = false) → toks (a ++ (l ++ [c])) = toks (a ++ l) := by
  intro l
  induction l with
  | nil =>
    intro a ha
    rw [List.nil_append, toks_app ha hc, List.append_nil, toks_none ha]
    show one a ++ [] = one a
    rw [List.append_nil]
  | cons d r ih =>
    intro a ha
    by_cases hd : bl d = true
    · have h0 := ih [] (fun c hc => by simp at hc)
      rw [List.cons_append, toks_app ha hd, toks_app ha hd]
      rw [List.nil_append, List.nil_append] at h0
      rw [h0]
    · have hd' : bl d = false := by simpa using hd
      have := ih (a ++ [d]) (fun x hx => by
        rcases List.mem_append.1 hx with e | e
        · exact ha x e
        · rw [List.mem_singleton.1 e]; exact hd')
      simpa using this
theorem bl_ne {c : UInt8} (h : bl c = true) : c ≠ 35 ∧ c ≠ 10 := by
  refine ⟨fun e => ?_, fun e => ?_⟩ <;> (rw [e] at h; cases h)
theorem ahd_ins {b : Bs} (hb : ∀ c ∈ b, bl c = true) : ∀ (l : Bs), ahd (ins b l) = ins b (ahd l) := by
  intro l
  induction l with
  | nil => rfl
  | cons c r ih =>
    by_cases h35 : c = 35
    · subst h35
      rw [ins, if_neg (by decide), ahd_stop, ahd_stop]; rfl
    · rw [ahd_cons h35, ins, ins]
      split
      · rename_i h32
        rw [ahd_cons h35, ahd_app (fun x hx => (bl_ne (hb x hx)).1), ih]
      · rw [ahd_cons h35, ih]
theorem ins_mem35 {b : Bs} (hb : ∀ c ∈ b, bl c = true) (l : Bs) : 35 ∈ ins b l ↔ 35 ∈ l := by
  induction l with
  | nil => simp [ins]
  | cons c r ih =>
    rw [ins]
    split
    · rename_i h
      subst h
      simp only [List.mem_cons, List.mem_append, ih]
      constructor
      · rintro (e | e | e)
        · exact Or.inl e
        · exact absurd rfl (bl_ne (hb _ e)).1
        · exact Or.inr e
      · rintro (e | e)
        · exact Or.inl e
        · exact Or.inr (Or.inr e)
    · simp only [List.mem_cons, ih]
theorem ins_no10 {b : Bs} (hb : ∀ c ∈ b, bl c = true) {l : Bs} (hl : ∀ c ∈ l, c ≠ 10) : ∀ c ∈ ins b l, c ≠ 10 := by
  induction l with
  | nil => intro c hc; simp [ins] at hc
  | cons a r ih =>
    intro c hc
    have hr := ih (fun x hx => hl x (by simp [hx]))
    rw [ins] at hc
    split at hc
    · rcases List.mem_cons.1 hc with e | e
      · rw [e]; exact hl a (by simp)
      · rcases List.mem_append.1 e with e | e
        · exact (bl_ne (hb c e)).2
        · exact hr c e
    · rcases List.mem_cons.1 hc with e | e
      · rw [e]; exact hl a (by simp)
      · exact hr c e
/-- A line with more blanks and a remark. -/
def lnA (b cl l : Bs) : Bs := b ++ (ins b l ++ (32 :: 35 :: cl))
theorem ahd_here {a r : Bs} (h : 35 ∈ a) : ahd (a ++ r) = ahd a := by
  have e := cut_some h
  unfold ahd
  rw [e, List.append_assoc, List.cons_append, cutT_app cutT_free, cutT_app cutT_free]
theorem lineW_lnA {b cl l : Bs} (hb : ∀ c ∈ b, bl c = true) : lineW (lnA b cl l) = lineW l := by
  unfold lineW lnA
  rw [ahd_app (fun x hx => (bl_ne (hb x hx)).1), toks_blanks hb]
  by_cases h : 35 ∈ l
  · rw [ahd_here ((ins_mem35 hb l).2 h), ahd_ins hb]
    have := toks_ins hb (ahd l) [] (fun c hc => by simp at hc)
    simpa using this
  · have h2 : 35 ∉ ins b l := fun e => h ((ins_mem35 hb l).1 e)
    rw [show ins b l ++ (32 :: 35 :: cl) = (ins b l ++ [32]) ++ 35 :: cl by simp]
    have e1 : ahd ((ins b l ++ [32]) ++ 35 :: cl) = ins b l ++ [32] := by
      unfold ahd
      exact cutT_app (fun x hx e => by
        rcases List.mem_append.1 hx with e2 | e2
        · rw [e] at e2; exact h2 e2
        · rw [List.mem_singleton.1 e2] at e; cases e)
    have e2 : ahd l = l := (cut_none h).1
    rw [e1, e2]
    have h3 := toks_snoc (c := 32) (by decide) (ins b l) [] (fun c hc => by simp at hc)
    have h4 := toks_ins hb l [] (fun c hc => by simp at hc)
    rw [List.nil_append, List.nil_append] at h3 h4
    rw [h3, h4]
theorem lnA_len {b cl l : Bs} (hb : b.length ≤ 8) (hc : cl.length ≤ 1000) : (lnA b cl l).length ≤ 1010 + 9 * l.length := by
  have := ins_len hb l
  unfold lnA
  simp only [List.length_append, List.length_cons]
  omega
theorem lineE_lnA {b cl l : Bs} (hb : ∀ c ∈ b, bl c = true) (hbl : b.length ≤ 8) (hc : cl.length ≤ 1000) (hl : l.length ≤ 1000) : lineE (lnA b cl l) = lineE l := by
  have := lnA_len (l := l) hbl hc
  unfold lineE
  rw [if_neg (by omega : ¬ 65536 < (lnA b cl l).length), if_neg (by omega : ¬ 65536 < l.length), lineW_lnA hb]
theorem line_blank {b : Bs} (hb : ∀ c ∈ b, bl c = true) (hbl : b.length ≤ 8) : lineW b = [] ∧ lineE b = 0 := by
  have h1 : lineW b = [] := by
    unfold lineW ahd
    rw [(cut_none (fun h => (bl_ne (hb _ h)).1 rfl)).1]
    have := toks_blanks hb []
    rw [List.append_nil] at this
    rw [this]; rfl
  refine ⟨h1, ?_⟩
  rw [lineE_zero, h1]
  exact ⟨by omega, rfl⟩
/-- All lines so, with a line of blanks behind each. -/
def mors (b cl : Bs) (ls : List Bs) : Bs := (ls.map fun l => lnA b cl l ++ 10 :: (b ++ [10])).flatten
def morl (b cl : Bs) (ls : List Bs) : List Bs := (ls.map fun l => [lnA b cl l, b]).flatten
theorem mors_snoc (b cl : Bs) (ls : List Bs) (l : Bs) : mors b cl (ls ++ [l]) = mors b cl ls ++ (lnA b cl l ++ 10 :: (b ++ [10])) := by simp [mors]
theorem lns_mors {b cl : Bs} (hb : ∀ c ∈ b, bl c = true) (hc : ∀ c ∈ cl, c ≠ 10) : ∀ {ls : List Bs}, (∀ l ∈ ls, ∀ c ∈ l, c ≠ 10) → lns (mors b cl ls) = morl b cl ls ++ [[]] := by
  intro ls
  induction ls with
  | nil => intro _; rfl
  | cons l r ih =>
    intro h
    have hA : ∀ c ∈ lnA b cl l, c ≠ 10 := fun c hc2 => by
      unfold lnA at hc2
      rcases List.mem_append.1 hc2 with e | e
      · exact (bl_ne (hb c e)).2
      · rcases List.mem_append.1 e with e | e
        · exact ins_no10 hb (h l (by simp)) c e
        · rcases List.mem_cons.1 e with e | e
          · rw [e]; decide
          · rcases List.mem_cons.1 e with e | e
            · rw [e]; decide
            · exact hc c e
    have e1 : mors b cl (l :: r) = lnA b cl l ++ 10 :: (b ++ 10 :: mors b cl r) := by simp [mors]
    rw [e1, lns_app hA, lns_app (fun c hc2 => (bl_ne (hb c hc2)).2), ih (fun z hz => h z (by simp [hz]))]
    rfl
theorem mors_rd {b cl : Bs} (hb : ∀ c ∈ b, bl c = true) (hbl : b.length ≤ 8) (hc : cl.length ≤ 1000) : ∀ {ls : List Bs} (n m : Nat), m + 1 = 2 * n → (∀ l ∈ ls, l.length ≤ 1000) →
    (bad n ls = none → bad m (morl b cl ls ++ [[]]) = none ∧ good m (morl b cl ls ++ [[]]) = (good n ls).map (fun p => (2 * p.1 - 1, p.2))) ∧ (∀ k e, bad n ls = some (k, e) → ∃ k', bad m (morl b cl ls ++ [[]]) = some (k', e)) := by
  intro ls
  induction ls with
  | nil => intro n m _ _; exact ⟨fun _ => ⟨by simp [morl, bad, empty_line], by simp [morl, good, empty_line]⟩, fun k e h => by cases h⟩
  | cons l r ih =>
    intro n m hm h
    have hE := lineE_lnA (l := l) hb hbl hc (h l (by simp))
    have hW := lineW_lnA (cl := cl) (l := l) hb
    have hB := line_blank hb hbl
    have hi := ih (n + 1) (m + 2) (by omega) (fun z hz => h z (by simp [hz]))
    have e1 : morl b cl (l :: r) ++ [[]] = lnA b cl l :: b :: (morl b cl r ++ [[]]) := by simp [morl]
    rw [e1]
    by_cases he : lineE l = 0
    · have b1 : bad n (l :: r) = bad (n + 1) r := by rw [bad, if_pos he]
      have b2 : bad m (lnA b cl l :: b :: (morl b cl r ++ [[]])) = bad (m + 2) (morl b cl r ++ [[]]) := by
        rw [bad, if_pos (by rw [hE]; exact he), bad, if_pos hB.2]
      rw [b1, b2]
      refine ⟨fun hn => ⟨(hi.1 hn).1, ?_⟩, hi.2⟩
      rw [good, good, good, (hi.1 hn).2, hW, hB.1, List.map_append]
      split
      · rfl
      · simp; omega
    · have b1 : bad n (l :: r) = some (n, lineE l) := by rw [bad, if_neg he]
      have b2 : bad m (lnA b cl l :: b :: (morl b cl r ++ [[]])) = some (m, lineE l) := by
        rw [bad, if_neg (by rw [hE]; exact he), hE]
      rw [b1, b2]
      refine ⟨fun hn => (by cases hn), fun k e hk => ⟨m, ?_⟩⟩
      cases hk; rfl
theorem mors_len {b cl : Bs} (hbl : b.length ≤ 8) (hc : cl.length ≤ 1000) : ∀ (ls : List Bs), (mors b cl ls).length ≤ 1020 * wts ls := by
  intro ls
  induction ls with
  | nil => simp [mors]
  | cons l r ih =>
    have e1 : mors b cl (l :: r) = lnA b cl l ++ 10 :: (b ++ 10 :: mors b cl r) := by simp [mors]
    have := lnA_len (l := l) hbl hc
    rw [e1]
    simp only [wts, List.length_append, List.length_cons, List.map_cons, List.sum_cons] at ih ⊢
    omega
/-- More blanks, remarks, and lines without words change no words. -/
theorem rd_mors {b cl t : Bs} (hb : ∀ c ∈ b, bl c = true) (hbl : b.length ≤ 8) (hc : ∀ c ∈ cl, c ≠ 10) (hcl : cl.length ≤ 1000) (ht : t.length ≤ 1000) :
    (rdV (mors b cl (lns t))).1 = (rdV t).1.map (fun p => (2 * p.1 - 1, p.2)) ∧ (rdV (mors b cl (lns t))).2.2 = (rdV t).2.2 := by
  have h10 : ∀ l ∈ lns t, ∀ c ∈ l, c ≠ 10 := fun l hl c hcc => by have := (spl_word hl).1 c hcc; simpa using this
  have hll : ∀ l ∈ lns t, l.length ≤ 1000 := fun l hl => Nat.le_trans (spl_word hl).2.1 ht
  have hm := mors_rd (cl := cl) hb hbl hcl 1 1 (by omega) hll
  rw [← lns_mors hb hc h10] at hm
  have hlen : (mors b cl (lns t)).length ≤ 16777216 := by
    have h1 := mors_len (cl := cl) hbl hcl (lns t)
    have h2 : wts (lns t) = t.length + 1 := spl_wts _ _
    omega
  cases hbd : bad 1 (lns t) with
  | none =>
    rw [rdV_good (by omega) hbd, rdV_good hlen (hm.1 hbd).1]
    exact ⟨(hm.1 hbd).2, rfl⟩
  | some p =>
    obtain ⟨k, e⟩ := p
    obtain ⟨k', h'⟩ := hm.2 k e hbd
    rw [rdV_bad (by omega) hbd, rdV_bad hlen h']
    exact ⟨rfl, rfl⟩
end Go.Proofs.Ytpjdffjfhnlbjaa
