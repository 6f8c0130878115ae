/- Own texts, put together: Jh Qa Eea Qb Qc Qd Qh Qi Qia Qj Qk Qo Qp Qq Qs Qt Qu Qv Qka Qn Qna Qw Qy Eeb Eec Eed Efa Efb Qza Qzc Qze Qoa. -/
import Derived.Test.YtgoadpnoagaflaaGreatDoorQ3
import Derived.Test.YtgoadpnoagaflaaGreatDoorQ4
import Derived.Test.YtgoadpnoagaflaaGreatDoorQ5
import Derived.Test.YtgoadpnoagaflaaGreatDoorQ8
import Derived.Test.YtgoadpnoagaflaaGreatDoorQ10
import Derived.Test.YtgoadpnoagaflaaGreatDoorQ16
import Derived.Test.YtgoadpnoagaflaaGreatDoorQ25
import Derived.Test.YtgoadpnoagaflaaGreatDoorQ26
import Derived.Test.YtgoadpnoagaflaaGreatDoorQ30
import Derived.Test.YtgoadpnoagaflaaGreatDoorQ32
import Derived.Test.YtgoadpnoagaflaaGreatDoorQ33
import Derived.Test.YtgoadpnoagaflaaGreatDoorQ34
import Derived.Deep.DeepCutAuto
import Derived.ProofKit
import Derived.OpenShut
import Derived.Laws.Cover2
import Derived.ChangeOld
import Derived.ChangeMaps5
import Derived.Below
import Derived.Carry
import Derived.Deep.Slices
import Derived.Lib.SmallJoins
import Derived.SizedLaws
namespace Go.Proofs.YtgoadpnoagaflaaGreatDoor
/- Package digits: what follows of the contracts, and the statements' helper awake. -/
section
set_option maxRecDepth 100000
open Go.RowKit Go.Shelf Go.Lib
theorem FloatR.ok {l : List UInt8} {x v : Nat} {er n e : Int} (h : FloatR l x er) (ht : rdTell l = some (n, e)) (fv : Fin64 v) (lv : v < 18446744073709551616) (hv : fval v = (n : Rat) * p2 e) (h0 : n = 0 → v = 0) : x = v ∧ er = 0 := by
 rcases h with ⟨h1, _⟩ | ⟨n', e', ok, h1, h2, h3⟩
 · rw [h1] at ht; cases ht
 rw [h1] at ht
 simp at ht
 obtain ⟨rfl, rfl⟩ := ht
 rcases h2 with ⟨rfl, fx, lx, vx, z⟩ | ⟨rfl, _, hn⟩
 · refine ⟨?_, h3⟩
   by_cases hz : n' = 0
   · rw [z hz, h0 hz]
   · refine fval_inj fx fv lx lv (by rw [vx, hv]) ?_
     rw [vx]
     intro e0
     have hp := p2_pos e'
     have hn0 : (n' : Rat) = 0 := by
       rcases Rat.mul_eq_zero.1 e0 with h | h
       · exact h
       · rw [h] at hp; exact absurd hp Rat.lt_irrefl
     exact hz (Rat.intCast_inj.1 (hn0.trans rfl))
 · exact absurd hv (hn v fv lv)
theorem FloatR.no {l : List UInt8} {x : Nat} {er n e : Int} (h : FloatR l x er) (ht : rdTell l = some (n, e)) (hn : ∀ y, Fin64 y → y < 18446744073709551616 → fval y ≠ (n : Rat) * p2 e) : x = 0 ∧ er = 10 := by
 rcases h with ⟨h1, _⟩ | ⟨n', e', ok, h1, h2, h3⟩
 · rw [h1] at ht; cases ht
 rw [h1] at ht
 simp at ht
 obtain ⟨rfl, rfl⟩ := ht
 rcases h2 with ⟨rfl, fx, lx, vx, z⟩ | ⟨rfl, hx, _⟩
 · exact absurd vx (hn x fx lx)
 · exact ⟨hx, h3⟩
theorem FloatR.form {l : List UInt8} {x : Nat} {er : Int} (h : FloatR l x er) (ht : rdTell l = none) : x = 0 ∧ er = 4 := by
 rcases h with ⟨_, h⟩ | ⟨n', e', ok, h1, _⟩
 · exact h
 · rw [h1] at ht; cases ht
theorem odd_uniq {n n' e e' : Int} (h1 : n % 2 = 1) (h2 : n' % 2 = 1) (h : (n : Rat) * p2 e = (n' : Rat) * p2 e') : n = n' ∧ e = e' := by
 have key : ∀ {n n' e e' : Int}, n % 2 = 1 → n' % 2 = 1 → (n : Rat) * p2 e = (n' : Rat) * p2 e' → e ≤ e' → n = n' ∧ e = e' := by
   intro n n' e e' h1 h2 h hle
   obtain ⟨k, hk⟩ : ∃ k : Nat, e' = (k : Int) + e := ⟨(e' - e).toNat, by omega⟩
   rw [hk, p2_add, ← Rat.mul_assoc, p2_nat] at h
   have h' : (n : Rat) * p2 e = ((n' * ((2 ^ k : Nat) : Int) : Int) : Rat) * p2 e := by rw [h, Rat.intCast_mul]; rfl
   have := int_eq (p2_pos e) h'
   cases k with
   | zero => exact ⟨by rw [this, Nat.pow_zero]; omega, by omega⟩
   | succ k =>
     exfalso
     rw [Nat.pow_succ, Int.natCast_mul, ← Int.mul_assoc] at this
     omega
 rcases Int.le_total e e' with hl | hl
 · exact key h1 h2 h hl
 · have := key h2 h1 h.symm hl
   exact ⟨this.1.symm, this.2.symm⟩
theorem TextR.whole {x : Nat} {l : List UInt8} (h : TextR x l) (hx : Fin64 x) {k : Int} (hk : fval x = (k : Rat)) (h1 : -9007199254740992 < k) (h2 : k < 9007199254740992) : l = itoa k := by
 rcases h with ⟨h, _⟩ | ⟨_, ⟨k', e, _, _, hl⟩ | ⟨h, _⟩⟩
 · exact absurd hx h
 · rw [hl, Rat.intCast_inj.1 (e.symm.trans hk)]
 · exact absurd ⟨k, hk, h1, h2⟩ h
theorem TextR.odd {x : Nat} {l : List UInt8} (h : TextR x l) (hx : Fin64 x) {n e : Int} (ho : n % 2 = 1) (hv : fval x = (n : Rat) * p2 e) (hn : ¬ ∃ k : Int, fval x = (k : Rat) ∧ -9007199254740992 < k ∧ k < 9007199254740992) : l = itoa n ++ 98 :: itoa e := by
 rcases h with ⟨h, _⟩ | ⟨_, ⟨k', e', g1, g2, _⟩ | ⟨_, n', e', ho', _, _, _, _, hv', hl⟩⟩
 · exact absurd hx h
 · exact absurd ⟨k', e', g1, g2⟩ hn
 · obtain ⟨rfl, rfl⟩ := odd_uniq ho ho' (hv.symm.trans hv')
   exact hl
theorem TextR.tell {x : Nat} {l : List UInt8} (h : TextR x l) (hx : Fin64 x) : ∃ n e, rdTell l = some (n, e) ∧ fval x = (n : Rat) * p2 e ∧ l.length ≤ 43 := by
 rcases h with ⟨h, _⟩ | ⟨_, ⟨k, e, h1, h2, rfl⟩ | ⟨_, n, e, _, h1, h2, h3, h4, hv, rfl⟩⟩
 · exact absurd hx h
 · have ht := tell_whole (n := k) ⟨by omega, by omega⟩
   exact ⟨k, 0, ht, by rw [e, p2_zero, Rat.mul_one], tell_length ht⟩
 · have ht := tell_both (n := n) (e := e) ⟨by omega, by omega⟩ ⟨by omega, by omega⟩
   exact ⟨n, e, ht, hv, tell_length ht⟩
theorem TextR.same {x y : Nat} {l r : List UInt8} (hl : TextR x l) (hr : TextR y r) (hx : Fin64 x) : l = r ↔ (Fin64 y ∧ fval x = fval y) := by
 constructor
 · rintro rfl
   obtain ⟨n, e, ht, hv, _⟩ := hl.tell hx
   by_cases hy : Fin64 y
   · obtain ⟨n', e', ht', hv', _⟩ := hr.tell hy
     rw [ht] at ht'
     simp at ht'
     obtain ⟨rfl, rfl⟩ := ht'
     exact ⟨hy, by rw [hv, hv']⟩
   · exfalso
     rcases hr with ⟨_, rfl⟩ | ⟨h, _⟩
     · rw [show rdTell [] = none by decide] at ht; cases ht
     · exact hy h
 · rintro ⟨hy, he⟩
   rcases hr with ⟨h, _⟩ | ⟨_, ⟨k, e, h1, h2, rfl⟩ | ⟨hn, n, e, ho, h1, h2, h3, h4, hv, rfl⟩⟩
   · exact absurd hy h
   · exact hl.whole hx (by rw [he, e]) h1 h2
   · exact hl.odd hx ho (by rw [he, hv]) (by rw [he]; exact hn)
end

/- Package nodefile: what is read and written: plain. -/
section
open Go.RowKit Go.Shelf Go.Lib
structure Pm where
 rf : Bs → Nat × Int
 pt : Nat → Nat → Bool
 tx : Nat → Bs
structure Pm.Ok (p : Pm) : Prop where
 rf : ∀ l, FloatR l (p.rf l).1 (p.rf l).2
 pt : ∀ x y, p.pt x y = true ↔ Pt x y
 tx : ∀ x, x < 18446744073709551616 → TextR x (p.tx x)
theorem floatR_ex (l : Bs) : ∃ q : Nat × Int, FloatR l q.1 q.2 := by
 by_cases h : l.length ≤ 900000
 · obtain ⟨x, er, h1, _⟩ := float_any ⟨l.toArray⟩ (by rw [Lib.size_eq]; simpa using h)
   exact ⟨(x, er), by simpa using h1⟩
 · refine ⟨(0, 4), Or.inl ⟨?_, rfl, rfl⟩⟩
   cases ht : rdTell l with
   | none => rfl
   | some p => have := tell_length ht; omega
theorem pm_ex : ∃ p : Pm, p.Ok := by
 obtain ⟨rf, h1⟩ := Classical.skolem.1 floatR_ex
 obtain ⟨tx, h3⟩ := Classical.skolem.1 (fun x : Nat => (by
   by_cases h : x < 18446744073709551616
   · obtain ⟨l, hl, _⟩ := text_any x h
     exact ⟨l, fun _ => hl⟩
   · exact ⟨[], fun e => absurd e h⟩ : ∃ l : Bs, x < 18446744073709551616 → TextR x l))
 have hd : ∀ q : Nat × Nat, ∃ b : Bool, b = true ↔ Pt q.1 q.2 := fun q => by
   by_cases h : Pt q.1 q.2
   · exact ⟨true, by simp [h]⟩
   · exact ⟨false, by simp [h]⟩
 obtain ⟨pt, h2⟩ := Classical.skolem.1 hd
 exact ⟨⟨rf, fun x y => pt (x, y), tx⟩, h1, fun x y => h2 (x, y), h3⟩
structure Nd where
 x : Nat
 y : Nat
 a : List Nat
 m : Int
def fst0 : List Int → Int
 | [] => 0
 | e :: r => if e = 0 then fst0 r else e
theorem fst0_app (a b : List Int) : fst0 (a ++ b) = if fst0 a = 0 then fst0 b else fst0 a := by
 induction a with
 | nil => simp [fst0]
 | cons e r ih =>
   rw [List.cons_append, fst0, fst0]
   by_cases h : e = 0
   · rw [if_pos h, if_pos h, ih]
   · rw [if_neg h, if_neg h, if_neg h]
end

/- Package elefile: what is read and written: plain. -/
section
open Go.RowKit Go.Shelf Go.Lib
structure Rw where
 t : List Int
 a : List Nat
def heP (ws : List Bs) : Option (Nat × Nat × Nat) :=
 match ws with
 | [a, b, c] =>
   match rdInt a, rdInt b, rdInt c with
   | some n, some t, some k => if 0 ≤ n ∧ 0 ≤ k ∧ (t = 3 ∨ t = 6) then some (n.toNat, t.toNat, k.toNat) else none
   | _, _, _ => none
 | _ => none
def heE (ws : List Bs) : Nat := match heP ws with
 | none => 4
 | some q => if q.1 ≤ 1048576 ∧ q.2.2 ≤ 16 then 0 else 3
def intsE : List Bs → Option (List Int)
 | [] => some []
 | w :: r => match rdInt w with
   | none => none
   | some n => (intsE r).map (n :: ·)
theorem intsE_len : ∀ {ws : List Bs} {ns : List Int}, intsE ws = some ns → ns.length = ws.length := by
 intro ws
 induction ws with
 | nil => intro ns h; cases h; rfl
 | cons a r ih =>
   intro ns h
   rw [intsE] at h
   cases hr : rdInt a with
   | none => rw [hr] at h; cases h
   | some n =>
     rw [hr] at h
     simp only [Option.map_eq_some_iff] at h
     obtain ⟨ms, h1, rfl⟩ := h
     rw [List.length_cons, List.length_cons, ih h1]
theorem intsE_snoc (ws : List Bs) (w : Bs) : intsE (ws ++ [w]) = match intsE ws with
   | none => none
   | some ns => match rdInt w with
     | none => none
     | some n => some (ns ++ [n]) := by
 induction ws with
 | nil => simp only [List.nil_append, intsE]; cases rdInt w <;> rfl
 | cons a r ih =>
   rw [List.cons_append, intsE, intsE, ih]
   cases rdInt a with
   | none => rfl
   | some n =>
     cases intsE r with
     | none => rfl
     | some ns => simp only [Option.map_some]; cases rdInt w <;> rfl
theorem intsE_app_none {a : List Bs} (b : List Bs) (h : intsE a = none) : intsE (a ++ b) = none := by
 induction a with
 | nil => cases h
 | cons x r ih =>
   rw [List.cons_append, intsE]
   rw [intsE] at h
   cases hr : rdInt x with
   | none => rfl
   | some n =>
     rw [hr] at h
     simp only [Option.map_eq_none_iff] at h
     simp only [ih h]; rfl
def corE (f : Nat) (n : Int) : Int := if (f : Int) ≤ n ∧ n < (f : Int) + 1048576 then 0 else 11
def rwE (p : Pm) (f c k i : Nat) (ws : List Bs) : Int :=
 match intsE (ws.take (1 + c)) with
 | some (n :: ns) => if ws.length = 1 + c + k ∧ n = (f : Int) + (i : Int) then fst0 (ns.map (corE f) ++ ((ws.drop (1 + c)).map fun w => (p.rf w).2)) else 4
 | _ => 4
def rwV (p : Pm) (f c : Nat) (ws : List Bs) : Rw :=
 ⟨((intsE (ws.take (1 + c))).getD []).tail.map (· - (f : Int)), (ws.drop (1 + c)).map fun w => (p.rf w).1⟩
def goE (p : Pm) (f c k : Nat) : Nat → List (Nat × List Bs) → Sum (Nat × Int) (List Rw)
 | _, [] => .inr []
 | i, (no, ws) :: r =>
   if rwE p f c k i ws = 0 then
     match goE p f c k (i + 1) r with
     | .inl e => .inl e
     | .inr rs => .inr (rwV p f c ws :: rs)
   else .inl (no, rwE p f c k i ws)
theorem goE_snoc (p : Pm) (f c k : Nat) : ∀ (L : List (Nat × List Bs)) (i : Nat) (q : Nat × List Bs), goE p f c k i (L ++ [q]) =
   match goE p f c k i L with
   | .inl e => .inl e
   | .inr rs => if rwE p f c k (i + L.length) q.2 = 0 then .inr (rs ++ [rwV p f c q.2]) else .inl (q.1, rwE p f c k (i + L.length) q.2) := by
 intro L
 induction L with
 | nil =>
   intro i q
   obtain ⟨no, ws⟩ := q
   simp only [List.nil_append, goE, List.length_nil, Nat.add_zero]
 | cons a r ih =>
   intro i q
   obtain ⟨no, ws⟩ := a
   simp only [List.cons_append, goE]
   by_cases h : rwE p f c k i ws = 0
   · rw [if_pos h, if_pos h, ih, List.length_cons, show i + 1 + r.length = i + (r.length + 1) by omega]
     cases goE p f c k (i + 1) r with
     | inl e => rfl
     | inr x =>
       simp only []
       by_cases h2 : rwE p f c k (i + (r.length + 1)) q.2 = 0
       · rw [if_pos h2, if_pos h2]; rfl
       · rw [if_neg h2, if_neg h2]
   · rw [if_neg h, if_neg h]
theorem goE_bad {p : Pm} {f c k : Nat} : ∀ {L : List (Nat × List Bs)} {i : Nat} {e : Nat × Int} (R : List (Nat × List Bs)), goE p f c k i L = .inl e → goE p f c k i (L ++ R) = .inl e := by
 intro L
 induction L with
 | nil => intro i e R h; cases h
 | cons a r ih =>
   intro i e R h
   obtain ⟨no, ws⟩ := a
   simp only [List.cons_append, goE] at h ⊢
   by_cases h0 : rwE p f c k i ws = 0
   · rw [if_pos h0] at h ⊢
     cases hg : goE p f c k (i + 1) r with
     | inl x =>
       rw [hg] at h
       rw [ih R hg]
       exact h
     | inr x => rw [hg] at h; cases h
   · rw [if_neg h0] at h ⊢; exact h
theorem goE_len {p : Pm} {f c k : Nat} : ∀ {L : List (Nat × List Bs)} {i : Nat} {rs : List Rw}, goE p f c k i L = .inr rs → rs.length = L.length := by
 intro L
 induction L with
 | nil => intro i rs h; cases h; rfl
 | cons a r ih =>
   intro i rs h
   obtain ⟨no, ws⟩ := a
   simp only [goE] at h
   by_cases h0 : rwE p f c k i ws = 0
   · rw [if_pos h0] at h
     cases hg : goE p f c k (i + 1) r with
     | inl x => rw [hg] at h; cases h
     | inr x =>
       rw [hg] at h
       cases h
       rw [List.length_cons, List.length_cons, ih hg]
   · rw [if_neg h0] at h; cases h
structure Fe where
 f : Int
 c : Int
 k : Int
 l : List Rw
abbrev fe0 : Fe := ⟨0, 0, 0, []⟩
def fst1 : List (Nat × List Bs) → Nat
 | [] => 0
 | (_, ws) :: _ => if ws.getD 0 [] = [49] then 1 else 0
def flV (p : Pm) (n c k : Nat) (L : List (Nat × List Bs)) : Fe × Nat × Int :=
 match goE p (fst1 L) c k 0 (L.take n) with
 | .inl e => (fe0, e.1, e.2)
 | .inr rs => if n < L.length then (fe0, (L.getD n (0, [])).1, 4) else if L.length < n then (fe0, 0, 4) else (⟨(fst1 L : Nat), (c : Nat), (k : Nat), rs⟩, 0, 0)
def reV (p : Pm) (t : Bs) : Fe × Nat × Int :=
 if (rdV t).2.2 = 0 then
   match (rdV t).1 with
   | [] => (fe0, 0, 4)
   | (no, ws) :: r =>
     if heE ws = 0 then
       match heP ws with
       | none => (fe0, no, 4)
       | some (n, c, k) => flV p n c k r
     else (fe0, no, heE ws)
 else (fe0, (rdV t).2.1, (rdV t).2.2)
end

/- Package nodefile: a line's words are taken one by one. -/
section
open Go.RowKit Go.Shelf Go.Lib
attribute [local go_sem] run_store_str
theorem Sl.tail {W : World} {g off c : Nat} {x : Bs} {r : List Bs} (h : Sl W (.slice (some ⟨g, off, none⟩) (r.length + 1) c) (x :: r)) : Sl W (.slice (some (if c = 1 then ⟨g, off, none⟩ else ⟨g, off + 1, none⟩)) r.length (c - 1)) r := by
 obtain ⟨⟨a, c', e, h2, h3, h4⟩, h5⟩ := h
 cases e
 rcases h4 with h4 | ⟨g', o', e, hg, hc⟩
 · cases h4
 cases e
 simp only [List.length_cons] at h2
 refine ⟨⟨_, _, rfl, by omega, by omega, ?_⟩, fun y hy => h5 y (by simp [hy])⟩
 by_cases hr : r = []
 · exact Or.inl hr
 · refine Or.inr ⟨g, off + 1, ?_, hg, fun k y hk => ?_⟩
   · have : 0 < r.length := List.length_pos_iff.2 hr
     rw [if_neg (by omega)]
   · have := hc (k + 1) y (by simpa using hk)
     rwa [show off + (k + 1) = off + 1 + k by omega] at this
def Bk (N : Nat) (l : Value) : Prop := ∀ b, l.ownBlock = some b → b < N
theorem Sl.below {W W' : World} {N : Nat} {v : Value} {ws : List Bs} (h : Sl W v ws) (hk : Bk N v) (hb : Below N W W') : Sl W' v ws := by
 obtain ⟨⟨a, c, h1, h2, h3, h4⟩, h5⟩ := h
 refine ⟨⟨a, c, h1, h2, h3, ?_⟩, h5⟩
 rcases h4 with h4 | ⟨g, off, h6, h7, h8⟩
 · exact Or.inl h4
 · have hg : g < N := hk g (by rw [h1, h6]; rfl)
   exact Or.inr ⟨g, off, h6, Nat.lt_of_lt_of_le h7 hb.size, fun k x hx => cell_later hb hg (h8 k x hx)⟩
theorem Sl.set {W : World} {v : Value} {ws : List Bs} {p : Addr} {u : Value} (h : Sl W v ws) (hp : W.cell? p = some u) (hu : ∀ s, u ≠ .string s) (y : Value) : Sl (W.setCell p y) v ws := by
 obtain ⟨⟨a, c, h1, h2, h3, h4⟩, h5⟩ := h
 refine ⟨⟨a, c, h1, h2, h3, ?_⟩, h5⟩
 rcases h4 with h4 | ⟨g, off, h6, h7, h8⟩
 · exact Or.inl h4
 · refine Or.inr ⟨g, off, h6, by simpa [World.setCell] using h7, fun k x hk => ?_⟩
   have hc := h8 k x hk
   rw [World.cell?_setCell_other]
   · exact hc
   · intro e
     rw [← e] at hc
     rw [hc] at hp
     exact hu _ (Option.some.inj hp).symm
end

/- Package nodefile: the steps of a row. -/
section
set_option maxRecDepth 100000
open Go.RowKit Go.Shelf Go.Lib
structure Ob (B : Nat) (w w' : World) : Prop where
 os : w'.os = w.os
 tape : w'.tape = w.tape
 output : w'.output = w.output
 size : w.heap.size ≤ w'.heap.size
 block : ∀ k, k < w.heap.size → k ≠ B → w'.heap[k]? = w.heap[k]?
theorem Ob.refl (B : Nat) (w : World) : Ob B w w := ⟨rfl, rfl, rfl, Nat.le_refl _, fun _ _ _ => rfl⟩
theorem Ob.trans {B : Nat} {a b c : World} (h : Ob B a b) (k : Ob B b c) : Ob B a c := ⟨k.os.trans h.os, k.tape.trans h.tape, k.output.trans h.output, Nat.le_trans h.size k.size, fun i hi hn => (k.block i (Nat.lt_of_lt_of_le hi h.size) hn).trans (h.block i hi hn)⟩
theorem Ob.of_below {B : Nat} {w w' : World} (h : Below w.heap.size w w') : Ob B w w' := ⟨h.os, h.tape, h.output, h.size, fun k hk _ => h.block k hk⟩
theorem Ob.set (B i : Nat) (w : World) (v : Value) : Ob B w (w.setCell ⟨B, i, none⟩ v) := ⟨rfl, rfl, rfl, by simp [World.setCell], fun k _ hn => Below.heap_setCell w ⟨B, i, none⟩ v k hn⟩
theorem Ob.below {B N : Nat} {w w' : World} (h : Ob B w w') (h1 : N ≤ B) (h2 : N ≤ w.heap.size) : Below N w w' := ⟨h.os, h.tape, h.output, h.size, fun k hk => h.block k (by omega) (by omega)⟩
theorem Ob.cb {B b t : Nat} {cs : Array Value} {w w' : World} (h : Ob B w w') (hc : CB w b cs t) (hn : b ≠ B) : CB w' b cs t := by
 unfold CB
 rw [h.block b hc.lt hn]; exact hc
theorem Ob.cell {B g i : Nat} {w w' : World} {v : Value} (h : Ob B w w') (hc : w.cell? ⟨g, i, none⟩ = some v) (hn : g ≠ B) : w'.cell? ⟨g, i, none⟩ = some v := by
 have hl : g < w.heap.size := by
   rcases Nat.lt_or_ge g w.heap.size with h0 | h0
   · exact h0
   · simp [World.cell?, Array.getElem?_eq_none h0] at hc
 rw [← hc]
 exact World.cell?_of_block (w := w) (h.block g hl hn)
end

/- Package nodefile: float, the closure that asks for the first number, rowOf, number, width. -/
section
set_option maxRecDepth 100000
open Go.RowKit Go.Shelf Go.Lib
theorem FloatR.word {l : Bs} {x : Nat} {er : Int} (h : FloatR l x er) : x < 18446744073709551616 := by
 rcases h with ⟨_, rfl, _⟩ | ⟨n, e, ok, _, ⟨_, _, h, _⟩ | ⟨_, rfl, _⟩, _⟩
 · omega
 · exact h
 · omega
theorem FloatR.uniq {l : Bs} {x y : Nat} {e f : Int} (h : FloatR l x e) (g : FloatR l y f) : x = y ∧ e = f := by
 rcases h with ⟨h1, rfl, rfl⟩ | ⟨n, k, ok, h1, ⟨rfl, h2, h3, h4, h5⟩ | ⟨rfl, rfl, h2⟩, rfl⟩
 · have := g.form h1
   exact ⟨this.1.symm, this.2.symm⟩
 · have := g.ok h1 h2 h3 h4 h5
   exact ⟨this.1.symm, by simpa using this.2.symm⟩
 · have := g.no h1 h2
   exact ⟨this.1.symm, by simpa using this.2.symm⟩
theorem float_is {p : Pm} (hp : p.Ok) (x : Bs) (hx : x.length ≤ 900000) (w : World) (hT : Tab w) : Calls Tryz.prog 79 #[sv x] w fun r w' => r = .returned (.tuple #[.float .f64 (p.rf x).1, .int .i64 (p.rf x).2]) ∧ Below w.heap.size w w' := by
 obtain ⟨v, er, h1, h2⟩ := float_any ⟨x.toArray⟩ (by rw [Lib.size_eq]; simpa using hx)
 have := FloatR.uniq (hp.rf x) (by simpa using h1)
 rw [this.1, this.2]
 exact h2 w hT
end

/- Package nodefile: the first number is asked of a closure; rowOf. -/
section
set_option maxRecDepth 100000
open Go.RowKit Go.Shelf Go.Lib
structure Ob2 (B C : Nat) (w w' : World) : Prop where
 os : w'.os = w.os
 tape : w'.tape = w.tape
 output : w'.output = w.output
 size : w.heap.size ≤ w'.heap.size
 block : ∀ k, k < w.heap.size → k ≠ B → k ≠ C → w'.heap[k]? = w.heap[k]?
theorem Ob2.trans {B C : Nat} {a b c : World} (h : Ob2 B C a b) (k : Ob2 B C b c) : Ob2 B C a c := ⟨k.os.trans h.os, k.tape.trans h.tape, k.output.trans h.output, Nat.le_trans h.size k.size, fun i hi h1 h2 => (k.block i (Nat.lt_of_lt_of_le hi h.size) h1 h2).trans (h.block i hi h1 h2)⟩
theorem Ob2.cb {B C b t : Nat} {cs : Array Value} {w w' : World} (h : Ob2 B C w w') (hc : CB w b cs t) (h1 : b ≠ B) (h2 : b ≠ C) : CB w' b cs t := by
 unfold CB
 rw [h.block b hc.lt h1 h2]; exact hc
end

/- Package nodefile: nodeOf. -/
section
set_option maxRecDepth 100000
open Go.RowKit Go.Shelf Go.Lib
attribute [local go_sem] run_store_float
theorem Tab.lt {w : World} (h : Tab w) : 1 < w.heap.size := by
 have h0 := h 0 (by decide)
 rcases Nat.lt_or_ge 1 w.heap.size with h1 | h1
 · exact h1
 · simp [World.cell?, Array.getElem?_eq_none h1] at h0
theorem Tab.ne {w : World} {B t : Nat} {a : Option Addr} {n c : Nat} {cs : List Value} (h : Tab w) (hc : CB w B (.slice a n c :: cs).toArray t) : 1 ≠ B := by
 intro e
 have h0 := h 0 (by decide)
 rw [e, hc.cell 0 (by simp)] at h0
 simp at h0
theorem Tab.ob {w w' : World} {B : Nat} (h : Tab w) (ho : Ob B w w') (hn : 1 ≠ B) : Tab w' := fun j hj => ho.cell (h j hj) hn
section
variable {w0 W W' : World} {Bf : Nat} {fc fx : Array Value} {x y : Nat} {av : Value} {ls : List Nat} {mk : Int} {ws : List Bs} {k : Nat} {m : Bool} {j : Nat} {e : Int}
end
end

/- Package nodefile: nodeOf, the walk. -/
section
set_option maxRecDepth 100000
open Go.RowKit Go.Shelf Go.Lib
attribute [local go_sem] run_store_float
section
variable {w0 W : World} {Bf : Nat} {fc fx : Array Value} {x y : Nat} {av : Value} {ls : List Nat} {mk : Int} {ws : List Bs} {k : Nat} {m : Bool} {j : Nat} {e : Int}
end
end

/- Package nodefile: head. -/
section
set_option maxRecDepth 100000
open Go.RowKit Go.Shelf Go.Lib
end

/- Package nodefile: nodes in memory; lines handed in. -/
section
set_option maxRecDepth 100000
open Go.RowKit Go.Shelf Go.Lib
abbrev Nt := Nd × Value
def wdN (p : Nd) : Prop := p.x < 18446744073709551616 ∧ p.y < 18446744073709551616 ∧ InR p.m
structure Lw (W : World) (v : Value) (ps : List Lt) : Prop where
 form : ∃ a c, v = .slice a ps.length c ∧ ps.length ≤ c ∧ c ≤ 9223372036854775807 ∧ (ps = [] ∨ ∃ g off, a = some ⟨g, off, none⟩ ∧ g < W.heap.size ∧ ∀ k p, ps[k]? = some p → W.cell? ⟨g, off + k * 2, none⟩ = some (.int .i64 (p.1 : Nat)) ∧ W.cell? ⟨g, off + k * 2 + 1, none⟩ = some p.2.2)
 sub : ∀ p ∈ ps, Sl W p.2.2 p.2.1 ∧ Bk W.heap.size p.2.2
theorem Lw.later {W W' : World} {v : Value} {ps : List Lt} (h : Lw W v ps) (hb : Below W.heap.size W W') : Lw W' v ps := by
 obtain ⟨⟨a, c, h1, h2, h3, h4⟩, h5⟩ := h
 refine ⟨⟨a, c, h1, h2, h3, ?_⟩, fun p hp => ⟨(h5 p hp).1.later hb, fun b hbb => Nat.lt_of_lt_of_le ((h5 p hp).2 b hbb) hb.size⟩⟩
 rcases h4 with h4 | ⟨g, off, h6, h7, h8⟩
 · exact Or.inl h4
 · exact Or.inr ⟨g, off, h6, Nat.lt_of_lt_of_le h7 hb.size, fun k p hp => ⟨cell_later hb h7 (h8 k p hp).1, cell_later hb h7 (h8 k p hp).2⟩⟩
end

/- Package nodefile: files that are handed in; why a file may not be. -/
section
set_option maxRecDepth 100000
open Go.RowKit Go.Shelf Go.Lib
structure Nv (W : World) (v : Value) (ns : List Nt) : Prop where
 form : ∃ a c, v = .slice a ns.length c ∧ ns.length ≤ c ∧ c ≤ 9223372036854775807 ∧ (ns = [] ∨ ∃ g off, a = some ⟨g, off, none⟩ ∧ g < W.heap.size ∧ ∀ k p, ns[k]? = some p → W.cell? ⟨g, off + k * 4, none⟩ = some (.float .f64 p.1.x) ∧ W.cell? ⟨g, off + k * 4 + 1, none⟩ = some (.float .f64 p.1.y) ∧ W.cell? ⟨g, off + k * 4 + 2, none⟩ = some p.2 ∧ W.cell? ⟨g, off + k * 4 + 3, none⟩ = some (.int .i64 p.1.m))
 sub : ∀ p ∈ ns, Fs W p.2 p.1.a
 wrd : ∀ p ∈ ns, wdN p.1
theorem Nv.later {W W' : World} {v : Value} {ns : List Nt} (h : Nv W v ns) (hb : Below W.heap.size W W') : Nv W' v ns := by
 obtain ⟨⟨a, c, h1, h2, h3, h4⟩, h5, h6⟩ := h
 refine ⟨⟨a, c, h1, h2, h3, ?_⟩, fun p hp => (h5 p hp).later hb, h6⟩
 rcases h4 with h4 | ⟨g, off, h6, h7, h8⟩
 · exact Or.inl h4
 · exact Or.inr ⟨g, off, h6, Nat.lt_of_lt_of_le h7 hb.size, fun k p hp => ⟨cell_later hb h7 (h8 k p hp).1, cell_later hb h7 (h8 k p hp).2.1, cell_later hb h7 (h8 k p hp).2.2.1, cell_later hb h7 (h8 k p hp).2.2.2⟩⟩
def endl (x : Nat) : Bool := isnan x || isinf x
end

/- slices.ContainsFunc as package nodefile asks it. -/
section
set_option maxRecDepth 100000
open Go.RowKit Go.Shelf Go.Lib
def ndsO' (ns : List Nt) : List Nd := ns.map (·.1)
theorem any_take {α : Type} {q : α → Bool} {l : List α} {k : Nat} (h : k < l.length) : (l.take (k + 1)).any q = ((l.take k).any q || q l[k]) := by
 rw [List.take_succ_eq_append_getElem h, List.any_append]; simp
end

/- Package nodefile: why a file may not be: wrongOf. -/
section
set_option maxRecDepth 100000
open Go.RowKit Go.Shelf Go.Lib
attribute [local go_sem] run_store_float
end

/- Package nodefile: how a node and a file are written: plain; rows with room. -/
section
set_option maxRecDepth 100000
open Go.RowKit Go.Shelf Go.Lib
theorem makeS_ex (n : Nat) (hn : n ≤ 1000) : ∃ cs : Array Value, cs.size = n ∧ ∀ W : World, (Instr.makeSlice 48 (.int .i64 0) (.int .i64 (n : Int))).run Tryz.prog W = .ok (.slice (some ⟨W.heap.size, 0, none⟩) 0 n) (W.alloc (.cells cs 9)) := by
 obtain ⟨i0, hi0, hz0, hz1, hz2⟩ := info_parts (show (Tryz.prog.info? 9).map (fun i => (i.zero, i.size, i.bytes)) = some (some (.string ⟨#[]⟩), 1, 16) by kernel_rfl)
 refine ⟨madeCells (.string ⟨#[]⟩ : Value).cells n, size_madeCells _ _, fun W => ?_⟩
 have h := run_make (P := Tryz.prog) W 48 9 i0 _ Tryz.underlying48 hi0 hz0 .i64 .i64 0 (n : Int) (by omega) (by omega) (by rw [hz2]; omega) (by omega)
 rw [hz1, Nat.mul_one] at h
 exact h
theorem makeLL_ex (n : Nat) (hn : n ≤ 2000000) : ∃ cs : Array Value, cs.size = n ∧ ∀ W : World, (Instr.makeSlice 46 (.int .i64 0) (.int .i64 (n : Int))).run Tryz.prog W = .ok (.slice (some ⟨W.heap.size, 0, none⟩) 0 n) (W.alloc (.cells cs 48)) := by
 obtain ⟨i0, hi0, hz0, hz1, hz2⟩ := info_parts (show (Tryz.prog.info? 48).map (fun i => (i.zero, i.size, i.bytes)) = some (some (.slice none 0 0), 1, 24) by kernel_rfl)
 refine ⟨madeCells (.slice none 0 0 : Value).cells n, size_madeCells _ _, fun W => ?_⟩
 have h := run_make (P := Tryz.prog) W 46 48 i0 _ Tryz.underlying46 hi0 hz0 .i64 .i64 0 (n : Int) (by omega) (by omega) (by rw [hz2]; omega) (by omega)
 rw [hz1, Nat.mul_one] at h
 exact h
theorem own_room {W : World} {cs : Array Value} {n t : Nat} (h : cs.size = n) (hn : n ≤ 2000000) : (W.alloc (.cells cs t)).ownsRow W.heap.size t 1 (.slice (some ⟨W.heap.size, 0, none⟩) 0 n) 0 [] :=
 ⟨by simp, Or.inr ⟨W.heap.size, n, cs, rfl, Nat.le_refl _, heap_alloc_new W _, by omega, by unfold maxLen; omega, by omega, by simp⟩⟩
theorem TextR.uniq {x : Nat} {l r : Bs} (h : TextR x l) (g : TextR x r) : l = r := by
 by_cases hx : Fin64 x
 · exact (h.same g hx).2 ⟨hx, rfl⟩
 · rcases h with ⟨_, rfl⟩ | ⟨h, _⟩
   · rcases g with ⟨_, rfl⟩ | ⟨g, _⟩
     · rfl
     · exact absurd g hx
   · exact absurd h hx
theorem text_is {p : Pm} (hp : p.Ok) (x : Nat) (lx : x < 18446744073709551616) (w : World) (hT : T8 w) : Calls Tryz.prog 26 #[.float .f64 x] w fun r w' => r = .returned (sv (p.tx x)) ∧ Below w.heap.size w w' := by
 obtain ⟨l, h1, h2⟩ := text_any x lx
 rw [TextR.uniq (hp.tx x lx) h1]
 exact h2 w hT
end

/- Package nodefile: wordsOf. -/
section
set_option maxRecDepth 100000
open Go.RowKit Go.Shelf Go.Lib
attribute [local go_sem] run_store_float
end

/- Package nodefile: Put, Write. -/
section
set_option maxRecDepth 100000
open Go.RowKit Go.Shelf Go.Lib
theorem Sr.keptL {W W' : World} {B : Nat} {v : Value} {ws : List Bs} {base size n : Nat} {v2 : Value} {xs : List Value} (h : Sr W B v ws) (h2 : W.ownsRow base 48 size v2 n xs) (hg : W.grownBy W' v2.ownBlock) : Sr W' B v ws := Sr.kept h h2 (by decide) hg
structure Orw (W : World) (B : Nat) (v : Value) (L : List Lv) : Prop where
 own : W.ownsRow B 48 1 v L.length (L.map (·.2))
 sub : ∀ q ∈ L, Sr W B q.2 q.1
theorem Orw.later {W W' : World} {B : Nat} {v : Value} {L : List Lv} (h : Orw W B v L) (hb : Below W.heap.size W W') : Orw W' B v L := ⟨own_later h.own hb, fun q hq => (h.sub q hq).later hb⟩
theorem Orw.base {W : World} {B B' : Nat} {v : Value} {L : List Lv} (h : Orw W B v L) (hb : B' ≤ B) : Orw W B' v L := ⟨own_base h.own hb, fun q hq => (h.sub q hq).base hb⟩
theorem Orw.grew {W W2 : World} {B : Nat} {v v' : Value} {L : List Lv} {q : Lv} {tmp : Obj} (h : Orw W B v L) (hq : Sr W B q.2 q.1) (hown : W2.ownsRow B 48 1 v' (L.length + 1) (L.map (·.2) ++ [q.2])) (hg : (W.alloc tmp).grownBy W2 v.ownBlock) : Orw W2 B v' (L ++ [q]) := by
 refine ⟨by rw [List.length_append, List.map_append]; exact hown, fun r hr => ?_⟩
 have hs : Sr W B r.2 r.1 := by
   rcases List.mem_append.1 hr with e | e
   · exact h.sub r e
   · rw [List.mem_singleton.1 e]; exact hq
 exact Sr.keptL (World.ownsRow.alloc hs tmp) (h.own.alloc tmp) hg
theorem Orw.ll {W : World} {B : Nat} {v : Value} {L : List Lv} (h : Orw W B v L) (hl : ∀ q ∈ L, ∀ x ∈ q.1, x.length ≤ 9223372036854775807) : Ll W v L := by
 refine ⟨?_, fun q hq => (h.sub q hq).sl (hl q hq)⟩
 have h0 := h.own
 rcases h.own.2 with ⟨h1, h2⟩ | ⟨g, cap, cur, rfl, _, h3, h4, h5, _⟩
 · have : L = [] := List.length_eq_zero_iff.1 h2
   subst this
   exact ⟨none, 0, h1, by simp, by omega, Or.inl rfl⟩
 · refine ⟨_, cap, rfl, h4, by unfold maxLen at h5; omega, Or.inr ⟨g, 0, rfl, (World.ownsRow.lt h0 g rfl).2, fun k q hk => ?_⟩⟩
   exact own_cellL h0 (by rw [List.getElem?_map, hk]; rfl)
end

/- Package nodefile: Write. -/
section
set_option maxRecDepth 100000
open Go.RowKit Go.Shelf Go.Lib
theorem itoa_short {n : Int} (h : InR n) : (itoa n).length ≤ 43 := by
 have := itoa_length_le n h.1 h.2
 omega
theorem tx_short {p : Pm} (hp : p.Ok) {x : Nat} (lx : x < 18446744073709551616) : (p.tx x).length ≤ 43 := by
 by_cases hx : Fin64 x
 · obtain ⟨n, e, _, _, h⟩ := (hp.tx x lx).tell hx
   exact h
 · rcases hp.tx x lx with ⟨_, h⟩ | ⟨h, _⟩
   · rw [h]; simp
   · exact absurd h hx
def wdA (q : Nd) : Prop := wdN q ∧ ∀ b ∈ q.a, b < 18446744073709551616
theorem Nv.wa {W : World} {v : Value} {ns : List Nt} (h : Nv W v ns) : ∀ q ∈ ndsO' ns, wdA q := fun q hq => by
 obtain ⟨r, hr, rfl⟩ := List.mem_map.1 hq
 exact ⟨h.wrd r hr, (h.sub r hr).word⟩
end

/- Package nodefile: taken. -/
section
set_option maxRecDepth 100000
open Go.RowKit Go.Shelf Go.Lib
attribute [local go_sem] run_store_float
end

/- Package nodefile: Take, Read. -/
section
set_option maxRecDepth 100000
open Go.RowKit Go.Shelf Go.Lib
end

/- Package nodefile: Read. -/
section
set_option maxRecDepth 100000
open Go.RowKit Go.Shelf Go.Lib
end

/- The first example of chapter 10: plain. -/
section
set_option maxRecDepth 100000
open Go.RowKit Go.Shelf Go.Lib
theorem rf_of {p : Pm} (hp : p.Ok) {l : Bs} {n e : Int} {v : Nat} (ht : rdTell l = some (n, e)) (fv : Fin64 v) (lv : v < 18446744073709551616) (hv : fval v = (n : Rat) * p2 e) (h0 : n = 0 → v = 0) : p.rf l = (v, 0) := by
 have := FloatR.ok (hp.rf l) ht fv lv hv h0
 exact Prod.ext this.1 this.2
theorem rf_1bm1 {p : Pm} (hp : p.Ok) : p.rf [49, 98, 45, 49] = (4602678819172646912, 0) := rf_of hp (n := 1) (e := -1) (by decide +kernel) (by unfold Fin64 frung; decide) (by decide) (by decide +kernel) (by decide)
theorem it_0 : itoa (0) = [48] := (itoa_rd (l := [48]) (n := 0) (by decide +kernel)).2
theorem it_1 : itoa (1) = [49] := (itoa_rd (l := [49]) (n := 1) (by decide +kernel)).2
theorem it_2 : itoa (2) = [50] := (itoa_rd (l := [50]) (n := 2) (by decide +kernel)).2
theorem it_m1 : itoa (-1) = [45, 49] := (itoa_rd (l := [45, 49]) (n := -1) (by decide +kernel)).2
theorem it_3 : itoa (3) = [51] := (itoa_rd (l := [51]) (n := 3) (by decide +kernel)).2
theorem it_4 : itoa (4) = [52] := (itoa_rd (l := [52]) (n := 4) (by decide +kernel)).2
theorem nw_half {x : Nat} (hv : fval x = ((1 : Int) : Rat) * p2 (-1)) : ¬ ∃ k : Int, fval x = (k : Rat) ∧ -9007199254740992 < k ∧ k < 9007199254740992 := by
 rintro ⟨k, e, _, _⟩
 rw [hv] at e
 have e2 : ((1 : Int) : Rat) * p2 (-1) = ((2 * k : Int) : Rat) * p2 (-1) := by
   rw [e, Rat.intCast_mul, Rat.mul_comm ((2 : Int) : Rat), Rat.mul_assoc]
   have : ((2 : Int) : Rat) * p2 (-1) = 1 := by decide +kernel
   rw [this, Rat.mul_one]
 have := int_eq (p2_pos _) e2
 omega
theorem tx_half {p : Pm} (hp : p.Ok) : p.tx 4602678819172646912 = [49, 98, 45, 49] := by
 have hv : fval 4602678819172646912 = ((1 : Int) : Rat) * p2 (-1) := by decide +kernel
 rw [(hp.tx 4602678819172646912 (by decide)).odd (by unfold Fin64 frung; decide) (n := 1) (e := -1) (by decide) hv (nw_half hv), it_1, it_m1]
 rfl
end

/- Package nodefile: what is written is read, what is read is written: plain. -/
section
set_option maxRecDepth 100000
open Go.RowKit Go.Shelf Go.Lib
def cz (x : Nat) : Nat := if fval x = 0 then 0 else x
theorem rf_tx {p : Pm} (hp : p.Ok) {x : Nat} (hx : Fin64 x) (lx : x < 18446744073709551616) : p.rf (p.tx x) = (cz x, 0) := by
 obtain ⟨n, e, ht, hv, _⟩ := (hp.tx x lx).tell hx
 unfold cz
 by_cases h : fval x = 0
 · rw [if_pos h]
   exact rf_of hp ht fin_zero (by decide) (by rw [fval_zero, ← hv, h]) (fun _ => rfl)
 · rw [if_neg h]
   refine rf_of hp ht hx lx hv (fun h0 => absurd ?_ h)
   rw [hv, h0]
   show (0 : Rat) * p2 e = 0
   rw [Rat.zero_mul]
theorem cz_fin {x : Nat} (h : Fin64 x) : Fin64 (cz x) := by unfold cz; split; exact fin_zero; exact h
theorem cz_val (x : Nat) : fval (cz x) = fval x := by
 unfold cz
 split
 · rename_i h; rw [h, fval_zero]
 · rfl
theorem endl_fin {x : Nat} (h : endl x = false) : Fin64 x := by
 unfold endl isnan isinf at h
 unfold Fin64
 simp at h
 omega
theorem fin_endl {x : Nat} (h : Fin64 x) : endl x = false := by
 have := flagsS h
 unfold endl
 rw [this.1, this.2]; rfl
def cn (q : Nd) : Nd := ⟨cz q.x, cz q.y, q.a.map cz, q.m⟩
theorem fst0_zero {l : List Int} : fst0 l = 0 ↔ ∀ e ∈ l, e = 0 := by
 induction l with
 | nil => simp [fst0]
 | cons a r ih =>
   rw [fst0]
   by_cases h : a = 0
   · rw [if_pos h, ih]; simp [h]
   · rw [if_neg h]; simp [h]
section
variable {p : Pm} {k : Nat} {m z : Bool} {i : Nat} {q : Nd}
end
/-! ### What is read may be written. -/
theorem rf_fin {p : Pm} (hp : p.Ok) {l : Bs} (h : (p.rf l).2 = 0) : Fin64 (p.rf l).1 ∧ (p.rf l).1 < 18446744073709551616 := by
 rcases hp.rf l with ⟨_, _, h2⟩ | ⟨n, e, ok, _, ht, h2⟩
 · rw [h2] at h; cases h
 · rcases ht with ⟨_, h3, h4, _⟩ | ⟨rfl, _⟩
   · exact ⟨h3, h4⟩
   · rw [h] at h2; cases h2
theorem itoa_gd (n : Int) : ∀ c ∈ itoa n, gd c = true := by
 intro c hc
 have h1 : ∀ u, ∀ c ∈ decDigits u, gd c = true := fun u c hc => by
   have := dv_le.1 (dec_digits u c hc)
   unfold gd
   simp only [Bool.and_eq_true, decide_eq_true_eq, Bool.not_eq_true', beq_eq_false_iff_ne]
   omega
 unfold itoa at hc
 split at hc
 · rcases List.mem_cons.1 hc with rfl | hc
   · decide
   · exact h1 _ c hc
 · exact h1 _ c hc
theorem may_itoa {n : Int} (h : InR n) : mayW (itoa n) = true := by
 unfold mayW
 rw [Bool.and_eq_true, Bool.and_eq_true, List.all_eq_true]
 exact ⟨⟨by simpa using itoa_ne n, by have := itoa_short h; simp; omega⟩, itoa_gd n⟩
theorem may_tx {p : Pm} (hp : p.Ok) {x : Nat} (hx : Fin64 x) (lx : x < 18446744073709551616) : mayW (p.tx x) = true := by
 have hs := tx_short hp lx
 have hg : p.tx x ≠ [] ∧ ∀ c ∈ p.tx x, gd c = true := by
   rcases hp.tx x lx with ⟨h, _⟩ | ⟨_, ⟨k, _, _, _, h⟩ | ⟨_, n, e, _, _, _, _, _, _, h⟩⟩
   · exact absurd hx h
   · rw [h]; exact ⟨itoa_ne k, itoa_gd k⟩
   · rw [h]
     refine ⟨by simp, fun c hc => ?_⟩
     rcases List.mem_append.1 hc with hc | hc
     · exact itoa_gd n c hc
     · rcases List.mem_cons.1 hc with rfl | hc
       · decide
       · exact itoa_gd e c hc
 unfold mayW
 rw [Bool.and_eq_true, Bool.and_eq_true, List.all_eq_true]
 exact ⟨⟨by simpa using hg.1, by simp; omega⟩, hg.2⟩
theorem wrT_le {L : List (List Bs)} {B : Nat} (h : ∀ ws ∈ L, (jn ws).length ≤ B) : (wrT L).length ≤ L.length * (B + 1) := by
 induction L with
 | nil => simp [wrT]
 | cons a r ih =>
   have := ih (fun ws hws => h ws (by simp [hws]))
   have h1 := h a (by simp)
   rw [show wrT (a :: r) = (jn a ++ [10]) ++ wrT r by simp [wrT], List.length_append, List.length_append, show (a :: r).length = r.length + 1 from rfl, Nat.succ_mul]
   simp only [List.length_cons, List.length_nil]
   omega
theorem wrT_ge {L : List (List Bs)} (h : ∀ ws ∈ L, 1 ≤ (jn ws).length) : 2 * L.length ≤ (wrT L).length := by
 induction L with
 | nil => simp [wrT]
 | cons a r ih =>
   have := ih (fun ws hws => h ws (by simp [hws]))
   have h1 := h a (by simp)
   rw [show wrT (a :: r) = (jn a ++ [10]) ++ wrT r by simp [wrT], List.length_append, List.length_append, List.length_cons]
   simp
   omega
theorem jn_ge {ws : List Bs} (h : okL ws = true) : 1 ≤ (jn ws).length := by
 obtain ⟨h1, h2⟩ := ok_may h
 cases ws with
 | nil => exact absurd rfl h1
 | cons x r =>
   have hx := (may_gd (h2 x (by simp))).1
   have : 1 ≤ x.length := by cases x with
     | nil => exact absurd rfl hx
     | cons => simp
   cases r with
   | nil => rw [jn_one]; exact this
   | cons y r => rw [jn_cons2, List.length_append]; omega
theorem rd_len {t : Bs} (ht : t.length ≤ 20000) : (rdV t).1.length ≤ 10000 := by
 cases hb : bad 1 (lns t) with
 | some q => obtain ⟨n, e⟩ := q; rw [rdV_bad (by omega) hb]; simp
 | none =>
   rw [rdV_good (by omega) hb]
   have hg := good_fits (lns t) 1 hb
   have hw : wts (lns t) = t.length + 1 := spl_wts _ _
   have h2 := wrT_ge (L := (good 1 (lns t)).map (·.2)) (fun ws hws => by
     obtain ⟨q, hq, rfl⟩ := List.mem_map.1 hws
     exact jn_ge (hg.1 q hq).1)
   rw [List.length_map] at h2
   have := hg.2
   show (good 1 (lns t)).length ≤ 10000
   omega
end

/- Package elefile: what is written: plain. -/
section
set_option maxRecDepth 100000
open Go.RowKit Go.Shelf Go.Lib
def strayE (n : Int) : Bool := decide (n < 0) || decide (1048576 ≤ n)
def amissE (c k : Int) (r : Rw) : Bool := decide ((r.t.length : Int) ≠ c) || r.t.any strayE || decide ((r.a.length : Int) ≠ k) || r.a.any endl
def mayE (f : Fe) : Bool := (decide (f.f = 0) || decide (f.f = 1)) && (decide (f.c = 3) || decide (f.c = 6)) && decide (0 ≤ f.k) && decide (f.k ≤ 16) && decide (f.l.length ≤ 1048576) && !f.l.any (amissE f.c f.k)
def rwW (p : Pm) (f : Int) (i : Nat) (r : Rw) : List Bs := itoa (f + (i : Int)) :: (r.t.map (fun n => itoa (f + n)) ++ r.a.map p.tx)
def rwsW (p : Pm) (f : Int) : Nat → List Rw → List (List Bs)
 | _, [] => []
 | i, q :: r => rwW p f i q :: rwsW p f (i + 1) r
theorem rwsW_snoc (p : Pm) (f : Int) : ∀ (l : List Rw) (i : Nat) (q : Rw), rwsW p f i (l ++ [q]) = rwsW p f i l ++ [rwW p f (i + l.length) q] := by
 intro l
 induction l with
 | nil => intro i q; rfl
 | cons a r ih => intro i q; rw [List.cons_append, rwsW, rwsW, ih, List.length_cons, show i + 1 + r.length = i + (r.length + 1) by omega]; rfl
theorem rwsW_len (p : Pm) (f : Int) : ∀ (l : List Rw) (i : Nat), (rwsW p f i l).length = l.length := by
 intro l
 induction l with
 | nil => intro i; rfl
 | cons a r ih => intro i; simp [rwsW, ih]
def feW (p : Pm) (f : Fe) : List (List Bs) := [itoa (f.l.length : Nat), itoa f.c, itoa f.k] :: rwsW p f.f 0 f.l
def wrE (p : Pm) (f : Fe) : Bs × Int := if mayE f then ((wrV (feW p f)).1, ((wrV (feW p f)).2 : Nat)) else ([], 1)
theorem intsE_map {ns : List Int} (h : ∀ n ∈ ns, InR n) : intsE (ns.map itoa) = some ns := by
 induction ns with
 | nil => rfl
 | cons a r ih =>
   rw [List.map_cons, intsE, rd_itoa (h a (by simp)), ih (fun n hn => h n (by simp [hn]))]
   rfl
end

/- Package elefile: what is written is read: plain. -/
section
set_option maxRecDepth 100000
open Go.RowKit Go.Shelf Go.Lib
def crw (r : Rw) : Rw := ⟨r.t, r.a.map cz⟩
theorem amissE_no {c k : Int} {r : Rw} : amissE c k r = false ↔ (r.t.length : Int) = c ∧ (∀ n ∈ r.t, strayE n = false) ∧ (r.a.length : Int) = k ∧ ∀ x ∈ r.a, endl x = false := by
 unfold amissE
 simp only [Bool.or_eq_false_iff, decide_eq_false_iff_not, List.any_eq_false]
 constructor
 · rintro ⟨⟨⟨h1, h2⟩, h3⟩, h4⟩
   exact ⟨by simpa using h1, fun n hn => by simpa using h2 n hn, by simpa using h3, fun x hx => by simpa using h4 x hx⟩
 · rintro ⟨h1, h2, h3, h4⟩
   exact ⟨⟨⟨by simpa using h1, fun n hn => by simpa using h2 n hn⟩, by simpa using h3⟩, fun x hx => by simpa using h4 x hx⟩
theorem stray_no {n : Int} (h : strayE n = false) : 0 ≤ n ∧ n < 1048576 := by
 unfold strayE at h
 simp at h
 omega
section
variable {p : Pm} {F c k i : Nat} {r : Rw}
theorem rwW_parts (hc : r.t.length = c) : (rwW p (F : Nat) i r).length = 1 + c + r.a.length ∧ (rwW p (F : Nat) i r).take (1 + c) = (((F : Int) + (i : Int)) :: r.t.map (fun n => (F : Int) + n)).map itoa ∧ (rwW p (F : Nat) i r).drop (1 + c) = r.a.map p.tx := by
 unfold rwW
 refine ⟨by simp [hc]; omega, ?_, ?_⟩
 · rw [Nat.add_comm 1 c, List.take_succ_cons, List.take_left' (by simpa using hc)]
   simp
 · rw [Nat.add_comm 1 c, List.drop_succ_cons, List.drop_left' (by simpa using hc)]
theorem rwE_back (hp : p.Ok) (hF : F ≤ 1) (hw : ∀ x ∈ r.a, x < 18446744073709551616) (ha : amissE (c : Nat) (k : Nat) r = false) (hi : i ≤ 2000000) : rwE p F c k i (rwW p (F : Nat) i r) = 0 ∧ rwV p F c (rwW p (F : Nat) i r) = crw r := by
 obtain ⟨h1, h2, h3, h4⟩ := amissE_no.1 ha
 have hc : r.t.length = c := by omega
 have hk : r.a.length = k := by omega
 obtain ⟨p1, p2, p3⟩ := rwW_parts (p := p) (F := F) (i := i) hc
 have hin : ∀ n ∈ ((F : Int) + (i : Int)) :: r.t.map (fun n => (F : Int) + n), InR n := fun n hn => by
   rcases List.mem_cons.1 hn with rfl | hn
   · exact ⟨by omega, by omega⟩
   · obtain ⟨m, hm, rfl⟩ := List.mem_map.1 hn
     have := stray_no (h2 m hm)
     exact ⟨by omega, by omega⟩
 have he := intsE_map hin
 have hrf : ∀ x ∈ r.a, p.rf (p.tx x) = (cz x, 0) := fun x hx => rf_tx hp (endl_fin (h4 x hx)) (hw x hx)
 refine ⟨?_, ?_⟩
 · unfold rwE
   rw [p2, he]
   simp only []
   rw [if_pos (by refine ⟨by rw [p1, hk], ?_⟩; first | trivial | rfl), fst0_zero, p3]
   intro e hh
   rcases List.mem_append.1 hh with hh | hh
   · obtain ⟨n, hn, rfl⟩ := List.mem_map.1 hh
     obtain ⟨m, hm, rfl⟩ := List.mem_map.1 hn
     have := stray_no (h2 m hm)
     unfold corE
     rw [if_pos ⟨by omega, by omega⟩]
   · obtain ⟨w, hw', rfl⟩ := List.mem_map.1 hh
     obtain ⟨x, hx, rfl⟩ := List.mem_map.1 hw'
     rw [hrf x hx]
 · unfold rwV crw
   rw [p2, he, p3]
   simp only [Option.getD_some, List.tail_cons, List.map_map]
   congr 1
   · have : r.t.map ((fun x => x - (F : Int)) ∘ fun n => (F : Int) + n) = r.t.map id := List.map_congr_left fun n _ => by show (F : Int) + n - (F : Int) = n; omega
     rw [this, List.map_id]
   · exact List.map_congr_left fun x hx => by
       show (p.rf (p.tx x)).1 = cz x
       rw [hrf x hx]
end
theorem goE_back {p : Pm} (hp : p.Ok) {F c k : Nat} (hF : F ≤ 1) : ∀ (l : List Rw) (i n : Nat), (∀ r ∈ l, (∀ x ∈ r.a, x < 18446744073709551616) ∧ amissE (c : Nat) (k : Nat) r = false) → i + l.length ≤ 2000000 → goE p F c k i (nums n (rwsW p (F : Nat) i l)) = .inr (l.map crw) := by
 intro l
 induction l with
 | nil => intro i n _ _; rfl
 | cons q r ih =>
   intro i n h hi
   obtain ⟨h1, h2⟩ := h q (by simp)
   obtain ⟨e1, e2⟩ := rwE_back hp hF h1 h2 (i := i) (by simp at hi; omega)
   rw [rwsW, nums, goE, if_pos e1, ih (i + 1) (n + 1) (fun x hx => h x (by simp [hx])) (by simp at hi; omega), e2]
   rfl
end

/- Package elefile: what is written is read: plain. -/
section
set_option maxRecDepth 100000
open Go.RowKit Go.Shelf Go.Lib
theorem wrE_zero {p : Pm} {f : Fe} (h : (wrE p f).2 = 0) : mayE f = true ∧ (feW p f).all okL = true ∧ fits (feW p f) = true ∧ (wrE p f).1 = wrT (feW p f) := by
 unfold wrE at h ⊢
 by_cases h0 : mayE f = true
 · rw [if_pos h0] at h ⊢
   obtain ⟨h1, h2, h3⟩ := wrV_zero (L := feW p f) (by simp only [] at h; omega)
   exact ⟨h0, h1, h2, h3⟩
 · rw [if_neg h0] at h
   cases h
theorem mayE_parts {f : Fe} (h : mayE f = true) : ∃ F c k : Nat, f.f = (F : Nat) ∧ f.c = (c : Nat) ∧ f.k = (k : Nat) ∧ F ≤ 1 ∧ (c = 3 ∨ c = 6) ∧ k ≤ 16 ∧ f.l.length ≤ 1048576 ∧ ∀ r ∈ f.l, amissE (c : Nat) (k : Nat) r = false := by
 unfold mayE at h
 simp only [Bool.and_eq_true, Bool.or_eq_true, decide_eq_true_eq, Bool.not_eq_true', List.any_eq_false] at h
 obtain ⟨⟨⟨⟨⟨h1, h2⟩, h3⟩, h4⟩, h5⟩, h6⟩ := h
 have e1 : f.f = ((f.f.toNat : Nat) : Int) := by omega
 have e2 : f.c = ((f.c.toNat : Nat) : Int) := by omega
 have e3 : f.k = ((f.k.toNat : Nat) : Int) := by omega
 refine ⟨f.f.toNat, f.c.toNat, f.k.toNat, e1, e2, e3, by omega, by omega, by omega, h5, fun r hr => ?_⟩
 have := h6 r hr
 rw [← e2, ← e3]
 simpa using this
theorem heP_back {n c k : Nat} (hn : n ≤ 1048576) (hc : c = 3 ∨ c = 6) (hk : k ≤ 16) : heP [itoa (n : Nat), itoa (c : Nat), itoa (k : Nat)] = some (n, c, k) := by
 unfold heP
 simp only []
 rw [rd_itoa ⟨by omega, by omega⟩, rd_itoa ⟨by omega, by omega⟩, rd_itoa ⟨by omega, by omega⟩]
 simp only []
 rw [if_pos ⟨by omega, by omega, by omega⟩]
 simp
theorem fst1_back {p : Pm} {F : Nat} (hF : F ≤ 1) : ∀ (l : List Rw) (n : Nat), fst1 (nums n (rwsW p (F : Nat) 0 l)) = if l.length = 0 then 0 else F := by
 intro l n
 cases l with
 | nil => rfl
 | cons q r =>
   have e : (rwW p (F : Nat) 0 q).getD 0 [] = itoa ((F : Nat) : Int) := by unfold rwW; simp
   rw [rwsW, nums, fst1, e, if_neg (by simp : ¬ (q :: r).length = 0)]
   rcases (show F = 0 ∨ F = 1 by omega) with rfl | rfl
   · rw [show itoa (((0 : Nat) : Nat) : Int) = [48] from it_0, if_neg (by decide)]
   · rw [show itoa (((1 : Nat) : Nat) : Int) = [49] from it_1, if_pos rfl]
theorem wrE_back {p : Pm} (hp : p.Ok) {f : Fe} (hw : ∀ r ∈ f.l, ∀ x ∈ r.a, x < 18446744073709551616) (h : (wrE p f).2 = 0) : reV p (wrE p f).1 = (⟨if f.l.length = 0 then 0 else f.f, f.c, f.k, f.l.map crw⟩, 0, 0) := by
 obtain ⟨h0, h1, h2, h3⟩ := wrE_zero h
 obtain ⟨F, c, k, e1, e2, e3, hF, hc, hk, hl, ha⟩ := mayE_parts h0
 have hlen : (nums 2 (rwsW p (F : Nat) 0 f.l)).length = f.l.length := by rw [nums_len, rwsW_len]
 have hgo : goE p (fst1 (nums 2 (rwsW p (F : Nat) 0 f.l))) c k 0 ((nums 2 (rwsW p (F : Nat) 0 f.l)).take f.l.length) = .inr (f.l.map crw) := by
   rw [List.take_of_length_le (by omega), fst1_back hF]
   by_cases h0 : f.l.length = 0
   · have : f.l = [] := List.length_eq_zero_iff.1 h0
     rw [this]; rfl
   · rw [if_neg h0]
     exact goE_back hp hF f.l 0 2 (fun r hr => ⟨hw r hr, ha r hr⟩) (by omega)
 have hE : heE [itoa (f.l.length : Nat), itoa (c : Nat), itoa (k : Nat)] = 0 := by
   unfold heE
   rw [heP_back hl hc hk]
   simp only []
   rw [if_pos ⟨hl, hk⟩]
 rw [h3]
 unfold reV
 rw [rd_wr h1 h2]
 have hn : nums 1 (feW p f) = (1, [itoa (f.l.length : Nat), itoa (c : Nat), itoa (k : Nat)]) :: nums 2 (rwsW p (F : Nat) 0 f.l) := by
   unfold feW
   rw [e1, e2, e3]; rfl
 simp only [if_pos, hn, hE, heP_back hl hc hk]
 unfold flV
 rw [hgo]
 simp only []
 rw [if_neg (by omega), if_neg (by omega), fst1_back hF, e1, e2, e3]
 by_cases h0 : f.l.length = 0
 · rw [if_pos h0, if_pos h0]; rfl
 · rw [if_neg h0, if_neg h0]
end

/- Package elefile: words are handed out one by one. -/
section
set_option maxRecDepth 100000
open Go.RowKit Go.Shelf Go.Lib
attribute [local go_sem] run_store_str
theorem own_obE {w w' : World} {B base e size n : Nat} {v : Value} {xs : List Value} (h : w.ownsRow base e size v n xs) (ho : Ob B w w') (hB : B < base) : w'.ownsRow base e size v n xs := by
 refine ⟨h.1, ?_⟩
 rcases h.2 with h1 | ⟨g, cap, cur, h1, h2, h3, h4⟩
 · exact Or.inl h1
 · refine Or.inr ⟨g, cap, cur, h1, h2, ?_, h4⟩
   rw [ho.block g (Array.getElem?_eq_some_iff.1 h3).1 (by omega)]; exact h3
theorem own_sliceE {w : World} {base e size n : Nat} {v : Value} {xs : List Value} (h : w.ownsRow base e size v n xs) : ∃ a c, v = .slice a n c := by
 rcases h.2 with ⟨rfl, rfl⟩ | ⟨g, cap, cur, rfl, _⟩
 · exact ⟨_, _, rfl⟩
 · exact ⟨_, _, rfl⟩
theorem own_cellE {w : World} {base e n : Nat} {v : Value} {xs : List Value} (h : w.ownsRow base e 1 v n xs) (hn : 0 < n) : ∃ g c, v = .slice (some ⟨g, 0, none⟩) n c ∧ base ≤ g ∧ g < w.heap.size ∧ n ≤ c ∧ c ≤ 9223372036854775807 ∧ (∀ i u, xs[i]? = some u → w.cell? ⟨g, i, none⟩ = some u) ∧ ∀ i, w.frozen? ⟨g, i, none⟩ = false := by
 have h0 := h
 rcases h.2 with ⟨rfl, e⟩ | ⟨g, cap, cur, rfl, h2, h3, h4, h5, _⟩
 · omega
 · refine ⟨g, cap, rfl, h2, (h0.lt g rfl).2, h4, by unfold maxLen at h5; omega, fun i u hu => ?_, fun i => by simp [World.frozen?, h3]⟩
   simpa using own_cellL h0 hu
theorem Ob.grew {B : Nat} {w W W' : World} {e size n : Nat} {v : Value} {xs : List Value} {tmp : Obj} (h : Ob B w W) (ho : W.ownsRow w.heap.size e size v n xs) (hg : (W.alloc tmp).grownBy W' v.ownBlock) : Ob B w W' := by
 have hs := h.size
 refine ⟨hg.os.trans h.os, hg.tape.trans h.tape, hg.output.trans h.output, ?_, fun k hk hn => ?_⟩
 · have := hg.size; simp at this; omega
 · rw [hg.block k (by simp; omega) (fun e => by have := (ho.lt k e.symm).1; omega), Below.heap_alloc _ _ _ (by omega)]
   exact h.block k hk hn
theorem CB.grewE {W W' : World} {b t M : Nat} {cs : Array Value} {e size n : Nat} {v : Value} {xs : List Value} {tmp : Obj} (h : CB W b cs t) (ho : W.ownsRow M e size v n xs) (hb : b < M) (hg : (W.alloc tmp).grownBy W' v.ownBlock) : CB W' b cs t := by
 have hl := h.lt
 unfold CB at h ⊢
 rw [hg.block b (by simp; omega) (fun e => by have := (ho.lt b e.symm).1; omega), Below.heap_alloc _ _ _ (by omega)]
 exact h
def Tr (N : Nat) (W : World) (B : Nat) (ws : List Bs) : Prop := ∃ l, CB W B #[l] 48 ∧ Sl W l ws ∧ Bk N l ∧ N ≤ B
theorem Tr.lt {N : Nat} {W : World} {B : Nat} {ws : List Bs} (h : Tr N W B ws) : B < W.heap.size := by obtain ⟨l, h1, _⟩ := h; exact h1.lt
theorem Tr.later {N : Nat} {W W' : World} {B : Nat} {ws : List Bs} (h : Tr N W B ws) (hb : Below W.heap.size W W') : Tr N W' B ws := by
 obtain ⟨l, h1, h2, h3, h4⟩ := h
 exact ⟨l, h1.later hb, h2.later hb, h3, h4⟩
theorem Tr.grew {N M : Nat} {W W' : World} {B : Nat} {ws : List Bs} {e size n : Nat} {v : Value} {xs : List Value} {tmp : Obj} (h : Tr N W B ws) (ho : W.ownsRow M e size v n xs) (hb : B < M) (hg : (W.alloc tmp).grownBy W' v.ownBlock) : Tr N W' B ws := by
 have hl := h.lt
 obtain ⟨l, h1, h2, h3, h4⟩ := h
 have hB : Below N W W' := ⟨hg.os, hg.tape, hg.output, by have := hg.size; simp at this; omega, fun k hk => by
   rw [hg.block k (by simp; omega) (fun e => by have := (ho.lt k e.symm).1; omega), Below.heap_alloc _ _ _ (by omega)]⟩
 exact ⟨l, h1.grewE ho hb hg, h2.below h3 hB, h3, h4⟩
theorem next_end (B : Nat) (l : Value) (w : World) (h : CB w B #[l] 48) (hS : Sl w l []) :
   Calls Tryz.prog 58 #[.pointer (some ⟨B, 0, none⟩)] w fun e w' => e = .returned (.tuple #[.string ⟨#[]⟩, .bool false]) ∧ w' = w := by
 obtain ⟨a, c, rfl, _⟩ := hS.form
 have c0 : w.cell? ⟨B, 0, none⟩ = some (.slice a 0 c) := h.cell 0 (by simp)
 clear h hS
 go_enter Tryz.func58, Tryz.ntmps58
 go_wp2
 go_ret2
 exact ⟨rfl, rfl⟩
set_option maxHeartbeats 1000000 in
theorem next_take (B : Nat) (l : Value) (x : Bs) (r : List Bs) (w : World) (h : CB w B #[l] 48) (hS : Sl w l (x :: r)) :
   ∃ l', Sl (w.setCell ⟨B, 0, none⟩ l') l' r ∧ l'.ownBlock = l.ownBlock ∧ Calls Tryz.prog 58 #[.pointer (some ⟨B, 0, none⟩)] w fun e w' => e = .returned (.tuple #[sv x, .bool true]) ∧ w' = w.setCell ⟨B, 0, none⟩ l' := by
 obtain ⟨a, c, rfl, h2, h3, h4⟩ := hS.form
 obtain ⟨g, off, rfl, hg, hc⟩ := h4.resolve_left (by simp)
 simp only [List.length_cons] at h2
 rw [List.length_cons] at hS
 have hT := hS.tail
 have c0 : w.cell? ⟨B, 0, none⟩ = some (.slice (some ⟨g, off, none⟩) (r.length + 1) c) := h.cell 0 (by simp)
 have f0 : w.frozen? ⟨B, 0, none⟩ = false := h.frozen 0
 have cx : w.cell? ⟨g, off, none⟩ = some (sv x) := hc 0 x rfl
 obtain ⟨ad, had⟩ : ∃ ad : Addr, (if c = 1 then (⟨g, off, none⟩ : Addr) else ⟨g, off + 1, none⟩) = ad := ⟨_, rfl⟩
 rw [had] at hT
 refine ⟨.slice (some ad) r.length (c - 1), hT.set c0 (by simp) _, by rw [← had]; split <;> rfl, ?_⟩
 have l1 : (r.length : Int) + 1 ≤ c := by omega
 have l2 : (c : Int) ≤ 9223372036854775807 := by omega
 obtain ⟨n, hn⟩ : ∃ n, r.length = n := ⟨_, rfl⟩
 rw [hn] at c0 l1 h2 ⊢
 have hne : ¬ ((n : Int) + 1 = 0) := by omega
 have hne2 : ((n : Int) + 1 == 0) = false := by simpa using hne
 clear hS hT h hc h4 hn
 go_enter Tryz.func58, Tryz.ntmps58
 go_wp2
 all_goals
   go_ret2
   refine ⟨rfl, ?_⟩
   rw [← had]
   simp_all
theorem nextE_any {N : Nat} (B : Nat) (ws : List Bs) (w : World) (h : Tr N w B ws) :
   Calls Tryz.prog 58 #[.pointer (some ⟨B, 0, none⟩)] w fun e w' => e = .returned (.tuple #[sv (ws.headD []), .bool (!ws.isEmpty)]) ∧ Tr N w' B ws.tail ∧ Ob B w w' := by
 obtain ⟨l, h1, h2, h3, h4⟩ := h
 cases ws with
 | nil =>
   refine (next_end B l w h1 h2).mono ?_
   rintro e w' ⟨rfl, rfl⟩
   exact ⟨rfl, ⟨l, h1, h2, h3, h4⟩, Ob.refl _ _⟩
 | cons x r =>
   obtain ⟨l', g1, g2, g3⟩ := next_take B l x r w h1 h2
   refine g3.mono ?_
   rintro e w' ⟨rfl, rfl⟩
   refine ⟨rfl, ⟨l', by have := h1.set 0 l'; simpa using this, g1, fun b hb => h3 b (by rw [← g2]; exact hb), h4⟩, Ob.set _ _ _ _⟩
theorem oneByOne_any (v : Value) (ws : List Bs) (w : World) (hS : Sl w v ws) (hK : Bk w.heap.size v) :
   Calls Tryz.prog 37 #[v] w fun e w' => e = .returned (.func (.func 58) #[] #[.pointer (some ⟨w.heap.size, 0, none⟩)]) ∧ Tr w.heap.size w' w.heap.size ws ∧ Below w.heap.size w w' ∧ w'.heap.size = w.heap.size + 1 := by
 obtain ⟨a, c, rfl, _⟩ := hS.form
 have HT : Hid (Tr w.heap.size (w.alloc (.cells #[.slice a ws.length c] 48)) w.heap.size ws) := Lib.hid ⟨_, CB.new w _ _, hS.later ((Below.refl _ w).alloc (Nat.le_refl _) _), hK, Nat.le_refl _⟩
 clear hS hK
 go_enter Tryz.func37, Tryz.ntmps37
 go_wp2
 go_ret
 exact ⟨rfl, HT.out, (Below.refl _ w).alloc (Nat.le_refl _) _, by simp⟩
end

/- Package elefile: wholes. -/
section
set_option maxRecDepth 100000
open Go.RowKit Go.Shelf Go.Lib
attribute [local go_sem] run_store_str
def isV (ns : List Int) : List Value := ns.map (.int .i64 ·)
theorem isV_app (ns : List Int) (n : Int) : isV (ns ++ [n]) = isV ns ++ [.int .i64 n] := by simp [isV]
theorem makeI_ex (n : Nat) (hn : n ≤ 1000) : ∃ cs : Array Value, cs.size = n ∧ ∀ W : World, (Instr.makeSlice 39 (.int .i64 0) (.int .i64 (n : Int))).run Tryz.prog W = .ok (.slice (some ⟨W.heap.size, 0, none⟩) 0 n) (W.alloc (.cells cs 3)) := by
 obtain ⟨i0, hi0, hz0, hz1, hz2⟩ := info_parts (show (Tryz.prog.info? 3).map (fun i => (i.zero, i.size, i.bytes)) = some (some (.int .i64 0), 1, 8) by kernel_rfl)
 refine ⟨madeCells (.int .i64 0 : Value).cells n, size_madeCells _ _, fun W => ?_⟩
 have h := run_make (P := Tryz.prog) W 39 3 i0 _ Tryz.underlying39 hi0 hz0 .i64 .i64 0 (n : Int) (by omega) (by omega) (by rw [hz2]; omega) (by omega)
 rw [hz1, Nat.mul_one] at h
 exact h
theorem drop_headE {ws : List Bs} {j : Nat} {x : Bs} {r : List Bs} (h : ws.drop j = x :: r) : j < ws.length ∧ ws.take (j + 1) = ws.take j ++ [x] ∧ ws.drop (j + 1) = r ∧ x ∈ ws := by
 have hl : j < ws.length := by
   rcases Nat.lt_or_ge j ws.length with h1 | h1
   · exact h1
   · rw [List.drop_eq_nil_of_le h1] at h; cases h
 have hx : ws[j] = x := by
   have := congrArg (·[0]?) h
   simp only [List.getElem?_drop, Nat.add_zero, List.getElem?_eq_getElem hl] at this
   simpa using this
 refine ⟨hl, by rw [List.take_succ_eq_append_getElem hl, hx], ?_, by rw [← hx]; exact List.getElem_mem hl⟩
 rw [← List.drop_drop, h]; rfl
def WhR (N : Nat) (w w' : World) (B : Nat) (ws : List Bs) (count : Nat) (e : Ending) : Prop :=
 ∃ v ok, e = .returned (.tuple #[v, .bool ok]) ∧ Ob B w w' ∧
   ((ok = true ∧ ∃ ns, count ≤ ws.length ∧ intsE (ws.take count) = some ns ∧ w'.ownsRow w.heap.size 3 1 v count (isV ns) ∧ Tr N w' B (ws.drop count)) ∨
    (ok = false ∧ v = .slice none 0 0 ∧ (ws.length < count ∨ intsE (ws.take count) = none) ∧ ∃ ws', Tr N w' B ws' ∧ ∀ x ∈ ws', x ∈ ws))
set_option maxHeartbeats 8000000 in
theorem wholes_any {N : Nat} (B : Nat) (ws : List Bs) (count : Nat) (w : World) (h : Tr N w B ws) (hl : ∀ x ∈ ws, x.length ≤ 900000) (hc : count ≤ 1000) :
   Calls Tryz.prog 38 #[.func (.func 58) #[] #[.pointer (some ⟨B, 0, none⟩)], .int .i64 (count : Nat)] w fun e w' => WhR N w w' B ws count e := by
 obtain ⟨cs, hcs, hmk⟩ := makeI_ex count hc
 obtain ⟨i0, hi0, hz0, hz1, hz2⟩ := info_parts (show (Tryz.prog.info? 3).map (fun i => (i.zero, i.size, i.bytes)) = some (some (.int .i64 0), 1, 8) by kernel_rfl)
 have HL := Lib.hid hl
 have hBl := h.lt
 obtain ⟨W1, hW1⟩ : ∃ W1, w.alloc (.cells cs 3) = W1 := ⟨_, rfl⟩
 have b1 : Below w.heap.size w W1 := by rw [← hW1]; exact (Below.refl _ w).alloc (Nat.le_refl _) _
 have H1 : Hid (Tr N W1 B ws ∧ W1.ownsRow w.heap.size 3 1 (.slice (some ⟨w.heap.size, 0, none⟩) 0 count) 0 [] ∧ Ob B w W1) := Lib.hid ⟨h.later b1, by rw [← hW1]; exact own_room hcs (by omega), Ob.of_below b1⟩
 have hc' : (count : Int) ≤ 1000 := by omega
 clear h hl b1 hcs
 go_enter Tryz.func38, Tryz.ntmps38
 go_wp2_with fail
 try rw [hW1]
 clear hW1 hmk
 go_loopw [6, 14] (fun s6 s14 wr => ∃ (j : Nat) (nv : Value) (ns : List Int), s14 = .int .i64 (j : Nat) ∧ s6 = nv ∧ j ≤ count ∧ Hid (Tr N wr B (ws.drop j) ∧ j ≤ ws.length ∧ ns.length = j ∧ intsE (ws.take j) = some ns ∧ wr.ownsRow w.heap.size 3 1 nv j (isV ns) ∧ Ob B w wr)) (fun _ s14 _ => count - (RowKit.intOf s14).toNat)
 case atStart => exact ⟨0, _, [], rfl, rfl, by omega, H1.out.1, by omega, rfl, rfl, H1.out.2.1, H1.out.2.2⟩
 case round =>
   obtain ⟨j, nv, ns, rfl, rfl, hj, hI⟩ := hrel
   by_cases hlt : j < count
   · have hlt' : (j : Int) < (count : Int) := by omega
     have HNx := Lib.hid (nextE_any B (ws.drop j) wr hI.out.1)
     obtain ⟨d, hd⟩ : ∃ d, Hid (ws.drop j = d) := ⟨_, Lib.hid rfl⟩
     rw [hd.out] at HNx
     have HI0 := Lib.hid hI.out.2
     clear hI
     rcases d with _ | ⟨x, r⟩
     · have HIn := Lib.hid (fun W => int_sv [] W (by simp))
       have HBad : Hid (ws.length < count ∨ intsE (ws.take count) = none) := Lib.hid (Or.inl (by
         have : ws.length ≤ j := by
           have := congrArg List.length hd.out
           rw [List.length_drop] at this; simp at this; omega
         omega))
       obtain ⟨o, ho⟩ : ∃ o, Hid (rdInt [] = o) := ⟨_, Lib.hid rfl⟩
       rw [ho.out] at HIn
       cases o
       all_goals
         unfold intR at HIn
         try dsimp only at HIn
         try dsimp only [List.headD, List.isEmpty] at HNx
         go_wp2_with fail
         refine HNx.out.mono ?_
         rintro e W2 ⟨rfl, hT2, ho2⟩
         have H2 := Lib.hid (And.intro hT2 (HI0.out.2.2.2.2.trans ho2))
         clear hT2 ho2 HNx
         go_wp2_with fail
         refine (HIn.out _).mono ?_
         rintro e W3 ⟨rfl, rfl⟩
         go_wp2
         go_ret2
         exact ⟨_, false, rfl, H2.out.2, Or.inr ⟨rfl, rfl, HBad.out, _, H2.out.1, fun x hx => by simp at hx⟩⟩
     · have HD := Lib.hid (drop_headE hd.out)
       have HIn := Lib.hid (fun W => int_sv x W (by have := HL.out x HD.out.2.2.2; omega))
       obtain ⟨o, ho⟩ : ∃ o, Hid (rdInt x = o) := ⟨_, Lib.hid rfl⟩
       rw [ho.out] at HIn
       try dsimp only [List.headD, List.isEmpty, List.tail] at HNx
       rcases o with _ | n
       · have HBad : Hid (ws.length < count ∨ intsE (ws.take count) = none) := Lib.hid (Or.inr (by
           have h1 : intsE (ws.take (j + 1)) = none := by rw [HD.out.2.1, intsE_snoc, HI0.out.2.2.1, ho.out]
           rw [← List.take_append_drop (j + 1) (ws.take count), List.take_take, Nat.min_eq_left (by omega)]
           exact intsE_app_none _ h1))
         unfold intR at HIn
         try dsimp only at HIn
         go_wp2_with fail
         refine HNx.out.mono ?_
         rintro e W2 ⟨rfl, hT2, ho2⟩
         have H2 := Lib.hid (And.intro hT2 (HI0.out.2.2.2.2.trans ho2))
         clear hT2 ho2 HNx
         go_wp2_with fail
         refine (HIn.out _).mono ?_
         rintro e W3 ⟨rfl, rfl⟩
         go_wp2
         go_ret2
         refine ⟨_, false, rfl, H2.out.2, Or.inr ⟨rfl, rfl, HBad.out, _, H2.out.1, fun y hy => ?_⟩⟩
         have : y ∈ ws.drop j := by rw [hd.out]; exact List.mem_cons_of_mem _ hy
         exact List.mem_of_mem_drop this
       · unfold intR at HIn
         try dsimp only at HIn
         go_wp2_with fail
         refine HNx.out.mono ?_
         rintro e W2 ⟨rfl, hT2, ho2⟩
         have H2 := Lib.hid (And.intro hT2 (And.intro (own_obE HI0.out.2.2.2.1 ho2 hBl) (HI0.out.2.2.2.2.trans ho2)))
         clear hT2 ho2 HNx
         go_wp2_with fail
         refine (HIn.out _).mono ?_
         rintro e W3 ⟨rfl, rfl⟩
         have hWs : Hid (w.heap.size ≤ W3.heap.size) := Lib.hid H2.out.2.2.size
         go_wp2_with (at_builtin; refine wpList_append_own _ rfl _ _ 39 rfl w.heap.size 3 i0 (.int .i64 0) 1 8 Tryz.underlying39 hi0 hz0 hz1 hz2 rfl (by decide) u6 j (isV ns) rfl (World.ownsRow.alloc H2.out.2.1 _) ⟨W3.heap.size, 0, none⟩ 1 1 [.int .i64 n] rfl rfl (World.news_of_block (cs := #[.int .i64 n]) (t := 3) (fr := (0, 0)) (heap_alloc_new W3 _)) (by simp [Value.oneCell']) (by unfold maxLen; omega) (by omega) (by have := hWs.out; simp; omega) ?_; intro v' W4 hown hgrow _; have H4 := Lib.hid (And.intro (H2.out.1.grew H2.out.2.1 hBl hgrow) (And.intro hown (H2.out.2.2.grew H2.out.2.1 hgrow))); clear hown hgrow)
         refine ⟨⟨j + 1, _, ns ++ [n], by go_num, rfl, by omega, ?_, HD.out.1, by rw [List.length_append, HI0.out.2.1]; rfl, ?_, ?_, H4.out.2.2⟩, by simp [RowKit.intOf]; omega⟩
         · rw [HD.out.2.2.1]; exact H4.out.1
         · rw [HD.out.2.1, intsE_snoc, HI0.out.2.2.1, ho.out]
         · rw [isV_app]; exact H4.out.2.1
   · obtain rfl : j = count := by omega
     have HI0 := Lib.hid hI.out
     obtain ⟨na, nc, rfl⟩ := own_sliceE hI.out.2.2.2.2.1
     clear hI
     go_wp2
     go_ret2
     exact ⟨_, true, rfl, HI0.out.2.2.2.2.2, Or.inl ⟨rfl, ns, HI0.out.2.1, HI0.out.2.2.2.1, HI0.out.2.2.2.2.1, HI0.out.1⟩⟩
end

/- The laws of layer 10: files held against each other. -/
section
set_option maxRecDepth 100000
open Go.RowKit Go.Shelf Go.Lib
def FE (x y : Nat) : Prop := FloatKind.f64.format.order x y = some .eq
theorem FE.of {x y : Nat} (hx : Fin64 x) (hy : Fin64 y) (h : fval x = fval y) : FE x y := by
 unfold FE
 rw [order_val hx hy, if_neg (by rw [h]; exact Rat.lt_irrefl), if_pos h]
def FEs (a b : List Nat) : Prop := a.length = b.length ∧ ∀ i, i < a.length → FE (a.getD i 0) (b.getD i 0)
end

/- The laws of layer 10: Same. -/
section
set_option maxRecDepth 100000
open Go.RowKit Go.Shelf Go.Lib
end

/- The laws of layer 10: what is read again is the same: plain. -/
section
set_option maxRecDepth 100000
open Go.RowKit Go.Shelf Go.Lib
theorem fe_cz {x : Nat} (h : Fin64 x) : FE (cz x) x := FE.of (cz_fin h) h (cz_val x)
end

/- A file of nodes that is handed in, opened. -/
section
set_option maxRecDepth 100000
open Go.ChangeShapes Go.WideShapes Go.ChangeAt Go.RowKit Go.Deep Go.Lib Go.Joins
instance : Inhabited Nt := ⟨(⟨0, 0, [], 0⟩, .tuple #[])⟩
theorem uFlt10 : Tryz.prog.underlying 43 = some (.float .f64) := by kernel_rfl
theorem uFs10 : Tryz.prog.underlying 40 = some (.slice 43) := by kernel_rfl
theorem uInt10 : Tryz.prog.underlying 3 = some (.int .i64) := by kernel_rfl
theorem list2 {α : Type} {cs : List α} (h : cs.length = 2) : ∃ c0 c1, cs = [c0, c1] := by
 match cs, h with
 | [c0, c1], _ => exact ⟨c0, c1, rfl⟩
theorem float_trod10 {H : Type} {enc : TypeId × Value → H} {P : Program} {w : World} {base m : Nat} {sp : Nat → Bool} {held : Bool} {e : TypeId} {c : Value} {x : DataW H × List MemPlace}
   (he : P.underlying e = some (.float .f64)) (h : DataW.trod enc P w base sp held m e [c] = some x) : ∃ b, c = .float .f64 b ∧ b < 18446744073709551616 := by
 cases m with
 | zero => simp [DataW.trod] at h
 | succ m =>
   unfold DataW.trod at h
   rw [he] at h
   cases c with
   | float k b =>
     simp only [] at h
     split at h
     · rename_i hk
       obtain ⟨rfl, hw⟩ := hk
       exact ⟨b, rfl, by simpa [Lit.wf, FloatKind.has] using hw⟩
     · cases h
   | _ => simp at h
theorem int_trod10 {H : Type} {enc : TypeId × Value → H} {P : Program} {w : World} {base m : Nat} {sp : Nat → Bool} {held : Bool} {e : TypeId} {c : Value} {x : DataW H × List MemPlace}
   (he : P.underlying e = some (.int .i64)) (h : DataW.trod enc P w base sp held m e [c] = some x) : ∃ n, c = .int .i64 n ∧ InR n := by
 cases m with
 | zero => simp [DataW.trod] at h
 | succ m =>
   unfold DataW.trod at h
   rw [he] at h
   cases c with
   | int k b =>
     simp only [] at h
     split at h
     · rename_i hk
       obtain ⟨rfl, hw⟩ := hk
       simp only [Lit.wf, Bool.and_eq_true, decide_eq_true_eq] at hw
       exact ⟨b, rfl, hw.1, hw.2⟩
     · cases h
   | _ => simp at h
theorem weightsAll_mem10 {H : Type} {P : Program} {e : TypeId} : ∀ {ds : List (DataW H)} {d : DataW H} {n : Nat}, d ∈ ds → n ∈ d.weights P e → n ∈ DataW.weightsAll P e ds := by
 intro ds
 induction ds with
 | nil => intro d n h; simp at h
 | cons a r ih =>
   intro d n h hn
   simp only [DataW.weightsAll, List.mem_append]
   rcases List.mem_cons.1 h with e | e
   · subst e; exact Or.inl hn
   · exact Or.inr (ih e hn)
theorem bFlt10 : Tryz.prog.bytesOf 43 = 8 := by kernel_rfl
theorem fs_of_trod {H : Type} {enc : TypeId × Value → H} {W : World} {fuel : Nat} {v : Value} {x : DataW H × List MemPlace} (h : DataW.trod enc Tryz.prog W 0 (fun _ => true) true fuel 40 [v] = some x) (hw : ∀ n ∈ x.1.weights Tryz.prog 40, n ≤ reachBytes) : ∃ bs, Fs W v bs ∧ bs.length ≤ 140737488355328 ∧ ∀ n c, v = .slice none n c → n = 0 ∧ c = 0 := by
 rcases open_slice1 uFs10 (by kernel_rfl) h with ⟨hcs, _⟩ | ⟨a, len, cap, m, n, V, D, Pl, hcs, _, hl, hm, hmm, hx0, hx⟩
 · obtain rfl : v = .slice none 0 0 := by simpa using hcs
   exact ⟨[], ⟨⟨none, 0, rfl, by simp, by omega, Or.inl rfl⟩, fun x hx => by simp at hx⟩, by simp, fun n c e => by cases e; exact ⟨rfl, rfl⟩⟩
 · obtain rfl : v = .slice (some a) len cap := by simpa using hcs
   simp only [if_true] at hmm
   subst hx0
   have hw1 : len ≤ 140737488355328 := by
     have := hw ((len + (m - len)) * 8) (by simp [DataW.weights, bFlt10])
     unfold reachBytes at this
     omega
   have key : ∀ i, i < len → ∃ b : Nat, V i = .float .f64 b ∧ b < 18446744073709551616 := fun i hi => float_trod10 uFlt10 (hx i (by omega)).2
   obtain ⟨q, hq⟩ := choose_lt key
   refine ⟨(List.range len).map q, ⟨⟨some a, cap, by simp, by simpa using hl, by unfold maxLen at hm; omega, ?_⟩, fun b hb => ?_⟩, by simpa using hw1, fun n c e => by simp at e⟩
   · by_cases h0 : len = 0
     · left; subst h0; rfl
     · right
       obtain ⟨b, off, spot⟩ := a
       have hspot : spot = none := by simpa [Addr.add] using World.cell?_spot (hx 0 (by omega)).1
       subst hspot
       refine ⟨b, off, rfl, fun k hk => ?_⟩
       have hlt : k < len := by simpa using hk
       have := (hx k (by omega)).1
       rw [WideShapes.add_plain, (hq k hlt).1] at this
       rw [this]
       simp [List.getD, List.getElem?_range hlt]
   · obtain ⟨i, hi, rfl⟩ := List.mem_map.1 hb
     exact (hq i (List.mem_range.1 hi)).2
end
end Go.Proofs.YtgoadpnoagaflaaGreatDoor
