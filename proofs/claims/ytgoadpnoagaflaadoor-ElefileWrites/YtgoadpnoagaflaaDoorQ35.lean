/- Own texts, put together: Qa Eea Qb Qc Qd Qh Qi Qia Qj Qk Qo Qp Qq Qs Qt Qka Qn Qna Qoa. -/
import Derived.Test.YtgoadpnoagaflaaDoorQ4
import Derived.Test.YtgoadpnoagaflaaDoorQ7
import Derived.Test.YtgoadpnoagaflaaDoorQ18
import Derived.Test.YtgoadpnoagaflaaDoorQ23
import Derived.Test.YtgoadpnoagaflaaDoorQ26
import Derived.Test.YtgoadpnoagaflaaDoorQ28
import Derived.Test.YtgoadpnoagaflaaDoorQ30
import Derived.Test.YtgoadpnoagaflaaDoorQ33
import Derived.Test.YtgoadpnoagaflaaDoorQ34
import Derived.Deep.DeepCutAuto
import Derived.ProofKit
import Derived.OpenShut
import Derived.Laws.Cover2
import Derived.ChangeOld
import Derived.ChangeMaps5
import Derived.Below
import Derived.Carry
import Derived.Deep.Slices
import Derived.Lib.SmallJoins
import Derived.SizedLaws
namespace Go.Proofs.YtgoadpnoagaflaaDoor
/- Package nodefile: what is read and written: plain. -/
section
open Go.RowKit Go.Shelf Go.Lib
structure Pm where
 rf : Bs → Nat × Int
 pt : Nat → Nat → Bool
 tx : Nat → Bs
structure Pm.Ok (p : Pm) : Prop where
 rf : ∀ l, FloatR l (p.rf l).1 (p.rf l).2
 pt : ∀ x y, p.pt x y = true ↔ Pt x y
 tx : ∀ x, x < 18446744073709551616 → TextR x (p.tx x)
theorem floatR_ex (l : Bs) : ∃ q : Nat × Int, FloatR l q.1 q.2 := by
 by_cases h : l.length ≤ 900000
 · obtain ⟨x, er, h1, _⟩ := float_any ⟨l.toArray⟩ (by rw [Lib.size_eq]; simpa using h)
   exact ⟨(x, er), by simpa using h1⟩
 · refine ⟨(0, 4), Or.inl ⟨?_, rfl, rfl⟩⟩
   cases ht : rdTell l with
   | none => rfl
   | some p => have := tell_length ht; omega
theorem pm_ex : ∃ p : Pm, p.Ok := by
 obtain ⟨rf, h1⟩ := Classical.skolem.1 floatR_ex
 obtain ⟨tx, h3⟩ := Classical.skolem.1 (fun x : Nat => (by
   by_cases h : x < 18446744073709551616
   · obtain ⟨l, hl, _⟩ := text_any x h
     exact ⟨l, fun _ => hl⟩
   · exact ⟨[], fun e => absurd e h⟩ : ∃ l : Bs, x < 18446744073709551616 → TextR x l))
 have hd : ∀ q : Nat × Nat, ∃ b : Bool, b = true ↔ Pt q.1 q.2 := fun q => by
   by_cases h : Pt q.1 q.2
   · exact ⟨true, by simp [h]⟩
   · exact ⟨false, by simp [h]⟩
 obtain ⟨pt, h2⟩ := Classical.skolem.1 hd
 exact ⟨⟨rf, fun x y => pt (x, y), tx⟩, h1, fun x y => h2 (x, y), h3⟩
structure Nd where
 x : Nat
 y : Nat
 a : List Nat
 m : Int
def fst0 : List Int → Int
 | [] => 0
 | e :: r => if e = 0 then fst0 r else e
end

/- Package elefile: what is read and written: plain. -/
section
open Go.RowKit Go.Shelf Go.Lib
structure Rw where
 t : List Int
 a : List Nat
def heP (ws : List Bs) : Option (Nat × Nat × Nat) :=
 match ws with
 | [a, b, c] =>
   match rdInt a, rdInt b, rdInt c with
   | some n, some t, some k => if 0 ≤ n ∧ 0 ≤ k ∧ (t = 3 ∨ t = 6) then some (n.toNat, t.toNat, k.toNat) else none
   | _, _, _ => none
 | _ => none
def heE (ws : List Bs) : Nat := match heP ws with
 | none => 4
 | some q => if q.1 ≤ 1048576 ∧ q.2.2 ≤ 16 then 0 else 3
def intsE : List Bs → Option (List Int)
 | [] => some []
 | w :: r => match rdInt w with
   | none => none
   | some n => (intsE r).map (n :: ·)
def corE (f : Nat) (n : Int) : Int := if (f : Int) ≤ n ∧ n < (f : Int) + 1048576 then 0 else 11
def rwE (p : Pm) (f c k i : Nat) (ws : List Bs) : Int :=
 match intsE (ws.take (1 + c)) with
 | some (n :: ns) => if ws.length = 1 + c + k ∧ n = (f : Int) + (i : Int) then fst0 (ns.map (corE f) ++ ((ws.drop (1 + c)).map fun w => (p.rf w).2)) else 4
 | _ => 4
def rwV (p : Pm) (f c : Nat) (ws : List Bs) : Rw :=
 ⟨((intsE (ws.take (1 + c))).getD []).tail.map (· - (f : Int)), (ws.drop (1 + c)).map fun w => (p.rf w).1⟩
def goE (p : Pm) (f c k : Nat) : Nat → List (Nat × List Bs) → Sum (Nat × Int) (List Rw)
 | _, [] => .inr []
 | i, (no, ws) :: r =>
   if rwE p f c k i ws = 0 then
     match goE p f c k (i + 1) r with
     | .inl e => .inl e
     | .inr rs => .inr (rwV p f c ws :: rs)
   else .inl (no, rwE p f c k i ws)
structure Fe where
 f : Int
 c : Int
 k : Int
 l : List Rw
abbrev fe0 : Fe := ⟨0, 0, 0, []⟩
def fst1 : List (Nat × List Bs) → Nat
 | [] => 0
 | (_, ws) :: _ => if ws.getD 0 [] = [49] then 1 else 0
def flV (p : Pm) (n c k : Nat) (L : List (Nat × List Bs)) : Fe × Nat × Int :=
 match goE p (fst1 L) c k 0 (L.take n) with
 | .inl e => (fe0, e.1, e.2)
 | .inr rs => if n < L.length then (fe0, (L.getD n (0, [])).1, 4) else if L.length < n then (fe0, 0, 4) else (⟨(fst1 L : Nat), (c : Nat), (k : Nat), rs⟩, 0, 0)
def reV (p : Pm) (t : Bs) : Fe × Nat × Int :=
 if (rdV t).2.2 = 0 then
   match (rdV t).1 with
   | [] => (fe0, 0, 4)
   | (no, ws) :: r =>
     if heE ws = 0 then
       match heP ws with
       | none => (fe0, no, 4)
       | some (n, c, k) => flV p n c k r
     else (fe0, no, heE ws)
 else (fe0, (rdV t).2.1, (rdV t).2.2)
end

/- Package nodefile: a line's words are taken one by one. -/
section
open Go.RowKit Go.Shelf Go.Lib
attribute [local go_sem] run_store_str
theorem Sl.tail {W : World} {g off c : Nat} {x : Bs} {r : List Bs} (h : Sl W (.slice (some ⟨g, off, none⟩) (r.length + 1) c) (x :: r)) : Sl W (.slice (some (if c = 1 then ⟨g, off, none⟩ else ⟨g, off + 1, none⟩)) r.length (c - 1)) r := by
 obtain ⟨⟨a, c', e, h2, h3, h4⟩, h5⟩ := h
 cases e
 rcases h4 with h4 | ⟨g', o', e, hg, hc⟩
 · cases h4
 cases e
 simp only [List.length_cons] at h2
 refine ⟨⟨_, _, rfl, by omega, by omega, ?_⟩, fun y hy => h5 y (by simp [hy])⟩
 by_cases hr : r = []
 · exact Or.inl hr
 · refine Or.inr ⟨g, off + 1, ?_, hg, fun k y hk => ?_⟩
   · have : 0 < r.length := List.length_pos_iff.2 hr
     rw [if_neg (by omega)]
   · have := hc (k + 1) y (by simpa using hk)
     rwa [show off + (k + 1) = off + 1 + k by omega] at this
def Bk (N : Nat) (l : Value) : Prop := ∀ b, l.ownBlock = some b → b < N
theorem Sl.below {W W' : World} {N : Nat} {v : Value} {ws : List Bs} (h : Sl W v ws) (hk : Bk N v) (hb : Below N W W') : Sl W' v ws := by
 obtain ⟨⟨a, c, h1, h2, h3, h4⟩, h5⟩ := h
 refine ⟨⟨a, c, h1, h2, h3, ?_⟩, h5⟩
 rcases h4 with h4 | ⟨g, off, h6, h7, h8⟩
 · exact Or.inl h4
 · have hg : g < N := hk g (by rw [h1, h6]; rfl)
   exact Or.inr ⟨g, off, h6, Nat.lt_of_lt_of_le h7 hb.size, fun k x hx => cell_later hb hg (h8 k x hx)⟩
theorem Sl.set {W : World} {v : Value} {ws : List Bs} {p : Addr} {u : Value} (h : Sl W v ws) (hp : W.cell? p = some u) (hu : ∀ s, u ≠ .string s) (y : Value) : Sl (W.setCell p y) v ws := by
 obtain ⟨⟨a, c, h1, h2, h3, h4⟩, h5⟩ := h
 refine ⟨⟨a, c, h1, h2, h3, ?_⟩, h5⟩
 rcases h4 with h4 | ⟨g, off, h6, h7, h8⟩
 · exact Or.inl h4
 · refine Or.inr ⟨g, off, h6, by simpa [World.setCell] using h7, fun k x hk => ?_⟩
   have hc := h8 k x hk
   rw [World.cell?_setCell_other]
   · exact hc
   · intro e
     rw [← e] at hc
     rw [hc] at hp
     exact hu _ (Option.some.inj hp).symm
end

/- Package nodefile: the steps of a row. -/
section
set_option maxRecDepth 100000
open Go.RowKit Go.Shelf Go.Lib
structure Ob (B : Nat) (w w' : World) : Prop where
 os : w'.os = w.os
 tape : w'.tape = w.tape
 output : w'.output = w.output
 size : w.heap.size ≤ w'.heap.size
 block : ∀ k, k < w.heap.size → k ≠ B → w'.heap[k]? = w.heap[k]?
theorem Ob.refl (B : Nat) (w : World) : Ob B w w := ⟨rfl, rfl, rfl, Nat.le_refl _, fun _ _ _ => rfl⟩
theorem Ob.trans {B : Nat} {a b c : World} (h : Ob B a b) (k : Ob B b c) : Ob B a c := ⟨k.os.trans h.os, k.tape.trans h.tape, k.output.trans h.output, Nat.le_trans h.size k.size, fun i hi hn => (k.block i (Nat.lt_of_lt_of_le hi h.size) hn).trans (h.block i hi hn)⟩
theorem Ob.set (B i : Nat) (w : World) (v : Value) : Ob B w (w.setCell ⟨B, i, none⟩ v) := ⟨rfl, rfl, rfl, by simp [World.setCell], fun k _ hn => Below.heap_setCell w ⟨B, i, none⟩ v k hn⟩
theorem Ob.below {B N : Nat} {w w' : World} (h : Ob B w w') (h1 : N ≤ B) (h2 : N ≤ w.heap.size) : Below N w w' := ⟨h.os, h.tape, h.output, h.size, fun k hk => h.block k (by omega) (by omega)⟩
theorem Ob.cb {B b t : Nat} {cs : Array Value} {w w' : World} (h : Ob B w w') (hc : CB w b cs t) (hn : b ≠ B) : CB w' b cs t := by
 unfold CB
 rw [h.block b hc.lt hn]; exact hc
theorem Ob.cell {B g i : Nat} {w w' : World} {v : Value} (h : Ob B w w') (hc : w.cell? ⟨g, i, none⟩ = some v) (hn : g ≠ B) : w'.cell? ⟨g, i, none⟩ = some v := by
 have hl : g < w.heap.size := by
   rcases Nat.lt_or_ge g w.heap.size with h0 | h0
   · exact h0
   · simp [World.cell?, Array.getElem?_eq_none h0] at hc
 rw [← hc]
 exact World.cell?_of_block (w := w) (h.block g hl hn)
end

/- Package nodefile: float, the closure that asks for the first number, rowOf, number, width. -/
section
set_option maxRecDepth 100000
open Go.RowKit Go.Shelf Go.Lib
theorem FloatR.word {l : Bs} {x : Nat} {er : Int} (h : FloatR l x er) : x < 18446744073709551616 := by
 rcases h with ⟨_, rfl, _⟩ | ⟨n, e, ok, _, ⟨_, _, h, _⟩ | ⟨_, rfl, _⟩, _⟩
 · omega
 · exact h
 · omega
theorem FloatR.uniq {l : Bs} {x y : Nat} {e f : Int} (h : FloatR l x e) (g : FloatR l y f) : x = y ∧ e = f := by
 rcases h with ⟨h1, rfl, rfl⟩ | ⟨n, k, ok, h1, ⟨rfl, h2, h3, h4, h5⟩ | ⟨rfl, rfl, h2⟩, rfl⟩
 · have := g.form h1
   exact ⟨this.1.symm, this.2.symm⟩
 · have := g.ok h1 h2 h3 h4 h5
   exact ⟨this.1.symm, by simpa using this.2.symm⟩
 · have := g.no h1 h2
   exact ⟨this.1.symm, by simpa using this.2.symm⟩
end

/- Package nodefile: the first number is asked of a closure; rowOf. -/
section
set_option maxRecDepth 100000
open Go.RowKit Go.Shelf Go.Lib
structure Ob2 (B C : Nat) (w w' : World) : Prop where
 os : w'.os = w.os
 tape : w'.tape = w.tape
 output : w'.output = w.output
 size : w.heap.size ≤ w'.heap.size
 block : ∀ k, k < w.heap.size → k ≠ B → k ≠ C → w'.heap[k]? = w.heap[k]?
theorem Ob.two {B C : Nat} {w w' : World} (h : Ob B w w') : Ob2 B C w w' := ⟨h.os, h.tape, h.output, h.size, fun k hk h1 _ => h.block k hk h1⟩
theorem Ob2.trans {B C : Nat} {a b c : World} (h : Ob2 B C a b) (k : Ob2 B C b c) : Ob2 B C a c := ⟨k.os.trans h.os, k.tape.trans h.tape, k.output.trans h.output, Nat.le_trans h.size k.size, fun i hi h1 h2 => (k.block i (Nat.lt_of_lt_of_le hi h.size) h1 h2).trans (h.block i hi h1 h2)⟩
theorem Ob2.cb {B C b t : Nat} {cs : Array Value} {w w' : World} (h : Ob2 B C w w') (hc : CB w b cs t) (h1 : b ≠ B) (h2 : b ≠ C) : CB w' b cs t := by
 unfold CB
 rw [h.block b hc.lt h1 h2]; exact hc
end

/- Package nodefile: nodeOf. -/
section
set_option maxRecDepth 100000
open Go.RowKit Go.Shelf Go.Lib
attribute [local go_sem] run_store_float
theorem Tab.lt {w : World} (h : Tab w) : 2 < w.heap.size := by
 have h0 := h 0 (by decide)
 rcases Nat.lt_or_ge 2 w.heap.size with h1 | h1
 · exact h1
 · simp [World.cell?, Array.getElem?_eq_none h1] at h0
theorem Tab.ne {w : World} {B t : Nat} {a : Option Addr} {n c : Nat} {cs : List Value} (h : Tab w) (hc : CB w B (.slice a n c :: cs).toArray t) : 2 ≠ B := by
 intro e
 have h0 := h 0 (by decide)
 rw [e, hc.cell 0 (by simp)] at h0
 simp at h0
theorem Tab.ob {w w' : World} {B : Nat} (h : Tab w) (ho : Ob B w w') (hn : 2 ≠ B) : Tab w' := fun j hj => ho.cell (h j hj) hn
section
variable {w0 W W' : World} {Bf : Nat} {fc fx : Array Value} {x y : Nat} {av : Value} {ls : List Nat} {mk : Int} {ws : List Bs} {k : Nat} {m : Bool} {j : Nat} {e : Int}
end
end

/- Package nodefile: nodeOf, the walk. -/
section
set_option maxRecDepth 100000
open Go.RowKit Go.Shelf Go.Lib
attribute [local go_sem] run_store_float
section
variable {w0 W : World} {Bf : Nat} {fc fx : Array Value} {x y : Nat} {av : Value} {ls : List Nat} {mk : Int} {ws : List Bs} {k : Nat} {m : Bool} {j : Nat} {e : Int}
end
end

/- Package nodefile: head. -/
section
set_option maxRecDepth 100000
open Go.RowKit Go.Shelf Go.Lib
end

/- Package nodefile: nodes in memory; lines handed in. -/
section
set_option maxRecDepth 100000
open Go.RowKit Go.Shelf Go.Lib
abbrev Nt := Nd × Value
def wdN (p : Nd) : Prop := p.x < 18446744073709551616 ∧ p.y < 18446744073709551616 ∧ InR p.m
structure Lw (W : World) (v : Value) (ps : List Lt) : Prop where
 form : ∃ a c, v = .slice a ps.length c ∧ ps.length ≤ c ∧ c ≤ 9223372036854775807 ∧ (ps = [] ∨ ∃ g off, a = some ⟨g, off, none⟩ ∧ g < W.heap.size ∧ ∀ k p, ps[k]? = some p → W.cell? ⟨g, off + k * 2, none⟩ = some (.int .i64 (p.1 : Nat)) ∧ W.cell? ⟨g, off + k * 2 + 1, none⟩ = some p.2.2)
 sub : ∀ p ∈ ps, Sl W p.2.2 p.2.1 ∧ Bk W.heap.size p.2.2
theorem Lw.later {W W' : World} {v : Value} {ps : List Lt} (h : Lw W v ps) (hb : Below W.heap.size W W') : Lw W' v ps := by
 obtain ⟨⟨a, c, h1, h2, h3, h4⟩, h5⟩ := h
 refine ⟨⟨a, c, h1, h2, h3, ?_⟩, fun p hp => ⟨(h5 p hp).1.later hb, fun b hbb => Nat.lt_of_lt_of_le ((h5 p hp).2 b hbb) hb.size⟩⟩
 rcases h4 with h4 | ⟨g, off, h6, h7, h8⟩
 · exact Or.inl h4
 · exact Or.inr ⟨g, off, h6, Nat.lt_of_lt_of_le h7 hb.size, fun k p hp => ⟨cell_later hb h7 (h8 k p hp).1, cell_later hb h7 (h8 k p hp).2⟩⟩
end

/- Package nodefile: files that are handed in; why a file may not be. -/
section
set_option maxRecDepth 100000
open Go.RowKit Go.Shelf Go.Lib
structure Nv (W : World) (v : Value) (ns : List Nt) : Prop where
 form : ∃ a c, v = .slice a ns.length c ∧ ns.length ≤ c ∧ c ≤ 9223372036854775807 ∧ (ns = [] ∨ ∃ g off, a = some ⟨g, off, none⟩ ∧ g < W.heap.size ∧ ∀ k p, ns[k]? = some p → W.cell? ⟨g, off + k * 4, none⟩ = some (.float .f64 p.1.x) ∧ W.cell? ⟨g, off + k * 4 + 1, none⟩ = some (.float .f64 p.1.y) ∧ W.cell? ⟨g, off + k * 4 + 2, none⟩ = some p.2 ∧ W.cell? ⟨g, off + k * 4 + 3, none⟩ = some (.int .i64 p.1.m))
 sub : ∀ p ∈ ns, Fs W p.2 p.1.a
 wrd : ∀ p ∈ ns, wdN p.1
theorem Nv.later {W W' : World} {v : Value} {ns : List Nt} (h : Nv W v ns) (hb : Below W.heap.size W W') : Nv W' v ns := by
 obtain ⟨⟨a, c, h1, h2, h3, h4⟩, h5, h6⟩ := h
 refine ⟨⟨a, c, h1, h2, h3, ?_⟩, fun p hp => (h5 p hp).later hb, h6⟩
 rcases h4 with h4 | ⟨g, off, h6, h7, h8⟩
 · exact Or.inl h4
 · exact Or.inr ⟨g, off, h6, Nat.lt_of_lt_of_le h7 hb.size, fun k p hp => ⟨cell_later hb h7 (h8 k p hp).1, cell_later hb h7 (h8 k p hp).2.1, cell_later hb h7 (h8 k p hp).2.2.1, cell_later hb h7 (h8 k p hp).2.2.2⟩⟩
def endl (x : Nat) : Bool := isnan x || isinf x
end

/- slices.ContainsFunc as package nodefile asks it. -/
section
set_option maxRecDepth 100000
open Go.RowKit Go.Shelf Go.Lib
theorem any_take {α : Type} {q : α → Bool} {l : List α} {k : Nat} (h : k < l.length) : (l.take (k + 1)).any q = ((l.take k).any q || q l[k]) := by
 rw [List.take_succ_eq_append_getElem h, List.any_append]; simp
end

/- Package nodefile: why a file may not be: wrongOf. -/
section
set_option maxRecDepth 100000
open Go.RowKit Go.Shelf Go.Lib
attribute [local go_sem] run_store_float
end

/- Package nodefile: how a node and a file are written: plain; rows with room. -/
section
set_option maxRecDepth 100000
open Go.RowKit Go.Shelf Go.Lib
theorem makeS_ex (n : Nat) (hn : n ≤ 1000) : ∃ cs : Array Value, cs.size = n ∧ ∀ W : World, (Instr.makeSlice 56 (.int .i64 0) (.int .i64 (n : Int))).run Tryd.prog W = .ok (.slice (some ⟨W.heap.size, 0, none⟩) 0 n) (W.alloc (.cells cs 9)) := by
 obtain ⟨i0, hi0, hz0, hz1, hz2⟩ := info_parts (show (Tryd.prog.info? 9).map (fun i => (i.zero, i.size, i.bytes)) = some (some (.string ⟨#[]⟩), 1, 16) by kernel_rfl)
 refine ⟨madeCells (.string ⟨#[]⟩ : Value).cells n, size_madeCells _ _, fun W => ?_⟩
 have h := run_make (P := Tryd.prog) W 56 9 i0 _ Tryd.underlying56 hi0 hz0 .i64 .i64 0 (n : Int) (by omega) (by omega) (by rw [hz2]; omega) (by omega)
 rw [hz1, Nat.mul_one] at h
 exact h
theorem makeLL_ex (n : Nat) (hn : n ≤ 2000000) : ∃ cs : Array Value, cs.size = n ∧ ∀ W : World, (Instr.makeSlice 63 (.int .i64 0) (.int .i64 (n : Int))).run Tryd.prog W = .ok (.slice (some ⟨W.heap.size, 0, none⟩) 0 n) (W.alloc (.cells cs 56)) := by
 obtain ⟨i0, hi0, hz0, hz1, hz2⟩ := info_parts (show (Tryd.prog.info? 56).map (fun i => (i.zero, i.size, i.bytes)) = some (some (.slice none 0 0), 1, 24) by kernel_rfl)
 refine ⟨madeCells (.slice none 0 0 : Value).cells n, size_madeCells _ _, fun W => ?_⟩
 have h := run_make (P := Tryd.prog) W 63 56 i0 _ Tryd.underlying63 hi0 hz0 .i64 .i64 0 (n : Int) (by omega) (by omega) (by rw [hz2]; omega) (by omega)
 rw [hz1, Nat.mul_one] at h
 exact h
theorem own_room {W : World} {cs : Array Value} {n t : Nat} (h : cs.size = n) (hn : n ≤ 2000000) : (W.alloc (.cells cs t)).ownsRow W.heap.size t 1 (.slice (some ⟨W.heap.size, 0, none⟩) 0 n) 0 [] :=
 ⟨by simp, Or.inr ⟨W.heap.size, n, cs, rfl, Nat.le_refl _, heap_alloc_new W _, by omega, by unfold maxLen; omega, by omega, by simp⟩⟩
theorem TextR.uniq {x : Nat} {l r : Bs} (h : TextR x l) (g : TextR x r) : l = r := by
 by_cases hx : Fin64 x
 · exact (h.same g hx).2 ⟨hx, rfl⟩
 · rcases h with ⟨_, rfl⟩ | ⟨h, _⟩
   · rcases g with ⟨_, rfl⟩ | ⟨g, _⟩
     · rfl
     · exact absurd g hx
   · exact absurd h hx
theorem text_is {p : Pm} (hp : p.Ok) (x : Nat) (lx : x < 18446744073709551616) (w : World) (hT : T8 w) : Calls Tryd.prog 46 #[.float .f64 x] w fun r w' => r = .returned (sv (p.tx x)) ∧ Below w.heap.size w w' := by
 obtain ⟨l, h1, h2⟩ := text_any x lx
 rw [TextR.uniq (hp.tx x lx) h1]
 exact h2 w hT
end

/- Package nodefile: wordsOf. -/
section
set_option maxRecDepth 100000
open Go.RowKit Go.Shelf Go.Lib
attribute [local go_sem] run_store_float
end

/- Package nodefile: taken. -/
section
set_option maxRecDepth 100000
open Go.RowKit Go.Shelf Go.Lib
attribute [local go_sem] run_store_float
end

/- Package nodefile: Take, Read. -/
section
set_option maxRecDepth 100000
open Go.RowKit Go.Shelf Go.Lib
end

/- Package nodefile: Read. -/
section
set_option maxRecDepth 100000
open Go.RowKit Go.Shelf Go.Lib
end

/- A file of nodes that is handed in, opened. -/
section
set_option maxRecDepth 100000
open Go.ChangeShapes Go.WideShapes Go.ChangeAt Go.RowKit Go.Deep Go.Lib Go.Joins
instance : Inhabited Nt := ⟨(⟨0, 0, [], 0⟩, .tuple #[])⟩
theorem uFlt10 : Tryd.prog.underlying 35 = some (.float .f64) := by kernel_rfl
theorem uFs10 : Tryd.prog.underlying 32 = some (.slice 35) := by kernel_rfl
theorem uInt10 : Tryd.prog.underlying 3 = some (.int .i64) := by kernel_rfl
theorem list2 {α : Type} {cs : List α} (h : cs.length = 2) : ∃ c0 c1, cs = [c0, c1] := by
 match cs, h with
 | [c0, c1], _ => exact ⟨c0, c1, rfl⟩
theorem float_trod10 {H : Type} {enc : TypeId × Value → H} {P : Program} {w : World} {base m : Nat} {sp : Nat → Bool} {held : Bool} {e : TypeId} {c : Value} {x : DataW H × List MemPlace}
   (he : P.underlying e = some (.float .f64)) (h : DataW.trod enc P w base sp held m e [c] = some x) : ∃ b, c = .float .f64 b ∧ b < 18446744073709551616 := by
 cases m with
 | zero => simp [DataW.trod] at h
 | succ m =>
   unfold DataW.trod at h
   rw [he] at h
   cases c with
   | float k b =>
     simp only [] at h
     split at h
     · rename_i hk
       obtain ⟨rfl, hw⟩ := hk
       exact ⟨b, rfl, by simpa [Lit.wf, FloatKind.has] using hw⟩
     · cases h
   | _ => simp at h
theorem int_trod10 {H : Type} {enc : TypeId × Value → H} {P : Program} {w : World} {base m : Nat} {sp : Nat → Bool} {held : Bool} {e : TypeId} {c : Value} {x : DataW H × List MemPlace}
   (he : P.underlying e = some (.int .i64)) (h : DataW.trod enc P w base sp held m e [c] = some x) : ∃ n, c = .int .i64 n ∧ InR n := by
 cases m with
 | zero => simp [DataW.trod] at h
 | succ m =>
   unfold DataW.trod at h
   rw [he] at h
   cases c with
   | int k b =>
     simp only [] at h
     split at h
     · rename_i hk
       obtain ⟨rfl, hw⟩ := hk
       simp only [Lit.wf, Bool.and_eq_true, decide_eq_true_eq] at hw
       exact ⟨b, rfl, hw.1, hw.2⟩
     · cases h
   | _ => simp at h
theorem weightsAll_mem10 {H : Type} {P : Program} {e : TypeId} : ∀ {ds : List (DataW H)} {d : DataW H} {n : Nat}, d ∈ ds → n ∈ d.weights P e → n ∈ DataW.weightsAll P e ds := by
 intro ds
 induction ds with
 | nil => intro d n h; simp at h
 | cons a r ih =>
   intro d n h hn
   simp only [DataW.weightsAll, List.mem_append]
   rcases List.mem_cons.1 h with e | e
   · subst e; exact Or.inl hn
   · exact Or.inr (ih e hn)
theorem bFlt10 : Tryd.prog.bytesOf 35 = 8 := by kernel_rfl
theorem fs_of_trod {H : Type} {enc : TypeId × Value → H} {W : World} {fuel : Nat} {v : Value} {x : DataW H × List MemPlace} (h : DataW.trod enc Tryd.prog W 0 (fun _ => true) true fuel 32 [v] = some x) (hw : ∀ n ∈ x.1.weights Tryd.prog 32, n ≤ reachBytes) : ∃ bs, Fs W v bs ∧ bs.length ≤ 140737488355328 ∧ ∀ n c, v = .slice none n c → n = 0 ∧ c = 0 := by
 rcases open_slice1 uFs10 (by kernel_rfl) h with ⟨hcs, _⟩ | ⟨a, len, cap, m, n, V, D, Pl, hcs, _, hl, hm, hmm, hx0, hx⟩
 · obtain rfl : v = .slice none 0 0 := by simpa using hcs
   exact ⟨[], ⟨⟨none, 0, rfl, by simp, by omega, Or.inl rfl⟩, fun x hx => by simp at hx⟩, by simp, fun n c e => by cases e; exact ⟨rfl, rfl⟩⟩
 · obtain rfl : v = .slice (some a) len cap := by simpa using hcs
   simp only [if_true] at hmm
   subst hx0
   have hw1 : len ≤ 140737488355328 := by
     have := hw ((len + (m - len)) * 8) (by simp [DataW.weights, bFlt10])
     unfold reachBytes at this
     omega
   have key : ∀ i, i < len → ∃ b : Nat, V i = .float .f64 b ∧ b < 18446744073709551616 := fun i hi => float_trod10 uFlt10 (hx i (by omega)).2
   obtain ⟨q, hq⟩ := choose_lt key
   refine ⟨(List.range len).map q, ⟨⟨some a, cap, by simp, by simpa using hl, by unfold maxLen at hm; omega, ?_⟩, fun b hb => ?_⟩, by simpa using hw1, fun n c e => by simp at e⟩
   · by_cases h0 : len = 0
     · left; subst h0; rfl
     · right
       obtain ⟨b, off, spot⟩ := a
       have hspot : spot = none := by simpa [Addr.add] using World.cell?_spot (hx 0 (by omega)).1
       subst hspot
       refine ⟨b, off, rfl, fun k hk => ?_⟩
       have hlt : k < len := by simpa using hk
       have := (hx k (by omega)).1
       rw [WideShapes.add_plain, (hq k hlt).1] at this
       rw [this]
       simp [List.getD, List.getElem?_range hlt]
   · obtain ⟨i, hi, rfl⟩ := List.mem_map.1 hb
     exact (hq i (List.mem_range.1 hi)).2
end
end Go.Proofs.YtgoadpnoagaflaaDoor
