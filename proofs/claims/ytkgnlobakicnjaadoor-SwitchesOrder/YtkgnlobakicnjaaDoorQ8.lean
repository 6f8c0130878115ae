/- Own texts, put together: Bb Bc Bd Be Bf Bg. -/
import Derived.Test.YtkgnlobakicnjaaDoorQ3
import Derived.Test.YtkgnlobakicnjaaDoorQ5
import Derived.Test.YtkgnlobakicnjaaDoorProg
import Derived.WalkKit
import Derived.WalkSpells
import Derived.WalkLawsBesides
import Derived.OwnWalk
import Derived.Handy
import Derived.Lib.Hide
import Derived.Shelf.Abstract
import Derived.Shelf.RegionOpen
import Derived.Lib.Walk
import Derived.Lib.Strings
import Derived.Laws.Strings3
import Derived.RegionTactic
import Derived.Shelf.Strconv.Clone
import Derived.Shelf.LaysM
import Derived.RangeFuncNested
import Derived.RangeFuncBound
import Derived.RangeFuncCalls
import Derived.RangeFuncLeaves
import Derived.RangeFuncBox
import Derived.RangeFuncWrites
import Derived.OwnWalkIn
import Derived.TacticsInMore
import Derived.LoopNIn
import Derived.LoopIn
import Derived.Maps.AppendAt
import Derived.Deep.QuietTactic
import Derived.BigQuiet
namespace Go.Proofs.YtkgnlobakicnjaaDoor
/- Package strings: Cut at one byte. -/
section
set_option maxRecDepth 100000
open Go.RowKit Go.Shelf Go.Lib
end

/- Package lines: isBlank, mayBe, strings.Clone. -/
section
set_option maxRecDepth 100000
open Go.RowKit Go.Shelf Go.Lib
end

/- Package lines: Clone; told: the words of a line, one by one. -/
section
set_option maxRecDepth 100000
open Go.RowKit Go.Shelf Go.Lib
attribute [local go_sem] Oper.semAt_some
abbrev Wl := { l : Bs // l.length ≤ 70000 }
def TI (a : Bs) (st k : Nat) (pre : List Wl) : Prop := pre.map (·.1) ++ toks (a.drop st) = toks a ∧ ∀ c ∈ (a.drop st).take (k - st), bl c = false
theorem TI.cut {a : Bs} {st k : Nat} {pre : List Wl} (h : TI a st k pre) (hst : st ≤ k) (hk : k ≤ a.length) (hb : ∀ hk : k < a.length, bl a[k] = true) : toks (a.drop st) = one ((a.drop st).take (k - st)) ++ toks (a.drop (k + 1)) := by
 by_cases e : k < a.length
 · have : a.drop st = (a.drop st).take (k - st) ++ a[k] :: a.drop (k + 1) := by
     rw [← List.drop_eq_getElem_cons e]
     have := (List.take_append_drop (k - st) (a.drop st)).symm
     rw [List.drop_drop, show st + (k - st) = k by omega] at this
     exact this
   have h2 := toks_app (r := a.drop (k + 1)) h.2 (hb e)
   rw [← this] at h2
   exact h2
 · obtain rfl : k = a.length := by omega
   have : (a.drop st).take (a.length - st) = a.drop st := List.take_of_length_le (by rw [List.length_drop]; omega)
   have h2 := h.2
   rw [this] at h2 ⊢
   rw [toks_none h2, List.drop_of_length_le (by omega : a.length ≤ a.length + 1)]
   show _ = _ ++ []
   rw [List.append_nil]
theorem take_mid_len {a : Bs} {st k : Nat} (hst : st < k) (hk : k ≤ a.length) : ((a.drop st).take (k - st)).length = k - st := by
 rw [List.length_take, List.length_drop]; omega
theorem one_ne {x : Bs} (h : x ≠ []) : one x = [x] := by
 unfold one; cases x with
 | nil => exact absurd rfl h
 | cons c r => rfl
theorem TI.word {a : Bs} {st k : Nat} {pre : List Wl} (h : TI a st k pre) (hst : st < k) (hk : k ≤ a.length) (hb : ∀ hk : k < a.length, bl a[k] = true) (x : Wl) (hx : x.1 = (a.drop st).take (k - st)) : TI a (k + 1) (k + 1) (pre ++ [x]) ∧ pre.length < (toks a).length := by
 have hc := h.cut (by omega) hk hb
 have hne : (a.drop st).take (k - st) ≠ [] := fun e => by have := take_mid_len hst hk; rw [e] at this; simp at this; omega
 rw [one_ne hne, ← hx] at hc
 have e2 := h.1
 rw [hc] at e2
 refine ⟨⟨?_, fun c hc => by simp at hc⟩, ?_⟩
 · rw [← e2]; simp
 · rw [← e2]; simp
end

/- Package lines: wordsOf. -/
section
set_option maxRecDepth 100000
open Go.RowKit Go.Shelf Go.Lib
attribute [local go_sem] Oper.semAt_some
theorem own_later {w w' : World} {base e size n : Nat} {v : Value} {xs : List Value} (h : w.ownsRow base e size v n xs) (hb : Below w.heap.size w w') : w'.ownsRow base e size v n xs := by
 obtain ⟨hl, h⟩ := h
 refine ⟨hl, ?_⟩
 rcases h with h | ⟨g, cap, cur, e1, h1, h2, h3⟩
 · exact Or.inl h
 · refine Or.inr ⟨g, cap, cur, e1, h1, ?_, h3⟩
   have hg : g < w.heap.size := by
     rcases Nat.lt_or_ge g w.heap.size with e | e
     · exact e
     · rw [Array.getElem?_eq_none e] at h2; cases h2
   rw [hb.block g hg]; exact h2
theorem own_base {w : World} {base base' e size n : Nat} {v : Value} {xs : List Value} (h : w.ownsRow base e size v n xs) (hb : base' ≤ base) : w.ownsRow base' e size v n xs := by
 obtain ⟨hl, h⟩ := h
 refine ⟨hl, ?_⟩
 rcases h with h | ⟨g, cap, cur, e1, h1, h3⟩
 · exact Or.inl h
 · exact Or.inr ⟨g, cap, cur, e1, by omega, h3⟩
theorem own_setL {w : World} {base e size n : Nat} {v : Value} {xs : List Value} (h : w.ownsRow base e size v n xs) {a : Addr} (ha : a.block < base) (x : Value) : (w.setCell a x).ownsRow base e size v n xs := by
 obtain ⟨hl, h⟩ := h
 refine ⟨hl, ?_⟩
 rcases h with h | ⟨g, cap, cur, e1, h1, h2, h3⟩
 · exact Or.inl h
 · refine Or.inr ⟨g, cap, cur, e1, h1, ?_, h3⟩
   rw [Below.heap_setCell _ _ _ _ (by omega)]; exact h2
abbrev svs (ws : List Bs) : List Value := ws.map sv
def Sr (W : World) (B : Nat) (v : Value) (ws : List Bs) : Prop := W.ownsRow B 9 1 v ws.length (svs ws)
theorem Sr.later {W W' : World} {B : Nat} {v : Value} {ws : List Bs} (h : Sr W B v ws) (hb : Below W.heap.size W W') : Sr W' B v ws := own_later h hb
theorem Sr.base {W : World} {B B' : Nat} {v : Value} {ws : List Bs} (h : Sr W B v ws) (hb : B' ≤ B) : Sr W B' v ws := own_base h hb
structure Wo (w W : World) (v : Value) (ws : List Bs) : Prop where
 b2 : Boxed W w.heap.size 50 (.slice none 0 0)
 b3 : Boxed W (w.heap.size + 1) 25 (.int .i64 0)
 b4 : Boxed W (w.heap.size + 1 + 1) 50 v
 row : Sr W (w.heap.size + 4) v ws
 bel : Below w.heap.size w W
 siz : w.heap.size + 4 ≤ W.heap.size
theorem boxed_belowB {W W' : World} {B b : Nat} {t : TypeId} {v : Value} (h : Boxed W b t v) (hb : Below B W W') (hl : b < B) : Boxed W' b t v := (hb.block b hl).trans h
theorem Wo.later {w W W' : World} {v : Value} {ws : List Bs} (h : Wo w W v ws) (hb : Below W.heap.size W W') : Wo w W' v ws :=
 ⟨boxed_belowB h.b2 hb h.b2.lt, boxed_belowB h.b3 hb h.b3.lt, boxed_belowB h.b4 hb h.b4.lt, h.row.later hb, h.bel.trans (hb.mono h.bel.size), Nat.le_trans h.siz hb.size⟩
theorem Wo.own {w A A' : World} {v : Value} {ws : List Bs} {row : Option Nat} {B : Nat} (h : Wo w A v ws) (hB : w.heap.size ≤ B) (hg : A.grownBy A' row) (hr : ∀ r, row = some r → B ≤ r ∧ ∃ o : Obj, A.heap[r]? = some o ∧ o.isCells = false) : Wo w A' v ws := by
 have key : ∀ (b : Nat) (cs : Array Value) (t : TypeId) (f : Nat × Nat), A.heap[b]? = some (.cells cs t f) → some b ≠ row := fun b cs t f hb e => by
   obtain ⟨_, o, ho, hc⟩ := hr b e.symm
   rw [hb] at ho
   cases ho
   cases hc
 refine ⟨h.b2.kept hg (key _ _ _ _ h.b2), h.b3.kept hg (key _ _ _ _ h.b3), h.b4.kept hg (key _ _ _ _ h.b4), World.ownsRow.kept h.row hg ?_, h.bel.grown hg h.bel.size (fun k e => Nat.le_trans hB (hr k e).1), Nat.le_trans h.siz hg.size⟩
 rcases h.row.2 with ⟨h1, _⟩ | ⟨g, cap, cur, h1, h2, h3, h4⟩
 · left; rw [h1]; rfl
 · right
   rw [h1]
   exact key g _ _ _ h3
end

/- Package lines: Read. -/
section
set_option maxRecDepth 100000
open Go.RowKit Go.Shelf Go.Lib
theorem run_store_str (P : Program) (w : World) (a : Addr) (m : Mode) (s : ByteArray) : (store a (.string s) m).run P w = stored P w a (.string s) m := run_store P w a _ m rfl
attribute [local go_sem] run_store_str
abbrev Lt := Nat × List Bs × Value
def lcs (ps : List Lt) : List Value := ps.flatMap fun p => [.int .i64 (p.1 : Nat), p.2.2]
def tell (ps : List Lt) : List (Nat × List Bs) := ps.map fun p => (p.1, p.2.1)
structure Lr (e : TypeId) (W : World) (B : Nat) (v : Value) (ps : List Lt) : Prop where
 own : W.ownsRow B e 2 v ps.length (lcs ps)
 sub : ∀ p ∈ ps, Sr W B p.2.2 p.2.1
 dis : ps.Pairwise (fun p q => p.2.2.ownBlock ≠ q.2.2.ownBlock)
theorem Lr.nil (e : TypeId) (W : World) (B : Nat) : Lr e W B (.slice none 0 0) [] := ⟨World.ownsRow_nil _ _ _ _, fun p hp => by simp at hp, List.Pairwise.nil⟩
theorem Lr.later {e : TypeId} {W W' : World} {B : Nat} {v : Value} {ps : List Lt} (h : Lr e W B v ps) (hb : Below W.heap.size W W') : Lr e W' B v ps := ⟨own_later h.own hb, fun p hp => (h.sub p hp).later hb, h.dis⟩
theorem Lr.base {e : TypeId} {W : World} {B B' : Nat} {v : Value} {ps : List Lt} (h : Lr e W B v ps) (hb : B' ≤ B) : Lr e W B' v ps := ⟨own_base h.own hb, fun p hp => (h.sub p hp).base hb, h.dis⟩
theorem Lr.set {e : TypeId} {W : World} {B : Nat} {v : Value} {ps : List Lt} (h : Lr e W B v ps) {a : Addr} (ha : a.block < B) (x : Value) : Lr e (W.setCell a x) B v ps := ⟨own_setL h.own ha x, fun p hp => own_setL (h.sub p hp) ha x, h.dis⟩
theorem Lr.drew {e : TypeId} {W : World} {B : Nat} {v : Value} {ps : List Lt} (h : Lr e W B v ps) : Lr e W.drew B v ps := h.later (Below.refl _ W).drew
theorem Sr.kept {W W' : World} {B : Nat} {v : Value} {ws : List Bs} {base e size n : Nat} {v2 : Value} {xs : List Value} (h : Sr W B v ws) (h2 : W.ownsRow base e size v2 n xs) (he : e ≠ 9) (hg : W.grownBy W' v2.ownBlock) : Sr W' B v ws := by
 refine World.ownsRow.kept h hg ?_
 rcases h.2 with ⟨rfl, _⟩ | ⟨g, cap, cur, rfl, _, hgb, _⟩
 · exact .inl rfl
 · refine .inr fun e' => ?_
   rcases h2.2 with ⟨rfl, _⟩ | ⟨g2, cap2, cur2, rfl, _, hgb2, _⟩
   · simp [Value.ownBlock] at e'
   · obtain rfl : g = g2 := by simpa [Value.ownBlock] using e'
     rw [hgb] at hgb2
     simp at hgb2
     exact he hgb2.2.symm
def leftR (N : Nat) (W : World) : Nat := match W.cell? ⟨N + 1 + 1, 0, none⟩, W.cell? ⟨N + 1, 0, none⟩ with
 | some (.bool true), some (.string s) => s.size + 1
 | _, _ => 0
structure RI (t : Bs) (m : Bool) (r : Bs) (done : List Bs) : Prop where
 all : lns t = done ++ (if m then lns r else [])
 none : bad 1 done = none
 len : r.length ≤ t.length
theorem lns_step (r : Bs) : lns r = cutT 10 r :: (if cutF 10 r then lns (cutD 10 r) else []) := by
 by_cases h : (10 : UInt8) ∈ r
 · rw [lns_cut h]; simp [cutF, h]
 · rw [lns_none h, (cut_none h).1]; simp [cutF, h]
theorem RI.bad {t r : Bs} {done : List Bs} (h : RI t true r done) (he : lineE (cutT 10 r) ≠ 0) : bad 1 (lns t) = some (1 + done.length, lineE (cutT 10 r)) := by
 rw [h.all, if_pos rfl, bad_app h.none, lns_step, Go.Proofs.YtkgnlobakicnjaaDoor.bad, if_neg he]
theorem RI.step {t r : Bs} {done : List Bs} (h : RI t true r done) (he : lineE (cutT 10 r) = 0) : RI t (cutF 10 r) (cutD 10 r) (done ++ [cutT 10 r]) := by
 refine ⟨?_, ?_, Nat.le_trans (cutD_len _ _) h.len⟩
 · have := h.all
   rw [if_pos rfl, lns_step r] at this
   rw [this, List.append_assoc]; rfl
 · rw [bad_app h.none, Go.Proofs.YtkgnlobakicnjaaDoor.bad, if_pos he]; rfl
end

/- Package lines: Read, the walk. -/
section
set_option maxRecDepth 100000
open Go.RowKit Go.Shelf Go.Lib
attribute [local go_sem] run_store_str
theorem Sr.form {W : World} {B : Nat} {v : Value} {ws : List Bs} (h : Sr W B v ws) : ∃ a c, v = .slice a ws.length c ∧ ws.length ≤ c ∧ c ≤ 9223372036854775807 := by
 rcases h.2 with ⟨h1, h2⟩ | ⟨g, cap, cur, h1, _, _, h3, h4, _⟩
 · exact ⟨none, 0, by rw [h1, h2], by omega, by omega⟩
 · exact ⟨_, _, h1, h3, by unfold maxLen at h4; omega⟩
structure RW (w wr : World) (m : Bool) (s : ByteArray) (k : Nat) (v : Value) (ps : List Lt) : Prop where
 b0 : Boxed wr w.heap.size 3 (.int .i64 (k : Nat))
 b1 : Boxed wr (w.heap.size + 1) 9 (.string s)
 b2 : Boxed wr (w.heap.size + 1 + 1) 4 (.bool m)
 row : Lr 67 wr (w.heap.size + 3) v ps
 bel : Below w.heap.size w wr
 siz : w.heap.size + 3 ≤ wr.heap.size
theorem RW.later {w wr W' : World} {m : Bool} {s : ByteArray} {k : Nat} {v : Value} {ps : List Lt} (h : RW w wr m s k v ps) (hb : Below wr.heap.size wr W') : RW w W' m s k v ps :=
 ⟨boxed_belowB h.b0 hb h.b0.lt, boxed_belowB h.b1 hb h.b1.lt, boxed_belowB h.b2 hb h.b2.lt, h.row.later hb, h.bel.trans (hb.mono h.bel.size), Nat.le_trans h.siz hb.size⟩
theorem RW.left {w wr : World} {m : Bool} {s : ByteArray} {k : Nat} {v : Value} {ps : List Lt} (h : RW w wr m s k v ps) : leftR w.heap.size wr = if m then s.size + 1 else 0 := by
 unfold leftR
 rw [h.b1.cell, h.b2.cell]
 cases m <;> rfl
theorem RW.next {w wr : World} {m m' : Bool} {s s' : ByteArray} {k : Nat} {v : Value} {ps : List Lt} (h : RW w wr m s k v ps) {w0 : World} (hw0 : w0 = wr ∨ w0 = wr.drew) :
   RW w (((w0.setCell ⟨w.heap.size + 1, 0, none⟩ (.string s')).setCell ⟨w.heap.size + 1 + 1, 0, none⟩ (.bool m')).setCell ⟨w.heap.size, 0, none⟩ (.int .i64 ((k + 1 : Nat) : Int))) m' s' (k + 1) v ps := by
 have h : RW w w0 m s k v ps := by
   rcases hw0 with rfl | rfl
   · exact h
   · exact h.later (Below.refl _ wr).drew
 refine ⟨((h.b0.other (by omega) _).other (by omega) _).set _, ((h.b1.set _).other (by omega) _).other (by omega) _, ((h.b2.other (by omega) _).set _).other (by omega) _, ((h.row.set (by show w.heap.size + 1 < _; omega) _).set (by show w.heap.size + 1 + 1 < _; omega) _).set (by show w.heap.size < _; omega) _, ?_, ?_⟩
 · exact ((h.bel.setCell (p := ⟨w.heap.size + 1, 0, none⟩) (by show w.heap.size ≤ w.heap.size + 1; omega) _).setCell (p := ⟨w.heap.size + 1 + 1, 0, none⟩) (by show w.heap.size ≤ w.heap.size + 1 + 1; omega) _).setCell (p := ⟨w.heap.size, 0, none⟩) (Nat.le_refl _) _
 · have := h.siz; simpa [World.setCell] using this
end
end Go.Proofs.YtkgnlobakicnjaaDoor
