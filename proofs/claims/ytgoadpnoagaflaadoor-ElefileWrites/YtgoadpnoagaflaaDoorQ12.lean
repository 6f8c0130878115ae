/- Own texts, put together: Bd Be Bf. -/
import Derived.Test.YtgoadpnoagaflaaDoorQ4
import Derived.Test.YtgoadpnoagaflaaDoorQ7
import Derived.RangeFuncNested
import Derived.RangeFuncBound
import Derived.RangeFuncCalls
import Derived.RangeFuncLeaves
import Derived.RangeFuncBox
import Derived.RangeFuncWrites
import Derived.Shelf.Abstract
import Derived.Shelf.RegionOpen
import Derived.WalkKit
import Derived.OwnWalkIn
import Derived.TacticsInMore
import Derived.LoopNIn
import Derived.LoopIn
import Derived.Maps.AppendAt
import Derived.Deep.QuietTactic
import Derived.BigQuiet
namespace Go.Proofs.YtgoadpnoagaflaaDoor
/- Package lines: Clone; told: the words of a line, one by one. -/
section
set_option maxRecDepth 100000
open Go.RowKit Go.Shelf Go.Lib
attribute [local go_sem] Oper.semAt_some
abbrev Wl := { l : Bs // l.length ≤ 70000 }
def TI (a : Bs) (st k : Nat) (pre : List Wl) : Prop := pre.map (·.1) ++ toks (a.drop st) = toks a ∧ ∀ c ∈ (a.drop st).take (k - st), bl c = false
theorem TI.cut {a : Bs} {st k : Nat} {pre : List Wl} (h : TI a st k pre) (hst : st ≤ k) (hk : k ≤ a.length) (hb : ∀ hk : k < a.length, bl a[k] = true) : toks (a.drop st) = one ((a.drop st).take (k - st)) ++ toks (a.drop (k + 1)) := by
 by_cases e : k < a.length
 · have : a.drop st = (a.drop st).take (k - st) ++ a[k] :: a.drop (k + 1) := by
     rw [← List.drop_eq_getElem_cons e]
     have := (List.take_append_drop (k - st) (a.drop st)).symm
     rw [List.drop_drop, show st + (k - st) = k by omega] at this
     exact this
   have h2 := toks_app (r := a.drop (k + 1)) h.2 (hb e)
   rw [← this] at h2
   exact h2
 · obtain rfl : k = a.length := by omega
   have : (a.drop st).take (a.length - st) = a.drop st := List.take_of_length_le (by rw [List.length_drop]; omega)
   have h2 := h.2
   rw [this] at h2 ⊢
   rw [toks_none h2, List.drop_of_length_le (by omega : a.length ≤ a.length + 1)]
   show _ = _ ++ []
   rw [List.append_nil]
theorem take_mid_len {a : Bs} {st k : Nat} (hst : st < k) (hk : k ≤ a.length) : ((a.drop st).take (k - st)).length = k - st := by
 rw [List.length_take, List.length_drop]; omega
theorem one_ne {x : Bs} (h : x ≠ []) : one x = [x] := by
 unfold one; cases x with
 | nil => exact absurd rfl h
 | cons c r => rfl
theorem TI.word {a : Bs} {st k : Nat} {pre : List Wl} (h : TI a st k pre) (hst : st < k) (hk : k ≤ a.length) (hb : ∀ hk : k < a.length, bl a[k] = true) (x : Wl) (hx : x.1 = (a.drop st).take (k - st)) : TI a (k + 1) (k + 1) (pre ++ [x]) ∧ pre.length < (toks a).length := by
 have hc := h.cut (by omega) hk hb
 have hne : (a.drop st).take (k - st) ≠ [] := fun e => by have := take_mid_len hst hk; rw [e] at this; simp at this; omega
 rw [one_ne hne, ← hx] at hc
 have e2 := h.1
 rw [hc] at e2
 refine ⟨⟨?_, fun c hc => by simp at hc⟩, ?_⟩
 · rw [← e2]; simp
 · rw [← e2]; simp
end

/- Package lines: wordsOf. -/
section
set_option maxRecDepth 100000
open Go.RowKit Go.Shelf Go.Lib
attribute [local go_sem] Oper.semAt_some
theorem own_later {w w' : World} {base e size n : Nat} {v : Value} {xs : List Value} (h : w.ownsRow base e size v n xs) (hb : Below w.heap.size w w') : w'.ownsRow base e size v n xs := by
 obtain ⟨hl, h⟩ := h
 refine ⟨hl, ?_⟩
 rcases h with h | ⟨g, cap, cur, e1, h1, h2, h3⟩
 · exact Or.inl h
 · refine Or.inr ⟨g, cap, cur, e1, h1, ?_, h3⟩
   have hg : g < w.heap.size := by
     rcases Nat.lt_or_ge g w.heap.size with e | e
     · exact e
     · rw [Array.getElem?_eq_none e] at h2; cases h2
   rw [hb.block g hg]; exact h2
theorem own_base {w : World} {base base' e size n : Nat} {v : Value} {xs : List Value} (h : w.ownsRow base e size v n xs) (hb : base' ≤ base) : w.ownsRow base' e size v n xs := by
 obtain ⟨hl, h⟩ := h
 refine ⟨hl, ?_⟩
 rcases h with h | ⟨g, cap, cur, e1, h1, h3⟩
 · exact Or.inl h
 · exact Or.inr ⟨g, cap, cur, e1, by omega, h3⟩
theorem own_setL {w : World} {base e size n : Nat} {v : Value} {xs : List Value} (h : w.ownsRow base e size v n xs) {a : Addr} (ha : a.block < base) (x : Value) : (w.setCell a x).ownsRow base e size v n xs := by
 obtain ⟨hl, h⟩ := h
 refine ⟨hl, ?_⟩
 rcases h with h | ⟨g, cap, cur, e1, h1, h2, h3⟩
 · exact Or.inl h
 · refine Or.inr ⟨g, cap, cur, e1, h1, ?_, h3⟩
   rw [Below.heap_setCell _ _ _ _ (by omega)]; exact h2
abbrev svs (ws : List Bs) : List Value := ws.map sv
def Sr (W : World) (B : Nat) (v : Value) (ws : List Bs) : Prop := W.ownsRow B 9 1 v ws.length (svs ws)
theorem Sr.later {W W' : World} {B : Nat} {v : Value} {ws : List Bs} (h : Sr W B v ws) (hb : Below W.heap.size W W') : Sr W' B v ws := own_later h hb
theorem Sr.base {W : World} {B B' : Nat} {v : Value} {ws : List Bs} (h : Sr W B v ws) (hb : B' ≤ B) : Sr W B' v ws := own_base h hb
structure Wo (w W : World) (v : Value) (ws : List Bs) : Prop where
 b2 : Boxed W w.heap.size 56 (.slice none 0 0)
 b3 : Boxed W (w.heap.size + 1) 23 (.int .i64 0)
 b4 : Boxed W (w.heap.size + 1 + 1) 56 v
 row : Sr W (w.heap.size + 4) v ws
 bel : Below w.heap.size w W
 siz : w.heap.size + 4 ≤ W.heap.size
theorem boxed_belowB {W W' : World} {B b : Nat} {t : TypeId} {v : Value} (h : Boxed W b t v) (hb : Below B W W') (hl : b < B) : Boxed W' b t v := (hb.block b hl).trans h
theorem Wo.later {w W W' : World} {v : Value} {ws : List Bs} (h : Wo w W v ws) (hb : Below W.heap.size W W') : Wo w W' v ws :=
 ⟨boxed_belowB h.b2 hb h.b2.lt, boxed_belowB h.b3 hb h.b3.lt, boxed_belowB h.b4 hb h.b4.lt, h.row.later hb, h.bel.trans (hb.mono h.bel.size), Nat.le_trans h.siz hb.size⟩
theorem Wo.own {w A A' : World} {v : Value} {ws : List Bs} {row : Option Nat} {B : Nat} (h : Wo w A v ws) (hB : w.heap.size ≤ B) (hg : A.grownBy A' row) (hr : ∀ r, row = some r → B ≤ r ∧ ∃ o : Obj, A.heap[r]? = some o ∧ o.isCells = false) : Wo w A' v ws := by
 have key : ∀ (b : Nat) (cs : Array Value) (t : TypeId) (f : Nat × Nat), A.heap[b]? = some (.cells cs t f) → some b ≠ row := fun b cs t f hb e => by
   obtain ⟨_, o, ho, hc⟩ := hr b e.symm
   rw [hb] at ho
   cases ho
   cases hc
 refine ⟨h.b2.kept hg (key _ _ _ _ h.b2), h.b3.kept hg (key _ _ _ _ h.b3), h.b4.kept hg (key _ _ _ _ h.b4), World.ownsRow.kept h.row hg ?_, h.bel.grown hg h.bel.size (fun k e => Nat.le_trans hB (hr k e).1), Nat.le_trans h.siz hg.size⟩
 rcases h.row.2 with ⟨h1, _⟩ | ⟨g, cap, cur, h1, h2, h3, h4⟩
 · left; rw [h1]; rfl
 · right
   rw [h1]
   exact key g _ _ _ h3
theorem Wo.grew {w W W2 : World} {v v' : Value} {ws : List Bs} {x : Bs} {tmp : Obj} (h : Wo w W v ws) (hown : W2.ownsRow (w.heap.size + 4) 9 1 v' (ws.length + 1) (svs ws ++ [sv x])) (hg : (W.alloc tmp).grownBy W2 v.ownBlock) :
   Boxed W2 (w.heap.size + 1 + 1) 56 v ∧ Wo w (W2.setCell ⟨w.heap.size + 1 + 1, 0, none⟩ v') v' (ws ++ [x]) ∧ KeepsOthers W (W2.setCell ⟨w.heap.size + 1 + 1, 0, none⟩ v') := by
 have ap : ∀ k, v.ownBlock = some k → w.heap.size + 4 ≤ k := fun k hk => (World.ownsRow.lt h.row k hk).1
 have h2 : Boxed W2 w.heap.size 56 (.slice none 0 0) := (h.b2.alloc tmp).kept hg (fun e => by have := ap _ e.symm; omega)
 have h3 : Boxed W2 (w.heap.size + 1) 23 (.int .i64 0) := (h.b3.alloc tmp).kept hg (fun e => by have := ap _ e.symm; omega)
 have h4 : Boxed W2 (w.heap.size + 1 + 1) 56 v := (h.b4.alloc tmp).kept hg (fun e => by have := ap _ e.symm; omega)
 have hs2 := hg.size
 simp only [World.size_alloc] at hs2
 have hz := h.siz
 have hb2 : Below w.heap.size W W2 := ((Below.refl _ W).alloc (by omega) _).grown hg (by simp; omega) (fun k hk => by have := ap k hk; omega)
 have hF : Sr W2 (w.heap.size + 4) v' (ws ++ [x]) := by
   unfold Sr
   rw [List.length_append]
   simpa [svs] using hown
 have hk : KeepsOthers W W2 := ⟨by omega, fun k o hk ho => by
   have hlt := (Array.getElem?_eq_some_iff.1 hk).1
   rw [hg.block k (by simp; omega) (fun e => ?_), Below.heap_alloc _ _ _ hlt]
   · exact hk
   · rcases h.row.2 with ⟨h1, _⟩ | ⟨g, cap, cur, h1, h2, h3', h4'⟩
     · rw [h1] at e; simp [Value.ownBlock] at e
     · rw [h1] at e
       obtain rfl : k = g := by simpa [Value.ownBlock] using e
       rw [h3'] at hk
       cases hk
       cases ho⟩
 exact ⟨h4, ⟨h2.other (by omega) _, h3.other (by omega) _, h4.set _, own_setL hF (by show w.heap.size + 1 + 1 < _; omega) _, (h.bel.trans hb2).setCell (by show w.heap.size ≤ w.heap.size + 1 + 1; omega) _, by simp only [World.setCell, Array.size_modify]; omega⟩, hk.trans (KeepsOthers.setCell _ _ _)⟩
end

/- Package lines: Read. -/
section
set_option maxRecDepth 100000
open Go.RowKit Go.Shelf Go.Lib
theorem run_store_str (P : Program) (w : World) (a : Addr) (m : Mode) (s : ByteArray) : (store a (.string s) m).run P w = stored P w a (.string s) m := run_store P w a _ m rfl
attribute [local go_sem] run_store_str
abbrev Lt := Nat × List Bs × Value
def lcs (ps : List Lt) : List Value := ps.flatMap fun p => [.int .i64 (p.1 : Nat), p.2.2]
def tell (ps : List Lt) : List (Nat × List Bs) := ps.map fun p => (p.1, p.2.1)
theorem lcs_app (ps : List Lt) (p : Lt) : lcs (ps ++ [p]) = lcs ps ++ [.int .i64 (p.1 : Nat), p.2.2] := by simp [lcs]
theorem lcs_at : ∀ (ps : List Lt) (k : Nat) (h : k < ps.length), (lcs ps)[2 * k]? = some (.int .i64 (ps[k].1 : Nat)) ∧ (lcs ps)[2 * k + 1]? = some ps[k].2.2 := by
 intro ps
 induction ps with
 | nil => intro k h; simp at h
 | cons p r ih =>
   intro k h
   cases k with
   | zero => exact ⟨rfl, rfl⟩
   | succ k =>
     have := ih k (by simpa using h)
     have e : lcs (p :: r) = [.int .i64 (p.1 : Nat), p.2.2] ++ lcs r := rfl
     rw [e, show 2 * (k + 1) = 2 * k + 2 by omega]
     exact ⟨by simpa using this.1, by simpa using this.2⟩
structure Lr (e : TypeId) (W : World) (B : Nat) (v : Value) (ps : List Lt) : Prop where
 own : W.ownsRow B e 2 v ps.length (lcs ps)
 sub : ∀ p ∈ ps, Sr W B p.2.2 p.2.1
 dis : ps.Pairwise (fun p q => p.2.2.ownBlock ≠ q.2.2.ownBlock)
theorem Lr.nil (e : TypeId) (W : World) (B : Nat) : Lr e W B (.slice none 0 0) [] := ⟨World.ownsRow_nil _ _ _ _, fun p hp => by simp at hp, List.Pairwise.nil⟩
theorem Lr.later {e : TypeId} {W W' : World} {B : Nat} {v : Value} {ps : List Lt} (h : Lr e W B v ps) (hb : Below W.heap.size W W') : Lr e W' B v ps := ⟨own_later h.own hb, fun p hp => (h.sub p hp).later hb, h.dis⟩
theorem Lr.base {e : TypeId} {W : World} {B B' : Nat} {v : Value} {ps : List Lt} (h : Lr e W B v ps) (hb : B' ≤ B) : Lr e W B' v ps := ⟨own_base h.own hb, fun p hp => (h.sub p hp).base hb, h.dis⟩
theorem Lr.set {e : TypeId} {W : World} {B : Nat} {v : Value} {ps : List Lt} (h : Lr e W B v ps) {a : Addr} (ha : a.block < B) (x : Value) : Lr e (W.setCell a x) B v ps := ⟨own_setL h.own ha x, fun p hp => own_setL (h.sub p hp) ha x, h.dis⟩
theorem Lr.drew {e : TypeId} {W : World} {B : Nat} {v : Value} {ps : List Lt} (h : Lr e W B v ps) : Lr e W.drew B v ps := h.later (Below.refl _ W).drew
theorem Sr.kept {W W' : World} {B : Nat} {v : Value} {ws : List Bs} {base e size n : Nat} {v2 : Value} {xs : List Value} (h : Sr W B v ws) (h2 : W.ownsRow base e size v2 n xs) (he : e ≠ 9) (hg : W.grownBy W' v2.ownBlock) : Sr W' B v ws := by
 refine World.ownsRow.kept h hg ?_
 rcases h.2 with ⟨rfl, _⟩ | ⟨g, cap, cur, rfl, _, hgb, _⟩
 · exact .inl rfl
 · refine .inr fun e' => ?_
   rcases h2.2 with ⟨rfl, _⟩ | ⟨g2, cap2, cur2, rfl, _, hgb2, _⟩
   · simp [Value.ownBlock] at e'
   · obtain rfl : g = g2 := by simpa [Value.ownBlock] using e'
     rw [hgb] at hgb2
     simp at hgb2
     exact he hgb2.2.symm
theorem Lr.grew {e : TypeId} {W W2 : World} {B : Nat} {v v' : Value} {ps : List Lt} {p : Lt} {tmp : Obj} (h : Lr e W B v ps) (he : e ≠ 9) (hp : Sr W B p.2.2 p.2.1) (hd : ∀ q ∈ ps, q.2.2.ownBlock ≠ p.2.2.ownBlock) (hown : W2.ownsRow B e 2 v' (ps.length + 1) (lcs ps ++ [.int .i64 (p.1 : Nat), p.2.2])) (hg : (W.alloc tmp).grownBy W2 v.ownBlock) : Lr e W2 B v' (ps ++ [p]) := by
 refine ⟨?_, fun q hq => ?_, List.pairwise_append.2 ⟨h.dis, by simp, fun q hq r hr => by rw [List.mem_singleton.1 hr]; exact hd q hq⟩⟩
 · rw [List.length_append, lcs_app]; exact hown
 · have hs : Sr W B q.2.2 q.2.1 := by
     rcases List.mem_append.1 hq with e | e
     · exact h.sub q e
     · rw [List.mem_singleton.1 e]; exact hp
   exact Sr.kept (World.ownsRow.alloc hs tmp) (h.own.alloc tmp) he hg
def leftR (N : Nat) (W : World) : Nat := match W.cell? ⟨N + 1 + 1, 0, none⟩, W.cell? ⟨N + 1, 0, none⟩ with
 | some (.bool true), some (.string s) => s.size + 1
 | _, _ => 0
structure RI (t : Bs) (m : Bool) (r : Bs) (done : List Bs) : Prop where
 all : lns t = done ++ (if m then lns r else [])
 none : bad 1 done = none
 len : r.length ≤ t.length
theorem lns_step (r : Bs) : lns r = cutT 10 r :: (if cutF 10 r then lns (cutD 10 r) else []) := by
 by_cases h : (10 : UInt8) ∈ r
 · rw [lns_cut h]; simp [cutF, h]
 · rw [lns_none h, (cut_none h).1]; simp [cutF, h]
theorem RI.bad {t r : Bs} {done : List Bs} (h : RI t true r done) (he : lineE (cutT 10 r) ≠ 0) : bad 1 (lns t) = some (1 + done.length, lineE (cutT 10 r)) := by
 rw [h.all, if_pos rfl, bad_app h.none, lns_step, Go.Proofs.YtgoadpnoagaflaaDoor.bad, if_neg he]
theorem RI.step {t r : Bs} {done : List Bs} (h : RI t true r done) (he : lineE (cutT 10 r) = 0) : RI t (cutF 10 r) (cutD 10 r) (done ++ [cutT 10 r]) := by
 refine ⟨?_, ?_, Nat.le_trans (cutD_len _ _) h.len⟩
 · have := h.all
   rw [if_pos rfl, lns_step r] at this
   rw [this, List.append_assoc]; rfl
 · rw [bad_app h.none, Go.Proofs.YtgoadpnoagaflaaDoor.bad, if_pos he]; rfl
end
end Go.Proofs.YtgoadpnoagaflaaDoor
