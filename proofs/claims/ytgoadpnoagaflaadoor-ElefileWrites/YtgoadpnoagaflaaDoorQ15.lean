/- Own texts, put together: Bg. -/
import Derived.Test.YtgoadpnoagaflaaDoorQ12
/- Package lines: Read, the walk. -/
namespace Go.Proofs.YtgoadpnoagaflaaDoor
set_option maxRecDepth 100000
open Go.RowKit Go.Shelf Go.Lib
attribute [local go_sem] run_store_str
theorem Sr.form {W : World} {B : Nat} {v : Value} {ws : List Bs} (h : Sr W B v ws) : ∃ a c, v = .slice a ws.length c ∧ ws.length ≤ c ∧ c ≤ 9223372036854775807 := by
 rcases h.2 with ⟨h1, h2⟩ | ⟨g, cap, cur, h1, _, _, h3, h4, _⟩
 · exact ⟨none, 0, by rw [h1, h2], by omega, by omega⟩
 · exact ⟨_, _, h1, h3, by unfold maxLen at h4; omega⟩
structure RW (w wr : World) (m : Bool) (s : ByteArray) (k : Nat) (v : Value) (ps : List Lt) : Prop where
 b0 : Boxed wr w.heap.size 3 (.int .i64 (k : Nat))
 b1 : Boxed wr (w.heap.size + 1) 9 (.string s)
 b2 : Boxed wr (w.heap.size + 1 + 1) 4 (.bool m)
 row : Lr 58 wr (w.heap.size + 3) v ps
 bel : Below w.heap.size w wr
 siz : w.heap.size + 3 ≤ wr.heap.size
theorem RW.later {w wr W' : World} {m : Bool} {s : ByteArray} {k : Nat} {v : Value} {ps : List Lt} (h : RW w wr m s k v ps) (hb : Below wr.heap.size wr W') : RW w W' m s k v ps :=
 ⟨boxed_belowB h.b0 hb h.b0.lt, boxed_belowB h.b1 hb h.b1.lt, boxed_belowB h.b2 hb h.b2.lt, h.row.later hb, h.bel.trans (hb.mono h.bel.size), Nat.le_trans h.siz hb.size⟩
theorem RW.left {w wr : World} {m : Bool} {s : ByteArray} {k : Nat} {v : Value} {ps : List Lt} (h : RW w wr m s k v ps) : leftR w.heap.size wr = if m then s.size + 1 else 0 := by
 unfold leftR
 rw [h.b1.cell, h.b2.cell]
 cases m <;> rfl
theorem RW.next {w wr : World} {m m' : Bool} {s s' : ByteArray} {k : Nat} {v : Value} {ps : List Lt} (h : RW w wr m s k v ps) {w0 : World} (hw0 : w0 = wr ∨ w0 = wr.drew) :
   RW w (((w0.setCell ⟨w.heap.size + 1, 0, none⟩ (.string s')).setCell ⟨w.heap.size + 1 + 1, 0, none⟩ (.bool m')).setCell ⟨w.heap.size, 0, none⟩ (.int .i64 ((k + 1 : Nat) : Int))) m' s' (k + 1) v ps := by
 have h : RW w w0 m s k v ps := by
   rcases hw0 with rfl | rfl
   · exact h
   · exact h.later (Below.refl _ wr).drew
 refine ⟨((h.b0.other (by omega) _).other (by omega) _).set _, ((h.b1.set _).other (by omega) _).other (by omega) _, ((h.b2.other (by omega) _).set _).other (by omega) _, ((h.row.set (by show w.heap.size + 1 < _; omega) _).set (by show w.heap.size + 1 + 1 < _; omega) _).set (by show w.heap.size < _; omega) _, ?_, ?_⟩
 · exact ((h.bel.setCell (p := ⟨w.heap.size + 1, 0, none⟩) (by show w.heap.size ≤ w.heap.size + 1; omega) _).setCell (p := ⟨w.heap.size + 1 + 1, 0, none⟩) (by show w.heap.size ≤ w.heap.size + 1 + 1; omega) _).setCell (p := ⟨w.heap.size, 0, none⟩) (Nat.le_refl _) _
 · have := h.siz; simpa [World.setCell] using this
theorem RW.grew {w wr W2 : World} {m : Bool} {s : ByteArray} {k : Nat} {v v' : Value} {ps : List Lt} {p : Lt} {tmp : Obj} (h : RW w wr m s k v ps) (hp : Sr wr (w.heap.size + 3) p.2.2 p.2.1) (hd : ∀ q ∈ ps, q.2.2.ownBlock ≠ p.2.2.ownBlock) (hown : W2.ownsRow (w.heap.size + 3) 58 2 v' (ps.length + 1) (lcs ps ++ [.int .i64 (p.1 : Nat), p.2.2])) (hg : (wr.alloc tmp).grownBy W2 v.ownBlock) : RW w W2 m s k v' (ps ++ [p]) := by
 have ap : ∀ k, v.ownBlock = some k → w.heap.size + 3 ≤ k := fun k hk => (World.ownsRow.lt h.row.own k hk).1
 have hs2 := hg.size
 simp only [World.size_alloc] at hs2
 have hz := h.siz
 refine ⟨(h.b0.alloc tmp).kept hg (fun e => by have := ap _ e.symm; omega), (h.b1.alloc tmp).kept hg (fun e => by have := ap _ e.symm; omega), (h.b2.alloc tmp).kept hg (fun e => by have := ap _ e.symm; omega), h.row.grew (by decide) hp hd hown hg, ?_, by omega⟩
 exact h.bel.trans (((Below.refl _ wr).alloc (by omega) _).grown hg (by simp; omega) (fun k hk => by have := ap k hk; omega))
end Go.Proofs.YtgoadpnoagaflaaDoor
