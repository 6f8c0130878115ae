/- Own texts, put together: Bm. -/
import Derived.Test.YtofklahgpkmfmaaGreatDoorQ26
/- The document's side of layer 9: Read. -/
namespace Go.Proofs.YtofklahgpkmfmaaGreatDoor
set_option maxRecDepth 100000
open Go.RowKit Go.Shelf Go.Lib
structure RdI (t : Bs) (st k : Nat) (done : List Bs) : Prop where
 all : lns t = done ++ (if st ≤ t.length then lns (t.drop st) else [])
 free : ∀ c ∈ cw t st k, c ≠ 10
 none : bad 1 done = none
 le : st ≤ k
 fin : k = t.length + 1 → st = k
theorem RdI.start (t : Bs) : RdI t 0 0 [] := ⟨rfl, fun c hc => by simp [cw] at hc, rfl, Nat.le_refl _, fun h => by omega⟩
theorem RdI.done {t : Bs} {st : Nat} {done : List Bs} (h : RdI t st (t.length + 1) done) : lns t = done := by
 have := h.all
 rw [h.fin rfl, if_neg (by omega), List.append_nil] at this
 exact this
theorem RdI.go {t : Bs} {st k : Nat} {done : List Bs} (h : RdI t st k done) (hk : k < t.length) (hc : t[k] ≠ 10) : RdI t st (k + 1) done := by
 refine ⟨h.all, fun c hc' => ?_, h.none, by have := h.le; omega, fun e => by omega⟩
 have := h.le
 unfold cw at hc'
 rw [show k + 1 - st = (k - st) + 1 by omega, List.take_add_one] at hc'
 rcases List.mem_append.1 hc' with e | e
 · exact h.free c e
 · rw [List.getElem?_drop, show st + (k - st) = k by omega, List.getElem?_eq_getElem hk] at e
   obtain rfl : c = t[k] := by simpa using e
   exact hc
theorem RdI.line {t : Bs} {st k : Nat} {done : List Bs} (h : RdI t st k done) (hk : k ≤ t.length) (hc : ∀ hk : k < t.length, t[k] = 10) : lns t = done ++ cw t st k :: (if k + 1 ≤ t.length then lns (t.drop (k + 1)) else []) := by
 rw [h.all, if_pos (by have := h.le; omega)]
 congr 1
 have e := cw_drop (l := t) h.le
 by_cases hlt : k < t.length
 · rw [e, List.drop_eq_getElem_cons hlt, hc hlt, lns_app h.free, if_pos (by omega : k + 1 ≤ t.length)]
 · rw [if_neg (by omega : ¬ k + 1 ≤ t.length), e, List.drop_of_length_le (by omega), List.append_nil, lns_none (fun hm => h.free 10 hm rfl)]
theorem RdI.bad {t : Bs} {st k : Nat} {done : List Bs} (h : RdI t st k done) (hk : k ≤ t.length) (hc : ∀ hk : k < t.length, t[k] = 10) (he : lineE (cw t st k) ≠ 0) : bad 1 (lns t) = some (done.length + 1, lineE (cw t st k)) := by
 rw [h.line hk hc, bad_app h.none, Go.Proofs.YtofklahgpkmfmaaGreatDoor.bad, if_neg he, Nat.add_comm]
theorem RdI.step {t : Bs} {st k : Nat} {done : List Bs} (h : RdI t st k done) (hk : k ≤ t.length) (hc : ∀ hk : k < t.length, t[k] = 10) (he : lineE (cw t st k) = 0) : RdI t (k + 1) (k + 1) (done ++ [cw t st k]) := by
 refine ⟨by rw [h.line hk hc, List.append_assoc]; rfl, fun c hc => by simp [cw] at hc, ?_, Nat.le_refl _, fun _ => rfl⟩
 rw [bad_app h.none, Go.Proofs.YtofklahgpkmfmaaGreatDoor.bad, if_pos he]; rfl
theorem RdI.dlen {t : Bs} {st k : Nat} {done : List Bs} (h : RdI t st k done) : done.length ≤ t.length + 1 := by
 have := lns_len t
 rw [h.all, List.length_append] at this
 omega
theorem Lr.below_grew {e : TypeId} {w W W2 : World} {v : Value} {ps : List Lt} {tmp : Obj} (hb : Below w.heap.size w W) (h : Lr e W w.heap.size v ps) (hg : (W.alloc tmp).grownBy W2 v.ownBlock) : Below w.heap.size w W2 := Go.Proofs.YtofklahgpkmfmaaGreatDoor.below_grew hb h.own hg
end Go.Proofs.YtofklahgpkmfmaaGreatDoor
