/- Own texts, put together: Xn Xo Xp Xq Xr Xs Xt Xu Xv Xw Oc Qa Eea Qb Od Oe Qm Qc Qd Qh Qi Qia Qj Qk Qo Qp Qq Qs Qt Qu Qv Qka Qn Qna Of Og Oh Oi Oj Qza Qzc. -/
import Derived.Test.YtgfloegaoofbbaaDoorQ4
import Derived.Test.YtgfloegaoofbbaaDoorQ7
import Derived.Test.YtgfloegaoofbbaaDoorQ8
import Derived.Test.YtgfloegaoofbbaaDoorQ12
import Derived.Test.YtgfloegaoofbbaaDoorQ17
import Derived.Test.YtgfloegaoofbbaaDoorQ18
import Derived.Test.YtgfloegaoofbbaaDoorQ20
import Derived.RangeFuncNested
import Derived.RangeFuncBound
import Derived.RangeFuncCalls
import Derived.RangeFuncLeaves
import Derived.RangeFuncBox
import Derived.RangeFuncWrites
import Derived.Shelf.Abstract
import Derived.Shelf.RegionOpen
import Derived.WalkKit
import Derived.OwnWalkIn
import Derived.TacticsInMore
import Derived.LoopNIn
import Derived.LoopIn
import Derived.Maps.AppendAt
import Derived.Deep.DeepCutAuto
namespace Go.Proofs.YtgfloegaoofbbaaDoor
/- Package slices: Backward, of floats. -/
section
open Go.RowKit Go.Shelf
attribute [local go_sem] Oper.semAt_some
abbrev Wd := { b : Nat // b < 18446744073709551616 }
end

/- Package slices: Reverse, of floats. -/
section
open Go.RowKit
attribute [local go_sem ↓] Go.wp_at_zero Go.wp_at_succ
attribute [local go_sem] run_store_float
theorem Fr.set {w : World} {B g cap k d : Nat} {bs : List Nat} (h : Fr w B (.slice (some ⟨g, 0, none⟩) bs.length cap) bs) (hd : d < 18446744073709551616) : Fr (w.setCell ⟨g, k, none⟩ (.float .f64 d)) B (.slice (some ⟨g, 0, none⟩) (bs.set k d).length cap) (bs.set k d) := by
 refine ⟨⟨by simp [f64s], ?_⟩, ?_⟩
 · rcases h.own.2 with ⟨h1, _⟩ | ⟨g', cap', cur, h1, h2, h3, h4, h5, h6, h7⟩
   · cases h1
   · cases h1
     refine Or.inr ⟨g, cap, cur.set! k (.float .f64 d), by simp, h2, ?_, by simpa using h4, h5, by simpa using h6, ?_⟩
     · simp [World.setCell, Array.getElem?_modify, h3]
     · rw [Nat.mul_one] at h7
       have : f64s (bs.set k d) = (f64s bs).set k (.float .f64 d) := by simp [f64s, List.map_set]
       rw [this, ← h7]
       simp [List.take_set]
 · intro b hb
   rcases List.mem_or_eq_of_mem_set hb with hb | rfl
   · exact h.word b hb
   · exact hd
theorem Fr.cell {w : World} {B g cap : Nat} {bs : List Nat} (h : Fr w B (.slice (some ⟨g, 0, none⟩) bs.length cap) bs) (k : Nat) (hk : k < bs.length) : w.cell? ⟨g, k, none⟩ = some (.float .f64 (bs.getD k 0)) := by
 have := h.own.cells (g := g) rfl k (.float .f64 (bs.getD k 0)) (by simp [f64s, List.getD, hk])
 rwa [show (⟨g, 0, none⟩ : Addr).add k = ⟨g, k, none⟩ by unfold Addr.add; split <;> simp_all] at this
theorem Fr.frozen {w : World} {B g cap : Nat} {bs : List Nat} (h : Fr w B (.slice (some ⟨g, 0, none⟩) bs.length cap) bs) (k : Nat) : w.frozen? ⟨g, k, none⟩ = false := by
 rcases h.own.2 with ⟨h1, _⟩ | ⟨g', cap', cur, h1, h2, h3, h4, _⟩
 · cases h1
 · cases h1
   simp [World.frozen?, h3]
theorem Fr.base {w : World} {B g cap n : Nat} {bs : List Nat} (h : Fr w B (.slice (some ⟨g, 0, none⟩) n cap) bs) : B ≤ g := by
 exact (h.own.lt g rfl).1
end

/- Package expand: a list squeezed: what is reckoned. -/
section
open Go.RowKit
theorem near_rndE {q : Rat} {r : Nat} (h : Near q r) (hr : r < 9218868437227405312) : ∃ T k, RndE q (fval r) T k := by
 rcases h with ⟨rfl, rfl⟩ | ⟨hq, T, k, hl, hh, e⟩
 · have hu := U_pos 0
   exact ⟨0, 0, ⟨by rw [fval_zero]; rw [show ((0 : Int) : Rat) = 0 from rfl]; grind, by rw [fval_zero]; grind, by rw [fval_zero]; grind, Or.inl rfl, by grind, by grind, by omega, by omega⟩, fun _ => rfl⟩
 · have hb := kept_bounds hl hh
   have e' : r = T * 4503599627370496 + k := by omega
   have hv := fval_rung T k hb.1 hb.2 (by omega)
   rw [← e'] at hv
   have hU := half_unit T
   have hu := p2_pos ((T : Int) - 1075)
   obtain ⟨l1, l2⟩ := hl
   obtain ⟨s1, s2, s3, s4⟩ := hh
   rw [show ((18014398509481984 : Int) : Rat) = 18014398509481984 from rfl] at l2
   rw [show ((9007199254740992 : Int) : Rat) = 9007199254740992 from rfl] at l1
   have e1 : ((2 * (k : Int) - 1 : Int) : Rat) = 2 * ((k : Nat) : Rat) - 1 := by rw [Rat.intCast_sub, Rat.intCast_mul]; rfl
   have e2 : ((2 * (k : Int) + 1 : Int) : Rat) = 2 * ((k : Nat) : Rat) + 1 := by rw [Rat.intCast_add, Rat.intCast_mul]; rfl
   rw [e1] at s1 s3
   rw [e2] at s2 s4
   have kv : ((k : Nat) : Rat) * U T = 2 * (((k : Nat) : Rat) * p2 ((T : Int) - 1075)) := by rw [hU]; grind
   have z1 : (2 * ((k : Nat) : Rat) - 1) * p2 ((T : Int) - 1075) = 2 * (((k : Nat) : Rat) * p2 ((T : Int) - 1075)) - p2 ((T : Int) - 1075) := by grind
   have z2 : (2 * ((k : Nat) : Rat) + 1) * p2 ((T : Int) - 1075) = 2 * (((k : Nat) : Rat) * p2 ((T : Int) - 1075)) + p2 ((T : Int) - 1075) := by grind
   rw [z1] at s1 s3
   rw [z2] at s2 s4
   have hx : fval r = ((k : Int) : Rat) * U T := by rw [hv]; rfl
   rw [kv] at hv
   clear z1 z2 kv e1 e2 e e'
   generalize ((k : Nat) : Rat) * p2 ((T : Int) - 1075) = Z at *
   generalize p2 ((T : Int) - 1075) = h at *
   refine ⟨T, (k : Int), ⟨hx, by rw [hv, hU]; grind, by rw [hv, hU]; grind, ?_, by rw [hU]; grind, by rw [hU]; grind, by omega, by omega⟩, fun he => ?_⟩
   · rcases l1 with l1 | l1
     · exact Or.inl l1
     · exact Or.inr (Or.inl (by rw [hU]; grind))
   · rw [hv, hU] at he
     have : q = 2 * Z - h ∨ q = 2 * Z + h := by
       unfold ab at he
       split at he
       · left; grind
       · right; grind
     rcases this with h1 | h1
     · have := s3 h1; omega
     · have := s4 h1; omega
theorem RndE.neg {q x : Rat} {T : Nat} {k : Int} (h : RndE q x T k) : RndE (-q) (-x) T (-k) := by
 refine ⟨h.1.neg, fun he => ?_⟩
 have := h.2 (by rw [← he, show -q - -x = -(q - x) by grind, ab_neg])
 omega
theorem rv_rndE {q x : Rat} (h : RV q x) : ∃ T k, RndE q x T k := by
 obtain ⟨r, hr, h⟩ := h
 rcases h with ⟨_, n, rfl⟩ | ⟨_, n, rfl⟩
 · exact near_rndE n hr
 · obtain ⟨T, k, R⟩ := near_rndE n hr
   have := R.neg
   rw [show - -q = q by grind] at this
   exact ⟨T, _, this⟩
structure ZS (top : Nat) (S : Rat) (ds : List Nat) (k : Nat) (bs : List Nat) (c : Nat) : Prop where
 inv : ZInv top S (vals bs.reverse) (fval c) (vals (ds.take (ds.length - k)))
 fin : Fin64 c
 fb : ∀ b ∈ bs, Fin64 b
theorem ZS.tame {top : Nat} {S : Rat} {ds : List Nat} {k : Nat} {bs : List Nat} {c x : Nat} (I : ZS top S ds k bs c) (ht : top ≤ 2074) (hx : Fin64 x) (hm : x ∈ ds.take (ds.length - k)) : TameW c x := by
 obtain ⟨p, r1, r2, r3, r4⟩ := I.inv.room
 have u := U_mono (show p ≤ 2074 by omega)
 have hp := I.inv.exl
 have hxc := (List.pairwise_append.1 hp.1).2.2 (fval x) (by simp only [vals, List.mem_map]; exact ⟨x, hm, rfl⟩) (fval c) (by simp)
 have := hxc.lt (hp.2 (fval c) (by simp))
 exact ⟨tame_of I.fin (by grind), tame_of hx (by grind)⟩
theorem take_last {ds : List Nat} {k : Nat} (h : k < ds.length) : ds.take (ds.length - k) = ds.take (ds.length - (k + 1)) ++ [ds.getD (ds.length - 1 - k) 0] := by
 have h2 : ds.length - 1 - k < ds.length := by omega
 rw [show ds.length - k = (ds.length - (k + 1)) + 1 by omega, List.take_add_one, show ds.length - (k + 1) = ds.length - 1 - k by omega]
 simp [List.getD, h2]
theorem ZS.step {top : Nat} {S : Rat} {ds : List Nat} {k : Nat} {bs : List Nat} {c s r : Nat} (I : ZS top S ds k bs c) (ht : top ≤ 2074) (hk : k < ds.length) (hf : ∀ b ∈ ds, Fin64 b)
   (p : Pair (TameW c (ds.getD (ds.length - 1 - k) 0)) (fval c + fval (ds.getD (ds.length - 1 - k) 0)) s r) : (frung r = 0 → ZS top S ds (k + 1) bs s) ∧ (frung r ≠ 0 → ZS top S ds (k + 1) (bs ++ [s]) r) := by
 have hx : Fin64 (ds.getD (ds.length - 1 - k) 0) := hf _ (by
   have h2 : ds.length - 1 - k < ds.length := by omega
   rw [show ds.getD (ds.length - 1 - k) 0 = ds[ds.length - 1 - k] by simp [List.getD, h2]]
   exact List.getElem_mem h2)
 have tm := I.tame ht hx (by rw [take_last hk]; simp)
 have J := I.inv
 rw [take_last hk] at J
 simp only [vals, List.map_append, List.map_cons, List.map_nil] at J
 obtain ⟨fs, fr, ls, lr, ⟨_, rv, e⟩ | ⟨cn, _⟩⟩ := p
 · constructor
   · intro h0
     have z : fval r = 0 := fval_zero_iff.2 h0
     have es : fval s = fval c + fval (ds.getD (ds.length - 1 - k) 0) := by rw [← e, z]; grind
     refine ⟨?_, fs, I.fb⟩
     rw [es]
     exact J.take (by rw [← es]; exact F_fval fs)
   · intro h0
     obtain ⟨T, kk, R⟩ := rv_rndE rv
     have J2 := J.emit R e (F_fval fr) (fun z => h0 (fval_zero_iff.1 z))
     refine ⟨?_, fr, fun b hb => ?_⟩
     · rw [List.reverse_append]
       simpa [vals] using J2
     · rcases List.mem_append.1 hb with hb | hb
       · exact I.fb b hb
       · rw [List.mem_singleton.1 hb]; exact fs
 · exact absurd tm cn
theorem ZS.start {top : Nat} {ds : List Nat} {c : Nat} (h : Up top (ds ++ [c])) : ZS top ((vals (ds ++ [c])).sum) ds 0 [] c := by
 refine ⟨?_, h.fin c (by simp), by simp⟩
 rw [Nat.sub_zero, List.take_length]
 have := ZInv.start (top := top) (c := fval c) (lo := vals ds) (by have := h.ex; simpa [vals] using this) (fun x hx => by
   have : x ∈ vals (ds ++ [c]) := by simpa [vals] using hx
   obtain ⟨b, hb, rfl⟩ := List.mem_map.1 this
   exact ⟨F_fval (h.fin b hb), h.lim b hb⟩)
 simpa [vals] using this
structure Sq (top : Nat) (S : Rat) (bs : List Nat) : Prop where
 ex : Ex (vals bs)
 fin : ∀ b ∈ bs, Fin64 b
 sum : (vals bs).sum = S
 cnt : 52 * bs.length ≤ top + 52
 lead : ∀ L, (vals bs).getLast? = some L → 1125899906842624 * ab (L - S) ≤ ab S ∧ ((0 < L ∧ 0 < S) ∨ (L < 0 ∧ S < 0))
theorem ZS.done {top : Nat} {S : Rat} {ds bs : List Nat} {k c : Nat} (I : ZS top S ds k bs c) (hk : k = ds.length) : Sq top S (bs ++ [c]).reverse := by
 have J := I.inv
 rw [hk, Nat.sub_self, List.take_zero] at J
 rw [List.reverse_append, List.reverse_singleton, List.singleton_append]
 have J' : ZInv top S (vals bs.reverse) (fval c) [] := J
 obtain ⟨h1, h2, h3, h4⟩ := J'.done
 refine ⟨h1, fun b hb => ?_, h2, ?_, fun L hL => J'.lead hL⟩
 · rcases List.mem_cons.1 hb with rfl | hb
   · exact I.fin
   · exact I.fb b (by simpa using hb)
 · simpa [vals] using h4
theorem Sq.nil (top : Nat) : Sq top 0 [] := ⟨⟨List.Pairwise.nil, by simp [vals]⟩, by simp, by simp [vals], by simp, by simp [vals]⟩
end

/- Package expand: a list squeezed: what lies in memory. -/
section
open Go.RowKit Go.Shelf
structure Zw (w : World) (W : World) (v : Value) (bs : List Nat) (c r : Nat) : Prop where
 b3 : Boxed W w.heap.size 36 v
 b4 : Boxed W (w.heap.size + 1) 39 (.float .f64 c)
 b5 : Boxed W (w.heap.size + 1 + 1) 39 (.float .f64 r)
 row : Fr W (w.heap.size + 4) v bs
 bel : Below w.heap.size w W
 siz : w.heap.size + 4 ≤ W.heap.size
 wc : c < 18446744073709551616
 wr : r < 18446744073709551616
structure K4 (w W W' : World) : Prop where
 bel : Below w.heap.size W W'
 box : W'.heap[w.heap.size + 1 + 1 + 1]? = W.heap[w.heap.size + 1 + 1 + 1]?
 oth : KeepsOthers W W'
theorem K4.refl (w W : World) : K4 w W W := ⟨Below.refl _ _, rfl, KeepsOthers.refl _⟩
theorem K4.trans {w A B C : World} (h : K4 w A B) (k : K4 w B C) : K4 w A C := ⟨h.bel.trans k.bel, k.box.trans h.box, h.oth.trans k.oth⟩
theorem K4.set {w W : World} {a : Addr} (h1 : w.heap.size ≤ a.block) (h2 : a.block ≠ w.heap.size + 1 + 1 + 1) (v : Value) : K4 w W (W.setCell a v) :=
 ⟨(Below.refl _ _).setCell h1 v, Below.heap_setCell W a v _ (Ne.symm h2), KeepsOthers.setCell W a v⟩
theorem K4.below {w W W' : World} (h : Below W.heap.size W W') (hs : w.heap.size + 4 ≤ W.heap.size) : K4 w W W' :=
 ⟨h.mono (by omega), h.block _ (by omega), ⟨h.size, fun k o hk _ => (h.block k (Array.getElem?_eq_some_iff.1 hk).1).trans hk⟩⟩
theorem boxed_belowK {W W' : World} {B b : Nat} {t : TypeId} {v : Value} (h : Boxed W b t v) (hb : Below B W W') (hl : b < B) : Boxed W' b t v := (hb.block b hl).trans h
theorem Zw.later {w W W' : World} {v : Value} {bs : List Nat} {c r : Nat} (h : Zw w W v bs c r) (hb : Below W.heap.size W W') : Zw w W' v bs c r :=
 ⟨boxed_belowK h.b3 hb h.b3.lt, boxed_belowK h.b4 hb h.b4.lt, boxed_belowK h.b5 hb h.b5.lt, h.row.later hb, h.bel.trans (hb.mono h.bel.size), Nat.le_trans h.siz hb.size, h.wc, h.wr⟩
theorem Zw.grew {w W W2 : World} {v v' : Value} {bs : List Nat} {c r s : Nat} {tmp : Obj} (h : Zw w W v bs c r) (hs : s < 18446744073709551616) (hown : W2.ownsRow (w.heap.size + 4) 39 1 v' (bs.length + 1) (f64s bs ++ [.float .f64 s])) (hg : (W.alloc tmp).grownBy W2 v.ownBlock) :
   Boxed W2 w.heap.size 36 v ∧ Boxed W2 (w.heap.size + 1) 39 (.float .f64 c) ∧ Boxed W2 (w.heap.size + 1 + 1) 39 (.float .f64 r) ∧ Zw w (W2.setCell ⟨w.heap.size, 0, none⟩ v') v' (bs ++ [s]) c r ∧ K4 w W W2 := by
 have ap : ∀ k, v.ownBlock = some k → w.heap.size + 4 ≤ k := fun k hk => (h.row.own.lt k hk).1
 have h3 : Boxed W2 w.heap.size 36 v := (h.b3.alloc tmp).kept hg (fun e => by have := ap _ e.symm; omega)
 have h4 : Boxed W2 (w.heap.size + 1) 39 (.float .f64 c) := (h.b4.alloc tmp).kept hg (fun e => by have := ap _ e.symm; omega)
 have h5 : Boxed W2 (w.heap.size + 1 + 1) 39 (.float .f64 r) := (h.b5.alloc tmp).kept hg (fun e => by have := ap _ e.symm; omega)
 have hs2 := hg.size
 simp only [World.size_alloc] at hs2
 have hz := h.siz
 have hb2 : Below w.heap.size W W2 := ((Below.refl _ W).alloc (by omega) _).grown hg (by simp; omega) (fun k hk => by have := ap k hk; omega)
 have hF : Fr W2 (w.heap.size + 4) v' (bs ++ [s]) := by
   refine ⟨?_, fun b hb => ?_⟩
   · rw [List.length_append]
     simpa [f64s] using hown
   · rcases List.mem_append.1 hb with hb | hb
     · exact h.row.word b hb
     · rw [List.mem_singleton.1 hb]; exact hs
 refine ⟨h3, h4, h5, ⟨h3.set _, h4.other (by omega) _, h5.other (by omega) _, hF.low (by show w.heap.size < _; omega) _, (h.bel.trans hb2).setCell (Nat.le_refl _) _, by simp only [World.setCell, Array.size_modify]; omega, h.wc, h.wr⟩, ⟨hb2, ?_, ⟨by omega, fun k o hk ho => ?_⟩⟩⟩
 · rw [hg.block _ (by simp; omega) (fun e => by have := ap _ e.symm; omega), Below.heap_alloc _ _ _ (by omega)]
 · have hlt := (Array.getElem?_eq_some_iff.1 hk).1
   rw [hg.block k (by simp; omega) (fun e => ?_), Below.heap_alloc _ _ _ hlt]
   · exact hk
   · rcases h.row.own.2 with ⟨h1, _⟩ | ⟨g, cap, cur, h1, h2, h3', h4'⟩
     · rw [h1] at e; simp [Value.ownBlock] at e
     · rw [h1] at e
       obtain rfl : k = g := by simpa [Value.ownBlock] using e
       rw [h3'] at hk
       cases hk
       cases ho
theorem Zw.own {w A A' : World} {v : Value} {bs : List Nat} {c r : Nat} {row : Option Nat} {B : Nat} (h : Zw w A v bs c r) (hB : w.heap.size ≤ B) (hg : A.grownBy A' row) (hr : ∀ r, row = some r → B ≤ r ∧ ∃ o : Obj, A.heap[r]? = some o ∧ o.isCells = false) : Zw w A' v bs c r := by
 have key : ∀ (b : Nat) (cs : Array Value) (t : TypeId) (f : Nat × Nat), A.heap[b]? = some (.cells cs t f) → some b ≠ row := fun b cs t f hb e => by
   obtain ⟨_, o, ho, hc⟩ := hr b e.symm
   rw [hb] at ho
   cases ho
   cases hc
 refine ⟨h.b3.kept hg (key _ _ _ _ h.b3), h.b4.kept hg (key _ _ _ _ h.b4), h.b5.kept hg (key _ _ _ _ h.b5), ⟨h.row.own.kept hg ?_, h.row.word⟩, h.bel.grown hg h.bel.size (fun k e => Nat.le_trans hB (hr k e).1), Nat.le_trans h.siz hg.size, h.wc, h.wr⟩
 rcases h.row.own.2 with ⟨h1, _⟩ | ⟨g, cap, cur, h1, h2, h3, h4⟩
 · left; rw [h1]; rfl
 · right
   rw [h1]
   exact key g _ _ _ h3
end

/- Package expand: a list squeezed: the walk. -/
section
open Go.RowKit Go.Shelf
attribute [local go_sem] Oper.semAt_some
attribute [local go_sem] run_store_float
end

/- Package expand: a list squeezed, whatever it is; a list turned about. -/
section
open Go.RowKit Go.Shelf
attribute [local go_sem] run_store_float
end

/- Package expand: which lists may be, and what follows of it. -/
section
open Go.RowKit Go.Shelf
theorem up_may {lo hi : Nat} {bs : List Nat} (hx : Ex (vals bs)) (hl : bs.length ≤ 64) (hb : ∀ b ∈ bs, lo ≤ frung b ∧ frung b ≤ hi) : MayP lo hi bs := by
 refine ⟨hl, fun i hi => ?_⟩
 have hm : bs.getD i 0 ∈ bs := by
   rw [show bs.getD i 0 = bs[i] by simp [List.getD, hi]]; exact List.getElem_mem hi
 refine ⟨(hb _ hm).1, (hb _ hm).2, fun e => hx.2 (fval (bs.getD i 0)) (List.mem_map.2 ⟨_, hm, rfl⟩) (fval_zero_iff.2 e), fun h0 => ?_⟩
 have := (List.pairwise_iff_getElem.1 hx.1) (i - 1) i (by simp [vals]; omega) (by simp [vals]; omega) (by omega)
 have h1 : i - 1 < bs.length := by omega
 simpa [vals, List.getD, hi, h1] using this
theorem top990 : fval 9065746049896808448 = U 2064 := by
 rw [(fval_pos_lt (by omega)).1, show fmag 9065746049896808448 = 4503599627370496 by decide, show fpl 9065746049896808448 = 938 by decide]
 unfold U
 rw [show ((2064 : Nat) : Int) - 1074 = 938 + ((52 : Nat) : Int) by omega, p2_add, p2_nat, Rat.mul_comm]
theorem word_le {b : Nat} (h : Fin64 b) (hl : ab (fval b) ≤ U 2064) : frung b ≤ 9065746049896808448 := by
 rcases Nat.lt_or_ge 9065746049896808448 (frung b) with h1 | h1
 · exfalso
   have := fval_lt h1 h
   rw [top990, ab_fval b h] at this
   grind
 · exact h1
theorem Ex.lead {l : List Rat} {c : Rat} (h : Ex (l ++ [c])) : ab l.sum < ab c := by
 have c0 : c ≠ 0 := h.2 c (by simp)
 by_cases e : l = []
 · subst e
   rw [List.sum_nil, show ab 0 = 0 by unfold ab; grind]
   exact ab_pos c0
 · obtain ⟨t, h1, h2⟩ := lo_many (fun d hd => (List.pairwise_append.1 h.1).2.2 d hd c (by simp)) e
   have h3 := h.left.bound (s := t) h1
   have h4 := h2.ge (U_pos t) c0
   grind
theorem vals_last {bs : List Nat} (h : bs ≠ []) : ∃ ds, bs = ds ++ [lastW bs] := by
 rcases List.eq_nil_or_concat bs with rfl | ⟨ds, c, rfl⟩
 · exact absurd rfl h
 · exact ⟨ds, by rw [List.concat_eq_append]; simp [lastW, List.getD]⟩
theorem Ex.le_last {l : List Rat} {c x : Rat} (h : Ex (l ++ [c])) (hx : x ∈ l ++ [c]) : ab x ≤ ab c := by
 rcases List.mem_append.1 hx with hx | hx
 · have := ((List.pairwise_append.1 h.1).2.2 x hx c (by simp)).lt (h.2 c (by simp))
   grind
 · rw [List.mem_singleton.1 hx]; exact Rat.le_refl
theorem Sq.up {top N : Nat} {S : Rat} {bs : List Nat} (h : Sq top S bs) (hS : ab S < U N) : Up (N + 1) bs := by
 refine ⟨h.ex, h.fin, fun b hb => ?_⟩
 have hne : bs ≠ [] := by intro e; rw [e] at hb; cases hb
 obtain ⟨ds, hd⟩ := vals_last hne
 have e2 : vals bs = vals ds ++ [fval (lastW bs)] := by
   conv => lhs; rw [hd]
   simp [vals]
 have hl := (h.lead (fval (lastW bs)) (by rw [e2]; simp)).1
 have hx : fval b ∈ vals bs := List.mem_map.2 ⟨b, hb, rfl⟩
 have hex := h.ex
 rw [e2] at hx hex
 have h1 := hex.le_last hx
 have h2 : ab (fval (lastW bs)) ≤ ab (fval (lastW bs) - S) + ab S := by
   have := ab_add (fval (lastW bs) - S) S
   rwa [show fval (lastW bs) - S + S = fval (lastW bs) by grind] at this
 have h3 := U_succ N
 have h4 := ab_nonneg (fval (lastW bs) - S)
 grind
theorem Up.mono {N N' : Nat} {bs : List Nat} (h : Up N bs) (hN : N ≤ N') : Up N' bs := ⟨h.ex, h.fin, fun b hb => by have := h.lim b hb; have := U_mono hN; grind⟩
theorem up_nil (N : Nat) : Up N [] := ⟨⟨List.Pairwise.nil, by simp [vals]⟩, by simp, by simp⟩
theorem Sq.may {top N : Nat} {S : Rat} {bs : List Nat} (h : Sq top S bs) (hS : ab S < U N) (hN : N ≤ 2063) (ht : top ≤ 2074) : MayP 0 9065746049896808448 bs := by
 have u := h.up hS
 refine up_may h.ex (by have := h.cnt; omega) (fun b hb => ⟨Nat.zero_le _, word_le (h.fin b hb) ?_⟩)
 have := u.lim b hb
 have := U_mono (show N + 1 ≤ 2064 by omega)
 grind
end

/- Package expand: Sign, Near, Cmp, Of. -/
section
open Go.RowKit Go.Shelf
abbrev MayC (bs : List Nat) : Prop := MayP 0 9065746049896808448 bs
end

/- Package expand: Sum, Add. -/
section
open Go.RowKit Go.Shelf
structure SumS (S : Rat) (bs : List Nat) : Prop where
 sum : (vals bs).sum = S
 up : Up 1984 bs
 cnt : bs.length ≤ 64
 may : MayC bs
 sq : ∃ top, Sq top S bs
theorem SumS.nil : SumS 0 [] := ⟨rfl, up_nil _, by simp, ⟨by simp, fun i hi => by simp at hi⟩, ⟨0, Sq.nil 0⟩⟩
theorem SumS.of {S : Rat} {bs : List Nat} {top : Nat} (h : Sq top S bs) (ht : top ≤ 2000) (hS : ab S < U 1983) : SumS S bs :=
 ⟨h.sum, h.up hS, by have := h.cnt; omega, h.may hS (by omega) (by omega), ⟨top, h⟩⟩
end

/- Package expand: Add, Mul, Scale. -/
section
open Go.RowKit Go.Shelf
end

/- Which points may be: grid.Has. -/
section
open Go.RowKit
attribute [local go_sem ↓] Go.wp_at_zero Go.wp_at_succ
attribute [local go_sem] run_store_float
def Pt (x y : Nat) : Prop := Crd x ∧ Crd y
end

/- Package nodefile: what is read and written: plain. -/
section
open Go.RowKit Go.Shelf Go.Lib
structure Pm where
 rf : Bs → Nat × Int
 pt : Nat → Nat → Bool
 tx : Nat → Bs
structure Pm.Ok (p : Pm) : Prop where
 rf : ∀ l, FloatR l (p.rf l).1 (p.rf l).2
 pt : ∀ x y, p.pt x y = true ↔ Pt x y
 tx : ∀ x, x < 18446744073709551616 → TextR x (p.tx x)
theorem floatR_ex (l : Bs) : ∃ q : Nat × Int, FloatR l q.1 q.2 := by
 by_cases h : l.length ≤ 900000
 · obtain ⟨x, er, h1, _⟩ := float_any ⟨l.toArray⟩ (by rw [Lib.size_eq]; simpa using h)
   exact ⟨(x, er), by simpa using h1⟩
 · refine ⟨(0, 4), Or.inl ⟨?_, rfl, rfl⟩⟩
   cases ht : rdTell l with
   | none => rfl
   | some p => have := tell_length ht; omega
structure Nd where
 x : Nat
 y : Nat
 a : List Nat
 m : Int
def fst0 : List Int → Int
 | [] => 0
 | e :: r => if e = 0 then fst0 r else e
theorem fst0_app (a b : List Int) : fst0 (a ++ b) = if fst0 a = 0 then fst0 b else fst0 a := by
 induction a with
 | nil => simp [fst0]
 | cons e r ih =>
   rw [List.cons_append, fst0, fst0]
   by_cases h : e = 0
   · rw [if_pos h, if_pos h, ih]
   · rw [if_neg h, if_neg h, if_neg h]
end

/- Package elefile: what is read and written: plain. -/
section
open Go.RowKit Go.Shelf Go.Lib
structure Rw where
 t : List Int
 a : List Nat
def heP (ws : List Bs) : Option (Nat × Nat × Nat) :=
 match ws with
 | [a, b, c] =>
   match rdInt a, rdInt b, rdInt c with
   | some n, some t, some k => if 0 ≤ n ∧ 0 ≤ k ∧ (t = 3 ∨ t = 6) then some (n.toNat, t.toNat, k.toNat) else none
   | _, _, _ => none
 | _ => none
def heE (ws : List Bs) : Nat := match heP ws with
 | none => 4
 | some q => if q.1 ≤ 1048576 ∧ q.2.2 ≤ 16 then 0 else 3
def intsE : List Bs → Option (List Int)
 | [] => some []
 | w :: r => match rdInt w with
   | none => none
   | some n => (intsE r).map (n :: ·)
theorem intsE_len : ∀ {ws : List Bs} {ns : List Int}, intsE ws = some ns → ns.length = ws.length := by
 intro ws
 induction ws with
 | nil => intro ns h; cases h; rfl
 | cons a r ih =>
   intro ns h
   rw [intsE] at h
   cases hr : rdInt a with
   | none => rw [hr] at h; cases h
   | some n =>
     rw [hr] at h
     simp only [Option.map_eq_some_iff] at h
     obtain ⟨ms, h1, rfl⟩ := h
     rw [List.length_cons, List.length_cons, ih h1]
theorem intsE_snoc (ws : List Bs) (w : Bs) : intsE (ws ++ [w]) = match intsE ws with
   | none => none
   | some ns => match rdInt w with
     | none => none
     | some n => some (ns ++ [n]) := by
 induction ws with
 | nil => simp only [List.nil_append, intsE]; cases rdInt w <;> rfl
 | cons a r ih =>
   rw [List.cons_append, intsE, intsE, ih]
   cases rdInt a with
   | none => rfl
   | some n =>
     cases intsE r with
     | none => rfl
     | some ns => simp only [Option.map_some]; cases rdInt w <;> rfl
theorem intsE_app_none {a : List Bs} (b : List Bs) (h : intsE a = none) : intsE (a ++ b) = none := by
 induction a with
 | nil => cases h
 | cons x r ih =>
   rw [List.cons_append, intsE]
   rw [intsE] at h
   cases hr : rdInt x with
   | none => rfl
   | some n =>
     rw [hr] at h
     simp only [Option.map_eq_none_iff] at h
     simp only [ih h]; rfl
def corE (f : Nat) (n : Int) : Int := if (f : Int) ≤ n ∧ n < (f : Int) + 1048576 then 0 else 11
def rwE (p : Pm) (f c k i : Nat) (ws : List Bs) : Int :=
 match intsE (ws.take (1 + c)) with
 | some (n :: ns) => if ws.length = 1 + c + k ∧ n = (f : Int) + (i : Int) then fst0 (ns.map (corE f) ++ ((ws.drop (1 + c)).map fun w => (p.rf w).2)) else 4
 | _ => 4
def rwV (p : Pm) (f c : Nat) (ws : List Bs) : Rw :=
 ⟨((intsE (ws.take (1 + c))).getD []).tail.map (· - (f : Int)), (ws.drop (1 + c)).map fun w => (p.rf w).1⟩
def goE (p : Pm) (f c k : Nat) : Nat → List (Nat × List Bs) → Sum (Nat × Int) (List Rw)
 | _, [] => .inr []
 | i, (no, ws) :: r =>
   if rwE p f c k i ws = 0 then
     match goE p f c k (i + 1) r with
     | .inl e => .inl e
     | .inr rs => .inr (rwV p f c ws :: rs)
   else .inl (no, rwE p f c k i ws)
theorem goE_snoc (p : Pm) (f c k : Nat) : ∀ (L : List (Nat × List Bs)) (i : Nat) (q : Nat × List Bs), goE p f c k i (L ++ [q]) =
   match goE p f c k i L with
   | .inl e => .inl e
   | .inr rs => if rwE p f c k (i + L.length) q.2 = 0 then .inr (rs ++ [rwV p f c q.2]) else .inl (q.1, rwE p f c k (i + L.length) q.2) := by
 intro L
 induction L with
 | nil =>
   intro i q
   obtain ⟨no, ws⟩ := q
   simp only [List.nil_append, goE, List.length_nil, Nat.add_zero]
 | cons a r ih =>
   intro i q
   obtain ⟨no, ws⟩ := a
   simp only [List.cons_append, goE]
   by_cases h : rwE p f c k i ws = 0
   · rw [if_pos h, if_pos h, ih, List.length_cons, show i + 1 + r.length = i + (r.length + 1) by omega]
     cases goE p f c k (i + 1) r with
     | inl e => rfl
     | inr x =>
       simp only []
       by_cases h2 : rwE p f c k (i + (r.length + 1)) q.2 = 0
       · rw [if_pos h2, if_pos h2]; rfl
       · rw [if_neg h2, if_neg h2]
   · rw [if_neg h, if_neg h]
theorem goE_bad {p : Pm} {f c k : Nat} : ∀ {L : List (Nat × List Bs)} {i : Nat} {e : Nat × Int} (R : List (Nat × List Bs)), goE p f c k i L = .inl e → goE p f c k i (L ++ R) = .inl e := by
 intro L
 induction L with
 | nil => intro i e R h; cases h
 | cons a r ih =>
   intro i e R h
   obtain ⟨no, ws⟩ := a
   simp only [List.cons_append, goE] at h ⊢
   by_cases h0 : rwE p f c k i ws = 0
   · rw [if_pos h0] at h ⊢
     cases hg : goE p f c k (i + 1) r with
     | inl x =>
       rw [hg] at h
       rw [ih R hg]
       exact h
     | inr x => rw [hg] at h; cases h
   · rw [if_neg h0] at h ⊢; exact h
theorem goE_len {p : Pm} {f c k : Nat} : ∀ {L : List (Nat × List Bs)} {i : Nat} {rs : List Rw}, goE p f c k i L = .inr rs → rs.length = L.length := by
 intro L
 induction L with
 | nil => intro i rs h; cases h; rfl
 | cons a r ih =>
   intro i rs h
   obtain ⟨no, ws⟩ := a
   simp only [goE] at h
   by_cases h0 : rwE p f c k i ws = 0
   · rw [if_pos h0] at h
     cases hg : goE p f c k (i + 1) r with
     | inl x => rw [hg] at h; cases h
     | inr x =>
       rw [hg] at h
       cases h
       rw [List.length_cons, List.length_cons, ih hg]
   · rw [if_neg h0] at h; cases h
structure Fe where
 f : Int
 c : Int
 k : Int
 l : List Rw
abbrev fe0 : Fe := ⟨0, 0, 0, []⟩
def fst1 : List (Nat × List Bs) → Nat
 | [] => 0
 | (_, ws) :: _ => if ws.getD 0 [] = [49] then 1 else 0
def flV (p : Pm) (n c k : Nat) (L : List (Nat × List Bs)) : Fe × Nat × Int :=
 match goE p (fst1 L) c k 0 (L.take n) with
 | .inl e => (fe0, e.1, e.2)
 | .inr rs => if n < L.length then (fe0, (L.getD n (0, [])).1, 4) else if L.length < n then (fe0, 0, 4) else (⟨(fst1 L : Nat), (c : Nat), (k : Nat), rs⟩, 0, 0)
def reV (p : Pm) (t : Bs) : Fe × Nat × Int :=
 if (rdV t).2.2 = 0 then
   match (rdV t).1 with
   | [] => (fe0, 0, 4)
   | (no, ws) :: r =>
     if heE ws = 0 then
       match heP ws with
       | none => (fe0, no, 4)
       | some (n, c, k) => flV p n c k r
     else (fe0, no, heE ws)
 else (fe0, (rdV t).2.1, (rdV t).2.2)
end

/- Package nodefile: a line's words are taken one by one. -/
section
open Go.RowKit Go.Shelf Go.Lib
attribute [local go_sem] run_store_str
theorem Sl.tail {W : World} {g off c : Nat} {x : Bs} {r : List Bs} (h : Sl W (.slice (some ⟨g, off, none⟩) (r.length + 1) c) (x :: r)) : Sl W (.slice (some (if c = 1 then ⟨g, off, none⟩ else ⟨g, off + 1, none⟩)) r.length (c - 1)) r := by
 obtain ⟨⟨a, c', e, h2, h3, h4⟩, h5⟩ := h
 cases e
 rcases h4 with h4 | ⟨g', o', e, hg, hc⟩
 · cases h4
 cases e
 simp only [List.length_cons] at h2
 refine ⟨⟨_, _, rfl, by omega, by omega, ?_⟩, fun y hy => h5 y (by simp [hy])⟩
 by_cases hr : r = []
 · exact Or.inl hr
 · refine Or.inr ⟨g, off + 1, ?_, hg, fun k y hk => ?_⟩
   · have : 0 < r.length := List.length_pos_iff.2 hr
     rw [if_neg (by omega)]
   · have := hc (k + 1) y (by simpa using hk)
     rwa [show off + (k + 1) = off + 1 + k by omega] at this
def Bk (N : Nat) (l : Value) : Prop := ∀ b, l.ownBlock = some b → b < N
theorem Sl.below {W W' : World} {N : Nat} {v : Value} {ws : List Bs} (h : Sl W v ws) (hk : Bk N v) (hb : Below N W W') : Sl W' v ws := by
 obtain ⟨⟨a, c, h1, h2, h3, h4⟩, h5⟩ := h
 refine ⟨⟨a, c, h1, h2, h3, ?_⟩, h5⟩
 rcases h4 with h4 | ⟨g, off, h6, h7, h8⟩
 · exact Or.inl h4
 · have hg : g < N := hk g (by rw [h1, h6]; rfl)
   exact Or.inr ⟨g, off, h6, Nat.lt_of_lt_of_le h7 hb.size, fun k x hx => cell_later hb hg (h8 k x hx)⟩
theorem Sl.set {W : World} {v : Value} {ws : List Bs} {p : Addr} {u : Value} (h : Sl W v ws) (hp : W.cell? p = some u) (hu : ∀ s, u ≠ .string s) (y : Value) : Sl (W.setCell p y) v ws := by
 obtain ⟨⟨a, c, h1, h2, h3, h4⟩, h5⟩ := h
 refine ⟨⟨a, c, h1, h2, h3, ?_⟩, h5⟩
 rcases h4 with h4 | ⟨g, off, h6, h7, h8⟩
 · exact Or.inl h4
 · refine Or.inr ⟨g, off, h6, by simpa [World.setCell] using h7, fun k x hk => ?_⟩
   have hc := h8 k x hk
   rw [World.cell?_setCell_other]
   · exact hc
   · intro e
     rw [← e] at hc
     rw [hc] at hp
     exact hu _ (Option.some.inj hp).symm
end

/- Signs that are told fast: the floats that are reckoned. -/
section
open Go.RowKit
def S3 (ax ay bx by' cx cy : Nat) : Rat := (fval bx - fval ax) * (fval cy - fval ay) - (fval by' - fval ay) * (fval cx - fval ax)
theorem RN.le {q x : Rat} {p : Nat} (h : RN q x) (hq : ab q ≤ U p) : ab x ≤ U p := by
 obtain ⟨_, _, R⟩ := h
 exact R.le_pow' hq
theorem M.ab {u x : Rat} (h : M u x) : M u (ab x) := by
 unfold Go.Proofs.YtgfloegaoofbbaaDoor.ab
 split
 · exact h.neg
 · exact h
theorem RN.int {q x : Rat} (h : RN q x) (n : Int) (e : q = (n : Rat)) (h1 : -9007199254740992 ≤ n) (h2 : n ≤ 9007199254740992) : x = q := h.exact (by rw [e]; exact F_int n h1 h2)
end

/- Package orient: Fast. -/
section
open Go.RowKit Go.Shelf
attribute [local go_sem ↓] Go.wp_at_zero Go.wp_at_succ
attribute [local go_sem] run_store_float
def P3 (ax ay bx by' cx cy : Nat) : Prop := Pt ax ay ∧ Pt bx by' ∧ Pt cx cy
def W6 (ax ay bx by' cx cy : Nat) : Prop := (ax < 18446744073709551616 ∧ ay < 18446744073709551616) ∧ (bx < 18446744073709551616 ∧ by' < 18446744073709551616) ∧ cx < 18446744073709551616 ∧ cy < 18446744073709551616
structure B3 (w W : World) (ax ay bx by' cx cy : Nat) : Prop where
 a0 : W.cell? ⟨w.heap.size, 0, none⟩ = some (.float .f64 ax)
 a1 : W.cell? ⟨w.heap.size, 1, none⟩ = some (.float .f64 ay)
 b0 : W.cell? ⟨w.heap.size + 1, 0, none⟩ = some (.float .f64 bx)
 b1 : W.cell? ⟨w.heap.size + 1, 1, none⟩ = some (.float .f64 by')
 c0 : W.cell? ⟨w.heap.size + 1 + 1, 0, none⟩ = some (.float .f64 cx)
 c1 : W.cell? ⟨w.heap.size + 1 + 1, 1, none⟩ = some (.float .f64 cy)
 bel : Below w.heap.size w W
theorem B3.later {w W W' : World} {ax ay bx by' cx cy : Nat} (h : B3 w W ax ay bx by' cx cy) (hb : Below W.heap.size W W') : B3 w W' ax ay bx by' cx cy :=
 ⟨box_cell hb h.a0, box_cell hb h.a1, box_cell hb h.b0, box_cell hb h.b1, box_cell hb h.c0, box_cell hb h.c1, below_step h.bel hb⟩
end

/- Which points may be: admit.May. -/
section
open Go.RowKit Go.Shelf
attribute [local go_sem ↓] Go.wp_at_zero Go.wp_at_succ
attribute [local go_sem] run_store_float
end

/- Package nodefile: the steps of a row. -/
section
set_option maxRecDepth 100000
open Go.RowKit Go.Shelf Go.Lib
structure Ob (B : Nat) (w w' : World) : Prop where
 os : w'.os = w.os
 tape : w'.tape = w.tape
 output : w'.output = w.output
 size : w.heap.size ≤ w'.heap.size
 block : ∀ k, k < w.heap.size → k ≠ B → w'.heap[k]? = w.heap[k]?
theorem Ob.refl (B : Nat) (w : World) : Ob B w w := ⟨rfl, rfl, rfl, Nat.le_refl _, fun _ _ _ => rfl⟩
theorem Ob.trans {B : Nat} {a b c : World} (h : Ob B a b) (k : Ob B b c) : Ob B a c := ⟨k.os.trans h.os, k.tape.trans h.tape, k.output.trans h.output, Nat.le_trans h.size k.size, fun i hi hn => (k.block i (Nat.lt_of_lt_of_le hi h.size) hn).trans (h.block i hi hn)⟩
theorem Ob.of_below {B : Nat} {w w' : World} (h : Below w.heap.size w w') : Ob B w w' := ⟨h.os, h.tape, h.output, h.size, fun k hk _ => h.block k hk⟩
theorem Ob.set (B i : Nat) (w : World) (v : Value) : Ob B w (w.setCell ⟨B, i, none⟩ v) := ⟨rfl, rfl, rfl, by simp [World.setCell], fun k _ hn => Below.heap_setCell w ⟨B, i, none⟩ v k hn⟩
theorem Ob.below {B N : Nat} {w w' : World} (h : Ob B w w') (h1 : N ≤ B) (h2 : N ≤ w.heap.size) : Below N w w' := ⟨h.os, h.tape, h.output, h.size, fun k hk => h.block k (by omega) (by omega)⟩
theorem Ob.cb {B b t : Nat} {cs : Array Value} {w w' : World} (h : Ob B w w') (hc : CB w b cs t) (hn : b ≠ B) : CB w' b cs t := by
 unfold CB
 rw [h.block b hc.lt hn]; exact hc
theorem Ob.cell {B g i : Nat} {w w' : World} {v : Value} (h : Ob B w w') (hc : w.cell? ⟨g, i, none⟩ = some v) (hn : g ≠ B) : w'.cell? ⟨g, i, none⟩ = some v := by
 have hl : g < w.heap.size := by
   rcases Nat.lt_or_ge g w.heap.size with h0 | h0
   · exact h0
   · simp [World.cell?, Array.getElem?_eq_none h0] at hc
 rw [← hc]
 exact World.cell?_of_block (w := w) (h.block g hl hn)
end

/- Package nodefile: float, the closure that asks for the first number, rowOf, number, width. -/
section
set_option maxRecDepth 100000
open Go.RowKit Go.Shelf Go.Lib
theorem FloatR.word {l : Bs} {x : Nat} {er : Int} (h : FloatR l x er) : x < 18446744073709551616 := by
 rcases h with ⟨_, rfl, _⟩ | ⟨n, e, ok, _, ⟨_, _, h, _⟩ | ⟨_, rfl, _⟩, _⟩
 · omega
 · exact h
 · omega
theorem FloatR.uniq {l : Bs} {x y : Nat} {e f : Int} (h : FloatR l x e) (g : FloatR l y f) : x = y ∧ e = f := by
 rcases h with ⟨h1, rfl, rfl⟩ | ⟨n, k, ok, h1, ⟨rfl, h2, h3, h4, h5⟩ | ⟨rfl, rfl, h2⟩, rfl⟩
 · have := g.form h1
   exact ⟨this.1.symm, this.2.symm⟩
 · have := g.ok h1 h2 h3 h4 h5
   exact ⟨this.1.symm, by simpa using this.2.symm⟩
 · have := g.no h1 h2
   exact ⟨this.1.symm, by simpa using this.2.symm⟩
theorem float_is {p : Pm} (hp : p.Ok) (x : Bs) (hx : x.length ≤ 900000) (w : World) (hT : Tab w) : Calls Tryd.prog 56 #[sv x] w fun r w' => r = .returned (.tuple #[.float .f64 (p.rf x).1, .int .i64 (p.rf x).2]) ∧ Below w.heap.size w w' := by
 obtain ⟨v, er, h1, h2⟩ := float_any ⟨x.toArray⟩ (by rw [Lib.size_eq]; simpa using hx)
 have := FloatR.uniq (hp.rf x) (by simpa using h1)
 rw [this.1, this.2]
 exact h2 w hT
end

/- Package nodefile: the first number is asked of a closure; rowOf. -/
section
set_option maxRecDepth 100000
open Go.RowKit Go.Shelf Go.Lib
structure Ob2 (B C : Nat) (w w' : World) : Prop where
 os : w'.os = w.os
 tape : w'.tape = w.tape
 output : w'.output = w.output
 size : w.heap.size ≤ w'.heap.size
 block : ∀ k, k < w.heap.size → k ≠ B → k ≠ C → w'.heap[k]? = w.heap[k]?
theorem Ob.two {B C : Nat} {w w' : World} (h : Ob B w w') : Ob2 B C w w' := ⟨h.os, h.tape, h.output, h.size, fun k hk h1 _ => h.block k hk h1⟩
theorem Ob2.trans {B C : Nat} {a b c : World} (h : Ob2 B C a b) (k : Ob2 B C b c) : Ob2 B C a c := ⟨k.os.trans h.os, k.tape.trans h.tape, k.output.trans h.output, Nat.le_trans h.size k.size, fun i hi h1 h2 => (k.block i (Nat.lt_of_lt_of_le hi h.size) h1 h2).trans (h.block i hi h1 h2)⟩
theorem Ob2.cb {B C b t : Nat} {cs : Array Value} {w w' : World} (h : Ob2 B C w w') (hc : CB w b cs t) (h1 : b ≠ B) (h2 : b ≠ C) : CB w' b cs t := by
 unfold CB
 rw [h.block b hc.lt h1 h2]; exact hc
end

/- Package nodefile: nodeOf. -/
section
set_option maxRecDepth 100000
open Go.RowKit Go.Shelf Go.Lib
attribute [local go_sem] run_store_float
theorem Tab.lt {w : World} (h : Tab w) : 2 < w.heap.size := by
 have h0 := h 0 (by decide)
 rcases Nat.lt_or_ge 2 w.heap.size with h1 | h1
 · exact h1
 · simp [World.cell?, Array.getElem?_eq_none h1] at h0
theorem Tab.ne {w : World} {B t : Nat} {a : Option Addr} {n c : Nat} {cs : List Value} (h : Tab w) (hc : CB w B (.slice a n c :: cs).toArray t) : 2 ≠ B := by
 intro e
 have h0 := h 0 (by decide)
 rw [e, hc.cell 0 (by simp)] at h0
 simp at h0
theorem Tab.ob {w w' : World} {B : Nat} (h : Tab w) (ho : Ob B w w') (hn : 2 ≠ B) : Tab w' := fun j hj => ho.cell (h j hj) hn
section
variable {w0 W W' : World} {Bf : Nat} {fc fx : Array Value} {x y : Nat} {av : Value} {ls : List Nat} {mk : Int} {ws : List Bs} {k : Nat} {m : Bool} {j : Nat} {e : Int}
end
end

/- Package nodefile: nodeOf, the walk. -/
section
set_option maxRecDepth 100000
open Go.RowKit Go.Shelf Go.Lib
attribute [local go_sem] run_store_float
section
variable {w0 W : World} {Bf : Nat} {fc fx : Array Value} {x y : Nat} {av : Value} {ls : List Nat} {mk : Int} {ws : List Bs} {k : Nat} {m : Bool} {j : Nat} {e : Int}
end
end

/- Package nodefile: head. -/
section
set_option maxRecDepth 100000
open Go.RowKit Go.Shelf Go.Lib
end

/- Package nodefile: nodes in memory; lines handed in. -/
section
set_option maxRecDepth 100000
open Go.RowKit Go.Shelf Go.Lib
abbrev Nt := Nd × Value
def wdN (p : Nd) : Prop := p.x < 18446744073709551616 ∧ p.y < 18446744073709551616 ∧ InR p.m
structure Lw (W : World) (v : Value) (ps : List Lt) : Prop where
 form : ∃ a c, v = .slice a ps.length c ∧ ps.length ≤ c ∧ c ≤ 9223372036854775807 ∧ (ps = [] ∨ ∃ g off, a = some ⟨g, off, none⟩ ∧ g < W.heap.size ∧ ∀ k p, ps[k]? = some p → W.cell? ⟨g, off + k * 2, none⟩ = some (.int .i64 (p.1 : Nat)) ∧ W.cell? ⟨g, off + k * 2 + 1, none⟩ = some p.2.2)
 sub : ∀ p ∈ ps, Sl W p.2.2 p.2.1 ∧ Bk W.heap.size p.2.2
theorem Lw.later {W W' : World} {v : Value} {ps : List Lt} (h : Lw W v ps) (hb : Below W.heap.size W W') : Lw W' v ps := by
 obtain ⟨⟨a, c, h1, h2, h3, h4⟩, h5⟩ := h
 refine ⟨⟨a, c, h1, h2, h3, ?_⟩, fun p hp => ⟨(h5 p hp).1.later hb, fun b hbb => Nat.lt_of_lt_of_le ((h5 p hp).2 b hbb) hb.size⟩⟩
 rcases h4 with h4 | ⟨g, off, h6, h7, h8⟩
 · exact Or.inl h4
 · exact Or.inr ⟨g, off, h6, Nat.lt_of_lt_of_le h7 hb.size, fun k p hp => ⟨cell_later hb h7 (h8 k p hp).1, cell_later hb h7 (h8 k p hp).2⟩⟩
end

/- Package nodefile: files that are handed in; why a file may not be. -/
section
set_option maxRecDepth 100000
open Go.RowKit Go.Shelf Go.Lib
structure Nv (W : World) (v : Value) (ns : List Nt) : Prop where
 form : ∃ a c, v = .slice a ns.length c ∧ ns.length ≤ c ∧ c ≤ 9223372036854775807 ∧ (ns = [] ∨ ∃ g off, a = some ⟨g, off, none⟩ ∧ g < W.heap.size ∧ ∀ k p, ns[k]? = some p → W.cell? ⟨g, off + k * 4, none⟩ = some (.float .f64 p.1.x) ∧ W.cell? ⟨g, off + k * 4 + 1, none⟩ = some (.float .f64 p.1.y) ∧ W.cell? ⟨g, off + k * 4 + 2, none⟩ = some p.2 ∧ W.cell? ⟨g, off + k * 4 + 3, none⟩ = some (.int .i64 p.1.m))
 sub : ∀ p ∈ ns, Fs W p.2 p.1.a
 wrd : ∀ p ∈ ns, wdN p.1
theorem Nv.later {W W' : World} {v : Value} {ns : List Nt} (h : Nv W v ns) (hb : Below W.heap.size W W') : Nv W' v ns := by
 obtain ⟨⟨a, c, h1, h2, h3, h4⟩, h5, h6⟩ := h
 refine ⟨⟨a, c, h1, h2, h3, ?_⟩, fun p hp => (h5 p hp).later hb, h6⟩
 rcases h4 with h4 | ⟨g, off, h6, h7, h8⟩
 · exact Or.inl h4
 · exact Or.inr ⟨g, off, h6, Nat.lt_of_lt_of_le h7 hb.size, fun k p hp => ⟨cell_later hb h7 (h8 k p hp).1, cell_later hb h7 (h8 k p hp).2.1, cell_later hb h7 (h8 k p hp).2.2.1, cell_later hb h7 (h8 k p hp).2.2.2⟩⟩
def endl (x : Nat) : Bool := isnan x || isinf x
end

/- slices.ContainsFunc as package nodefile asks it. -/
section
set_option maxRecDepth 100000
open Go.RowKit Go.Shelf Go.Lib
def ndsO' (ns : List Nt) : List Nd := ns.map (·.1)
end

/- Package nodefile: why a file may not be: wrongOf. -/
section
set_option maxRecDepth 100000
open Go.RowKit Go.Shelf Go.Lib
attribute [local go_sem] run_store_float
end

/- Package nodefile: how a node and a file are written: plain; rows with room. -/
section
set_option maxRecDepth 100000
open Go.RowKit Go.Shelf Go.Lib
theorem makeS_ex (n : Nat) (hn : n ≤ 1000) : ∃ cs : Array Value, cs.size = n ∧ ∀ W : World, (Instr.makeSlice 44 (.int .i64 0) (.int .i64 (n : Int))).run Tryd.prog W = .ok (.slice (some ⟨W.heap.size, 0, none⟩) 0 n) (W.alloc (.cells cs 9)) := by
 obtain ⟨i0, hi0, hz0, hz1, hz2⟩ := info_parts (show (Tryd.prog.info? 9).map (fun i => (i.zero, i.size, i.bytes)) = some (some (.string ⟨#[]⟩), 1, 16) by kernel_rfl)
 refine ⟨madeCells (.string ⟨#[]⟩ : Value).cells n, size_madeCells _ _, fun W => ?_⟩
 have h := run_make (P := Tryd.prog) W 44 9 i0 _ Tryd.underlying44 hi0 hz0 .i64 .i64 0 (n : Int) (by omega) (by omega) (by rw [hz2]; omega) (by omega)
 rw [hz1, Nat.mul_one] at h
 exact h
theorem own_room {W : World} {cs : Array Value} {n t : Nat} (h : cs.size = n) (hn : n ≤ 2000000) : (W.alloc (.cells cs t)).ownsRow W.heap.size t 1 (.slice (some ⟨W.heap.size, 0, none⟩) 0 n) 0 [] :=
 ⟨by simp, Or.inr ⟨W.heap.size, n, cs, rfl, Nat.le_refl _, heap_alloc_new W _, by omega, by unfold maxLen; omega, by omega, by simp⟩⟩
theorem TextR.uniq {x : Nat} {l r : Bs} (h : TextR x l) (g : TextR x r) : l = r := by
 by_cases hx : Fin64 x
 · exact (h.same g hx).2 ⟨hx, rfl⟩
 · rcases h with ⟨_, rfl⟩ | ⟨h, _⟩
   · rcases g with ⟨_, rfl⟩ | ⟨g, _⟩
     · rfl
     · exact absurd g hx
   · exact absurd h hx
end

/- Package nodefile: wordsOf. -/
section
set_option maxRecDepth 100000
open Go.RowKit Go.Shelf Go.Lib
attribute [local go_sem] run_store_float
end

/- Package nodefile: Put, Write. -/
section
set_option maxRecDepth 100000
open Go.RowKit Go.Shelf Go.Lib
theorem Sr.keptL {W W' : World} {B : Nat} {v : Value} {ws : List Bs} {base size n : Nat} {v2 : Value} {xs : List Value} (h : Sr W B v ws) (h2 : W.ownsRow base 44 size v2 n xs) (hg : W.grownBy W' v2.ownBlock) : Sr W' B v ws := Sr.kept h h2 (by decide) hg
structure Orw (W : World) (B : Nat) (v : Value) (L : List Lv) : Prop where
 own : W.ownsRow B 44 1 v L.length (L.map (·.2))
 sub : ∀ q ∈ L, Sr W B q.2 q.1
theorem Orw.later {W W' : World} {B : Nat} {v : Value} {L : List Lv} (h : Orw W B v L) (hb : Below W.heap.size W W') : Orw W' B v L := ⟨own_later h.own hb, fun q hq => (h.sub q hq).later hb⟩
theorem Orw.base {W : World} {B B' : Nat} {v : Value} {L : List Lv} (h : Orw W B v L) (hb : B' ≤ B) : Orw W B' v L := ⟨own_base h.own hb, fun q hq => (h.sub q hq).base hb⟩
theorem Orw.grew {W W2 : World} {B : Nat} {v v' : Value} {L : List Lv} {q : Lv} {tmp : Obj} (h : Orw W B v L) (hq : Sr W B q.2 q.1) (hown : W2.ownsRow B 44 1 v' (L.length + 1) (L.map (·.2) ++ [q.2])) (hg : (W.alloc tmp).grownBy W2 v.ownBlock) : Orw W2 B v' (L ++ [q]) := by
 refine ⟨by rw [List.length_append, List.map_append]; exact hown, fun r hr => ?_⟩
 have hs : Sr W B r.2 r.1 := by
   rcases List.mem_append.1 hr with e | e
   · exact h.sub r e
   · rw [List.mem_singleton.1 e]; exact hq
 exact Sr.keptL (World.ownsRow.alloc hs tmp) (h.own.alloc tmp) hg
end

/- Package nodefile: Write. -/
section
set_option maxRecDepth 100000
open Go.RowKit Go.Shelf Go.Lib
def wdA (q : Nd) : Prop := wdN q ∧ ∀ b ∈ q.a, b < 18446744073709551616
theorem Nv.wa {W : World} {v : Value} {ns : List Nt} (h : Nv W v ns) : ∀ q ∈ ndsO' ns, wdA q := fun q hq => by
 obtain ⟨r, hr, rfl⟩ := List.mem_map.1 hq
 exact ⟨h.wrd r hr, (h.sub r hr).word⟩
end

/- Package nodefile: taken. -/
section
set_option maxRecDepth 100000
open Go.RowKit Go.Shelf Go.Lib
attribute [local go_sem] run_store_float
end

/- Package nodefile: Take, Read. -/
section
set_option maxRecDepth 100000
open Go.RowKit Go.Shelf Go.Lib
end

/- Package nodefile: Read. -/
section
set_option maxRecDepth 100000
open Go.RowKit Go.Shelf Go.Lib
end

/- Package orient: grown, differences as lists. -/
section
open Go.RowKit Go.Shelf
attribute [local go_sem ↓] Go.wp_at_zero Go.wp_at_succ
attribute [local go_sem] run_store_float
end

/- Package orient: exactSign, Sign. -/
section
open Go.RowKit Go.Shelf
attribute [local go_sem ↓] Go.wp_at_zero Go.wp_at_succ
attribute [local go_sem] run_store_float
end

/- Package orient: On, Cross. -/
section
open Go.RowKit Go.Shelf
attribute [local go_sem ↓] Go.wp_at_zero Go.wp_at_succ
attribute [local go_sem] run_store_float
def Btw (a b x : Rat) : Prop := (a ≤ x ∧ x ≤ b) ∨ (b ≤ x ∧ x ≤ a)
def OnP (ax ay bx by' px py : Nat) : Prop := P3 ax ay bx by' px py ∧ Btw (fval ax) (fval bx) (fval px) ∧ Btw (fval ay) (fval by') (fval py) ∧ S3 ax ay bx by' px py = 0
end

/- Package orient: Cross. -/
section
open Go.RowKit Go.Shelf
end

/- Which points may be, by reckoning. -/
section
theorem den_one {q : Rat} : q.den = 1 ↔ ∃ k : Int, q = (k : Rat) := by
 constructor
 · intro h
   refine ⟨q.num, ?_⟩
   apply Rat.ext
   · simp
   · simp [h]
 · rintro ⟨k, rfl⟩
   simp
theorem crd_iff (x : Nat) : Crd x ↔ frung x ≤ 5057542381537067008 ∧ (fval x * U 1174).den = 1 := by
 unfold Crd
 rw [den_one, ← M_one, steps_one]
instance (x : Nat) : Decidable (Crd x) := decidable_of_iff _ (crd_iff x).symm
instance (x y : Nat) : Decidable (Pt x y) := by unfold Pt; exact inferInstance
instance (ax ay bx by' cx cy : Nat) : Decidable (P3 ax ay bx by' cx cy) := by unfold P3; exact inferInstance
instance (a b x : Rat) : Decidable (Btw a b x) := by unfold Btw; exact inferInstance
instance (ax ay bx by' cx cy : Nat) : Decidable (OnP ax ay bx by' cx cy) := by unfold OnP; exact inferInstance
end

/- The laws of layer 10: files held against each other. -/
section
set_option maxRecDepth 100000
open Go.RowKit Go.Shelf Go.Lib
def FE (x y : Nat) : Prop := FloatKind.f64.format.order x y = some .eq
theorem FE.of {x y : Nat} (hx : Fin64 x) (hy : Fin64 y) (h : fval x = fval y) : FE x y := by
 unfold FE
 rw [order_val hx hy, if_neg (by rw [h]; exact Rat.lt_irrefl), if_pos h]
def FEs (a b : List Nat) : Prop := a.length = b.length ∧ ∀ i, i < a.length → FE (a.getD i 0) (b.getD i 0)
end

/- The laws of layer 10: Same. -/
section
set_option maxRecDepth 100000
open Go.RowKit Go.Shelf Go.Lib
end
end Go.Proofs.YtgfloegaoofbbaaDoor
