/- Own texts, put together: Xn Xo Xp Xq Xr. -/
import Derived.Test.YtgoadpnoagaflaaDoorQ30
import Derived.RangeFuncNested
import Derived.RangeFuncBound
import Derived.RangeFuncCalls
import Derived.RangeFuncLeaves
import Derived.RangeFuncBox
import Derived.RangeFuncWrites
import Derived.Shelf.Abstract
import Derived.Shelf.RegionOpen
import Derived.WalkKit
import Derived.OwnWalkIn
import Derived.TacticsInMore
import Derived.LoopNIn
import Derived.LoopIn
import Derived.Maps.AppendAt
namespace Go.Proofs.YtgoadpnoagaflaaDoor
/- Package slices: Backward, of floats. -/
section
open Go.RowKit Go.Shelf
attribute [local go_sem] Oper.semAt_some
end

/- Package slices: Reverse, of floats. -/
section
open Go.RowKit
attribute [local go_sem ↓] Go.wp_at_zero Go.wp_at_succ
attribute [local go_sem] run_store_float
theorem Fr.set {w : World} {B g cap k d : Nat} {bs : List Nat} (h : Fr w B (.slice (some ⟨g, 0, none⟩) bs.length cap) bs) (hd : d < 18446744073709551616) : Fr (w.setCell ⟨g, k, none⟩ (.float .f64 d)) B (.slice (some ⟨g, 0, none⟩) (bs.set k d).length cap) (bs.set k d) := by
 refine ⟨⟨by simp [f64s], ?_⟩, ?_⟩
 · rcases h.own.2 with ⟨h1, _⟩ | ⟨g', cap', cur, h1, h2, h3, h4, h5, h6, h7⟩
   · cases h1
   · cases h1
     refine Or.inr ⟨g, cap, cur.set! k (.float .f64 d), by simp, h2, ?_, by simpa using h4, h5, by simpa using h6, ?_⟩
     · simp [World.setCell, Array.getElem?_modify, h3]
     · rw [Nat.mul_one] at h7
       have : f64s (bs.set k d) = (f64s bs).set k (.float .f64 d) := by simp [f64s, List.map_set]
       rw [this, ← h7]
       simp [List.take_set]
 · intro b hb
   rcases List.mem_or_eq_of_mem_set hb with hb | rfl
   · exact h.word b hb
   · exact hd
theorem Fr.cell {w : World} {B g cap : Nat} {bs : List Nat} (h : Fr w B (.slice (some ⟨g, 0, none⟩) bs.length cap) bs) (k : Nat) (hk : k < bs.length) : w.cell? ⟨g, k, none⟩ = some (.float .f64 (bs.getD k 0)) := by
 have := h.own.cells (g := g) rfl k (.float .f64 (bs.getD k 0)) (by simp [f64s, List.getD, hk])
 rwa [show (⟨g, 0, none⟩ : Addr).add k = ⟨g, k, none⟩ by unfold Addr.add; split <;> simp_all] at this
theorem Fr.frozen {w : World} {B g cap : Nat} {bs : List Nat} (h : Fr w B (.slice (some ⟨g, 0, none⟩) bs.length cap) bs) (k : Nat) : w.frozen? ⟨g, k, none⟩ = false := by
 rcases h.own.2 with ⟨h1, _⟩ | ⟨g', cap', cur, h1, h2, h3, h4, _⟩
 · cases h1
 · cases h1
   simp [World.frozen?, h3]
theorem Fr.base {w : World} {B g cap n : Nat} {bs : List Nat} (h : Fr w B (.slice (some ⟨g, 0, none⟩) n cap) bs) : B ≤ g := by
 exact (h.own.lt g rfl).1
end

/- Package expand: a list squeezed: what is reckoned. -/
section
open Go.RowKit
theorem near_rndE {q : Rat} {r : Nat} (h : Near q r) (hr : r < 9218868437227405312) : ∃ T k, RndE q (fval r) T k := by
 rcases h with ⟨rfl, rfl⟩ | ⟨hq, T, k, hl, hh, e⟩
 · have hu := U_pos 0
   exact ⟨0, 0, ⟨by rw [fval_zero]; rw [show ((0 : Int) : Rat) = 0 from rfl]; grind, by rw [fval_zero]; grind, by rw [fval_zero]; grind, Or.inl rfl, by grind, by grind, by omega, by omega⟩, fun _ => rfl⟩
 · have hb := kept_bounds hl hh
   have e' : r = T * 4503599627370496 + k := by omega
   have hv := fval_rung T k hb.1 hb.2 (by omega)
   rw [← e'] at hv
   have hU := half_unit T
   have hu := p2_pos ((T : Int) - 1075)
   obtain ⟨l1, l2⟩ := hl
   obtain ⟨s1, s2, s3, s4⟩ := hh
   rw [show ((18014398509481984 : Int) : Rat) = 18014398509481984 from rfl] at l2
   rw [show ((9007199254740992 : Int) : Rat) = 9007199254740992 from rfl] at l1
   have e1 : ((2 * (k : Int) - 1 : Int) : Rat) = 2 * ((k : Nat) : Rat) - 1 := by rw [Rat.intCast_sub, Rat.intCast_mul]; rfl
   have e2 : ((2 * (k : Int) + 1 : Int) : Rat) = 2 * ((k : Nat) : Rat) + 1 := by rw [Rat.intCast_add, Rat.intCast_mul]; rfl
   rw [e1] at s1 s3
   rw [e2] at s2 s4
   have kv : ((k : Nat) : Rat) * U T = 2 * (((k : Nat) : Rat) * p2 ((T : Int) - 1075)) := by rw [hU]; grind
   have z1 : (2 * ((k : Nat) : Rat) - 1) * p2 ((T : Int) - 1075) = 2 * (((k : Nat) : Rat) * p2 ((T : Int) - 1075)) - p2 ((T : Int) - 1075) := by grind
   have z2 : (2 * ((k : Nat) : Rat) + 1) * p2 ((T : Int) - 1075) = 2 * (((k : Nat) : Rat) * p2 ((T : Int) - 1075)) + p2 ((T : Int) - 1075) := by grind
   rw [z1] at s1 s3
   rw [z2] at s2 s4
   have hx : fval r = ((k : Int) : Rat) * U T := by rw [hv]; rfl
   rw [kv] at hv
   clear z1 z2 kv e1 e2 e e'
   generalize ((k : Nat) : Rat) * p2 ((T : Int) - 1075) = Z at *
   generalize p2 ((T : Int) - 1075) = h at *
   refine ⟨T, (k : Int), ⟨hx, by rw [hv, hU]; grind, by rw [hv, hU]; grind, ?_, by rw [hU]; grind, by rw [hU]; grind, by omega, by omega⟩, fun he => ?_⟩
   · rcases l1 with l1 | l1
     · exact Or.inl l1
     · exact Or.inr (Or.inl (by rw [hU]; grind))
   · rw [hv, hU] at he
     have : q = 2 * Z - h ∨ q = 2 * Z + h := by
       unfold ab at he
       split at he
       · left; grind
       · right; grind
     rcases this with h1 | h1
     · have := s3 h1; omega
     · have := s4 h1; omega
theorem RndE.neg {q x : Rat} {T : Nat} {k : Int} (h : RndE q x T k) : RndE (-q) (-x) T (-k) := by
 refine ⟨h.1.neg, fun he => ?_⟩
 have := h.2 (by rw [← he, show -q - -x = -(q - x) by grind, ab_neg])
 omega
theorem rv_rndE {q x : Rat} (h : RV q x) : ∃ T k, RndE q x T k := by
 obtain ⟨r, hr, h⟩ := h
 rcases h with ⟨_, n, rfl⟩ | ⟨_, n, rfl⟩
 · exact near_rndE n hr
 · obtain ⟨T, k, R⟩ := near_rndE n hr
   have := R.neg
   rw [show - -q = q by grind] at this
   exact ⟨T, _, this⟩
structure ZS (top : Nat) (S : Rat) (ds : List Nat) (k : Nat) (bs : List Nat) (c : Nat) : Prop where
 inv : ZInv top S (vals bs.reverse) (fval c) (vals (ds.take (ds.length - k)))
 fin : Fin64 c
 fb : ∀ b ∈ bs, Fin64 b
theorem ZS.tame {top : Nat} {S : Rat} {ds : List Nat} {k : Nat} {bs : List Nat} {c x : Nat} (I : ZS top S ds k bs c) (ht : top ≤ 2074) (hx : Fin64 x) (hm : x ∈ ds.take (ds.length - k)) : TameW c x := by
 obtain ⟨p, r1, r2, r3, r4⟩ := I.inv.room
 have u := U_mono (show p ≤ 2074 by omega)
 have hp := I.inv.exl
 have hxc := (List.pairwise_append.1 hp.1).2.2 (fval x) (by simp only [vals, List.mem_map]; exact ⟨x, hm, rfl⟩) (fval c) (by simp)
 have := hxc.lt (hp.2 (fval c) (by simp))
 exact ⟨tame_of I.fin (by grind), tame_of hx (by grind)⟩
theorem take_last {ds : List Nat} {k : Nat} (h : k < ds.length) : ds.take (ds.length - k) = ds.take (ds.length - (k + 1)) ++ [ds.getD (ds.length - 1 - k) 0] := by
 have h2 : ds.length - 1 - k < ds.length := by omega
 rw [show ds.length - k = (ds.length - (k + 1)) + 1 by omega, List.take_add_one, show ds.length - (k + 1) = ds.length - 1 - k by omega]
 simp [List.getD, h2]
theorem ZS.step {top : Nat} {S : Rat} {ds : List Nat} {k : Nat} {bs : List Nat} {c s r : Nat} (I : ZS top S ds k bs c) (ht : top ≤ 2074) (hk : k < ds.length) (hf : ∀ b ∈ ds, Fin64 b)
   (p : Pair (TameW c (ds.getD (ds.length - 1 - k) 0)) (fval c + fval (ds.getD (ds.length - 1 - k) 0)) s r) : (frung r = 0 → ZS top S ds (k + 1) bs s) ∧ (frung r ≠ 0 → ZS top S ds (k + 1) (bs ++ [s]) r) := by
 have hx : Fin64 (ds.getD (ds.length - 1 - k) 0) := hf _ (by
   have h2 : ds.length - 1 - k < ds.length := by omega
   rw [show ds.getD (ds.length - 1 - k) 0 = ds[ds.length - 1 - k] by simp [List.getD, h2]]
   exact List.getElem_mem h2)
 have tm := I.tame ht hx (by rw [take_last hk]; simp)
 have J := I.inv
 rw [take_last hk] at J
 simp only [vals, List.map_append, List.map_cons, List.map_nil] at J
 obtain ⟨fs, fr, ls, lr, ⟨_, rv, e⟩ | ⟨cn, _⟩⟩ := p
 · constructor
   · intro h0
     have z : fval r = 0 := fval_zero_iff.2 h0
     have es : fval s = fval c + fval (ds.getD (ds.length - 1 - k) 0) := by rw [← e, z]; grind
     refine ⟨?_, fs, I.fb⟩
     rw [es]
     exact J.take (by rw [← es]; exact F_fval fs)
   · intro h0
     obtain ⟨T, kk, R⟩ := rv_rndE rv
     have J2 := J.emit R e (F_fval fr) (fun z => h0 (fval_zero_iff.1 z))
     refine ⟨?_, fr, fun b hb => ?_⟩
     · rw [List.reverse_append]
       simpa [vals] using J2
     · rcases List.mem_append.1 hb with hb | hb
       · exact I.fb b hb
       · rw [List.mem_singleton.1 hb]; exact fs
 · exact absurd tm cn
theorem ZS.start {top : Nat} {ds : List Nat} {c : Nat} (h : Up top (ds ++ [c])) : ZS top ((vals (ds ++ [c])).sum) ds 0 [] c := by
 refine ⟨?_, h.fin c (by simp), by simp⟩
 rw [Nat.sub_zero, List.take_length]
 have := ZInv.start (top := top) (c := fval c) (lo := vals ds) (by have := h.ex; simpa [vals] using this) (fun x hx => by
   have : x ∈ vals (ds ++ [c]) := by simpa [vals] using hx
   obtain ⟨b, hb, rfl⟩ := List.mem_map.1 this
   exact ⟨F_fval (h.fin b hb), h.lim b hb⟩)
 simpa [vals] using this
structure Sq (top : Nat) (S : Rat) (bs : List Nat) : Prop where
 ex : Ex (vals bs)
 fin : ∀ b ∈ bs, Fin64 b
 sum : (vals bs).sum = S
 cnt : 52 * bs.length ≤ top + 52
 lead : ∀ L, (vals bs).getLast? = some L → 1125899906842624 * ab (L - S) ≤ ab S ∧ ((0 < L ∧ 0 < S) ∨ (L < 0 ∧ S < 0))
theorem ZS.done {top : Nat} {S : Rat} {ds bs : List Nat} {k c : Nat} (I : ZS top S ds k bs c) (hk : k = ds.length) : Sq top S (bs ++ [c]).reverse := by
 have J := I.inv
 rw [hk, Nat.sub_self, List.take_zero] at J
 rw [List.reverse_append, List.reverse_singleton, List.singleton_append]
 have J' : ZInv top S (vals bs.reverse) (fval c) [] := J
 obtain ⟨h1, h2, h3, h4⟩ := J'.done
 refine ⟨h1, fun b hb => ?_, h2, ?_, fun L hL => J'.lead hL⟩
 · rcases List.mem_cons.1 hb with rfl | hb
   · exact I.fin
   · exact I.fb b (by simpa using hb)
 · simpa [vals] using h4
theorem Sq.nil (top : Nat) : Sq top 0 [] := ⟨⟨List.Pairwise.nil, by simp [vals]⟩, by simp, by simp [vals], by simp, by simp [vals]⟩
end

/- Package expand: a list squeezed: what lies in memory. -/
section
open Go.RowKit Go.Shelf
structure Zw (w : World) (W : World) (v : Value) (bs : List Nat) (c r : Nat) : Prop where
 b3 : Boxed W w.heap.size 32 v
 b4 : Boxed W (w.heap.size + 1) 35 (.float .f64 c)
 b5 : Boxed W (w.heap.size + 1 + 1) 35 (.float .f64 r)
 row : Fr W (w.heap.size + 4) v bs
 bel : Below w.heap.size w W
 siz : w.heap.size + 4 ≤ W.heap.size
 wc : c < 18446744073709551616
 wr : r < 18446744073709551616
structure K4 (w W W' : World) : Prop where
 bel : Below w.heap.size W W'
 box : W'.heap[w.heap.size + 1 + 1 + 1]? = W.heap[w.heap.size + 1 + 1 + 1]?
 oth : KeepsOthers W W'
theorem K4.refl (w W : World) : K4 w W W := ⟨Below.refl _ _, rfl, KeepsOthers.refl _⟩
theorem K4.trans {w A B C : World} (h : K4 w A B) (k : K4 w B C) : K4 w A C := ⟨h.bel.trans k.bel, k.box.trans h.box, h.oth.trans k.oth⟩
theorem K4.set {w W : World} {a : Addr} (h1 : w.heap.size ≤ a.block) (h2 : a.block ≠ w.heap.size + 1 + 1 + 1) (v : Value) : K4 w W (W.setCell a v) :=
 ⟨(Below.refl _ _).setCell h1 v, Below.heap_setCell W a v _ (Ne.symm h2), KeepsOthers.setCell W a v⟩
theorem K4.below {w W W' : World} (h : Below W.heap.size W W') (hs : w.heap.size + 4 ≤ W.heap.size) : K4 w W W' :=
 ⟨h.mono (by omega), h.block _ (by omega), ⟨h.size, fun k o hk _ => (h.block k (Array.getElem?_eq_some_iff.1 hk).1).trans hk⟩⟩
theorem boxed_belowK {W W' : World} {B b : Nat} {t : TypeId} {v : Value} (h : Boxed W b t v) (hb : Below B W W') (hl : b < B) : Boxed W' b t v := (hb.block b hl).trans h
theorem Zw.later {w W W' : World} {v : Value} {bs : List Nat} {c r : Nat} (h : Zw w W v bs c r) (hb : Below W.heap.size W W') : Zw w W' v bs c r :=
 ⟨boxed_belowK h.b3 hb h.b3.lt, boxed_belowK h.b4 hb h.b4.lt, boxed_belowK h.b5 hb h.b5.lt, h.row.later hb, h.bel.trans (hb.mono h.bel.size), Nat.le_trans h.siz hb.size, h.wc, h.wr⟩
theorem Zw.grew {w W W2 : World} {v v' : Value} {bs : List Nat} {c r s : Nat} {tmp : Obj} (h : Zw w W v bs c r) (hs : s < 18446744073709551616) (hown : W2.ownsRow (w.heap.size + 4) 35 1 v' (bs.length + 1) (f64s bs ++ [.float .f64 s])) (hg : (W.alloc tmp).grownBy W2 v.ownBlock) :
   Boxed W2 w.heap.size 32 v ∧ Boxed W2 (w.heap.size + 1) 35 (.float .f64 c) ∧ Boxed W2 (w.heap.size + 1 + 1) 35 (.float .f64 r) ∧ Zw w (W2.setCell ⟨w.heap.size, 0, none⟩ v') v' (bs ++ [s]) c r ∧ K4 w W W2 := by
 have ap : ∀ k, v.ownBlock = some k → w.heap.size + 4 ≤ k := fun k hk => (h.row.own.lt k hk).1
 have h3 : Boxed W2 w.heap.size 32 v := (h.b3.alloc tmp).kept hg (fun e => by have := ap _ e.symm; omega)
 have h4 : Boxed W2 (w.heap.size + 1) 35 (.float .f64 c) := (h.b4.alloc tmp).kept hg (fun e => by have := ap _ e.symm; omega)
 have h5 : Boxed W2 (w.heap.size + 1 + 1) 35 (.float .f64 r) := (h.b5.alloc tmp).kept hg (fun e => by have := ap _ e.symm; omega)
 have hs2 := hg.size
 simp only [World.size_alloc] at hs2
 have hz := h.siz
 have hb2 : Below w.heap.size W W2 := ((Below.refl _ W).alloc (by omega) _).grown hg (by simp; omega) (fun k hk => by have := ap k hk; omega)
 have hF : Fr W2 (w.heap.size + 4) v' (bs ++ [s]) := by
   refine ⟨?_, fun b hb => ?_⟩
   · rw [List.length_append]
     simpa [f64s] using hown
   · rcases List.mem_append.1 hb with hb | hb
     · exact h.row.word b hb
     · rw [List.mem_singleton.1 hb]; exact hs
 refine ⟨h3, h4, h5, ⟨h3.set _, h4.other (by omega) _, h5.other (by omega) _, hF.low (by show w.heap.size < _; omega) _, (h.bel.trans hb2).setCell (Nat.le_refl _) _, by simp only [World.setCell, Array.size_modify]; omega, h.wc, h.wr⟩, ⟨hb2, ?_, ⟨by omega, fun k o hk ho => ?_⟩⟩⟩
 · rw [hg.block _ (by simp; omega) (fun e => by have := ap _ e.symm; omega), Below.heap_alloc _ _ _ (by omega)]
 · have hlt := (Array.getElem?_eq_some_iff.1 hk).1
   rw [hg.block k (by simp; omega) (fun e => ?_), Below.heap_alloc _ _ _ hlt]
   · exact hk
   · rcases h.row.own.2 with ⟨h1, _⟩ | ⟨g, cap, cur, h1, h2, h3', h4'⟩
     · rw [h1] at e; simp [Value.ownBlock] at e
     · rw [h1] at e
       obtain rfl : k = g := by simpa [Value.ownBlock] using e
       rw [h3'] at hk
       cases hk
       cases ho
theorem Zw.own {w A A' : World} {v : Value} {bs : List Nat} {c r : Nat} {row : Option Nat} {B : Nat} (h : Zw w A v bs c r) (hB : w.heap.size ≤ B) (hg : A.grownBy A' row) (hr : ∀ r, row = some r → B ≤ r ∧ ∃ o : Obj, A.heap[r]? = some o ∧ o.isCells = false) : Zw w A' v bs c r := by
 have key : ∀ (b : Nat) (cs : Array Value) (t : TypeId) (f : Nat × Nat), A.heap[b]? = some (.cells cs t f) → some b ≠ row := fun b cs t f hb e => by
   obtain ⟨_, o, ho, hc⟩ := hr b e.symm
   rw [hb] at ho
   cases ho
   cases hc
 refine ⟨h.b3.kept hg (key _ _ _ _ h.b3), h.b4.kept hg (key _ _ _ _ h.b4), h.b5.kept hg (key _ _ _ _ h.b5), ⟨h.row.own.kept hg ?_, h.row.word⟩, h.bel.grown hg h.bel.size (fun k e => Nat.le_trans hB (hr k e).1), Nat.le_trans h.siz hg.size, h.wc, h.wr⟩
 rcases h.row.own.2 with ⟨h1, _⟩ | ⟨g, cap, cur, h1, h2, h3, h4⟩
 · left; rw [h1]; rfl
 · right
   rw [h1]
   exact key g _ _ _ h3
end

/- Package expand: a list squeezed: the walk. -/
section
open Go.RowKit Go.Shelf
attribute [local go_sem] Oper.semAt_some
attribute [local go_sem] run_store_float
end
end Go.Proofs.YtgoadpnoagaflaaDoor
