/- Own texts, put together: Xj Xk Xl Xm Xn Xo Xp Xq Xr. -/
import Derived.Test.YtcgbnjoajieggaaGreatQ27
import Derived.RangeFuncNested
import Derived.RangeFuncBound
import Derived.RangeFuncCalls
import Derived.RangeFuncLeaves
import Derived.RangeFuncBox
import Derived.RangeFuncWrites
import Derived.Shelf.Abstract
import Derived.Shelf.RegionOpen
import Derived.WalkKit
import Derived.OwnWalkIn
import Derived.TacticsInMore
import Derived.LoopNIn
import Derived.LoopIn
import Derived.Maps.AppendAt
namespace Go.Proofs.YtcgbnjoajieggaaGreat
/- Package expand: the next float of two lists, whatever they are; what rises. -/
section
open Go.RowKit
def Box1 (w : World) (b : Nat) (v : Value) : Prop := w.heap[b]? = some (.cells #[v] 134 (0, 0))
theorem Box1.cell {w : World} {b : Nat} {v : Value} (h : Box1 w b v) : w.cell? ⟨b, 0, none⟩ = some v := by
 unfold Box1 at h
 simp [World.cell?, h]
theorem Box1.frozen {w : World} {b : Nat} {v : Value} (h : Box1 w b v) : w.frozen? ⟨b, 0, none⟩ = false := by
 unfold Box1 at h
 simp [World.frozen?, h]
theorem Box1.set {w : World} {b : Nat} {v : Value} (h : Box1 w b v) (u : Value) : Box1 (w.setCell ⟨b, 0, none⟩ u) b u := by
 unfold Box1 at *
 simp [World.setCell, Array.getElem?_modify, h]
theorem Box1.other {w : World} {b : Nat} {v : Value} (h : Box1 w b v) {a : Addr} (hne : b ≠ a.block) (u : Value) : Box1 (w.setCell a u) b v := by
 unfold Box1 at *
 rw [Below.heap_setCell w a u b hne]; exact h
theorem Box1.later {B : Nat} {w w' : World} {b : Nat} {v : Value} (h : Box1 w b v) (hb : Below B w w') (hl : b < B) : Box1 w' b v := by
 unfold Box1 at *
 rw [hb.block b hl]; exact h
theorem Box1.lt {w : World} {b : Nat} {v : Value} (h : Box1 w b v) : b < w.heap.size := (Array.getElem?_eq_some_iff.1 h).1
theorem Fs.tail {w : World} {g off n c x : Nat} {re : List Nat} {ao : Option Addr} (h : Fs w (.slice (some ⟨g, off, none⟩) (n + 1) c) (x :: re)) (ha : (if c = 1 then some (⟨g, off, none⟩ : Addr) else some ⟨g, off + 1, none⟩) = ao) : Fs w (.slice ao n (c - 1)) re := by
 obtain ⟨⟨a, c', e, hc, hm, hf⟩, hw⟩ := h
 cases e
 refine ⟨⟨ao, c - 1, rfl, by simp at hc; omega, by omega, ?_⟩, fun b hb => hw b (by simp [hb])⟩
 rcases hf with hf | ⟨g', off', e, hf⟩
 · cases hf
 · cases e
   by_cases h0 : re = []
   · exact Or.inl h0
   · right
     have : 0 < re.length := List.length_pos_iff.2 h0
     simp at hc
     rw [if_neg (by omega)] at ha
     refine ⟨g, off + 1, ha.symm, fun k hk => ?_⟩
     have := hf (k + 1) (by simp; omega)
     rw [show off + 1 + k = off + (k + 1) by omega, this]
     simp [List.getD]
theorem Fs.head {w : World} {s : Value} {x : Nat} {re : List Nat} (h : Fs w s (x :: re)) : ∃ g off c, s = .slice (some ⟨g, off, none⟩) (re.length + 1) c ∧ re.length + 1 ≤ c ∧ c ≤ 9223372036854775807 ∧ w.cell? ⟨g, off, none⟩ = some (.float .f64 x) := by
 obtain ⟨⟨a, c', e, hc, hm, hf⟩, hw⟩ := h
 rcases hf with hf | ⟨g, off, e2, hf⟩
 · cases hf
 · subst e2
   refine ⟨g, off, c', e, by simpa using hc, hm, ?_⟩
   have := hf 0 (by simp)
   simpa [List.getD] using this
theorem Fs.none {w : World} {s : Value} (h : Fs w s []) : ∃ a c, s = .slice a 0 c := by
 obtain ⟨⟨a, c', e, _⟩, _⟩ := h
 exact ⟨a, c', e⟩
theorem next_any (w0 w : World) (be bf : Nat) (se sf : Value) (re rf : List Nat) (hb : Below w0.heap.size w0 w) (b1 : Box1 w be se) (b2 : Box1 w bf sf) (f1 : Fs w0 se re) (f2 : Fs w0 sf rf) (fin : ∀ y ∈ rf, Fin64 y) (hne : re ≠ [] ∨ rf ≠ []) :
   Calls Tryz.prog 174 #[.pointer (some ⟨bf, 0, none⟩), .pointer (some ⟨be, 0, none⟩)] w fun e w' => ∃ x, e = .returned (.float .f64 x) ∧
     ((∃ re' s, re = x :: re' ∧ (∀ y, rf.head? = some y → frung x ≤ frung y) ∧ Fs w0 s re' ∧ w' = (w.setCell ⟨be, 0, none⟩ s).drew.drew) ∨
      (∃ rf' s, rf = x :: rf' ∧ (∀ y, re.head? = some y → frung x ≤ frung y) ∧ Fs w0 s rf' ∧ w' = (w.setCell ⟨bf, 0, none⟩ s).drew.drew)) := by
 cases re with
 | nil =>
   cases rf with
   | nil => rcases hne with h | h <;> exact absurd rfl h
   | cons y rf =>
     obtain ⟨ae, ce, rfl⟩ := f1.none
     obtain ⟨g, off, c, rfl, h1, h2, h3⟩ := (f2.later hb).head
     refine (next_B be bf g off rf.length c ce y ae _ w rfl b2.cell b1.cell h3 b2.frozen h1 h2).mono ?_
     rintro e w' ⟨rfl, rfl⟩
     exact ⟨y, rfl, Or.inr ⟨rf, _, rfl, by simp, f2.tail rfl, rfl⟩⟩
 | cons x re =>
   obtain ⟨g, off, c, rfl, h1, h2, h3⟩ := (f1.later hb).head
   cases rf with
   | nil =>
     obtain ⟨af, cf, rfl⟩ := f2.none
     refine (next_A be bf g off re.length c cf x af _ w rfl b1.cell b2.cell h3 b1.frozen h1 h2).mono ?_
     rintro e w' ⟨rfl, rfl⟩
     exact ⟨x, rfl, Or.inl ⟨re, _, rfl, by simp, f1.tail rfl, rfl⟩⟩
   | cons y rf =>
     obtain ⟨g', off', c', rfl, k1, k2, k3⟩ := (f2.later hb).head
     refine (next_C be bf g off re.length c g' off' rf.length c' x y _ _ w rfl rfl b1.cell b2.cell h3 k3 b1.frozen b2.frozen h1 h2 k1 k2 (f1.word x (by simp)) (f2.word y (by simp)) (fin y (by simp))).mono ?_
     rintro e w' (⟨hle, rfl, rfl⟩ | ⟨hle, rfl, rfl⟩)
     · exact ⟨x, rfl, Or.inl ⟨re, _, rfl, by simpa using hle, f1.tail rfl, rfl⟩⟩
     · exact ⟨y, rfl, Or.inr ⟨rf, _, rfl, by simp; omega, f2.tail rfl, rfl⟩⟩
def vals (bs : List Nat) : List Rat := bs.map fval
structure Up (N : Nat) (bs : List Nat) : Prop where
 ex : Ex (vals bs)
 fin : ∀ b ∈ bs, Fin64 b
 lim : ∀ b ∈ bs, ab (fval b) < U N
theorem F_fval {b : Nat} (h : Fin64 b) : F (fval b) := by
 obtain ⟨S, m, c⟩ := fc_word h
 exact c.f
theorem vals_gw (bs : List Nat) (x : Nat) : vals (gw bs x) = grownR (vals bs) (fval x) := by
 have hz : fval x = 0 ↔ frung x = 0 := fval_zero_iff
 unfold gw grownR
 by_cases h : frung x = 0
 · rw [if_pos h, if_pos (hz.2 h)]
 · rw [if_neg h, if_neg (fun e => h (hz.1 e))]; simp [vals]
theorem ab_rung {x y : Nat} (hx : Fin64 x) (hy : Fin64 y) (h : frung x ≤ frung y) : ab (fval x) ≤ ab (fval y) := by
 rw [← ab_fval x hx, ← ab_fval y hy]
 rcases Nat.lt_or_ge (frung x) (frung y) with h1 | h1
 · exact Rat.le_of_lt (fval_lt h1 hy)
 · rw [show frung x = frung y by omega]; exact Rat.le_refl
theorem tame_of {a : Nat} (h : Fin64 a) (hl : ab (fval a) ≤ U 2074) : frung a ≤ 9110782046170513408 := by
 rcases Nat.lt_or_ge 9110782046170513408 (frung a) with h1 | h1
 · exfalso
   have := fval_lt h1 h
   rw [tame_top, ab_fval a h] at this
   rw [show U 2074 = p2 1000 from rfl] at hl
   grind
 · exact h1
end

/- Package expand: two lists joined. -/
section
open Go.RowKit
theorem JInv.bounds {N : Nat} {de re df rf outs : List Rat} {Q q : Rat} (I : JInv N de re df rf outs Q q) : ab Q ≤ U (N + 2) ∧ ab q ≤ 3 * U N := by
 obtain ⟨T, k, R⟩ := I.rq
 have h1 := I.size
 have h2 := U_succ N
 have h3 := U_succ (N + 1)
 have h4 := U_pos N
 refine ⟨R.le_pow' (by rw [show N + 2 = N + 1 + 1 by omega]; grind), ?_⟩
 have := R.rest_le
 rw [show Q + q - Q = q by grind] at this
 grind
theorem Fr.drew {w : World} {B : Nat} {v : Value} {bs : List Nat} (h : Fr w B v bs) : Fr w.drew B v bs := ⟨h.own.drew, h.word⟩
structure JW (w : World) (es fs de re df rf outs : List Nat) (v : Value) (wr : World) : Prop where
 box : ∃ se sf, Box1 wr w.heap.size se ∧ Box1 wr (w.heap.size + 1) sf ∧ Fs w se re ∧ Fs w sf rf
 e1 : es = de ++ re
 e2 : fs = df ++ rf
 row : Fr wr (w.heap.size + 2) v outs
 bel : Below w.heap.size w wr
 siz : w.heap.size + 2 ≤ wr.heap.size
theorem JW.done {w : World} {es fs de re df rf outs : List Nat} {v : Value} {wr wr' : World} (h : JW w es fs de re df rf outs v wr) (hb : Below wr.heap.size wr wr') : JW w es fs de re df rf outs v wr' := by
 obtain ⟨se, sf, b1, b2, f1, f2⟩ := h.box
 exact ⟨⟨se, sf, b1.later hb b1.lt, b2.later hb b2.lt, f1, f2⟩, h.e1, h.e2, h.row.later hb, h.bel.trans (hb.mono h.bel.size), Nat.le_trans h.siz hb.size⟩
theorem JW.grown {w : World} {es fs de re df rf outs outs' : List Nat} {v v' : Value} {wr wr' : World} (h : JW w es fs de re df rf outs v wr) (hr : Fr wr' (w.heap.size + 2) v' outs') (hb : Below (w.heap.size + 2) wr wr') : JW w es fs de re df rf outs' v' wr' := by
 obtain ⟨se, sf, b1, b2, f1, f2⟩ := h.box
 exact ⟨⟨se, sf, b1.later hb (by omega), b2.later hb (by omega), f1, f2⟩, h.e1, h.e2, hr, h.bel.trans (hb.mono (by omega)), Nat.le_trans h.siz hb.size⟩
theorem JW.left {w : World} {es fs de re df rf outs : List Nat} {x : Nat} {v s : Value} {wr : World} (h : JW w es fs de (x :: re) df rf outs v wr) (hs : Fs w s re) : JW w es fs (de ++ [x]) re df rf outs v (wr.setCell ⟨w.heap.size, 0, none⟩ s).drew.drew := by
 obtain ⟨se, sf, b1, b2, f1, f2⟩ := h.box
 exact ⟨⟨s, sf, b1.set s, b2.other (by simp) s, hs, f2⟩, by rw [h.e1]; simp, h.e2, (h.row.low (a := ⟨_, 0, none⟩) (by simp) s).drew.drew, (h.bel.setCell (by simp) s).drew.drew, by have := h.siz; simpa [World.setCell] using this⟩
theorem JW.right {w : World} {es fs de re df rf outs : List Nat} {x : Nat} {v s : Value} {wr : World} (h : JW w es fs de re df (x :: rf) outs v wr) (hs : Fs w s rf) : JW w es fs de re (df ++ [x]) rf outs v (wr.setCell ⟨w.heap.size + 1, 0, none⟩ s).drew.drew := by
 obtain ⟨se, sf, b1, b2, f1, f2⟩ := h.box
 exact ⟨⟨se, s, b1.other (by simp) s, b2.set s, f1, hs⟩, h.e1, by rw [h.e2]; simp, (h.row.low (a := ⟨_, 0, none⟩) (by simp) s).drew.drew, (h.bel.setCell (by simp) s).drew.drew, by have := h.siz; simpa [World.setCell] using this⟩
def nzw (x : Nat) : Nat := if frung x = 0 then 0 else 1
theorem nzw_le (x : Nat) : nzw x ≤ 1 := by unfold nzw; split <;> omega
theorem nzw_zero {x : Nat} (h : fval x = 0) : nzw x = 0 := by unfold nzw; rw [if_pos (fval_zero_iff.1 h)]
theorem val_nzw {x : Nat} (h : nzw x = 0) : fval x = 0 := by
 unfold nzw at h
 split at h
 · exact fval_zero_iff.2 (by assumption)
 · omega
theorem gw_len (bs : List Nat) (x : Nat) : (gw bs x).length = bs.length + nzw x := by unfold gw nzw; split <;> simp
structure JS (N : Nat) (de re df rf outs : List Nat) (Q q : Nat) : Prop where
 inv : JInv N (vals de) (vals re) (vals df) (vals rf) (vals outs) (fval Q) (fval q)
 fin : Fin64 Q ∧ Fin64 q ∧ Q < 18446744073709551616 ∧ q < 18446744073709551616
 fo : ∀ b ∈ outs, Fin64 b
 fe : ∀ b ∈ re, Fin64 b
 ff : ∀ b ∈ rf, Fin64 b
 cnt : outs.length + nzw q + nzw Q ≤ de.length + df.length
theorem head_min {g : Nat} {l : List Nat} (hf : ∀ b ∈ l, Fin64 b) (hg : Fin64 g) (hx : Ex (vals l)) (h : ∀ y, l.head? = some y → frung g ≤ frung y) : ∀ y ∈ vals l, ab (fval g) ≤ ab y := by
 intro y hy
 cases l with
 | nil => simp [vals] at hy
 | cons a l =>
   have h1 := ab_rung hg (hf a (by simp)) (h a rfl)
   simp only [vals, List.map_cons, List.mem_cons] at hy
   rcases hy with rfl | hy
   · exact h1
   · have h2 := (List.pairwise_cons.1 hx.1).1 y hy
     have h3 := h2.lt (hx.2 y (by simp [vals]; exact Or.inr (by simpa using hy)))
     grind
theorem rv_rnd {q x : Rat} (h : RV q x) : ∃ T k, Rnd q x T k := h.rn
theorem JS.step {N : Nat} {de re df rf outs : List Nat} {Q q g R h Q' q' : Nat} (hN : N ≤ 2070) (I : JS N de (g :: re) df rf outs Q q) (hm : ∀ y, rf.head? = some y → frung g ≤ frung y)
   (p1 : Pair (TameW g q) (fval g + fval q) R h) (p2 : Pair (TameW Q R) (fval Q + fval R) Q' q') : JS N (de ++ [g]) re df rf (gw outs h) Q' q' := by
 obtain ⟨iQ, iq⟩ := I.inv.bounds
 have hg := I.fe g (by simp)
 have bg : ab (fval g) < U N := (I.inv.b1 (fval g) (by simp [vals])).2
 have u1 := U_succ N
 have u2 := U_succ (N + 1)
 have u3 : U (N + 2) ≤ U 2074 := U_mono (by omega)
 have u0 := U_pos N
 have eN : U (N + 2) = U (N + 1 + 1) := rfl
 have t1 : TameW g q := ⟨tame_of hg (by grind), tame_of I.fin.2.1 (by grind)⟩
 obtain ⟨fR, fh, lR, lh, ⟨_, r1, e1⟩ | ⟨c, _⟩⟩ := p1
 · obtain ⟨T1, k1, R1⟩ := rv_rnd r1
   have bR : ab (fval R) ≤ U (N + 2) := R1.le_pow' (by have := ab_add (fval g) (fval q); grind)
   have t2 : TameW Q R := ⟨tame_of I.fin.1 (by grind), tame_of fR (by grind)⟩
   obtain ⟨fQ', fq', lQ', lq', ⟨_, r2, e2⟩ | ⟨c, _⟩⟩ := p2
   · obtain ⟨T2, k2, R2⟩ := rv_rnd r2
     have hmin := head_min I.ff hg I.inv.e2.right hm
     have J := I.inv.step (g := fval g) (re := vals re) hmin R1 e1 (F_fval fh) R2 e2 (F_fval fq')
     refine ⟨?_, ⟨fQ', fq', lQ', lq'⟩, ?_, fun b hb => I.fe b (by simp [hb]), I.ff, ?_⟩
     · rw [vals_gw, show vals (de ++ [g]) = vals de ++ [fval g] by simp [vals]]; exact J
     · intro b hb
       unfold gw at hb
       split at hb
       · exact I.fo b hb
       · rcases List.mem_append.1 hb with hb | hb
         · exact I.fo b hb
         · rw [List.mem_singleton.1 hb]; exact fh
     · have c0 := I.cnt
       have a1 : nzw q = 0 → nzw h = 0 := fun hq => by
         have z := val_nzw hq
         have x := r1.rn.exact (by rw [z, show fval g + 0 = fval g by grind]; exact F_fval hg)
         exact nzw_zero (by grind)
       have a2 : nzw Q = 0 → nzw q' = 0 := fun hq => by
         have z := val_nzw hq
         have x := r2.rn.exact (by rw [z, show 0 + fval R = fval R by grind]; exact F_fval fR)
         exact nzw_zero (by grind)
       have b1 := nzw_le h
       have b2 := nzw_le q'
       have b3 := nzw_le Q'
       rw [gw_len, List.length_append, List.length_singleton]
       omega
   · exact absurd t2 c
 · exact absurd t1 c
theorem JS.turn {N : Nat} {de re df rf outs : List Nat} {Q q : Nat} (I : JS N de re df rf outs Q q) : JS N df rf de re outs Q q :=
 ⟨I.inv.turn, I.fin, I.fo, I.ff, I.fe, by have := I.cnt; omega⟩
theorem JS.start {N : Nat} {es fs : List Nat} (h1 : Up N es) (h2 : Up N fs) : JS N [] es [] fs [] 0 0 :=
 ⟨by
   rw [fval0]
   exact JInv.start h1.ex h2.ex (fun x hx => by obtain ⟨b, hb, rfl⟩ := List.mem_map.1 hx; exact ⟨F_fval (h1.fin b hb), h1.lim b hb⟩) (fun x hx => by obtain ⟨b, hb, rfl⟩ := List.mem_map.1 hx; exact ⟨F_fval (h2.fin b hb), h2.lim b hb⟩),
  ⟨fin0, fin0, by omega, by omega⟩, by simp, h1.fin, h2.fin, by decide⟩
theorem gw_mem {bs : List Nat} {x b : Nat} (h : b ∈ gw bs x) : b ∈ bs ∨ b = x := by
 unfold gw at h
 split at h
 · exact Or.inl h
 · rcases List.mem_append.1 h with h | h
   · exact Or.inl h
   · exact Or.inr (List.mem_singleton.1 h)
theorem gw_length (bs : List Nat) (x : Nat) : (gw bs x).length ≤ bs.length + 1 := by unfold gw; split <;> simp
theorem JS.done {N : Nat} {de df outs : List Nat} {Q q : Nat} (I : JS N de [] df [] outs Q q) : Up (N + 3) (gw (gw outs q) Q) ∧ (vals (gw (gw outs q) Q)).sum = (vals de).sum + (vals df).sum ∧ (gw (gw outs q) Q).length ≤ de.length + df.length := by
 obtain ⟨h1, h2, h3⟩ := JInv.done I.inv
 obtain ⟨iQ, iq⟩ := I.inv.bounds
 have u1 := U_succ N
 have u2 := U_succ (N + 1)
 have u3 := U_succ (N + 2)
 have u0 := U_pos N
 have eN : U (N + 2) = U (N + 1 + 1) := rfl
 have eM : U (N + 3) = U (N + 2 + 1) := rfl
 rw [← vals_gw, ← vals_gw] at h1 h2
 refine ⟨⟨h1, fun b hb => ?_, fun b hb => ?_⟩, h2, ?_⟩
 · rcases gw_mem hb with hb | rfl
   · rcases gw_mem hb with hb | rfl
     · exact I.fo b hb
     · exact I.fin.2.1
   · exact I.fin.1
 · rcases gw_mem hb with hb | rfl
   · rcases gw_mem hb with hb | rfl
     · have := (I.inv.b3 (fval b) (by simp [vals]; exact ⟨b, hb, rfl⟩)).2
       grind
     · grind
   · grind
 · have := I.cnt
   rw [gw_len, gw_len]
   omega
end

/- Package expand: the walk of joined. -/
section
open Go.RowKit
theorem below_step {w a b : World} (h : Below w.heap.size w a) (h2 : Below a.heap.size a b) : Below w.heap.size w b := h.trans (h2.mono h.size)
theorem jw_start {w w1 : World} {es fs : List Nat} {x y : Value} {c : Nat} (h1 : Fs w x es) (h2 : Fs w y fs) (hown : w1.ownsRow (w.heap.size + 2) 33 1 (.slice (some ⟨((w.alloc (.cells #[x] 134)).alloc (.cells #[y] 134)).heap.size, 0, none⟩) 0 c) 0 []) (hg : ((w.alloc (.cells #[x] 134)).alloc (.cells #[y] 134)).grownBy w1 none) : JW w es fs [] es [] fs [] (.slice (some ⟨w.heap.size + 1 + 1, 0, none⟩) 0 c) w1 := by
 refine ⟨⟨x, y, ?_, ?_, h1, h2⟩, rfl, rfl, ⟨by simpa [f64s] using hown, by simp⟩, ?_, by have := hg.size; simp at this; omega⟩
 · unfold Box1
   rw [hg.block _ (by simp; omega) (by simp), Below.heap_alloc _ _ _ (by simp)]
   exact heap_alloc_new w _
 · unfold Box1
   rw [hg.block _ (by simp) (by simp)]
   have := heap_alloc_new (w.alloc (.cells #[x] 134)) (.cells #[y] 134)
   simpa using this
 · exact (((Below.refl w.heap.size w).alloc (Nat.le_refl _) _).alloc (by simp) _).grown hg (by simp; omega) (by simp)
theorem next_use {N : Nat} {w wr : World} {es fs de re df rf outs : List Nat} {v : Value} {Q q : Nat} (hN : N ≤ 2070) (S : JS N de re df rf outs Q q) (W : JW w es fs de re df rf outs v wr) (hne : de.length + df.length < es.length + fs.length) :
   Calls Tryz.prog 174 #[.pointer (some ⟨w.heap.size + 1, 0, none⟩), .pointer (some ⟨w.heap.size, 0, none⟩)] wr fun e w' => ∃ x, e = .returned (.float .f64 x) ∧ x < 18446744073709551616 ∧ ∃ de' re' df' rf', JW w es fs de' re' df' rf' outs v w' ∧ de'.length + df'.length = de.length + df.length + 1 ∧
     ∀ R h Q' q', Pair (TameW x q) (fval x + fval q) R h → Pair (TameW Q R) (fval Q + fval R) Q' q' → JS N de' re' df' rf' (gw outs h) Q' q' := by
 obtain ⟨se, sf, b1, b2, f1, f2⟩ := W.box
 have h0 : re ≠ [] ∨ rf ≠ [] := by
   rw [W.e1, W.e2, List.length_append, List.length_append] at hne
   by_cases h : re = []
   · right
     intro h'
     rw [h, h'] at hne
     simp at hne
   · exact Or.inl h
 refine (next_any w wr w.heap.size (w.heap.size + 1) se sf re rf W.bel b1 b2 f1 f2 S.ff h0).mono ?_
 rintro e w' ⟨x, rfl, ⟨re', s, rfl, hm, hs, rfl⟩ | ⟨rf', s, rfl, hm, hs, rfl⟩⟩
 · exact ⟨x, rfl, f1.word x (by simp), _, _, _, _, W.left hs, by simp; omega, fun R h Q' q' p1 p2 => S.step hN hm p1 p2⟩
 · exact ⟨x, rfl, f2.word x (by simp), _, _, _, _, W.right hs, by simp; omega, fun R h Q' q' p1 p2 => (S.turn.step hN hm p1 p2).turn⟩
set_option maxRecDepth 100000 in
set_option maxHeartbeats 8000000 in
theorem joinedE_walk (N n m ce cf : Nat) (ae af : Option Addr) (es fs : List Nat) (w : World) (hN : N ≤ 2070) (f1 : Fs w (.slice ae n ce) es) (f2 : Fs w (.slice af m cf) fs) (u1 : Up N es) (u2 : Up N fs) (hn : es.length = n) (hm : fs.length = m) (ln : n ≤ 1000) (lm : m ≤ 1000) :
   Calls Tryz.prog 135 #[.slice ae n ce, .slice af m cf] w fun e w' => (∃ v bs, e = .returned v ∧ Fr w' w.heap.size v bs ∧ Up (N + 3) bs ∧ (vals bs).sum = (vals es).sum + (vals fs).sum ∧ bs.length ≤ n + m) ∧ Below w.heap.size w w' := by
 have H1 : Hid (Fs w (.slice ae n ce) es) := f1
 have H2 : Hid (Fs w (.slice af m cf) fs) := f2
 have HU : Hid (Up N es ∧ Up N fs ∧ N ≤ 2070) := ⟨u1, u2, hN⟩
 have HL : Hid (es.length = n ∧ fs.length = m) := ⟨hn, hm⟩
 have l1 : (n : Int) ≤ 1000 := by omega
 have l2 : (m : Int) ≤ 1000 := by omega
 obtain ⟨i0, hi0, hz0, hz1, hz2⟩ := info_parts infoF
 clear f1 f2 u1 u2 hN hn hm ln lm
 go_enter Tryz.func135, Tryz.ntmps135
 go_wp2_with (at_make; refine wpList_make_own _ rfl _ _ _ rfl (w.heap.size + 2) 33 i0 _ 1 undF hi0 hz0 hz1 .i64 .i64 _ (n + m) rfl rfl (by omega) (by rw [hz2]; omega) (by unfold maxLen; omega) (by simp) ?_; intro w1 hown hgrow; have HJ : Hid (JW w es fs [] es [] fs [] (.slice (some ⟨w.heap.size + 1 + 1, 0, none⟩) 0 (n + m)) w1) := jw_start H1.out H2.out hown hgrow; have c1 : w1.cell? ⟨w.heap.size, 0, none⟩ = some (.slice ae n ce) := (hgrow.cell (a := ⟨w.heap.size, 0, none⟩) (by go_simp) (by simp)); have c2 : w1.cell? ⟨w.heap.size + 1, 0, none⟩ = some (.slice af m cf) := (hgrow.cell (a := ⟨w.heap.size + 1, 0, none⟩) (by go_simp) (by simp)); clear hown hgrow)
 clear c1 c2
 go_loopw [22, 6, 7, 8, 9] (fun i v Q q l wr => ∃ (de re df rf outs : List Nat) (Q' q' l' : Nat), i = .int .i64 ((de.length + df.length : Nat) : Int) ∧ Q = .float .f64 Q' ∧ q = .float .f64 q' ∧ l = .float .f64 l' ∧ Hid (JS N de re df rf outs Q' q') ∧ Hid (JW w es fs de re df rf outs v wr)) (fun i _ _ _ _ _ => n + m - (intOf i).toNat)
 case atStart => exact ⟨[], es, [], fs, [], 0, 0, 0, rfl, rfl, rfl, rfl, JS.start HU.out.1 HU.out.2.1, HJ.out⟩
 case round =>
   clear HJ
   obtain ⟨de, re, df, rf, outs, Q, q, l, rfl, rfl, rfl, rfl, hS, hW⟩ := hrel
   have HK : Hid (de.length + df.length + re.length + rf.length = n + m) := by
     have h1 := HL.out.1
     have h2 := HL.out.2
     rw [hW.out.e1, List.length_append] at h1
     rw [hW.out.e2, List.length_append] at h2
     show _ = _
     omega
   by_cases hlt : de.length + df.length < n + m
   · have hlt' : ((de.length + df.length : Nat) : Int) < (n : Int) + (m : Int) := by omega
     obtain ⟨k, hk⟩ : ∃ k, de.length + df.length = k := ⟨_, rfl⟩
     have HKK : Hid (de.length + df.length = k) := hk
     rw [hk] at hlt hlt' ⊢
     have HNX : Hid (Calls Tryz.prog 174 #[.pointer (some ⟨w.heap.size + 1, 0, none⟩), .pointer (some ⟨w.heap.size, 0, none⟩)] wr fun e w' => ∃ x, e = .returned (.float .f64 x) ∧ x < 18446744073709551616 ∧ ∃ de' re' df' rf', JW w es fs de' re' df' rf' outs u6 w' ∧ de'.length + df'.length = de.length + df.length + 1 ∧
       ∀ R h Q' q', Pair (TameW x q) (fval x + fval q) R h → Pair (TameW Q R) (fval Q + fval R) Q' q' → JS N de' re' df' rf' (gw outs h) Q' q') := next_use HU.out.2.2 hS.out hW.out (by rw [HL.out.1, HL.out.2, hk]; exact hlt)
     have HO : Hid (outs.length ≤ 1000000) := by have := hS.out.cnt; show _ ≤ _; omega
     clear hk
     go_wp2_with fail
     refine HNX.out.mono ?_
     rintro e w2 ⟨x, rfl, hx, de', re', df', rf', hJ, hc, hst⟩
     have HX : Hid (x < 18446744073709551616) := hx
     have HJ2 : Hid (JW w es fs de' re' df' rf' outs u6 w2) := hJ
     have HC : Hid (de'.length + df'.length = de.length + df.length + 1) := hc
     have HST : Hid (∀ R h Q' q', Pair (TameW x q) (fval x + fval q) R h → Pair (TameW Q R) (fval Q + fval R) Q' q' → JS N de' re' df' rf' (gw outs h) Q' q') := hst
     clear hx hJ hc hst HNX
     go_wp2_with fail
     refine (sum_pair x q _ HX.out hS.out.fin.2.2.2).mono ?_
     rintro e w3 ⟨⟨R, h, rfl, p1⟩, hb3⟩
     have HP1 : Hid (Pair (TameW x q) (fval x + fval q) R h) := p1
     have HJ3 : Hid (JW w es fs de' re' df' rf' outs u6 w3) := HJ2.out.done hb3
     clear p1 hb3
     go_wp2_with fail
     refine (grown_any (w.heap.size + 2) u6 outs h _ HJ3.out.row HJ3.out.siz HP1.out.2.2.2.1 HO.out).mono ?_
     rintro e w4 ⟨⟨v', rfl, hr4⟩, hb4⟩
     have HJ4 : Hid (JW w es fs de' re' df' rf' (gw outs h) v' w4) := HJ3.out.grown hr4 hb4
     clear hr4 hb4
     go_wp2_with fail
     refine (sum_pair Q R _ hS.out.fin.2.2.1 HP1.out.2.2.1).mono ?_
     rintro e w5 ⟨⟨Q', q', rfl, p2⟩, hb5⟩
     have HS5 : Hid (JS N de' re' df' rf' (gw outs h) Q' q') := HST.out R h Q' q' HP1.out p2
     have HJ5 : Hid (JW w es fs de' re' df' rf' (gw outs h) v' w5) := HJ4.out.done hb5
     clear p2 hb5
     go_wp2
     have hc := HC.out
     rw [HKK.out] at hc
     exact ⟨⟨de', re', df', rf', gw outs h, Q', q', h, by rw [hc]; go_num, rfl, rfl, rfl, HS5, HJ5⟩, by simp [intOf]; omega⟩
   · obtain ⟨k, hk⟩ : ∃ k, de.length + df.length = k := ⟨_, rfl⟩
     rw [hk] at hlt ⊢
     have hre : re = [] := List.eq_nil_of_length_eq_zero (by have := HK.out; omega)
     have hrf : rf = [] := List.eq_nil_of_length_eq_zero (by have := HK.out; omega)
     subst hre hrf
     have hkk : k = n + m := by have := HK.out; simp at this; omega
     have hltb : decide (((n + m : Nat) : Int) < (n : Int) + (m : Int)) = false := decide_eq_false (by omega)
     have HD := hS.out.done
     have HO : Hid (outs.length ≤ 1000000) := by have := hS.out.cnt; show _ ≤ _; omega
     have HDD : Hid (Up (N + 3) (gw (gw outs q) Q) ∧ (vals (gw (gw outs q) Q)).sum = (vals es).sum + (vals fs).sum ∧ (gw (gw outs q) Q).length ≤ n + m) := by
       have e1 := hW.out.e1
       have e2 := hW.out.e2
       rw [List.append_nil] at e1 e2
       rw [e1, e2]
       exact ⟨HD.1, HD.2.1, by have := HD.2.2; omega⟩
     subst hkk
     clear HD hlt hk
     go_wp2_with fail
     refine (grown_any (w.heap.size + 2) u6 outs q _ hW.out.row hW.out.siz hS.out.fin.2.2.2 HO.out).mono ?_
     rintro e w4 ⟨⟨v', rfl, hr4⟩, hb4⟩
     have HJ4 : Hid (JW w es fs de [] df [] (gw outs q) v' w4) := hW.out.grown hr4 hb4
     clear hr4 hb4
     go_wp2_with fail
     refine (grown_any (w.heap.size + 2) v' (gw outs q) Q _ HJ4.out.row HJ4.out.siz hS.out.fin.2.2.1 (by have := gw_length outs q; have := hS.out.cnt; have := HK.out; simp at this; omega)).mono ?_
     rintro e w5 ⟨⟨v5, rfl, hr5⟩, hb5⟩
     have HJ5 : Hid (JW w es fs de [] df [] (gw (gw outs q) Q) v5 w5) := HJ4.out.grown hr5 hb5
     clear hr5 hb5
     go_wp2
     go_ret
     exact ⟨⟨v5, _, rfl, HJ5.out.row.mono (by omega), HDD.out.1, HDD.out.2.1, HDD.out.2.2⟩, HJ5.out.bel⟩
theorem joinedE_any (N : Nat) (se sf : Value) (es fs : List Nat) (w : World) (hN : N ≤ 2070) (f1 : Fs w se es) (f2 : Fs w sf fs) (u1 : Up N es) (u2 : Up N fs) (hl : es.length ≤ 1000 ∧ fs.length ≤ 1000) :
   Calls Tryz.prog 135 #[se, sf] w fun e w' => (∃ v bs, e = .returned v ∧ Fr w' w.heap.size v bs ∧ Up (N + 3) bs ∧ (vals bs).sum = (vals es).sum + (vals fs).sum ∧ bs.length ≤ es.length + fs.length) ∧ Below w.heap.size w w' := by
 obtain ⟨⟨ae, ce, rfl, _⟩, _⟩ := id f1
 obtain ⟨⟨af, cf, rfl, _⟩, _⟩ := id f2
 exact joinedE_walk N es.length fs.length ce cf ae af es fs w hN f1 f2 u1 u2 rfl rfl hl.1 hl.2
end

/- Package expand: a list times a float. -/
section
open Go.RowKit
def SafeB (b : Nat) : Prop := 2580562586483294208 ≤ frung b ∧ frung b ≤ 6633802251116740608
theorem safe_low : fval 2580562586483294208 = U 624 := by
 rw [(fval_pos_lt (by omega)).1, show fmag 2580562586483294208 = 4503599627370496 by decide, show fpl 2580562586483294208 = -502 by decide]
 unfold U
 rw [show ((624 : Nat) : Int) - 1074 = -502 + ((52 : Nat) : Int) by omega, p2_add, p2_nat, Rat.mul_comm]
theorem SafeB.fin {b : Nat} (h : SafeB b) : Fin64 b := by unfold Fin64; have := h.2; omega
theorem SafeB.ab {b : Nat} (h : SafeB b) : U 624 ≤ ab (fval b) ∧ Go.Proofs.YtcgbnjoajieggaaGreat.ab (fval b) ≤ U 1524 := by
 rw [← ab_fval b h.fin, ← safe_low, show U 1524 = p2 450 from rfl, ← safe_top]
 have f := h.fin
 unfold Fin64 at f
 constructor
 · rcases Nat.lt_or_ge 2580562586483294208 (frung b) with e | e
   · exact Rat.le_of_lt (fval_lt e f)
   · rw [show frung b = 2580562586483294208 by have := h.1; omega]; exact Rat.le_refl
 · rcases Nat.lt_or_ge (frung b) 6633802251116740608 with e | e
   · exact Rat.le_of_lt (fval_lt e (by omega))
   · rw [show frung b = 6633802251116740608 by have := h.2; omega]; exact Rat.le_refl
theorem SafeB.unit {b : Nat} (h : SafeB b) : ∃ B, 572 ≤ B ∧ B ≤ 1472 ∧ M (U B) (fval b) ∧ Go.Proofs.YtcgbnjoajieggaaGreat.ab (fval b) < U (B + 53) := by
 obtain ⟨a1, a2⟩ := h.ab
 have f := F_fval h.fin
 have hb0 : fval b ≠ 0 := by
   intro e
   rw [e] at a1
   have := U_pos 624
   rw [show Go.Proofs.YtcgbnjoajieggaaGreat.ab 0 = 0 by unfold Go.Proofs.YtcgbnjoajieggaaGreat.ab; grind] at a1
   grind
 obtain ⟨K, _, k1, k2⟩ := binade (F.mult0 f) hb0
 have h1 : 624 ≤ K := by
   have : U 624 < U (K + 1) := by grind
   have := U_lt_iff.1 this
   omega
 have h2 : K ≤ 1524 := by
   have : U K ≤ U 1524 := by grind
   exact U_le_iff.1 this
 exact ⟨K - 52, by omega, by omega, f.mult k1, by rw [show K - 52 + 53 = K + 1 by omega]; exact k2⟩
structure SS (b B : Nat) (de re outs : List Nat) (Q : Nat) : Prop where
 inv : SInv (fval b) B (vals de) (vals re) (vals outs) (fval Q)
 fin : Fin64 Q ∧ Q < 18446744073709551616
 fo : ∀ x ∈ outs, Fin64 x
 sd : ∀ x ∈ de, SafeB x
 sr : ∀ x ∈ re, SafeB x
 cnt : outs.length ≤ 2 * de.length
theorem SS.start {b B : Nat} {es : List Nat} (h : Ex (vals es)) (hs : ∀ x ∈ es, SafeB x) : SS b B [] es [] 0 :=
 ⟨by rw [fval0]; exact SInv.start h (fun x hx => by obtain ⟨y, hy, rfl⟩ := List.mem_map.1 hx; exact ⟨F_fval (hs y hy).fin, (hs y hy).ab.1⟩), ⟨fin0, by omega⟩, by simp, by simp, hs, by simp⟩
theorem SS.lim {b B : Nat} {de re outs : List Nat} {Q : Nat} (I : SS b B de re outs Q) (hB : 572 ≤ B ∧ B ≤ 1472) : ab (fval Q) ≤ U 1976 ∧ ∀ x ∈ outs, ab (fval x) < U 1976 := by
 have hd : ∀ d ∈ vals de, ab d < U 1525 := fun d hd => by
   obtain ⟨y, hy, rfl⟩ := List.mem_map.1 hd
   have := (I.sd y hy).ab.2
   have := U_lt_iff.2 (show 1524 < 1525 by omega)
   grind
 constructor
 · have h1 := I.inv.qb 1525 hd (by omega)
   rw [U_mulX' (r := B + 504) (by omega)] at h1
   have := U_mono (show B + 504 ≤ 1976 by omega)
   grind
 · intro x hx
   have h1 := I.inv.hb 1525 hd (by omega) (fval x) (by simp [vals]; exact ⟨x, hx, rfl⟩)
   rw [U_mulX' (r := B + 451) (by omega)] at h1
   have := U_mono (show B + 451 ≤ 1976 by omega)
   grind
theorem SS.step {b B : Nat} {de re outs : List Nat} {Q x T t Q1 h1 Q2 h2 : Nat} (I : SS b B de (x :: re) outs Q) (hb : SafeB b) (hB : 572 ≤ B ∧ B ≤ 1472) (mb : M (U B) (fval b)) (bb : ab (fval b) < U (B + 53))
   (p0 : Pair (SafeP x b) (fval x * fval b) T t) (p1 : Pair (TameW Q t) (fval Q + fval t) Q1 h1) (p2 : Pair (TameW T Q1) (fval T + fval Q1) Q2 h2) : SS b B (de ++ [x]) re (gw (gw outs h1) h2) Q2 := by
 have sx := I.sr x (by simp)
 have lQ := (I.lim hB).1
 have m1 := U_lt_iff.2 (show 1974 < 1975 by omega)
 have u5 := U_succ 1975
 have u6 := U_succ 1976
 have u7 := U_succ 1977
 have u4 := U_succ 1974
 have up := U_pos 1974
 have lt : U 1978 ≤ U 2074 := U_mono (by omega)
 have lxb : ab (fval x * fval b) ≤ U 1974 := by
   rw [ab_mul, ← U_mulX' (s := 1524) (t := 1524) (r := 1974) (by omega)]
   have g1 := Rat.mul_le_mul_of_nonneg_right sx.ab.2 (ab_nonneg (fval b))
   have g2 := Rat.mul_le_mul_of_nonneg_left hb.ab.2 (Rat.le_of_lt (U_pos 1524))
   grind
 obtain ⟨fT, ft, lT, l_t, ⟨_, r0, e0⟩ | ⟨c, _⟩⟩ := p0
 · obtain ⟨T0, k0, R0⟩ := rv_rnd r0
   have bT : ab (fval T) ≤ U 1974 := R0.le_pow' lxb
   have bt : ab (fval t) ≤ U 1974 := by
     have := R0.rest_le
     rw [show fval x * fval b - fval T = fval t by grind] at this
     grind
   have t1 : TameW Q t := ⟨tame_of I.fin.1 (by grind), tame_of ft (by grind)⟩
   obtain ⟨fQ1, fh1, lQ1, lh1, ⟨_, r1, e1⟩ | ⟨c, _⟩⟩ := p1
   · obtain ⟨T1, k1, R1⟩ := rv_rnd r1
     have bQ1 : ab (fval Q1) ≤ U 1977 := R1.le_pow' (by have := ab_add (fval Q) (fval t); grind)
     have t2 : TameW T Q1 := ⟨tame_of fT (by grind), tame_of fQ1 (by grind)⟩
     obtain ⟨fQ2, fh2, lQ2, lh2, ⟨_, r2, e2⟩ | ⟨c, _⟩⟩ := p2
     · obtain ⟨T2, k2, R2⟩ := rv_rnd r2
       have J := I.inv.step (x := fval x) (re := vals re) hB.1 mb bb R0 e0 (F_fval ft) R1 e1 (F_fval fh1) R2 e2 (F_fval fh2)
       refine ⟨?_, ⟨fQ2, lQ2⟩, ?_, ?_, fun y hy => I.sr y (by simp [hy]), ?_⟩
       · rw [vals_gw, vals_gw, show vals (de ++ [x]) = vals de ++ [fval x] by simp [vals]]; exact J
       · intro y hy
         rcases gw_mem hy with hy | rfl
         · rcases gw_mem hy with hy | rfl
           · exact I.fo y hy
           · exact fh1
         · exact fh2
       · intro y hy
         rcases List.mem_append.1 hy with hy | hy
         · exact I.sd y hy
         · rw [List.mem_singleton.1 hy]; exact sx
       · have g1 := gw_length (gw outs h1) h2
         have g2 := gw_length outs h1
         have := I.cnt
         simp
         omega
     · exact absurd t2 c
   · exact absurd t1 c
 · exact absurd ⟨Or.inr sx, Or.inr hb⟩ c
theorem SS.done {b B : Nat} {de outs : List Nat} {Q : Nat} (I : SS b B de [] outs Q) (hB : 572 ≤ B ∧ B ≤ 1472) : Up 1977 (gw outs Q) ∧ (vals (gw outs Q)).sum = (vals de).sum * fval b ∧ (gw outs Q).length ≤ 2 * de.length + 1 := by
 obtain ⟨h1, h2, h3⟩ := SInv.done I.inv
 rw [← vals_gw] at h1 h2
 obtain ⟨l1, l2⟩ := I.lim hB
 have m1 := U_lt_iff.2 (show 1976 < 1977 by omega)
 refine ⟨⟨h1, fun y hy => ?_, fun y hy => ?_⟩, h2, ?_⟩
 · rcases gw_mem hy with hy | rfl
   · exact I.fo y hy
   · exact I.fin.1
 · rcases gw_mem hy with hy | rfl
   · have := l2 y hy
     grind
   · grind
 · have g2 := gw_length outs Q
   have := I.cnt
   omega
structure SW (w : World) (es de re outs : List Nat) (v : Value) (wr : World) : Prop where
 e1 : es = de ++ re
 row : Fr wr w.heap.size v outs
 bel : Below w.heap.size w wr
theorem SW.done {w wr wr' : World} {es de re outs : List Nat} {v : Value} (h : SW w es de re outs v wr) (hb : Below wr.heap.size wr wr') : SW w es de re outs v wr' := ⟨h.e1, h.row.later hb, h.bel.trans (hb.mono h.bel.size)⟩
theorem SW.grown {w wr wr' : World} {es de re outs outs' : List Nat} {v v' : Value} (h : SW w es de re outs v wr) (hr : Fr wr' w.heap.size v' outs') (hb : Below w.heap.size wr wr') : SW w es de re outs' v' wr' := ⟨h.e1, hr, h.bel.trans hb⟩
set_option maxRecDepth 100000 in
set_option maxHeartbeats 8000000 in
theorem scaled_walk (n c b : Nat) (a : Option Addr) (es : List Nat) (w : World) (f1 : Fs w (.slice a n c) es) (u1 : Ex (vals es)) (hs : ∀ x ∈ es, SafeB x) (hb : SafeB b) (hbw : b < 18446744073709551616) (hn : es.length = n) (ln : n ≤ 1000) :
   Calls Tryz.prog 136 #[.slice a n c, .float .f64 b] w fun e w' => (∃ v bs, e = .returned v ∧ Fr w' w.heap.size v bs ∧ Up 1977 bs ∧ (vals bs).sum = (vals es).sum * fval b ∧ bs.length ≤ 2 * n + 1) ∧ Below w.heap.size w w' := by
 obtain ⟨B, B1, B2, mb, bb⟩ := hb.unit
 have H1 : Hid (Fs w (.slice a n c) es) := f1
 have HU : Hid (Ex (vals es) ∧ (∀ x ∈ es, SafeB x) ∧ SafeB b ∧ b < 18446744073709551616) := ⟨u1, hs, hb, hbw⟩
 have HB : Hid ((572 ≤ B ∧ B ≤ 1472) ∧ M (U B) (fval b) ∧ ab (fval b) < U (B + 53)) := ⟨⟨B1, B2⟩, mb, bb⟩
 have HL : Hid (es.length = n) := hn
 have l1 : (n : Int) ≤ 1000 := by omega
 obtain ⟨i0, hi0, hz0, hz1, hz2⟩ := info_parts infoF
 clear f1 u1 hs hb hbw hn ln B1 B2 mb bb
 go_enter Tryz.func136, Tryz.ntmps136
 go_wp2_with (at_make; refine wpList_make_own _ rfl _ _ _ rfl w.heap.size 33 i0 _ 1 undF hi0 hz0 hz1 .i64 .i64 _ (2 * n) rfl rfl (by omega) (by rw [hz2]; omega) (by unfold maxLen; omega) (by simp) ?_; intro w1 hown hgrow; have HJ : Hid (SW w es [] es [] (.slice (some ⟨w.heap.size, 0, none⟩) 0 (2 * n)) w1) := ⟨rfl, ⟨by simpa [f64s] using hown, by simp⟩, (Below.refl _ _).grown hgrow (Nat.le_refl _) (by simp)⟩; clear hown hgrow)
 go_loopw [18, 5, 6] (fun i v Q wr => ∃ (de re outs : List Nat) (Q' : Nat), i = .int .i64 ((de.length : Nat) : Int) ∧ Q = .float .f64 Q' ∧ Hid (SS b B de re outs Q') ∧ Hid (SW w es de re outs v wr)) (fun i _ _ _ => n - (intOf i).toNat)
 case atStart => exact ⟨[], es, [], 0, rfl, rfl, SS.start HU.out.1 HU.out.2.1, HJ.out⟩
 case round =>
   clear HJ
   obtain ⟨de, re, outs, Q, rfl, rfl, hS, hW⟩ := hrel
   have HK : Hid (de.length + re.length = n) := by
     have h1 := HL.out
     rw [hW.out.e1, List.length_append] at h1
     exact h1
   cases re with
   | cons x re =>
     have hlt : de.length < n := by have := HK.out; simp at this; omega
     obtain ⟨k, hk⟩ : ∃ k, de.length = k := ⟨_, rfl⟩
     have HKK : Hid (de.length = k) := hk
     rw [hk] at hlt ⊢
     have hlt' : (k : Int) < (n : Int) := by omega
     have hk0 : (0 : Int) ≤ (k : Int) := by omega
     have hge : es.getD k 0 = x := by
       rw [hW.out.e1, ← hk]
       simp [List.getD]
     obtain ⟨⟨a', c', e', _, _, hf⟩, hw⟩ := H1.out
     cases e'
     rcases hf with hf | ⟨g, off, rfl, hf⟩
     · exfalso
       rw [hf] at hlt
       simp at hlt
     have hcell := box_cell hW.out.bel (hf k (by rw [HL.out]; exact hlt))
     rw [hge] at hcell
     have HX : Hid (x < 18446744073709551616) := hw x (by rw [hW.out.e1]; simp)
     have HO : Hid (outs.length ≤ 1000000) := by have := hS.out.cnt; show _ ≤ _; omega
     clear hk hge hf hw
     go_wp2_with fail
     refine (prod_pair x b _ HX.out HU.out.2.2.2).mono ?_
     rintro e w2 ⟨⟨T, t, rfl, p0⟩, hb2⟩
     have HP0 : Hid (Pair (SafeP x b) (fval x * fval b) T t) := p0
     have HW2 : Hid (SW w es de (x :: re) outs u5 w2) := hW.out.done hb2
     clear p0 hb2 hcell
     go_wp2_with fail
     refine (sum_pair Q t _ hS.out.fin.2 HP0.out.2.2.2.1).mono ?_
     rintro e w3 ⟨⟨Q1, h1, rfl, p1⟩, hb3⟩
     have HP1 : Hid (Pair (TameW Q t) (fval Q + fval t) Q1 h1) := p1
     have HW3 : Hid (SW w es de (x :: re) outs u5 w3) := HW2.out.done hb3
     clear p1 hb3
     go_wp2_with fail
     refine (grown_any w.heap.size u5 outs h1 _ HW3.out.row HW3.out.bel.size HP1.out.2.2.2.1 HO.out).mono ?_
     rintro e w4 ⟨⟨v4, rfl, hr4⟩, hb4⟩
     have HW4 : Hid (SW w es de (x :: re) (gw outs h1) v4 w4) := HW3.out.grown hr4 hb4
     clear hr4 hb4
     go_wp2_with fail
     refine (sum_pair T Q1 _ HP0.out.2.2.1 HP1.out.2.2.1).mono ?_
     rintro e w5 ⟨⟨Q2, h2, rfl, p2⟩, hb5⟩
     have HP2 : Hid (Pair (TameW T Q1) (fval T + fval Q1) Q2 h2) := p2
     have HW5 : Hid (SW w es de (x :: re) (gw outs h1) v4 w5) := HW4.out.done hb5
     clear p2 hb5
     go_wp2_with fail
     refine (grown_any w.heap.size v4 (gw outs h1) h2 _ HW5.out.row HW5.out.bel.size HP2.out.2.2.2.1 (by have := gw_length outs h1; have := hS.out.cnt; have := HKK.out; omega)).mono ?_
     rintro e w6 ⟨⟨v6, rfl, hr6⟩, hb6⟩
     have HW6 : Hid (SW w es (de ++ [x]) re (gw (gw outs h1) h2) v6 w6) := ⟨by rw [HW5.out.e1]; simp, hr6, HW5.out.bel.trans hb6⟩
     have HS6 : Hid (SS b B (de ++ [x]) re (gw (gw outs h1) h2) Q2) := hS.out.step HU.out.2.2.1 HB.out.1 HB.out.2.1 HB.out.2.2 HP0.out HP1.out HP2.out
     clear hr6 hb6
     go_wp2
     exact ⟨⟨de ++ [x], re, gw (gw outs h1) h2, Q2, by rw [List.length_append, HKK.out]; go_num, rfl, HS6, HW6⟩, by simp [intOf]; omega⟩
   | nil =>
     have hk : de.length = n := by have := HK.out; simpa using this
     rw [hk]
     have hltb : decide ((n : Int) < (n : Int)) = false := decide_eq_false (by omega)
     have HD : Hid (Up 1977 (gw outs Q) ∧ (vals (gw outs Q)).sum = (vals es).sum * fval b ∧ (gw outs Q).length ≤ 2 * n + 1) := by
       have e1 := hW.out.e1
       rw [List.append_nil] at e1
       have := hS.out.done HB.out.1
       rw [hk, ← e1] at this
       exact this
     have HO : Hid (outs.length ≤ 1000000) := by have := hS.out.cnt; show _ ≤ _; omega
     clear hk
     go_wp2_with fail
     refine (grown_any w.heap.size u5 outs Q _ hW.out.row hW.out.bel.size hS.out.fin.2 HO.out).mono ?_
     rintro e w4 ⟨⟨v4, rfl, hr4⟩, hb4⟩
     have HW4 : Hid (SW w es de [] (gw outs Q) v4 w4) := hW.out.grown hr4 hb4
     clear hr4 hb4
     go_wp2
     go_ret
     exact ⟨⟨v4, _, rfl, HW4.out.row, HD.out.1, HD.out.2.1, HD.out.2.2⟩, HW4.out.bel⟩
end

/- Package slices: Backward, of floats. -/
section
open Go.RowKit Go.Shelf
attribute [local go_sem] Oper.semAt_some
abbrev Wd := { b : Nat // b < 18446744073709551616 }
def upf {α : Type} (f : Nat → α) (k : Nat) : List α := (List.range k).map f
theorem upf_succ {α : Type} (f : Nat → α) (k : Nat) : upf f (k + 1) = upf f k ++ [f k] := by simp [upf, List.range_succ]
theorem upf_length {α : Type} (f : Nat → α) (k : Nat) : (upf f k).length = k := by simp [upf]
def KB (n₀ Bs : Nat) (W W' : World) : Prop := Below n₀ W W' ∧ W'.heap[Bs]? = W.heap[Bs]?
set_option maxRecDepth 100000 in
set_option maxHeartbeats 2000000 in
theorem back1_in (n : Nat) (hn : 1 ≤ n) (l Bs n₀ b off len cap : Nat) (zs : Nat → Wd) (hlen : len ≤ 1000000) (hb : b < n₀) (J Jx : List (Nat × Wd) → World → Prop)
   (hY : ∀ pre x W, J pre W → pre.length < len → YieldAt Fence.wide (n - 1) Tryz.prog l #[.int .i64 (x.1 : Int), .float .f64 x.2.1] W fun e W' =>
     (e = .returned (.bool true) ∧ J (pre ++ [x]) W' ∧ KB n₀ Bs W W') ∨ (e = .returned (.bool false) ∧ Jx (pre ++ [x]) W'))
   (W : World) (hBs : Boxed W Bs 134 (.slice (some ⟨b, off, none⟩) len cap)) (hc : ∀ j, j < len → W.cell? ⟨b, off + j, none⟩ = some (.float .f64 (zs j).1)) (h0 : J [] W) :
   CallsIn Fence.wide n Tryz.prog 191 #[.func (.yield l) #[] #[], .pointer (some ⟨Bs, 0, none⟩)] W fun e W' => (∃ v, e = .returned v) ∧
     ((∃ ys, ys = upf (fun j => (len - 1 - j, zs (len - 1 - j))) len ∧ J ys W') ∨ (∃ pre, True ∧ Jx pre W')) := by
 have l1 : (len : Int) ≤ 1000000 := by omega
 have hbox := hBs.cell
 refine callsIn_of_wp Tryz.func191 rfl trivial ?_ rfl
 simp only [Tryz.ntmps191, List.size_toArray, List.length_cons, List.length_nil, Nat.reduceAdd, Nat.reduceSub, Array.replicate_succ, Array.replicate_zero, List.push_toArray, List.append_toArray, List.nil_append, List.cons_append]
 gi_wp2
 gi_loopw [3] (fun i wr => ∃ k r : Nat, k + r = len ∧ i = .int .i64 ((r : Int) - 1) ∧ Hid (J (upf (fun j => (len - 1 - j, zs (len - 1 - j))) k) wr) ∧ Hid (Below n₀ W wr) ∧ Boxed wr Bs 134 (.slice (some ⟨b, off, none⟩) len cap))
   (fun i _ => (intOf i + 1).toNat)
 case atStart => exact ⟨0, len, by omega, by go_num, h0, Below.refl _ _, hBs⟩
 case round =>
   obtain ⟨k, r, hkr, rfl, hJs, hnx, hbx⟩ := hrel
   have hcb := hbx.cell
   cases r with
   | zero =>
     have hk : k = len := by omega
     clear hbox
     rw [show ((0 : Nat) : Int) - 1 = -1 by omega]
     gi_wp2
     go_end0
     exact ⟨⟨_, rfl⟩, .inl ⟨_, rfl, by rw [← hk]; have := hJs.out; rw [hk] at this ⊢; exact this⟩⟩
   | succ j =>
     have hj : j < len := by omega
     have hcx : wr.cell? ⟨b, off + j, none⟩ = some (.float .f64 (zs j).1) := (hnx.out.cell (p := ⟨b, off + j, none⟩) hb).trans (hc j hj)
     obtain ⟨fn, tmps, assign, body, hy, hR⟩ := hY _ (j, zs j) wr hJs.out (by rw [upf_length]; omega)
     dsimp only at hy
     have e1 : (((j + 1 : Nat) : Int) - 1) = (j : Int) := by omega
     rw [e1]
     have hj' : (j : Int) < (len : Int) := by omega
     have hj0 : (0 : Int) ≤ (j : Int) := by omega
     have HKR : Hid (k + (j + 1) = len) := hkr
     clear e1 hkr hbox
     gi_wp2
     refine hR.mono ?_
     rintro e W3 (⟨rfl, hJ3, hk3⟩ | ⟨rfl, hJx3⟩)
     · gi_wp2
       go_roundw
       case rel => exact ⟨k + 1, j, by have := HKR.out; omega, by go_num, by rw [upf_succ, show len - 1 - k = j by have := HKR.out; omega]; exact hJ3, hnx.out.trans hk3.1, hk3.2.trans hbx⟩
       case measure => simp [intOf]
     · gi_wp2
       refine bodyPost_ret (results_none rfl _ _ _) rfl ?_
       exact ⟨⟨_, rfl⟩, .inr ⟨_, trivial, hJx3⟩⟩
set_option maxRecDepth 100000 in
set_option maxHeartbeats 1000000 in
theorem back1_nil (n : Nat) (l Bs cap : Nat) (a : Option Addr) (J : List (Nat × Wd) → World → Prop) (W : World) (hBs : W.cell? ⟨Bs, 0, none⟩ = some (.slice a 0 cap)) (h0 : J [] W) :
   CallsIn Fence.wide n Tryz.prog 191 #[.func (.yield l) #[] #[], .pointer (some ⟨Bs, 0, none⟩)] W fun e W' => (∃ v, e = .returned v) ∧ J [] W' := by
 refine callsIn_of_wp Tryz.func191 rfl trivial ?_ rfl
 simp only [Tryz.ntmps191, List.size_toArray, List.length_cons, List.length_nil, Nat.reduceAdd, Nat.reduceSub, Array.replicate_succ, Array.replicate_zero, List.push_toArray, List.append_toArray, List.nil_append, List.cons_append]
 gi_wp2
 gi_loopw [3] (fun i wr => i = .int .i64 (-1) ∧ J [] wr) (fun _ _ => 0)
 case atStart => exact ⟨by go_num, h0⟩
 case round =>
   obtain ⟨rfl, hJs⟩ := hrel
   gi_wp2
   go_end0
   exact ⟨⟨_, rfl⟩, hJs⟩
set_option maxRecDepth 100000 in
set_option maxHeartbeats 1000000 in
theorem back_in (n : Nat) (a : Option Addr) (len cap : Nat) (w : World) :
   CallsIn Fence.wide n Tryz.prog 171 #[.slice a len cap] w fun e w' => e = .returned (.func (.func 191) #[] #[.pointer (some ⟨w.heap.size, 0, none⟩)]) ∧ w' = w.alloc (.cells #[.slice a len cap] 134) := by
 refine callsIn_of_wp Tryz.func171 rfl trivial ?_ rfl
 simp only [Tryz.ntmps171, List.size_toArray, List.length_cons, List.length_nil, Nat.reduceAdd, Nat.reduceSub, Array.replicate_succ, Array.replicate_zero, List.push_toArray, List.append_toArray, List.nil_append, List.cons_append]
 gi_wp2
 go_ret
 exact ⟨rfl, rfl⟩
theorem back_stops (n : Nat) (hn : 1 ≤ n) (Bs n₀ len cap : Nat) (a : Option Addr) (zs : Nat → Wd) (hlen : len ≤ 1000000) (w : World) (hBs : Boxed w Bs 134 (.slice a len cap)) (hn₀ : n₀ ≤ w.heap.size)
   (hI : len = 0 ∨ ∃ b off, a = some ⟨b, off, none⟩ ∧ b < n₀ ∧ ∀ j, j < len → w.cell? ⟨b, off + j, none⟩ = some (.float .f64 (zs j).1)) :
   SeqStopsK Fence.wide n Tryz.prog 191 #[.pointer (some ⟨Bs, 0, none⟩)] (fun x : Nat × Wd => #[Value.int .i64 (x.1 : Int), Value.float .f64 x.2.1]) (KB n₀ Bs) (fun ys => ys = upf (fun j => (len - 1 - j, zs (len - 1 - j))) len)
     (fun _ => True) len w := fun l J Jx W hW _ _ hY h0 => by
 have hbx : Boxed W Bs 134 (.slice a len cap) := (hW.block _ hBs.lt).trans hBs
 rcases hI with rfl | ⟨b, off, rfl, hb, hc⟩
 · exact (back1_nil n l Bs cap a J W hbx.cell h0).mono fun e W' ⟨he, hj⟩ => ⟨he, .inl ⟨_, rfl, hj⟩⟩
 · exact back1_in n hn l Bs n₀ b off len cap zs hlen hb J Jx hY W hbx (fun j hj => (hW.cell (p := ⟨b, off + j, none⟩) (by show b < _; omega)).trans (hc j hj)) h0
end

/- Package slices: Reverse, of floats. -/
section
open Go.RowKit
attribute [local go_sem ↓] Go.wp_at_zero Go.wp_at_succ
attribute [local go_sem] run_store_float
theorem Fr.set {w : World} {B g cap k d : Nat} {bs : List Nat} (h : Fr w B (.slice (some ⟨g, 0, none⟩) bs.length cap) bs) (hd : d < 18446744073709551616) : Fr (w.setCell ⟨g, k, none⟩ (.float .f64 d)) B (.slice (some ⟨g, 0, none⟩) (bs.set k d).length cap) (bs.set k d) := by
 refine ⟨⟨by simp [f64s], ?_⟩, ?_⟩
 · rcases h.own.2 with ⟨h1, _⟩ | ⟨g', cap', cur, h1, h2, h3, h4, h5, h6, h7⟩
   · cases h1
   · cases h1
     refine Or.inr ⟨g, cap, cur.set! k (.float .f64 d), by simp, h2, ?_, by simpa using h4, h5, by simpa using h6, ?_⟩
     · simp [World.setCell, Array.getElem?_modify, h3]
     · rw [Nat.mul_one] at h7
       have : f64s (bs.set k d) = (f64s bs).set k (.float .f64 d) := by simp [f64s, List.map_set]
       rw [this, ← h7]
       simp [List.take_set]
 · intro b hb
   rcases List.mem_or_eq_of_mem_set hb with hb | rfl
   · exact h.word b hb
   · exact hd
theorem Fr.cell {w : World} {B g cap : Nat} {bs : List Nat} (h : Fr w B (.slice (some ⟨g, 0, none⟩) bs.length cap) bs) (k : Nat) (hk : k < bs.length) : w.cell? ⟨g, k, none⟩ = some (.float .f64 (bs.getD k 0)) := by
 have := h.own.cells (g := g) rfl k (.float .f64 (bs.getD k 0)) (by simp [f64s, List.getD, hk])
 rwa [show (⟨g, 0, none⟩ : Addr).add k = ⟨g, k, none⟩ by unfold Addr.add; split <;> simp_all] at this
theorem Fr.frozen {w : World} {B g cap : Nat} {bs : List Nat} (h : Fr w B (.slice (some ⟨g, 0, none⟩) bs.length cap) bs) (k : Nat) : w.frozen? ⟨g, k, none⟩ = false := by
 rcases h.own.2 with ⟨h1, _⟩ | ⟨g', cap', cur, h1, h2, h3, h4, _⟩
 · cases h1
 · cases h1
   simp [World.frozen?, h3]
theorem Fr.base {w : World} {B g cap n : Nat} {bs : List Nat} (h : Fr w B (.slice (some ⟨g, 0, none⟩) n cap) bs) : B ≤ g := by
 exact (h.own.lt g rfl).1
set_option maxRecDepth 100000 in
set_option maxHeartbeats 4000000 in
theorem reverse_walk (B g cap n : Nat) (bs : List Nat) (w : World) (h : Fr w B (.slice (some ⟨g, 0, none⟩) n cap) bs) (hn : bs.length = n) (hl : n ≤ 1000000) :
   Calls Tryz.prog 173 #[.slice (some ⟨g, 0, none⟩) n cap] w fun e w' => (∃ v, e = .returned v) ∧ Fr w' B (.slice (some ⟨g, 0, none⟩) n cap) bs.reverse ∧ Below B w w' ∧ KeepsOthers w w' := by
 have H : Hid (Fr w B (.slice (some ⟨g, 0, none⟩) n cap) bs) := h
 have HN : Hid (bs.length = n) := hn
 have l1 : (n : Int) ≤ 1000000 := by omega
 clear h hn hl
 go_enter Tryz.func173, Tryz.ntmps173
 go_wp2
 go_loopw [2, 3] (fun i j wr => ∃ (k : Nat) (ds : List Nat), 2 * k ≤ n + 1 ∧ i = .int .i64 (k : Nat) ∧ j = .int .i64 ((n : Int) - 1 - (k : Int)) ∧ ds.length = n ∧ Hid (Fr wr B (.slice (some ⟨g, 0, none⟩) n cap) ds) ∧ Hid (Below B w wr ∧ KeepsOthers w wr) ∧ Hid (∀ p, p < n → ds.getD p 0 = if p < k ∨ n ≤ p + k then bs.getD (n - 1 - p) 0 else bs.getD p 0)) (fun i _ _ => n - (intOf i).toNat)
 case atStart => exact ⟨0, bs, by omega, by simp, by go_num, HN.out, H.out, ⟨Below.refl _ _, KeepsOthers.refl _⟩, fun p hp => by rw [if_neg (by omega)]⟩
 case round =>
   obtain ⟨k, ds, hk, rfl, rfl, hd, hF, hB, hv⟩ := hrel
   by_cases hlt : k + 1 + k < n
   · obtain ⟨j, hj⟩ : ∃ j : Nat, n = j + 1 + k := ⟨n - 1 - k, by omega⟩
     have ej : (n : Int) - 1 - (k : Int) = (j : Int) := by omega
     rw [ej]
     have hkj : (k : Int) < (j : Int) := by omega
     have hjn : (j : Int) < (n : Int) := by omega
     have hkn : (k : Int) < (n : Int) := by omega
     have hF' := hF.out
     rw [← hd] at hF'
     have c1 := hF'.cell k (by omega)
     have c2 := hF'.cell j (by omega)
     have z1 := hF'.frozen k
     have z2 := hF'.frozen j
     obtain ⟨x, hx⟩ : ∃ x : Nat, Hid (ds.getD k 0 = x) := ⟨_, rfl⟩
     obtain ⟨y, hy⟩ : ∃ y : Nat, Hid (ds.getD j 0 = y) := ⟨_, rfl⟩
     rw [hx.out] at c1
     rw [hy.out] at c2
     have HD : Hid (ds.length = n ∧ n = j + 1 + k) := ⟨hd, hj⟩
     have HE : Hid ((n : Int) - 1 - (k : Int) = (j : Int)) := ej
     have kne : k ≠ j := by omega
     clear hF' hd hj ej
     go_wp2
     go_region
     go_wp2
     have hE := HE.out
     obtain ⟨hd, hj⟩ := HD.out
     have hxw : x < 18446744073709551616 := by rw [← hx.out]; exact getD_word hF.out.word k
     have hyw : y < 18446744073709551616 := by rw [← hy.out]; exact getD_word hF.out.word j
     have hF1 := hF.out
     rw [← hd] at hF1
     have hF2 := ((hF1.set (k := k) hyw).set (k := j) hxw).drew
     have hlen : ((ds.set k y).set j x).length = n := by simp [hd]
     rw [hlen] at hF2
     have hgB := hF.out.base
     refine ⟨⟨k + 1, (ds.set k y).set j x, by omega, by go_num, by congr 1; omega, hlen, hF2, ⟨((hB.out.1.setCell (p := ⟨g, k, none⟩) hgB _).setCell (p := ⟨g, j, none⟩) hgB _).drew, ((hB.out.2.trans (KeepsOthers.setCell _ _ _)).trans (KeepsOthers.setCell _ _ _)).trans (KeepsOthers.drew _)⟩, fun p hp => ?_⟩, by simp [intOf]; omega⟩
     have hvp := hv.out p hp
     have hvk := hv.out k (by omega)
     have hvj := hv.out j (by omega)
     rw [hx.out, if_neg (by omega)] at hvk
     rw [hy.out, if_neg (by omega)] at hvj
     have e2 : ((ds.set k y).set j x).getD p 0 = if p = j then x else if p = k then y else ds.getD p 0 := by
       simp only [List.getD, List.getElem?_set]
       by_cases q1 : p = j
       · subst q1
         simp [hd, hp]
       · by_cases q2 : p = k
         · subst q2
           simp [hd, hp, q1, Ne.symm q1]
         · simp [q1, q2, Ne.symm q1, Ne.symm q2]
     rw [e2]
     by_cases q1 : p = j
     · rw [if_pos q1, if_pos (by omega), hvk, show n - 1 - p = k by omega]
     · by_cases q2 : p = k
       · rw [if_neg q1, if_pos q2, if_pos (by omega), hvj, show n - 1 - p = j by omega]
       · rw [if_neg q1, if_neg q2, hvp]
         by_cases q3 : p < k ∨ n ≤ p + k
         · rw [if_pos q3, if_pos (by omega)]
         · rw [if_neg q3, if_neg (by omega)]
   · have hltb : decide ((k : Int) < (n : Int) - 1 - (k : Int)) = false := decide_eq_false (by omega)
     go_wp2
     go_end0
     have e : ds = bs.reverse := by
       apply List.ext_getElem
       · simp [hd, HN.out]
       · intro p h1 h2
         have hp : p < n := by omega
         have := hv.out p hp
         rw [show ds[p] = ds.getD p 0 by simp [List.getD, h1], this]
         have e3 : bs.reverse[p] = bs.getD (n - 1 - p) 0 := by
           have : n - 1 - p < bs.length := by rw [HN.out]; omega
           rw [List.getElem_reverse]
           simp [List.getD, HN.out]
           rw [List.getElem?_eq_getElem this]; rfl
         rw [e3]
         by_cases q : p < k ∨ n ≤ p + k
         · rw [if_pos q]
         · rw [if_neg q, show n - 1 - p = p by omega]
     rw [← e]
     exact ⟨⟨_, rfl⟩, hF.out, hB.out.1, hB.out.2⟩
end

/- Package expand: a list squeezed: what is reckoned. -/
section
open Go.RowKit
theorem near_rndE {q : Rat} {r : Nat} (h : Near q r) (hr : r < 9218868437227405312) : ∃ T k, RndE q (fval r) T k := by
 rcases h with ⟨rfl, rfl⟩ | ⟨hq, T, k, hl, hh, e⟩
 · have hu := U_pos 0
   exact ⟨0, 0, ⟨by rw [fval_zero]; rw [show ((0 : Int) : Rat) = 0 from rfl]; grind, by rw [fval_zero]; grind, by rw [fval_zero]; grind, Or.inl rfl, by grind, by grind, by omega, by omega⟩, fun _ => rfl⟩
 · have hb := kept_bounds hl hh
   have e' : r = T * 4503599627370496 + k := by omega
   have hv := fval_rung T k hb.1 hb.2 (by omega)
   rw [← e'] at hv
   have hU := half_unit T
   have hu := p2_pos ((T : Int) - 1075)
   obtain ⟨l1, l2⟩ := hl
   obtain ⟨s1, s2, s3, s4⟩ := hh
   rw [show ((18014398509481984 : Int) : Rat) = 18014398509481984 from rfl] at l2
   rw [show ((9007199254740992 : Int) : Rat) = 9007199254740992 from rfl] at l1
   have e1 : ((2 * (k : Int) - 1 : Int) : Rat) = 2 * ((k : Nat) : Rat) - 1 := by rw [Rat.intCast_sub, Rat.intCast_mul]; rfl
   have e2 : ((2 * (k : Int) + 1 : Int) : Rat) = 2 * ((k : Nat) : Rat) + 1 := by rw [Rat.intCast_add, Rat.intCast_mul]; rfl
   rw [e1] at s1 s3
   rw [e2] at s2 s4
   have kv : ((k : Nat) : Rat) * U T = 2 * (((k : Nat) : Rat) * p2 ((T : Int) - 1075)) := by rw [hU]; grind
   have z1 : (2 * ((k : Nat) : Rat) - 1) * p2 ((T : Int) - 1075) = 2 * (((k : Nat) : Rat) * p2 ((T : Int) - 1075)) - p2 ((T : Int) - 1075) := by grind
   have z2 : (2 * ((k : Nat) : Rat) + 1) * p2 ((T : Int) - 1075) = 2 * (((k : Nat) : Rat) * p2 ((T : Int) - 1075)) + p2 ((T : Int) - 1075) := by grind
   rw [z1] at s1 s3
   rw [z2] at s2 s4
   have hx : fval r = ((k : Int) : Rat) * U T := by rw [hv]; rfl
   rw [kv] at hv
   clear z1 z2 kv e1 e2 e e'
   generalize ((k : Nat) : Rat) * p2 ((T : Int) - 1075) = Z at *
   generalize p2 ((T : Int) - 1075) = h at *
   refine ⟨T, (k : Int), ⟨hx, by rw [hv, hU]; grind, by rw [hv, hU]; grind, ?_, by rw [hU]; grind, by rw [hU]; grind, by omega, by omega⟩, fun he => ?_⟩
   · rcases l1 with l1 | l1
     · exact Or.inl l1
     · exact Or.inr (Or.inl (by rw [hU]; grind))
   · rw [hv, hU] at he
     have : q = 2 * Z - h ∨ q = 2 * Z + h := by
       unfold ab at he
       split at he
       · left; grind
       · right; grind
     rcases this with h1 | h1
     · have := s3 h1; omega
     · have := s4 h1; omega
theorem RndE.neg {q x : Rat} {T : Nat} {k : Int} (h : RndE q x T k) : RndE (-q) (-x) T (-k) := by
 refine ⟨h.1.neg, fun he => ?_⟩
 have := h.2 (by rw [← he, show -q - -x = -(q - x) by grind, ab_neg])
 omega
theorem rv_rndE {q x : Rat} (h : RV q x) : ∃ T k, RndE q x T k := by
 obtain ⟨r, hr, h⟩ := h
 rcases h with ⟨_, n, rfl⟩ | ⟨_, n, rfl⟩
 · exact near_rndE n hr
 · obtain ⟨T, k, R⟩ := near_rndE n hr
   have := R.neg
   rw [show - -q = q by grind] at this
   exact ⟨T, _, this⟩
structure ZS (top : Nat) (S : Rat) (ds : List Nat) (k : Nat) (bs : List Nat) (c : Nat) : Prop where
 inv : ZInv top S (vals bs.reverse) (fval c) (vals (ds.take (ds.length - k)))
 fin : Fin64 c
 fb : ∀ b ∈ bs, Fin64 b
theorem ZS.tame {top : Nat} {S : Rat} {ds : List Nat} {k : Nat} {bs : List Nat} {c x : Nat} (I : ZS top S ds k bs c) (ht : top ≤ 2074) (hx : Fin64 x) (hm : x ∈ ds.take (ds.length - k)) : TameW c x := by
 obtain ⟨p, r1, r2, r3, r4⟩ := I.inv.room
 have u := U_mono (show p ≤ 2074 by omega)
 have hp := I.inv.exl
 have hxc := (List.pairwise_append.1 hp.1).2.2 (fval x) (by simp only [vals, List.mem_map]; exact ⟨x, hm, rfl⟩) (fval c) (by simp)
 have := hxc.lt (hp.2 (fval c) (by simp))
 exact ⟨tame_of I.fin (by grind), tame_of hx (by grind)⟩
theorem take_last {ds : List Nat} {k : Nat} (h : k < ds.length) : ds.take (ds.length - k) = ds.take (ds.length - (k + 1)) ++ [ds.getD (ds.length - 1 - k) 0] := by
 have h2 : ds.length - 1 - k < ds.length := by omega
 rw [show ds.length - k = (ds.length - (k + 1)) + 1 by omega, List.take_add_one, show ds.length - (k + 1) = ds.length - 1 - k by omega]
 simp [List.getD, h2]
theorem ZS.step {top : Nat} {S : Rat} {ds : List Nat} {k : Nat} {bs : List Nat} {c s r : Nat} (I : ZS top S ds k bs c) (ht : top ≤ 2074) (hk : k < ds.length) (hf : ∀ b ∈ ds, Fin64 b)
   (p : Pair (TameW c (ds.getD (ds.length - 1 - k) 0)) (fval c + fval (ds.getD (ds.length - 1 - k) 0)) s r) : (frung r = 0 → ZS top S ds (k + 1) bs s) ∧ (frung r ≠ 0 → ZS top S ds (k + 1) (bs ++ [s]) r) := by
 have hx : Fin64 (ds.getD (ds.length - 1 - k) 0) := hf _ (by
   have h2 : ds.length - 1 - k < ds.length := by omega
   rw [show ds.getD (ds.length - 1 - k) 0 = ds[ds.length - 1 - k] by simp [List.getD, h2]]
   exact List.getElem_mem h2)
 have tm := I.tame ht hx (by rw [take_last hk]; simp)
 have J := I.inv
 rw [take_last hk] at J
 simp only [vals, List.map_append, List.map_cons, List.map_nil] at J
 obtain ⟨fs, fr, ls, lr, ⟨_, rv, e⟩ | ⟨cn, _⟩⟩ := p
 · constructor
   · intro h0
     have z : fval r = 0 := fval_zero_iff.2 h0
     have es : fval s = fval c + fval (ds.getD (ds.length - 1 - k) 0) := by rw [← e, z]; grind
     refine ⟨?_, fs, I.fb⟩
     rw [es]
     exact J.take (by rw [← es]; exact F_fval fs)
   · intro h0
     obtain ⟨T, kk, R⟩ := rv_rndE rv
     have J2 := J.emit R e (F_fval fr) (fun z => h0 (fval_zero_iff.1 z))
     refine ⟨?_, fr, fun b hb => ?_⟩
     · rw [List.reverse_append]
       simpa [vals] using J2
     · rcases List.mem_append.1 hb with hb | hb
       · exact I.fb b hb
       · rw [List.mem_singleton.1 hb]; exact fs
 · exact absurd tm cn
theorem ZS.start {top : Nat} {ds : List Nat} {c : Nat} (h : Up top (ds ++ [c])) : ZS top ((vals (ds ++ [c])).sum) ds 0 [] c := by
 refine ⟨?_, h.fin c (by simp), by simp⟩
 rw [Nat.sub_zero, List.take_length]
 have := ZInv.start (top := top) (c := fval c) (lo := vals ds) (by have := h.ex; simpa [vals] using this) (fun x hx => by
   have : x ∈ vals (ds ++ [c]) := by simpa [vals] using hx
   obtain ⟨b, hb, rfl⟩ := List.mem_map.1 this
   exact ⟨F_fval (h.fin b hb), h.lim b hb⟩)
 simpa [vals] using this
structure Sq (top : Nat) (S : Rat) (bs : List Nat) : Prop where
 ex : Ex (vals bs)
 fin : ∀ b ∈ bs, Fin64 b
 sum : (vals bs).sum = S
 cnt : 52 * bs.length ≤ top + 52
 lead : ∀ L, (vals bs).getLast? = some L → 1125899906842624 * ab (L - S) ≤ ab S ∧ ((0 < L ∧ 0 < S) ∨ (L < 0 ∧ S < 0))
theorem ZS.done {top : Nat} {S : Rat} {ds bs : List Nat} {k c : Nat} (I : ZS top S ds k bs c) (hk : k = ds.length) : Sq top S (bs ++ [c]).reverse := by
 have J := I.inv
 rw [hk, Nat.sub_self, List.take_zero] at J
 rw [List.reverse_append, List.reverse_singleton, List.singleton_append]
 have J' : ZInv top S (vals bs.reverse) (fval c) [] := J
 obtain ⟨h1, h2, h3, h4⟩ := J'.done
 refine ⟨h1, fun b hb => ?_, h2, ?_, fun L hL => J'.lead hL⟩
 · rcases List.mem_cons.1 hb with rfl | hb
   · exact I.fin
   · exact I.fb b (by simpa using hb)
 · simpa [vals] using h4
def SqL (top n : Nat) (S : Rat) (bs : List Nat) : Prop := Sq top S bs ∧ bs.length ≤ n
theorem Sq.nil (top : Nat) : Sq top 0 [] := ⟨⟨List.Pairwise.nil, by simp [vals]⟩, by simp, by simp [vals], by simp, by simp [vals]⟩
end

/- Package expand: a list squeezed: what lies in memory. -/
section
open Go.RowKit Go.Shelf
structure Zw (w : World) (W : World) (v : Value) (bs : List Nat) (c r : Nat) : Prop where
 b3 : Boxed W w.heap.size 134 v
 b4 : Boxed W (w.heap.size + 1) 33 (.float .f64 c)
 b5 : Boxed W (w.heap.size + 1 + 1) 33 (.float .f64 r)
 row : Fr W (w.heap.size + 4) v bs
 bel : Below w.heap.size w W
 siz : w.heap.size + 4 ≤ W.heap.size
 wc : c < 18446744073709551616
 wr : r < 18446744073709551616
structure K4 (w W W' : World) : Prop where
 bel : Below w.heap.size W W'
 box : W'.heap[w.heap.size + 1 + 1 + 1]? = W.heap[w.heap.size + 1 + 1 + 1]?
 oth : KeepsOthers W W'
theorem K4.refl (w W : World) : K4 w W W := ⟨Below.refl _ _, rfl, KeepsOthers.refl _⟩
theorem K4.trans {w A B C : World} (h : K4 w A B) (k : K4 w B C) : K4 w A C := ⟨h.bel.trans k.bel, k.box.trans h.box, h.oth.trans k.oth⟩
theorem K4.set {w W : World} {a : Addr} (h1 : w.heap.size ≤ a.block) (h2 : a.block ≠ w.heap.size + 1 + 1 + 1) (v : Value) : K4 w W (W.setCell a v) :=
 ⟨(Below.refl _ _).setCell h1 v, Below.heap_setCell W a v _ (Ne.symm h2), KeepsOthers.setCell W a v⟩
theorem K4.below {w W W' : World} (h : Below W.heap.size W W') (hs : w.heap.size + 4 ≤ W.heap.size) : K4 w W W' :=
 ⟨h.mono (by omega), h.block _ (by omega), ⟨h.size, fun k o hk _ => (h.block k (Array.getElem?_eq_some_iff.1 hk).1).trans hk⟩⟩
theorem boxed_belowK {W W' : World} {B b : Nat} {t : TypeId} {v : Value} (h : Boxed W b t v) (hb : Below B W W') (hl : b < B) : Boxed W' b t v := (hb.block b hl).trans h
theorem Zw.later {w W W' : World} {v : Value} {bs : List Nat} {c r : Nat} (h : Zw w W v bs c r) (hb : Below W.heap.size W W') : Zw w W' v bs c r :=
 ⟨boxed_belowK h.b3 hb h.b3.lt, boxed_belowK h.b4 hb h.b4.lt, boxed_belowK h.b5 hb h.b5.lt, h.row.later hb, h.bel.trans (hb.mono h.bel.size), Nat.le_trans h.siz hb.size, h.wc, h.wr⟩
theorem Zw.set4 {w W : World} {v : Value} {bs : List Nat} {c r s : Nat} (h : Zw w W v bs c r) (hs : s < 18446744073709551616) : Zw w (W.setCell ⟨w.heap.size + 1, 0, none⟩ (.float .f64 s)) v bs s r :=
 ⟨h.b3.other (by omega) _, h.b4.set _, h.b5.other (by omega) _, h.row.low (by show w.heap.size + 1 < _; omega) _, h.bel.setCell (by show w.heap.size ≤ w.heap.size + 1; omega) _, by have := h.siz; simpa [World.setCell] using this, hs, h.wr⟩
theorem Zw.set5 {w W : World} {v : Value} {bs : List Nat} {c r s : Nat} (h : Zw w W v bs c r) (hs : s < 18446744073709551616) : Zw w (W.setCell ⟨w.heap.size + 1 + 1, 0, none⟩ (.float .f64 s)) v bs c s :=
 ⟨h.b3.other (by omega) _, h.b4.other (by omega) _, h.b5.set _, h.row.low (by show w.heap.size + 1 + 1 < _; omega) _, h.bel.setCell (by show w.heap.size ≤ w.heap.size + 1 + 1; omega) _, by have := h.siz; simpa [World.setCell] using this, h.wc, hs⟩
theorem Zw.grew {w W W2 : World} {v v' : Value} {bs : List Nat} {c r s : Nat} {tmp : Obj} (h : Zw w W v bs c r) (hs : s < 18446744073709551616) (hown : W2.ownsRow (w.heap.size + 4) 33 1 v' (bs.length + 1) (f64s bs ++ [.float .f64 s])) (hg : (W.alloc tmp).grownBy W2 v.ownBlock) :
   Boxed W2 w.heap.size 134 v ∧ Boxed W2 (w.heap.size + 1) 33 (.float .f64 c) ∧ Boxed W2 (w.heap.size + 1 + 1) 33 (.float .f64 r) ∧ Zw w (W2.setCell ⟨w.heap.size, 0, none⟩ v') v' (bs ++ [s]) c r ∧ K4 w W W2 := by
 have ap : ∀ k, v.ownBlock = some k → w.heap.size + 4 ≤ k := fun k hk => (h.row.own.lt k hk).1
 have h3 : Boxed W2 w.heap.size 134 v := (h.b3.alloc tmp).kept hg (fun e => by have := ap _ e.symm; omega)
 have h4 : Boxed W2 (w.heap.size + 1) 33 (.float .f64 c) := (h.b4.alloc tmp).kept hg (fun e => by have := ap _ e.symm; omega)
 have h5 : Boxed W2 (w.heap.size + 1 + 1) 33 (.float .f64 r) := (h.b5.alloc tmp).kept hg (fun e => by have := ap _ e.symm; omega)
 have hs2 := hg.size
 simp only [World.size_alloc] at hs2
 have hz := h.siz
 have hb2 : Below w.heap.size W W2 := ((Below.refl _ W).alloc (by omega) _).grown hg (by simp; omega) (fun k hk => by have := ap k hk; omega)
 have hF : Fr W2 (w.heap.size + 4) v' (bs ++ [s]) := by
   refine ⟨?_, fun b hb => ?_⟩
   · rw [List.length_append]
     simpa [f64s] using hown
   · rcases List.mem_append.1 hb with hb | hb
     · exact h.row.word b hb
     · rw [List.mem_singleton.1 hb]; exact hs
 refine ⟨h3, h4, h5, ⟨h3.set _, h4.other (by omega) _, h5.other (by omega) _, hF.low (by show w.heap.size < _; omega) _, (h.bel.trans hb2).setCell (Nat.le_refl _) _, by simp only [World.setCell, Array.size_modify]; omega, h.wc, h.wr⟩, ⟨hb2, ?_, ⟨by omega, fun k o hk ho => ?_⟩⟩⟩
 · rw [hg.block _ (by simp; omega) (fun e => by have := ap _ e.symm; omega), Below.heap_alloc _ _ _ (by omega)]
 · have hlt := (Array.getElem?_eq_some_iff.1 hk).1
   rw [hg.block k (by simp; omega) (fun e => ?_), Below.heap_alloc _ _ _ hlt]
   · exact hk
   · rcases h.row.own.2 with ⟨h1, _⟩ | ⟨g, cap, cur, h1, h2, h3', h4'⟩
     · rw [h1] at e; simp [Value.ownBlock] at e
     · rw [h1] at e
       obtain rfl : k = g := by simpa [Value.ownBlock] using e
       rw [h3'] at hk
       cases hk
       cases ho
theorem Zw.own {w A A' : World} {v : Value} {bs : List Nat} {c r : Nat} {row : Option Nat} {B : Nat} (h : Zw w A v bs c r) (hB : w.heap.size ≤ B) (hg : A.grownBy A' row) (hr : ∀ r, row = some r → B ≤ r ∧ ∃ o : Obj, A.heap[r]? = some o ∧ o.isCells = false) : Zw w A' v bs c r := by
 have key : ∀ (b : Nat) (cs : Array Value) (t : TypeId) (f : Nat × Nat), A.heap[b]? = some (.cells cs t f) → some b ≠ row := fun b cs t f hb e => by
   obtain ⟨_, o, ho, hc⟩ := hr b e.symm
   rw [hb] at ho
   cases ho
   cases hc
 refine ⟨h.b3.kept hg (key _ _ _ _ h.b3), h.b4.kept hg (key _ _ _ _ h.b4), h.b5.kept hg (key _ _ _ _ h.b5), ⟨h.row.own.kept hg ?_, h.row.word⟩, h.bel.grown hg h.bel.size (fun k e => Nat.le_trans hB (hr k e).1), Nat.le_trans h.siz hg.size, h.wc, h.wr⟩
 rcases h.row.own.2 with ⟨h1, _⟩ | ⟨g, cap, cur, h1, h2, h3, h4⟩
 · left; rw [h1]; rfl
 · right
   rw [h1]
   exact key g _ _ _ h3
theorem zw_start (w : World) (c : Nat) (x : Value) (hc : c < 18446744073709551616) : Zw w ((((w.alloc (.cells #[.slice none 0 0] 134)).alloc (.cells #[.float .f64 c] 33)).alloc (.cells #[.float .f64 0] 33)).alloc (.cells #[x] 134)) (.slice none 0 0) [] c 0 ∧
   Boxed ((((w.alloc (.cells #[.slice none 0 0] 134)).alloc (.cells #[.float .f64 c] 33)).alloc (.cells #[.float .f64 0] 33)).alloc (.cells #[x] 134)) (w.heap.size + 1 + 1 + 1) 134 x := by
 have b3 := Boxed.new w 134 (.slice none 0 0)
 have b4 := Boxed.new (w.alloc (.cells #[.slice none 0 0] 134)) 33 (.float .f64 c)
 have b5 := Boxed.new ((w.alloc (.cells #[.slice none 0 0] 134)).alloc (.cells #[.float .f64 c] 33)) 33 (.float .f64 0)
 have b6 := Boxed.new (((w.alloc (.cells #[.slice none 0 0] 134)).alloc (.cells #[.float .f64 c] 33)).alloc (.cells #[.float .f64 0] 33)) 134 x
 simp only [World.size_alloc] at b4 b5 b6
 exact ⟨⟨((b3.alloc _).alloc _).alloc _, (b4.alloc _).alloc _, b5.alloc _, Fr.nil _ _, ((((Below.refl _ w).alloc (Nat.le_refl _) _).alloc (by simp) _).alloc (by simp; omega) _).alloc (by simp; omega) _, by simp, hc, by omega⟩, b6⟩
end

/- Package expand: a list squeezed: the walk. -/
section
open Go.RowKit Go.Shelf
attribute [local go_sem] Oper.semAt_some
attribute [local go_sem] run_store_float
def ZI (top : Nat) (S : Rat) (ds : List Nat) (f : Nat → Nat × Wd) (w : World) (pre : List (Nat × Wd)) (W : World) : Prop :=
 ∃ v bs c r, Zw w W v bs c r ∧ bs.length ≤ pre.length ∧ (pre = upf f pre.length → ZS top S ds pre.length bs c)
theorem upf_take {α : Type} {f : Nat → α} {pre : List α} {x : α} (h : pre ++ [x] = upf f (pre ++ [x]).length) : pre = upf f pre.length ∧ x = f pre.length := by
 rw [List.length_append, List.length_singleton, upf_succ] at h
 have := List.append_inj' h rfl
 exact ⟨this.1, by simpa using this.2⟩
theorem rest_ne {r : Nat} (h : (FloatKind.f64.format.order r 0 != some .eq) = true) : frung r ≠ 0 := by
 rw [bne, eql_zero2] at h; simpa using h
theorem rest_eq {r : Nat} (h : (FloatKind.f64.format.order r 0 != some .eq) = false) : frung r = 0 := by
 rw [bne, eql_zero2] at h; simpa using h
theorem zi_step {top n : Nat} {S : Rat} {ds bs : List Nat} {c cc s r : Nat} {zs : Nat → Wd} {pre : List (Nat × Wd)} {x : Nat × Wd} (hu : Up top (ds ++ [c])) (ht : top ≤ 2074) (hn : ds.length = n) (hz : ∀ j, (zs j).1 = (ds ++ [c]).getD j 0)
   (hlt : pre.length < n) (hst : pre = upf (fun j => (n - 1 - j, zs (n - 1 - j))) pre.length → ZS top S ds pre.length bs cc) (hp : Pair (TameW cc x.2.1) (fval cc + fval x.2.1) s r) (he : pre ++ [x] = upf (fun j => (n - 1 - j, zs (n - 1 - j))) (pre ++ [x]).length) :
   (frung r = 0 → ZS top S ds (pre ++ [x]).length bs s) ∧ (frung r ≠ 0 → ZS top S ds (pre ++ [x]).length (bs ++ [s]) r) := by
 obtain ⟨e1, e2⟩ := upf_take he
 have I := hst e1
 have ex : x.2.1 = ds.getD (ds.length - 1 - pre.length) 0 := by
   rw [e2, hz, hn]
   have : n - 1 - pre.length < ds.length := by omega
   simp [List.getD, List.getElem?_append_left this]
 rw [ex] at hp
 rw [List.length_append, List.length_singleton]
 exact I.step ht (by omega) (fun b hb => hu.fin b (by simp [hb])) hp
set_option maxRecDepth 100000 in
set_option maxHeartbeats 8000000 in
theorem squeezed_walk (top n c cap : Nat) (g off : Nat) (ds : List Nat) (w : World) (ht : top ≤ 2074) (hs : Fs w (.slice (some ⟨g, off, none⟩) (n + 1) cap) (ds ++ [c])) (hu : Up top (ds ++ [c])) (hn : ds.length = n) (ln : n ≤ 1000) (hgw : g < w.heap.size) (hcell : ∀ j, j < n + 1 → w.cell? ⟨g, off + j, none⟩ = some (.float .f64 ((ds ++ [c]).getD j 0))) :
   Calls Tryz.prog 134 #[.slice (some ⟨g, off, none⟩) (n + 1) cap] w fun e w' => (∃ v bs, e = .returned v ∧ Fr w' w.heap.size v bs ∧ SqL top (n + 1) ((vals (ds ++ [c])).sum) bs) ∧ Below w.heap.size w w' := by
 have H : Hid (Fs w (.slice (some ⟨g, off, none⟩) (n + 1) cap) (ds ++ [c])) := hs
 have HU : Hid (Up top (ds ++ [c]) ∧ top ≤ 2074 ∧ ds.length = n) := ⟨hu, ht, hn⟩
 have HC : Hid (∀ j, j < n + 1 → w.cell? ⟨g, off + j, none⟩ = some (.float .f64 ((ds ++ [c]).getD j 0))) := hcell
 have l1 : (n : Int) ≤ 1000 := by omega
 have e0 : ((n : Int) + 1 == 0) = false := by simp; omega
 have HA : Hid (∀ w', Below w.heap.size w w' → Calls Tryz.prog 170 #[.slice (some ⟨g, off, none⟩) (n + 1) cap] w' fun e w'' => e = .returned (.float .f64 c) ∧ w'' = w') := fun w' hb => by
   have := lead_any _ _ w' (hs.later hb) (by simp; omega)
   rwa [show lastW (ds ++ [c]) = c by simp [lastW, List.getD]] at this
 obtain ⟨⟨a', c', e', hc1, hc2, _⟩, _⟩ := id hs
 obtain ⟨q1, q2, rfl⟩ : some (⟨g, off, none⟩ : Addr) = a' ∧ n + 1 = (ds ++ [c]).length ∧ cap = c' := by simpa using e'
 have l2 : (n : Int) + 1 ≤ (cap : Int) := by simp at hc1; omega
 have l3 : (cap : Int) ≤ 9223372036854775807 := by omega
 obtain ⟨i0, hi0, hz0, hz1, hz2⟩ := info_parts infoF
 have hwz : ∀ j, (ds ++ [c]).getD j 0 < 18446744073709551616 := fun j => getD_word hs.word j
 obtain ⟨zs, hzs⟩ : ∃ zs : Nat → Wd, ∀ j, (zs j).1 = (ds ++ [c]).getD j 0 := ⟨fun j => ⟨(ds ++ [c]).getD j 0, hwz j⟩, fun _ => rfl⟩
 have HZ : Hid (∀ j, (zs j).1 = (ds ++ [c]).getD j 0) := hzs
 have HW : Hid (c < 18446744073709551616) := hs.word c (by simp)
 clear hs hu ht hn hc1 hc2 e' q1 q2 hwz hzs hcell
 refine (callsIn_wide (n := 5)).1 ?_
 refine callsIn_of_wp_marks Tryz.func134 rfl trivial ?_ rfl
 simp only [Tryz.ntmps134, List.size_toArray, List.length_cons, List.length_nil, Nat.reduceAdd, Nat.reduceSub, Array.replicate_succ, Array.replicate_zero, List.push_toArray, List.append_toArray, List.nil_append, List.cons_append]
 gi_wp2_with (first
   | (refine ⟨trivial, ?_⟩; gi_at_call 170; refine (callsIn_wide.2 (HA.out _ ((Below.refl _ w).alloc (Nat.le_refl _) _))).mono ?_; rintro e w' ⟨rfl, rfl⟩)
   | (refine ⟨trivial, ?_⟩; gi_at_call 171; refine (back_in _ _ _ _ _).mono ?_; rintro e w' ⟨rfl, rfl⟩))
 obtain ⟨z0, b6⟩ := zw_start w c (.slice (some ⟨g, off, none⟩) n cap) HW.out
 have HZ0 := z0
 obtain ⟨W0, hW0⟩ : ∃ W0, ((((w.alloc (.cells #[.slice none 0 0] 134)).alloc (.cells #[.float .f64 c] 33)).alloc (.cells #[.float .f64 0] 33)).alloc (.cells #[.slice (some ⟨g, off, none⟩) n cap] 134)) = W0 := ⟨_, rfl⟩
 have hs0 : W0.heap.size = w.heap.size + 4 := by rw [← hW0]; simp
 rw [hW0] at z0 b6 HZ0 ⊢
 refine wpIn_rangeFunc_ownG rfl (by omega) (gf := 191) (lb := #[.pointer (some ⟨w.heap.size + 1 + 1 + 1, 0, none⟩)]) rfl trivial (enters_of Tryz.func191 (by kernel_rfl) rfl)
   (back_stops _ (by omega) (w.heap.size + 1 + 1 + 1) w.heap.size n cap (some ⟨g, off, none⟩) zs (by omega) W0 b6 z0.bel.size (Or.inr ⟨g, off, rfl, hgw, fun j hj => by rw [HZ.out]; exact (z0.bel.cell (p := ⟨g, off + j, none⟩) hgw).trans (HC.out j (by omega))⟩))
   (fun h k => ⟨h.1.trans k.1, k.2.trans h.2⟩)
   (fun W l o o' hl ho hc hw => ⟨belowK_b (w := W0) z0.bel.size W l o o' hl ho hc hw, World.putObj_heap_other (by omega)⟩)
   (Below.refl _ _) (fun _ => rfl)
   (ZI top ((vals (ds ++ [c])).sum) ds (fun j => (n - 1 - j, zs (n - 1 - j))) w)
   (fun _ _ _ => False)
   (fun s A B row hs hg hr => by obtain ⟨v, bs, c, r, h1, h2⟩ := hs; exact ⟨v, bs, c, r, h1.own z0.bel.size hg hr, h2⟩)
   (fun _ _ _ _ _ hs _ _ => hs)
   ⟨_, [], c, 0, z0, Nat.le_refl _, fun _ => ZS.start HU.out.1⟩
   (fun x => { tmps := #[.slice (some ⟨g, off, none⟩) (n + 1) cap, undef, .slice none 0 0, .pointer (some ⟨w.heap.size, 0, none⟩), .pointer (some ⟨w.heap.size + 1, 0, none⟩), .pointer (some ⟨w.heap.size + 1 + 1, 0, none⟩), undef, .float .f64 x.2.1, .slice (some ⟨g, off, none⟩) (n + 1) cap, .int .i64 ((n : Int) + 1), .bool false, .slice (some ⟨g, off, none⟩) (n + 1) cap, .float .f64 c, .slice (some ⟨g, off, none⟩) (n + 1) cap, .slice (some ⟨g, off, none⟩) (n + 1) cap, .int .i64 ((n : Int) + 1), .int .i64 (n : Int), .slice (some ⟨g, off, none⟩) n cap, .func (.func 191) #[] #[.pointer (some ⟨w.heap.size + 1 + 1 + 1, 0, none⟩)], .int .i64 (x.1 : Int), .float .f64 x.2.1, undef, undef, undef, undef, undef, undef, undef, undef, undef, undef, undef, undef, undef, undef, undef, undef, undef, undef, undef, undef], defers := [] }) ?assign ?body ?done ?stop
 case assign =>
   intro l x W K hK
   gi_wp2
   exact hK
 case body =>
   rintro l pre x W ⟨v, bs, cc, r, hZ, hlen, hst⟩ hlt
   have HZW : Hid (Zw w W v bs cc r) := hZ
   have HST : Hid (bs.length ≤ pre.length ∧ pre.length < n ∧ (pre = upf (fun j => (n - 1 - j, zs (n - 1 - j))) pre.length → ZS top ((vals (ds ++ [c])).sum) ds pre.length bs cc)) := ⟨hlen, hlt, hst⟩
   have k4 := hZ.b4.cell
   have LN : Hid (n ≤ 1000) := ln
   clear hZ hlen hst hlt z0 b6 HZ0 hW0 hs0 ln
   gi_wp2_with (first
     | (refine ⟨trivial, ?_⟩; gi_at_call 172; refine (CallsIn.inRound l (callsIn_wide.2 (sum_pair cc x.2.1 _ HZW.out.wc x.2.2))).mono ?_; rintro e W1 ⟨⟨s, r', rfl, hp⟩, hb1⟩; have HP : Hid (Pair (TameW cc x.2.1) (fval cc + fval x.2.1) s r') := hp; have HB1 : Hid (Below W.heap.size W W1) := hb1; have HZ1 : Hid (Zw w W1 v bs cc r) := HZW.out.later hb1; have m4 := HZ1.out.b4.cell; have m5 := HZ1.out.b5.cell; have m3 := HZ1.out.b3.cell; have t4 := HZ1.out.b4.frozen; have t5 := HZ1.out.b5.frozen; have HZ3 : Hid (Zw w ((W1.setCell ⟨w.heap.size + 1, 0, none⟩ (.float .f64 s)).setCell ⟨w.heap.size + 1 + 1, 0, none⟩ (.float .f64 r')) v bs s r') := (HZ1.out.set4 hp.2.2.1).set5 hp.2.2.2.1; have hq0 := eql_zero2 r'; clear hp hb1)
     | (gi_at_builtin; refine wpListIn_append_own _ rfl _ _ 134 rfl (w.heap.size + 4) 33 i0 (.float .f64 0) 1 8 undF hi0 hz0 hz1 hz2 rfl (by decide) v bs.length (f64s bs) rfl (HZ3.out.row.own.alloc _) ⟨W1.heap.size, 0, none⟩ 1 1 [.float .f64 s] rfl rfl (fun j u hj => by have := cell_one_new ((W1.setCell ⟨w.heap.size + 1, 0, none⟩ (.float .f64 s)).setCell ⟨w.heap.size + 1 + 1, 0, none⟩ (.float .f64 r')) (.float .f64 s) 33 j u hj; simpa using this) (by simp [Value.oneCell']) (by unfold maxLen; have := HST.out; have := LN.out; omega) (by have := HST.out; have := LN.out; omega) (by have := HZ1.out.siz; simp; omega) ?_; intro v' W4 hown hgrow _; obtain ⟨g', cap', rfl⟩ := ownsRow_succ hown; obtain ⟨y3, y4, y5, hz5, hk5⟩ := HZ3.out.grew HZ3.out.wc hown hgrow; have n3 := y3.cell; have n4 := y4.cell; have n5 := y5.cell; have u3 := y3.frozen; have u4 := y4.frozen; have HZ5 : Hid (Zw w (W4.setCell ⟨w.heap.size, 0, none⟩ (.slice (some ⟨g', 0, none⟩) (bs.length + 1) cap')) (.slice (some ⟨g', 0, none⟩) (bs.length + 1) cap') (bs ++ [s]) s r' ∧ K4 w ((W1.setCell ⟨w.heap.size + 1, 0, none⟩ (.float .f64 s)).setCell ⟨w.heap.size + 1 + 1, 0, none⟩ (.float .f64 r')) W4) := ⟨hz5, hk5⟩; clear y3 y4 y5 hz5 hk5 hown hgrow))
   · have hne := rest_ne (by assumption : (FloatKind.f64.format.order r' 0 != some .eq) = true)
     have hk : K4 w W ((W4.setCell ⟨w.heap.size, 0, none⟩ (.slice (some ⟨g', 0, none⟩) (bs.length + 1) cap')).setCell ⟨w.heap.size + 1, 0, none⟩ (.float .f64 r')) := ((((K4.below HB1.out HZW.out.siz).trans (K4.set (a := ⟨w.heap.size + 1, 0, none⟩) (by show w.heap.size ≤ w.heap.size + 1; omega) (by show w.heap.size + 1 ≠ _; omega) _)).trans (K4.set (a := ⟨w.heap.size + 1 + 1, 0, none⟩) (by show w.heap.size ≤ w.heap.size + 1 + 1; omega) (by show w.heap.size + 1 + 1 ≠ _; omega) _)).trans HZ5.out.2).trans ((K4.set (a := ⟨w.heap.size, 0, none⟩) (Nat.le_refl _) (by show w.heap.size ≠ _; omega) _).trans (K4.set (a := ⟨w.heap.size + 1, 0, none⟩) (by show w.heap.size ≤ w.heap.size + 1; omega) (by show w.heap.size + 1 ≠ _; omega) _))
     exact ⟨hk.oth.from _, ⟨hk.bel, hk.box⟩, _, bs ++ [s], r', r', HZ5.out.1.set4 HZ3.out.wr, by have := HST.out.1; simp; omega, fun he => (zi_step HU.out.1 HU.out.2.1 HU.out.2.2 HZ.out HST.out.2.1 HST.out.2.2 HP.out he).2 hne⟩
   · have hze := rest_eq (by assumption : (FloatKind.f64.format.order r' 0 != some .eq) = false)
     have hk : K4 w W ((W1.setCell ⟨w.heap.size + 1, 0, none⟩ (.float .f64 s)).setCell ⟨w.heap.size + 1 + 1, 0, none⟩ (.float .f64 r')) := ((K4.below HB1.out HZW.out.siz).trans (K4.set (a := ⟨w.heap.size + 1, 0, none⟩) (by show w.heap.size ≤ w.heap.size + 1; omega) (by show w.heap.size + 1 ≠ _; omega) _)).trans (K4.set (a := ⟨w.heap.size + 1 + 1, 0, none⟩) (by show w.heap.size ≤ w.heap.size + 1 + 1; omega) (by show w.heap.size + 1 + 1 ≠ _; omega) _)
     exact ⟨hk.oth.from _, ⟨hk.bel, hk.box⟩, v, bs, s, r', HZ3.out, by have := HST.out.1; simp; omega, fun he => (zi_step HU.out.1 HU.out.2.1 HU.out.2.2 HZ.out HST.out.2.1 HST.out.2.2 HP.out he).1 hze⟩
 case done =>
   rintro D ys W hD hys ⟨v, bs, cc, r, hZ, hlen, hst⟩ hK
   have hyl : ys.length = n := by rw [hys]; exact upf_length _ _
   rw [hyl] at hlen hst
   have HZW : Hid (Zw w W v bs cc r) := hZ
   have HST : Hid (bs.length ≤ n ∧ ZS top ((vals (ds ++ [c])).sum) ds n bs cc) := ⟨hlen, hst hys⟩
   have HK : Hid (W.heap[D]? = some (.deferred (some []))) := hK
   have HD : Hid (w.heap.size + 4 ≤ D) := by show _ ≤ _; omega
   have m3 := hZ.b3.cell
   have m4 := hZ.b4.cell
   have LN : Hid (n ≤ 1000) := ln
   clear hZ hlen hst hK hD hys hyl z0 b6 HZ0 hW0 hs0 ln
   gi_wp2_with (first
     | (gi_at_builtin; refine wpListIn_append_own _ rfl _ _ 134 rfl (w.heap.size + 4) 33 i0 (.float .f64 0) 1 8 undF hi0 hz0 hz1 hz2 rfl (by decide) v bs.length (f64s bs) rfl (HZW.out.row.own.alloc _) ⟨W.heap.size, 0, none⟩ 1 1 [.float .f64 cc] rfl rfl (cell_one_new _ _ _) (by simp [Value.oneCell']) (by unfold maxLen; have := HST.out; have := LN.out; omega) (by have := HST.out; have := LN.out; omega) (by have := HZW.out.siz; simp; omega) ?_; intro v' W4 hown hgrow _; obtain ⟨g', cap', rfl⟩ := ownsRow_succ hown; obtain ⟨y3, y4, y5, hz5, hk5⟩ := HZW.out.grew HZW.out.wc hown hgrow; have n3 := y3.cell; have u3 := y3.frozen; have HZ5 : Hid (Zw w (W4.setCell ⟨w.heap.size, 0, none⟩ (.slice (some ⟨g', 0, none⟩) (bs.length + 1) cap')) (.slice (some ⟨g', 0, none⟩) (bs.length + 1) cap') (bs ++ [cc]) cc r ∧ K4 w W W4) := ⟨hz5, hk5⟩; clear y3 y4 y5 hz5 hk5 hown hgrow)
     | (refine ⟨trivial, ?_⟩; gi_at_call 173; refine (callsIn_wide.2 (reverse_walk (w.heap.size + 4) g' cap' (bs.length + 1) (bs ++ [cc]) _ HZ5.out.1.row (by simp) (by have := HST.out; have := LN.out; omega))).mono ?_; rintro e W6 ⟨⟨v6, rfl⟩, hF6, hb6, hk6⟩; have p3 := (boxed_belowK HZ5.out.1.b3 hb6 (by omega)).cell; have H6 : Hid (Fr W6 (w.heap.size + 4) (.slice (some ⟨g', 0, none⟩) (bs.length + 1) cap') (bs ++ [cc]).reverse ∧ Below (w.heap.size + 4) (W4.setCell ⟨w.heap.size, 0, none⟩ (.slice (some ⟨g', 0, none⟩) (bs.length + 1) cap')) W6 ∧ KeepsOthers (W4.setCell ⟨w.heap.size, 0, none⟩ (.slice (some ⟨g', 0, none⟩) (bs.length + 1) cap')) W6) := ⟨hF6, hb6, hk6⟩; clear hF6 hb6 hk6))
   have hK6 : W6.heap[D]? = some (.deferred (some [])) := H6.out.2.2.same D _ ((KeepsOthers.setCell _ _ _).same D _ (HZ5.out.2.oth.same D _ HK.out rfl) rfl) rfl
   refine ⟨by simp, .inl ⟨_, _, rfl, run_takeDeferred hK6, ?_⟩⟩
   have hb6 : Below w.heap.size w W6 := HZ5.out.1.bel.trans (H6.out.2.1.mono (by omega))
   exact ⟨_, results_tmp rfl _ _ _, ⟨_, (bs ++ [cc]).reverse, rfl, Fr.mono (B := w.heap.size + 4) ⟨ownsRow_putObj H6.out.1.own _ hK6 rfl, H6.out.1.word⟩ (by omega), ⟨HST.out.2.done HU.out.2.2.symm, by have := HST.out.1; simp; omega⟩⟩, hb6.trans (belowK_b (w := w) (Nat.le_refl _) W6 D _ _ (by have := HD.out; omega) hK6 rfl rfl)⟩
 case stop =>
   rintro D c pre W _ _ h _
   exact h.elim
end
end Go.Proofs.YtcgbnjoajieggaaGreat
