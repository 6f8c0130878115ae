/- Own texts, put together: Xj Xk Xl Xm Xn Xo Xp Xq Lf Lg Lp. -/
import Derived.Test.YtejhinjanjlplaaDoorQ4
import Derived.Test.YtejhinjanjlplaaDoorQ36
import Derived.RangeFuncNested
import Derived.RangeFuncBound
import Derived.RangeFuncCalls
import Derived.RangeFuncLeaves
import Derived.RangeFuncBox
import Derived.RangeFuncWrites
import Derived.Shelf.Abstract
import Derived.Shelf.RegionOpen
import Derived.WalkKit
import Derived.OwnWalkIn
import Derived.TacticsInMore
import Derived.LoopNIn
import Derived.LoopIn
import Derived.Maps.AppendAt
namespace Go.Proofs.YtejhinjanjlplaaDoor
/- Package expand: the next float of two lists, whatever they are; what rises. -/
section
open Go.RowKit
theorem Fs.tail {w : World} {g off n c x : Nat} {re : List Nat} {ao : Option Addr} (h : Fs w (.slice (some ⟨g, off, none⟩) (n + 1) c) (x :: re)) (ha : (if c = 1 then some (⟨g, off, none⟩ : Addr) else some ⟨g, off + 1, none⟩) = ao) : Fs w (.slice ao n (c - 1)) re := by
 obtain ⟨⟨a, c', e, hc, hm, hf⟩, hw⟩ := h
 cases e
 refine ⟨⟨ao, c - 1, rfl, by simp at hc; omega, by omega, ?_⟩, fun b hb => hw b (by simp [hb])⟩
 rcases hf with hf | ⟨g', off', e, hf⟩
 · cases hf
 · cases e
   by_cases h0 : re = []
   · exact Or.inl h0
   · right
     have : 0 < re.length := List.length_pos_iff.2 h0
     simp at hc
     rw [if_neg (by omega)] at ha
     refine ⟨g, off + 1, ha.symm, fun k hk => ?_⟩
     have := hf (k + 1) (by simp; omega)
     rw [show off + 1 + k = off + (k + 1) by omega, this]
     simp [List.getD]
theorem Fs.head {w : World} {s : Value} {x : Nat} {re : List Nat} (h : Fs w s (x :: re)) : ∃ g off c, s = .slice (some ⟨g, off, none⟩) (re.length + 1) c ∧ re.length + 1 ≤ c ∧ c ≤ 9223372036854775807 ∧ w.cell? ⟨g, off, none⟩ = some (.float .f64 x) := by
 obtain ⟨⟨a, c', e, hc, hm, hf⟩, hw⟩ := h
 rcases hf with hf | ⟨g, off, e2, hf⟩
 · cases hf
 · subst e2
   refine ⟨g, off, c', e, by simpa using hc, hm, ?_⟩
   have := hf 0 (by simp)
   simpa [List.getD] using this
theorem Fs.none {w : World} {s : Value} (h : Fs w s []) : ∃ a c, s = .slice a 0 c := by
 obtain ⟨⟨a, c', e, _⟩, _⟩ := h
 exact ⟨a, c', e⟩
def vals (bs : List Nat) : List Rat := bs.map fval
structure Up (N : Nat) (bs : List Nat) : Prop where
 ex : Ex (vals bs)
 fin : ∀ b ∈ bs, Fin64 b
 lim : ∀ b ∈ bs, ab (fval b) < U N
theorem F_fval {b : Nat} (h : Fin64 b) : F (fval b) := by
 obtain ⟨S, m, c⟩ := fc_word h
 exact c.f
theorem vals_gw (bs : List Nat) (x : Nat) : vals (gw bs x) = grownR (vals bs) (fval x) := by
 have hz : fval x = 0 ↔ frung x = 0 := fval_zero_iff
 unfold gw grownR
 by_cases h : frung x = 0
 · rw [if_pos h, if_pos (hz.2 h)]
 · rw [if_neg h, if_neg (fun e => h (hz.1 e))]; simp [vals]
theorem ab_rung {x y : Nat} (hx : Fin64 x) (hy : Fin64 y) (h : frung x ≤ frung y) : ab (fval x) ≤ ab (fval y) := by
 rw [← ab_fval x hx, ← ab_fval y hy]
 rcases Nat.lt_or_ge (frung x) (frung y) with h1 | h1
 · exact Rat.le_of_lt (fval_lt h1 hy)
 · rw [show frung x = frung y by omega]; exact Rat.le_refl
theorem tame_of {a : Nat} (h : Fin64 a) (hl : ab (fval a) ≤ U 2074) : frung a ≤ 9110782046170513408 := by
 rcases Nat.lt_or_ge 9110782046170513408 (frung a) with h1 | h1
 · exfalso
   have := fval_lt h1 h
   rw [tame_top, ab_fval a h] at this
   rw [show U 2074 = p2 1000 from rfl] at hl
   grind
 · exact h1
end

/- Package expand: two lists joined. -/
section
open Go.RowKit
theorem JInv.bounds {N : Nat} {de re df rf outs : List Rat} {Q q : Rat} (I : JInv N de re df rf outs Q q) : ab Q ≤ U (N + 2) ∧ ab q ≤ 3 * U N := by
 obtain ⟨T, k, R⟩ := I.rq
 have h1 := I.size
 have h2 := U_succ N
 have h3 := U_succ (N + 1)
 have h4 := U_pos N
 refine ⟨R.le_pow' (by rw [show N + 2 = N + 1 + 1 by omega]; grind), ?_⟩
 have := R.rest_le
 rw [show Q + q - Q = q by grind] at this
 grind
theorem Fr.drew {w : World} {B : Nat} {v : Value} {bs : List Nat} (h : Fr w B v bs) : Fr w.drew B v bs := ⟨h.own.drew, h.word⟩
def nzw (x : Nat) : Nat := if frung x = 0 then 0 else 1
theorem nzw_le (x : Nat) : nzw x ≤ 1 := by unfold nzw; split <;> omega
theorem nzw_zero {x : Nat} (h : fval x = 0) : nzw x = 0 := by unfold nzw; rw [if_pos (fval_zero_iff.1 h)]
theorem val_nzw {x : Nat} (h : nzw x = 0) : fval x = 0 := by
 unfold nzw at h
 split at h
 · exact fval_zero_iff.2 (by assumption)
 · omega
theorem gw_len (bs : List Nat) (x : Nat) : (gw bs x).length = bs.length + nzw x := by unfold gw nzw; split <;> simp
structure JS (N : Nat) (de re df rf outs : List Nat) (Q q : Nat) : Prop where
 inv : JInv N (vals de) (vals re) (vals df) (vals rf) (vals outs) (fval Q) (fval q)
 fin : Fin64 Q ∧ Fin64 q ∧ Q < 18446744073709551616 ∧ q < 18446744073709551616
 fo : ∀ b ∈ outs, Fin64 b
 fe : ∀ b ∈ re, Fin64 b
 ff : ∀ b ∈ rf, Fin64 b
 cnt : outs.length + nzw q + nzw Q ≤ de.length + df.length
theorem head_min {g : Nat} {l : List Nat} (hf : ∀ b ∈ l, Fin64 b) (hg : Fin64 g) (hx : Ex (vals l)) (h : ∀ y, l.head? = some y → frung g ≤ frung y) : ∀ y ∈ vals l, ab (fval g) ≤ ab y := by
 intro y hy
 cases l with
 | nil => simp [vals] at hy
 | cons a l =>
   have h1 := ab_rung hg (hf a (by simp)) (h a rfl)
   simp only [vals, List.map_cons, List.mem_cons] at hy
   rcases hy with rfl | hy
   · exact h1
   · have h2 := (List.pairwise_cons.1 hx.1).1 y hy
     have h3 := h2.lt (hx.2 y (by simp [vals]; exact Or.inr (by simpa using hy)))
     grind
theorem rv_rnd {q x : Rat} (h : RV q x) : ∃ T k, Rnd q x T k := h.rn
theorem JS.step {N : Nat} {de re df rf outs : List Nat} {Q q g R h Q' q' : Nat} (hN : N ≤ 2070) (I : JS N de (g :: re) df rf outs Q q) (hm : ∀ y, rf.head? = some y → frung g ≤ frung y)
   (p1 : Pair (TameW g q) (fval g + fval q) R h) (p2 : Pair (TameW Q R) (fval Q + fval R) Q' q') : JS N (de ++ [g]) re df rf (gw outs h) Q' q' := by
 obtain ⟨iQ, iq⟩ := I.inv.bounds
 have hg := I.fe g (by simp)
 have bg : ab (fval g) < U N := (I.inv.b1 (fval g) (by simp [vals])).2
 have u1 := U_succ N
 have u2 := U_succ (N + 1)
 have u3 : U (N + 2) ≤ U 2074 := U_mono (by omega)
 have u0 := U_pos N
 have eN : U (N + 2) = U (N + 1 + 1) := rfl
 have t1 : TameW g q := ⟨tame_of hg (by grind), tame_of I.fin.2.1 (by grind)⟩
 obtain ⟨fR, fh, lR, lh, ⟨_, r1, e1⟩ | ⟨c, _⟩⟩ := p1
 · obtain ⟨T1, k1, R1⟩ := rv_rnd r1
   have bR : ab (fval R) ≤ U (N + 2) := R1.le_pow' (by have := ab_add (fval g) (fval q); grind)
   have t2 : TameW Q R := ⟨tame_of I.fin.1 (by grind), tame_of fR (by grind)⟩
   obtain ⟨fQ', fq', lQ', lq', ⟨_, r2, e2⟩ | ⟨c, _⟩⟩ := p2
   · obtain ⟨T2, k2, R2⟩ := rv_rnd r2
     have hmin := head_min I.ff hg I.inv.e2.right hm
     have J := I.inv.step (g := fval g) (re := vals re) hmin R1 e1 (F_fval fh) R2 e2 (F_fval fq')
     refine ⟨?_, ⟨fQ', fq', lQ', lq'⟩, ?_, fun b hb => I.fe b (by simp [hb]), I.ff, ?_⟩
     · rw [vals_gw, show vals (de ++ [g]) = vals de ++ [fval g] by simp [vals]]; exact J
     · intro b hb
       unfold gw at hb
       split at hb
       · exact I.fo b hb
       · rcases List.mem_append.1 hb with hb | hb
         · exact I.fo b hb
         · rw [List.mem_singleton.1 hb]; exact fh
     · have c0 := I.cnt
       have a1 : nzw q = 0 → nzw h = 0 := fun hq => by
         have z := val_nzw hq
         have x := r1.rn.exact (by rw [z, show fval g + 0 = fval g by grind]; exact F_fval hg)
         exact nzw_zero (by grind)
       have a2 : nzw Q = 0 → nzw q' = 0 := fun hq => by
         have z := val_nzw hq
         have x := r2.rn.exact (by rw [z, show 0 + fval R = fval R by grind]; exact F_fval fR)
         exact nzw_zero (by grind)
       have b1 := nzw_le h
       have b2 := nzw_le q'
       have b3 := nzw_le Q'
       rw [gw_len, List.length_append, List.length_singleton]
       omega
   · exact absurd t2 c
 · exact absurd t1 c
theorem JS.start {N : Nat} {es fs : List Nat} (h1 : Up N es) (h2 : Up N fs) : JS N [] es [] fs [] 0 0 :=
 ⟨by
   rw [fval0]
   exact JInv.start h1.ex h2.ex (fun x hx => by obtain ⟨b, hb, rfl⟩ := List.mem_map.1 hx; exact ⟨F_fval (h1.fin b hb), h1.lim b hb⟩) (fun x hx => by obtain ⟨b, hb, rfl⟩ := List.mem_map.1 hx; exact ⟨F_fval (h2.fin b hb), h2.lim b hb⟩),
  ⟨fin0, fin0, by omega, by omega⟩, by simp, h1.fin, h2.fin, by decide⟩
theorem gw_mem {bs : List Nat} {x b : Nat} (h : b ∈ gw bs x) : b ∈ bs ∨ b = x := by
 unfold gw at h
 split at h
 · exact Or.inl h
 · rcases List.mem_append.1 h with h | h
   · exact Or.inl h
   · exact Or.inr (List.mem_singleton.1 h)
theorem gw_length (bs : List Nat) (x : Nat) : (gw bs x).length ≤ bs.length + 1 := by unfold gw; split <;> simp
theorem JS.done {N : Nat} {de df outs : List Nat} {Q q : Nat} (I : JS N de [] df [] outs Q q) : Up (N + 3) (gw (gw outs q) Q) ∧ (vals (gw (gw outs q) Q)).sum = (vals de).sum + (vals df).sum ∧ (gw (gw outs q) Q).length ≤ de.length + df.length := by
 obtain ⟨h1, h2, h3⟩ := JInv.done I.inv
 obtain ⟨iQ, iq⟩ := I.inv.bounds
 have u1 := U_succ N
 have u2 := U_succ (N + 1)
 have u3 := U_succ (N + 2)
 have u0 := U_pos N
 have eN : U (N + 2) = U (N + 1 + 1) := rfl
 have eM : U (N + 3) = U (N + 2 + 1) := rfl
 rw [← vals_gw, ← vals_gw] at h1 h2
 refine ⟨⟨h1, fun b hb => ?_, fun b hb => ?_⟩, h2, ?_⟩
 · rcases gw_mem hb with hb | rfl
   · rcases gw_mem hb with hb | rfl
     · exact I.fo b hb
     · exact I.fin.2.1
   · exact I.fin.1
 · rcases gw_mem hb with hb | rfl
   · rcases gw_mem hb with hb | rfl
     · have := (I.inv.b3 (fval b) (by simp [vals]; exact ⟨b, hb, rfl⟩)).2
       grind
     · grind
   · grind
 · have := I.cnt
   rw [gw_len, gw_len]
   omega
end

/- Package expand: the walk of joined. -/
section
open Go.RowKit
end

/- Package expand: a list times a float. -/
section
open Go.RowKit
def SafeB (b : Nat) : Prop := 2580562586483294208 ≤ frung b ∧ frung b ≤ 6633802251116740608
theorem safe_low : fval 2580562586483294208 = U 624 := by
 rw [(fval_pos_lt (by omega)).1, show fmag 2580562586483294208 = 4503599627370496 by decide, show fpl 2580562586483294208 = -502 by decide]
 unfold U
 rw [show ((624 : Nat) : Int) - 1074 = -502 + ((52 : Nat) : Int) by omega, p2_add, p2_nat, Rat.mul_comm]
theorem SafeB.fin {b : Nat} (h : SafeB b) : Fin64 b := by unfold Fin64; have := h.2; omega
theorem SafeB.ab {b : Nat} (h : SafeB b) : U 624 ≤ ab (fval b) ∧ Go.Proofs.YtejhinjanjlplaaDoor.ab (fval b) ≤ U 1524 := by
 rw [← ab_fval b h.fin, ← safe_low, show U 1524 = p2 450 from rfl, ← safe_top]
 have f := h.fin
 unfold Fin64 at f
 constructor
 · rcases Nat.lt_or_ge 2580562586483294208 (frung b) with e | e
   · exact Rat.le_of_lt (fval_lt e f)
   · rw [show frung b = 2580562586483294208 by have := h.1; omega]; exact Rat.le_refl
 · rcases Nat.lt_or_ge (frung b) 6633802251116740608 with e | e
   · exact Rat.le_of_lt (fval_lt e (by omega))
   · rw [show frung b = 6633802251116740608 by have := h.2; omega]; exact Rat.le_refl
theorem SafeB.unit {b : Nat} (h : SafeB b) : ∃ B, 572 ≤ B ∧ B ≤ 1472 ∧ M (U B) (fval b) ∧ Go.Proofs.YtejhinjanjlplaaDoor.ab (fval b) < U (B + 53) := by
 obtain ⟨a1, a2⟩ := h.ab
 have f := F_fval h.fin
 have hb0 : fval b ≠ 0 := by
   intro e
   rw [e] at a1
   have := U_pos 624
   rw [show Go.Proofs.YtejhinjanjlplaaDoor.ab 0 = 0 by unfold Go.Proofs.YtejhinjanjlplaaDoor.ab; grind] at a1
   grind
 obtain ⟨K, _, k1, k2⟩ := binade (F.mult0 f) hb0
 have h1 : 624 ≤ K := by
   have : U 624 < U (K + 1) := by grind
   have := U_lt_iff.1 this
   omega
 have h2 : K ≤ 1524 := by
   have : U K ≤ U 1524 := by grind
   exact U_le_iff.1 this
 exact ⟨K - 52, by omega, by omega, f.mult k1, by rw [show K - 52 + 53 = K + 1 by omega]; exact k2⟩
structure SS (b B : Nat) (de re outs : List Nat) (Q : Nat) : Prop where
 inv : SInv (fval b) B (vals de) (vals re) (vals outs) (fval Q)
 fin : Fin64 Q ∧ Q < 18446744073709551616
 fo : ∀ x ∈ outs, Fin64 x
 sd : ∀ x ∈ de, SafeB x
 sr : ∀ x ∈ re, SafeB x
 cnt : outs.length ≤ 2 * de.length
theorem SS.start {b B : Nat} {es : List Nat} (h : Ex (vals es)) (hs : ∀ x ∈ es, SafeB x) : SS b B [] es [] 0 :=
 ⟨by rw [fval0]; exact SInv.start h (fun x hx => by obtain ⟨y, hy, rfl⟩ := List.mem_map.1 hx; exact ⟨F_fval (hs y hy).fin, (hs y hy).ab.1⟩), ⟨fin0, by omega⟩, by simp, by simp, hs, by simp⟩
theorem SS.lim {b B : Nat} {de re outs : List Nat} {Q : Nat} (I : SS b B de re outs Q) (hB : 572 ≤ B ∧ B ≤ 1472) : ab (fval Q) ≤ U 1976 ∧ ∀ x ∈ outs, ab (fval x) < U 1976 := by
 have hd : ∀ d ∈ vals de, ab d < U 1525 := fun d hd => by
   obtain ⟨y, hy, rfl⟩ := List.mem_map.1 hd
   have := (I.sd y hy).ab.2
   have := U_lt_iff.2 (show 1524 < 1525 by omega)
   grind
 constructor
 · have h1 := I.inv.qb 1525 hd (by omega)
   rw [U_mulX' (r := B + 504) (by omega)] at h1
   have := U_mono (show B + 504 ≤ 1976 by omega)
   grind
 · intro x hx
   have h1 := I.inv.hb 1525 hd (by omega) (fval x) (by simp [vals]; exact ⟨x, hx, rfl⟩)
   rw [U_mulX' (r := B + 451) (by omega)] at h1
   have := U_mono (show B + 451 ≤ 1976 by omega)
   grind
theorem SS.step {b B : Nat} {de re outs : List Nat} {Q x T t Q1 h1 Q2 h2 : Nat} (I : SS b B de (x :: re) outs Q) (hb : SafeB b) (hB : 572 ≤ B ∧ B ≤ 1472) (mb : M (U B) (fval b)) (bb : ab (fval b) < U (B + 53))
   (p0 : Pair (SafeP x b) (fval x * fval b) T t) (p1 : Pair (TameW Q t) (fval Q + fval t) Q1 h1) (p2 : Pair (TameW T Q1) (fval T + fval Q1) Q2 h2) : SS b B (de ++ [x]) re (gw (gw outs h1) h2) Q2 := by
 have sx := I.sr x (by simp)
 have lQ := (I.lim hB).1
 have m1 := U_lt_iff.2 (show 1974 < 1975 by omega)
 have u5 := U_succ 1975
 have u6 := U_succ 1976
 have u7 := U_succ 1977
 have u4 := U_succ 1974
 have up := U_pos 1974
 have lt : U 1978 ≤ U 2074 := U_mono (by omega)
 have lxb : ab (fval x * fval b) ≤ U 1974 := by
   rw [ab_mul, ← U_mulX' (s := 1524) (t := 1524) (r := 1974) (by omega)]
   have g1 := Rat.mul_le_mul_of_nonneg_right sx.ab.2 (ab_nonneg (fval b))
   have g2 := Rat.mul_le_mul_of_nonneg_left hb.ab.2 (Rat.le_of_lt (U_pos 1524))
   grind
 obtain ⟨fT, ft, lT, l_t, ⟨_, r0, e0⟩ | ⟨c, _⟩⟩ := p0
 · obtain ⟨T0, k0, R0⟩ := rv_rnd r0
   have bT : ab (fval T) ≤ U 1974 := R0.le_pow' lxb
   have bt : ab (fval t) ≤ U 1974 := by
     have := R0.rest_le
     rw [show fval x * fval b - fval T = fval t by grind] at this
     grind
   have t1 : TameW Q t := ⟨tame_of I.fin.1 (by grind), tame_of ft (by grind)⟩
   obtain ⟨fQ1, fh1, lQ1, lh1, ⟨_, r1, e1⟩ | ⟨c, _⟩⟩ := p1
   · obtain ⟨T1, k1, R1⟩ := rv_rnd r1
     have bQ1 : ab (fval Q1) ≤ U 1977 := R1.le_pow' (by have := ab_add (fval Q) (fval t); grind)
     have t2 : TameW T Q1 := ⟨tame_of fT (by grind), tame_of fQ1 (by grind)⟩
     obtain ⟨fQ2, fh2, lQ2, lh2, ⟨_, r2, e2⟩ | ⟨c, _⟩⟩ := p2
     · obtain ⟨T2, k2, R2⟩ := rv_rnd r2
       have J := I.inv.step (x := fval x) (re := vals re) hB.1 mb bb R0 e0 (F_fval ft) R1 e1 (F_fval fh1) R2 e2 (F_fval fh2)
       refine ⟨?_, ⟨fQ2, lQ2⟩, ?_, ?_, fun y hy => I.sr y (by simp [hy]), ?_⟩
       · rw [vals_gw, vals_gw, show vals (de ++ [x]) = vals de ++ [fval x] by simp [vals]]; exact J
       · intro y hy
         rcases gw_mem hy with hy | rfl
         · rcases gw_mem hy with hy | rfl
           · exact I.fo y hy
           · exact fh1
         · exact fh2
       · intro y hy
         rcases List.mem_append.1 hy with hy | hy
         · exact I.sd y hy
         · rw [List.mem_singleton.1 hy]; exact sx
       · have g1 := gw_length (gw outs h1) h2
         have g2 := gw_length outs h1
         have := I.cnt
         simp
         omega
     · exact absurd t2 c
   · exact absurd t1 c
 · exact absurd ⟨Or.inr sx, Or.inr hb⟩ c
theorem SS.done {b B : Nat} {de outs : List Nat} {Q : Nat} (I : SS b B de [] outs Q) (hB : 572 ≤ B ∧ B ≤ 1472) : Up 1977 (gw outs Q) ∧ (vals (gw outs Q)).sum = (vals de).sum * fval b ∧ (gw outs Q).length ≤ 2 * de.length + 1 := by
 obtain ⟨h1, h2, h3⟩ := SInv.done I.inv
 rw [← vals_gw] at h1 h2
 obtain ⟨l1, l2⟩ := I.lim hB
 have m1 := U_lt_iff.2 (show 1976 < 1977 by omega)
 refine ⟨⟨h1, fun y hy => ?_, fun y hy => ?_⟩, h2, ?_⟩
 · rcases gw_mem hy with hy | rfl
   · exact I.fo y hy
   · exact I.fin.1
 · rcases gw_mem hy with hy | rfl
   · have := l2 y hy
     grind
   · grind
 · have g2 := gw_length outs Q
   have := I.cnt
   omega
structure SW (w : World) (es de re outs : List Nat) (v : Value) (wr : World) : Prop where
 e1 : es = de ++ re
 row : Fr wr w.heap.size v outs
 bel : Below w.heap.size w wr
theorem SW.done {w wr wr' : World} {es de re outs : List Nat} {v : Value} (h : SW w es de re outs v wr) (hb : Below wr.heap.size wr wr') : SW w es de re outs v wr' := ⟨h.e1, h.row.later hb, h.bel.trans (hb.mono h.bel.size)⟩
theorem SW.grown {w wr wr' : World} {es de re outs outs' : List Nat} {v v' : Value} (h : SW w es de re outs v wr) (hr : Fr wr' w.heap.size v' outs') (hb : Below w.heap.size wr wr') : SW w es de re outs' v' wr' := ⟨h.e1, hr, h.bel.trans hb⟩
end

/- Package slices: Backward, of floats. -/
section
open Go.RowKit Go.Shelf
attribute [local go_sem] Oper.semAt_some
end

/- Package slices: Reverse, of floats. -/
section
open Go.RowKit
attribute [local go_sem ↓] Go.wp_at_zero Go.wp_at_succ
attribute [local go_sem] run_store_float
theorem Fr.set {w : World} {B g cap k d : Nat} {bs : List Nat} (h : Fr w B (.slice (some ⟨g, 0, none⟩) bs.length cap) bs) (hd : d < 18446744073709551616) : Fr (w.setCell ⟨g, k, none⟩ (.float .f64 d)) B (.slice (some ⟨g, 0, none⟩) (bs.set k d).length cap) (bs.set k d) := by
 refine ⟨⟨by simp [f64s], ?_⟩, ?_⟩
 · rcases h.own.2 with ⟨h1, _⟩ | ⟨g', cap', cur, h1, h2, h3, h4, h5, h6, h7⟩
   · cases h1
   · cases h1
     refine Or.inr ⟨g, cap, cur.set! k (.float .f64 d), by simp, h2, ?_, by simpa using h4, h5, by simpa using h6, ?_⟩
     · simp [World.setCell, Array.getElem?_modify, h3]
     · rw [Nat.mul_one] at h7
       have : f64s (bs.set k d) = (f64s bs).set k (.float .f64 d) := by simp [f64s, List.map_set]
       rw [this, ← h7]
       simp [List.take_set]
 · intro b hb
   rcases List.mem_or_eq_of_mem_set hb with hb | rfl
   · exact h.word b hb
   · exact hd
theorem Fr.cell {w : World} {B g cap : Nat} {bs : List Nat} (h : Fr w B (.slice (some ⟨g, 0, none⟩) bs.length cap) bs) (k : Nat) (hk : k < bs.length) : w.cell? ⟨g, k, none⟩ = some (.float .f64 (bs.getD k 0)) := by
 have := h.own.cells (g := g) rfl k (.float .f64 (bs.getD k 0)) (by simp [f64s, List.getD, hk])
 rwa [show (⟨g, 0, none⟩ : Addr).add k = ⟨g, k, none⟩ by unfold Addr.add; split <;> simp_all] at this
theorem Fr.frozen {w : World} {B g cap : Nat} {bs : List Nat} (h : Fr w B (.slice (some ⟨g, 0, none⟩) bs.length cap) bs) (k : Nat) : w.frozen? ⟨g, k, none⟩ = false := by
 rcases h.own.2 with ⟨h1, _⟩ | ⟨g', cap', cur, h1, h2, h3, h4, _⟩
 · cases h1
 · cases h1
   simp [World.frozen?, h3]
theorem Fr.base {w : World} {B g cap n : Nat} {bs : List Nat} (h : Fr w B (.slice (some ⟨g, 0, none⟩) n cap) bs) : B ≤ g := by
 exact (h.own.lt g rfl).1
end

/- Package expand: a list squeezed: what is reckoned. -/
section
open Go.RowKit
theorem near_rndE {q : Rat} {r : Nat} (h : Near q r) (hr : r < 9218868437227405312) : ∃ T k, RndE q (fval r) T k := by
 rcases h with ⟨rfl, rfl⟩ | ⟨hq, T, k, hl, hh, e⟩
 · have hu := U_pos 0
   exact ⟨0, 0, ⟨by rw [fval_zero]; rw [show ((0 : Int) : Rat) = 0 from rfl]; grind, by rw [fval_zero]; grind, by rw [fval_zero]; grind, Or.inl rfl, by grind, by grind, by omega, by omega⟩, fun _ => rfl⟩
 · have hb := kept_bounds hl hh
   have e' : r = T * 4503599627370496 + k := by omega
   have hv := fval_rung T k hb.1 hb.2 (by omega)
   rw [← e'] at hv
   have hU := half_unit T
   have hu := p2_pos ((T : Int) - 1075)
   obtain ⟨l1, l2⟩ := hl
   obtain ⟨s1, s2, s3, s4⟩ := hh
   rw [show ((18014398509481984 : Int) : Rat) = 18014398509481984 from rfl] at l2
   rw [show ((9007199254740992 : Int) : Rat) = 9007199254740992 from rfl] at l1
   have e1 : ((2 * (k : Int) - 1 : Int) : Rat) = 2 * ((k : Nat) : Rat) - 1 := by rw [Rat.intCast_sub, Rat.intCast_mul]; rfl
   have e2 : ((2 * (k : Int) + 1 : Int) : Rat) = 2 * ((k : Nat) : Rat) + 1 := by rw [Rat.intCast_add, Rat.intCast_mul]; rfl
   rw [e1] at s1 s3
   rw [e2] at s2 s4
   have kv : ((k : Nat) : Rat) * U T = 2 * (((k : Nat) : Rat) * p2 ((T : Int) - 1075)) := by rw [hU]; grind
   have z1 : (2 * ((k : Nat) : Rat) - 1) * p2 ((T : Int) - 1075) = 2 * (((k : Nat) : Rat) * p2 ((T : Int) - 1075)) - p2 ((T : Int) - 1075) := by grind
   have z2 : (2 * ((k : Nat) : Rat) + 1) * p2 ((T : Int) - 1075) = 2 * (((k : Nat) : Rat) * p2 ((T : Int) - 1075)) + p2 ((T : Int) - 1075) := by grind
   rw [z1] at s1 s3
   rw [z2] at s2 s4
   have hx : fval r = ((k : Int) : Rat) * U T := by rw [hv]; rfl
   rw [kv] at hv
   clear z1 z2 kv e1 e2 e e'
   generalize ((k : Nat) : Rat) * p2 ((T : Int) - 1075) = Z at *
   generalize p2 ((T : Int) - 1075) = h at *
   refine ⟨T, (k : Int), ⟨hx, by rw [hv, hU]; grind, by rw [hv, hU]; grind, ?_, by rw [hU]; grind, by rw [hU]; grind, by omega, by omega⟩, fun he => ?_⟩
   · rcases l1 with l1 | l1
     · exact Or.inl l1
     · exact Or.inr (Or.inl (by rw [hU]; grind))
   · rw [hv, hU] at he
     have : q = 2 * Z - h ∨ q = 2 * Z + h := by
       unfold ab at he
       split at he
       · left; grind
       · right; grind
     rcases this with h1 | h1
     · have := s3 h1; omega
     · have := s4 h1; omega
theorem RndE.neg {q x : Rat} {T : Nat} {k : Int} (h : RndE q x T k) : RndE (-q) (-x) T (-k) := by
 refine ⟨h.1.neg, fun he => ?_⟩
 have := h.2 (by rw [← he, show -q - -x = -(q - x) by grind, ab_neg])
 omega
theorem rv_rndE {q x : Rat} (h : RV q x) : ∃ T k, RndE q x T k := by
 obtain ⟨r, hr, h⟩ := h
 rcases h with ⟨_, n, rfl⟩ | ⟨_, n, rfl⟩
 · exact near_rndE n hr
 · obtain ⟨T, k, R⟩ := near_rndE n hr
   have := R.neg
   rw [show - -q = q by grind] at this
   exact ⟨T, _, this⟩
structure ZS (top : Nat) (S : Rat) (ds : List Nat) (k : Nat) (bs : List Nat) (c : Nat) : Prop where
 inv : ZInv top S (vals bs.reverse) (fval c) (vals (ds.take (ds.length - k)))
 fin : Fin64 c
 fb : ∀ b ∈ bs, Fin64 b
theorem ZS.tame {top : Nat} {S : Rat} {ds : List Nat} {k : Nat} {bs : List Nat} {c x : Nat} (I : ZS top S ds k bs c) (ht : top ≤ 2074) (hx : Fin64 x) (hm : x ∈ ds.take (ds.length - k)) : TameW c x := by
 obtain ⟨p, r1, r2, r3, r4⟩ := I.inv.room
 have u := U_mono (show p ≤ 2074 by omega)
 have hp := I.inv.exl
 have hxc := (List.pairwise_append.1 hp.1).2.2 (fval x) (by simp only [vals, List.mem_map]; exact ⟨x, hm, rfl⟩) (fval c) (by simp)
 have := hxc.lt (hp.2 (fval c) (by simp))
 exact ⟨tame_of I.fin (by grind), tame_of hx (by grind)⟩
theorem take_last {ds : List Nat} {k : Nat} (h : k < ds.length) : ds.take (ds.length - k) = ds.take (ds.length - (k + 1)) ++ [ds.getD (ds.length - 1 - k) 0] := by
 have h2 : ds.length - 1 - k < ds.length := by omega
 rw [show ds.length - k = (ds.length - (k + 1)) + 1 by omega, List.take_add_one, show ds.length - (k + 1) = ds.length - 1 - k by omega]
 simp [List.getD, h2]
theorem ZS.step {top : Nat} {S : Rat} {ds : List Nat} {k : Nat} {bs : List Nat} {c s r : Nat} (I : ZS top S ds k bs c) (ht : top ≤ 2074) (hk : k < ds.length) (hf : ∀ b ∈ ds, Fin64 b)
   (p : Pair (TameW c (ds.getD (ds.length - 1 - k) 0)) (fval c + fval (ds.getD (ds.length - 1 - k) 0)) s r) : (frung r = 0 → ZS top S ds (k + 1) bs s) ∧ (frung r ≠ 0 → ZS top S ds (k + 1) (bs ++ [s]) r) := by
 have hx : Fin64 (ds.getD (ds.length - 1 - k) 0) := hf _ (by
   have h2 : ds.length - 1 - k < ds.length := by omega
   rw [show ds.getD (ds.length - 1 - k) 0 = ds[ds.length - 1 - k] by simp [List.getD, h2]]
   exact List.getElem_mem h2)
 have tm := I.tame ht hx (by rw [take_last hk]; simp)
 have J := I.inv
 rw [take_last hk] at J
 simp only [vals, List.map_append, List.map_cons, List.map_nil] at J
 obtain ⟨fs, fr, ls, lr, ⟨_, rv, e⟩ | ⟨cn, _⟩⟩ := p
 · constructor
   · intro h0
     have z : fval r = 0 := fval_zero_iff.2 h0
     have es : fval s = fval c + fval (ds.getD (ds.length - 1 - k) 0) := by rw [← e, z]; grind
     refine ⟨?_, fs, I.fb⟩
     rw [es]
     exact J.take (by rw [← es]; exact F_fval fs)
   · intro h0
     obtain ⟨T, kk, R⟩ := rv_rndE rv
     have J2 := J.emit R e (F_fval fr) (fun z => h0 (fval_zero_iff.1 z))
     refine ⟨?_, fr, fun b hb => ?_⟩
     · rw [List.reverse_append]
       simpa [vals] using J2
     · rcases List.mem_append.1 hb with hb | hb
       · exact I.fb b hb
       · rw [List.mem_singleton.1 hb]; exact fs
 · exact absurd tm cn
theorem ZS.start {top : Nat} {ds : List Nat} {c : Nat} (h : Up top (ds ++ [c])) : ZS top ((vals (ds ++ [c])).sum) ds 0 [] c := by
 refine ⟨?_, h.fin c (by simp), by simp⟩
 rw [Nat.sub_zero, List.take_length]
 have := ZInv.start (top := top) (c := fval c) (lo := vals ds) (by have := h.ex; simpa [vals] using this) (fun x hx => by
   have : x ∈ vals (ds ++ [c]) := by simpa [vals] using hx
   obtain ⟨b, hb, rfl⟩ := List.mem_map.1 this
   exact ⟨F_fval (h.fin b hb), h.lim b hb⟩)
 simpa [vals] using this
structure Sq (top : Nat) (S : Rat) (bs : List Nat) : Prop where
 ex : Ex (vals bs)
 fin : ∀ b ∈ bs, Fin64 b
 sum : (vals bs).sum = S
 cnt : 52 * bs.length ≤ top + 52
 lead : ∀ L, (vals bs).getLast? = some L → 1125899906842624 * ab (L - S) ≤ ab S ∧ ((0 < L ∧ 0 < S) ∨ (L < 0 ∧ S < 0))
theorem ZS.done {top : Nat} {S : Rat} {ds bs : List Nat} {k c : Nat} (I : ZS top S ds k bs c) (hk : k = ds.length) : Sq top S (bs ++ [c]).reverse := by
 have J := I.inv
 rw [hk, Nat.sub_self, List.take_zero] at J
 rw [List.reverse_append, List.reverse_singleton, List.singleton_append]
 have J' : ZInv top S (vals bs.reverse) (fval c) [] := J
 obtain ⟨h1, h2, h3, h4⟩ := J'.done
 refine ⟨h1, fun b hb => ?_, h2, ?_, fun L hL => J'.lead hL⟩
 · rcases List.mem_cons.1 hb with rfl | hb
   · exact I.fin
   · exact I.fb b (by simpa using hb)
 · simpa [vals] using h4
theorem Sq.nil (top : Nat) : Sq top 0 [] := ⟨⟨List.Pairwise.nil, by simp [vals]⟩, by simp, by simp [vals], by simp, by simp [vals]⟩
end

/- Package expand: a list squeezed: what lies in memory. -/
section
open Go.RowKit Go.Shelf
structure K4 (w W W' : World) : Prop where
 bel : Below w.heap.size W W'
 box : W'.heap[w.heap.size + 1 + 1 + 1]? = W.heap[w.heap.size + 1 + 1 + 1]?
 oth : KeepsOthers W W'
theorem K4.refl (w W : World) : K4 w W W := ⟨Below.refl _ _, rfl, KeepsOthers.refl _⟩
theorem K4.trans {w A B C : World} (h : K4 w A B) (k : K4 w B C) : K4 w A C := ⟨h.bel.trans k.bel, k.box.trans h.box, h.oth.trans k.oth⟩
theorem K4.set {w W : World} {a : Addr} (h1 : w.heap.size ≤ a.block) (h2 : a.block ≠ w.heap.size + 1 + 1 + 1) (v : Value) : K4 w W (W.setCell a v) :=
 ⟨(Below.refl _ _).setCell h1 v, Below.heap_setCell W a v _ (Ne.symm h2), KeepsOthers.setCell W a v⟩
theorem K4.below {w W W' : World} (h : Below W.heap.size W W') (hs : w.heap.size + 4 ≤ W.heap.size) : K4 w W W' :=
 ⟨h.mono (by omega), h.block _ (by omega), ⟨h.size, fun k o hk _ => (h.block k (Array.getElem?_eq_some_iff.1 hk).1).trans hk⟩⟩
end

/- What the laws of order and of the ring ask, in plain numbers. -/
section
end

/- The floats of greater numbers are not less. -/
section
theorem near_self {r : Nat} (h : r < 9218868437227405312) : Near (fval r) r := by
 rw [(fval_pos_lt h).1]
 by_cases h0 : r = 0
 · subst h0
   left
   exact ⟨by rw [show fmag 0 = 0 by decide]; simp, rfl⟩
 by_cases h1 : r < 4503599627370496
 · have e1 : fmag r = r := by unfold fmag; rw [if_pos h1]
   have e2 : fpl r = -1074 := by unfold fpl; rw [if_pos h1]
   rw [e1, e2]
   have hu := p2_pos (((0 : Nat) : Int) - 1075)
   have eq : ((r : Nat) : Rat) * p2 (-1074) = ((2 * (r : Int) : Int) : Rat) * p2 (((0 : Nat) : Int) - 1075) := by
     rw [show (-1074 : Int) = 1 + (((0 : Nat) : Int) - 1075) by omega, p2_add, p2_one, Rat.intCast_mul]
     have : ((2 : Int) : Rat) = 2 := rfl
     have t : (((r : Nat) : Int) : Rat) = ((r : Nat) : Rat) := rfl
     rw [this, t]; grind
   have hp : 0 < ((r : Nat) : Rat) * p2 (-1074) := by
     rw [eq]
     have := lt_int hu (show (0 : Int) < 2 * (r : Int) by omega)
     rwa [show ((0 : Int) : Rat) = 0 from rfl, Rat.zero_mul] at this
   have := near_exact (T := 0) (k := r) hp ⟨Or.inl rfl, by rw [eq]; exact lt_int hu (by omega)⟩ eq (by omega)
   rwa [Nat.zero_mul, Nat.zero_add] at this
 · have e1 : fmag r = 4503599627370496 + r % 4503599627370496 := by unfold fmag; rw [if_neg h1]
   obtain ⟨T, hT⟩ : ∃ T : Nat, r / 4503599627370496 = T + 1 := ⟨r / 4503599627370496 - 1, by omega⟩
   have e2 : fpl r = (T : Int) - 1074 := by unfold fpl; rw [if_neg h1, hT]; omega
   have hr := Nat.div_add_mod r 4503599627370496
   have hm := Nat.mod_lt r (show 4503599627370496 > 0 by omega)
   rw [hT] at hr
   rw [e1, e2]
   generalize r % 4503599627370496 = u at *
   obtain ⟨k, hk⟩ : ∃ k, 4503599627370496 + u = k := ⟨_, rfl⟩
   have hrk : T * 4503599627370496 + k = r := by omega
   rw [hk, ← hrk]
   exact near_norm T k _ (by omega) (by omega) (by omega) rfl
end

/- A box that is written anew. -/
section
open Go
end
end Go.Proofs.YtejhinjanjlplaaDoor
