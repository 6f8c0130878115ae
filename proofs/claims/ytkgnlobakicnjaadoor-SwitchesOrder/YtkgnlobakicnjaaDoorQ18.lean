/- Own texts, put together: Xb. -/
import Derived.Test.YtkgnlobakicnjaaDoorQ14
/- Two lists that rise and do not overlap, joined: plain facts. -/
namespace Go.Proofs.YtkgnlobakicnjaaDoor
structure JInv (N : Nat) (de re df rf outs : List Rat) (Q q : Rat) : Prop where
 sum : Q + q + outs.sum = de.sum + df.sum
 ex : Ex outs
 e1 : Ex (de ++ re)
 e2 : Ex (df ++ rf)
 b1 : ∀ x ∈ de ++ re, F x ∧ ab x < U N
 b2 : ∀ x ∈ df ++ rf, F x ∧ ab x < U N
 b3 : ∀ h ∈ outs, F h ∧ ab h < U N
 low : ∀ h ∈ outs, Lo h Q ∧ Lo h q ∧ (∀ g ∈ re, Lo h g) ∧ (∀ g ∈ rf, Lo h g)
 o1 : ∀ x ∈ de, ∀ y ∈ rf, ab x ≤ ab y
 o2 : ∀ x ∈ df, ∀ y ∈ re, ab x ≤ ab y
 rq : ∃ T k, Rnd (Q + q) Q T k
 fq : F q
theorem Ex.left {a b : List Rat} (h : Ex (a ++ b)) : Ex a := ⟨(List.pairwise_append.1 h.1).1, fun x hx => h.2 x (by simp [hx])⟩
theorem Ex.right {a b : List Rat} (h : Ex (a ++ b)) : Ex b := ⟨(List.pairwise_append.1 h.1).2.1, fun x hx => h.2 x (by simp [hx])⟩
theorem JInv.size {N : Nat} {de re df rf outs : List Rat} {Q q : Rat} (I : JInv N de re df rf outs Q q) : ab (Q + q) < 3 * U N := by
 have h1 := I.e1.left.bound (s := N) (fun x hx => (I.b1 x (by simp [hx])).2)
 have h2 := I.e2.left.bound (s := N) (fun x hx => (I.b2 x (by simp [hx])).2)
 have h3 := I.ex.bound (s := N) (fun x hx => (I.b3 x hx).2)
 have h4 := I.sum
 have := ab_self de.sum
 have := ab_self df.sum
 have := ab_self outs.sum
 rw [ab_lt]; constructor <;> grind
theorem Rnd.rest_le' {a q x : Rat} {T : Nat} {k : Int} (R : Rnd (a + q) x T k) (ha : F a) : ab (a + q - x) ≤ ab q := by
 have := ab_self q
 have h := R.best (c := ab q) ha (by grind) (by grind)
 rw [ab_le]; constructor <;> grind
theorem Rnd.half {q x : Rat} {T : Nat} {k : Int} (R : Rnd q x T k) : 2 * ab (q - x) ≤ U T := by
 have h1 := R.h1
 have h2 := R.h2
 unfold ab; split <;> grind
theorem Rnd.rest_lo {q x : Rat} {T : Nat} {k : Int} (R : Rnd q x T k) : Lo (q - x) x := by
 have h := R.half
 have hu := U_pos T
 have := ab_nonneg (q - x)
 exact ⟨T, by grind, R.m⟩
theorem Rnd.unit_le {q x : Rat} {T K : Nat} {k : Int} (R : Rnd q x T k) (h : ab q < U K) (hT : T ≠ 0) : T + 52 < K := by
 have h1 : U (T + 52) < U K := by
   rw [U_add]
   have e : ((2 ^ 52 : Nat) : Rat) = 4503599627370496 := by decide +kernel
   rw [e]
   have := ab_lt.1 h
   rcases R.h3 with h3 | h3 | h3
   · exact absurd h3 hT
   · grind
   · grind
 exact U_lt_iff.1 h1
theorem Rnd.at0 {q x : Rat} {k : Int} (R : Rnd q x 0 k) (h : M (U 0) q) : x = q := R.mult h
theorem join_core {K : Nat} {Q q g R h : Rat} {T T' : Nat} {k k' : Int} (hA : ab (Q + q) < U (K + 2)) (RQ : Rnd (Q + q) Q T k) (fq : F q) (fg : F g) (fQ : F Q) (hg1 : U K ≤ ab g) (hg2 : ab g < U (K + 1)) (RR : Rnd (g + q) R T' k') (hh : h = g + q - R) (h0 : h ≠ 0) :
   ab h < U (K - 52) ∧ ab h ≤ ab q ∧ Lo h R ∧ Lo h Q := by
 have hq := RQ.half
 rw [show Q + q - Q = q by grind] at hq
 have hle := RR.rest_le' fg
 rw [← hh] at hle
 have hlR := RR.rest_lo
 rw [← hh] at hlR
 have hT : T ≠ 0 := by
   intro e
   subst e
   have := RQ.mult ((F.mult0 fQ).add (F.mult0 fq))
   have hq0 : q = 0 := by grind
   subst hq0
   have : R = g := by
     have := RR.exact (by rw [Rat.add_zero]; exact fg)
     grind
   exact h0 (by grind)
 have hTK := RQ.unit_le hA hT
 have hT' : T' ≠ 0 := by
   intro e
   subst e
   have := RR.mult ((F.mult0 fg).add (F.mult0 fq))
   exact h0 (by grind)
 have hK : U T ≤ 2 * U (K - 52) := by
   rw [← U_succ]; exact U_mono (by omega)
 have hgm := (F.mult fg hg1).room (by omega : K - 52 ≤ K + 1) hg2
 have hu := U_pos T
 have hx : ab (g + q) ≤ U (K + 1) := by
   have := ab_add g q
   grind
 have hne : ab (g + q) ≠ U (K + 1) := by
   intro e
   have hf : F (g + q) := by
     unfold ab at e
     split at e
     · exact ⟨K + 1, -1, by rw [show ((-1 : Int) : Rat) = -1 from rfl]; grind, by omega, by omega⟩
     · exact ⟨K + 1, 1, by rw [one_rat]; grind, by omega, by omega⟩
   have := RR.exact hf
   exact h0 (by grind)
 have hT2 := RR.unit_le (K := K + 1) (by grind) hT'
 have hh2 := RR.half
 rw [← hh] at hh2
 have hu' := U_pos T'
 have hK' : U T' ≤ U (K - 52) := U_mono (by omega)
 have := ab_nonneg h
 refine ⟨by grind, hle, hlR, T, ?_, RQ.m⟩
 have := ab_nonneg q
 grind
def grownR (l : List Rat) (h : Rat) : List Rat := if h = 0 then l else l ++ [h]
theorem Ex.grow {l : List Rat} {h : Rat} (hl : Ex l) (hh : ∀ x ∈ l, Lo x h) : Ex (grownR l h) := by
 unfold grownR
 split
 · exact hl
 · rename_i h0
   refine ⟨List.pairwise_append.2 ⟨hl.1, by simp, fun x hx y hy => ?_⟩, fun x hx => ?_⟩
   · simp at hy; rw [hy]; exact hh x hx
   · rcases List.mem_append.1 hx with hx | hx
     · exact hl.2 x hx
     · simp at hx; rw [hx]; exact h0
theorem sum_grow (l : List Rat) (h : Rat) : (grownR l h).sum = l.sum + h := by
 unfold grownR
 split
 · rename_i e; rw [e]; grind
 · rw [List.sum_append, List.sum_cons, List.sum_nil, Rat.add_zero]
theorem mem_grow {l : List Rat} {h x : Rat} (hx : x ∈ grownR l h) : x ∈ l ∨ (x = h ∧ h ≠ 0) := by
 unfold grownR at hx
 split at hx
 · exact Or.inl hx
 · rename_i h0
   rcases List.mem_append.1 hx with hx | hx
   · exact Or.inl hx
   · simp at hx; exact Or.inr ⟨hx, h0⟩
theorem JInv.step {N : Nat} {de re df rf outs : List Rat} {Q q g R h Q' q' : Rat} {T1 T2 : Nat} {k1 k2 : Int} (I : JInv N de (g :: re) df rf outs Q q) (hmin : ∀ y ∈ rf, ab g ≤ ab y)
   (RR : Rnd (g + q) R T1 k1) (hh : R + h = g + q) (fh : F h) (RQ : Rnd (Q + R) Q' T2 k2) (hq' : Q' + q' = Q + R) (fq' : F q') : JInv N (de ++ [g]) re df rf (grownR outs h) Q' q' := by
 obtain ⟨TQ, kQ, RQ0⟩ := I.rq
 have hg := I.b1 g (by simp)
 have g0 : g ≠ 0 := I.e1.2 g (by simp)
 obtain ⟨K, _, hK1, hK2⟩ := binade (F.mult0 hg.1) g0
 have hpw := List.pairwise_append.1 I.e1.1
 have hgr : ∀ y ∈ re, Lo g y := fun y hy => (List.pairwise_cons.1 hpw.2.1).1 y hy
 have hdg : ∀ x ∈ de, Lo x g := fun x hx => hpw.2.2 x hx g (by simp)
 have hA : ab (Q + q) < U (K + 2) := by
   have h1 := I.e1.left.bound (s := K) (fun x hx => by
     obtain ⟨t, a, b⟩ := hdg x hx
     have h1 := b.ge (U_pos t) g0
     have h2 : U t < U (K + 1) := by grind
     have h3 := U_mono (show t ≤ K by have := U_lt_iff.1 h2; omega)
     grind)
   have h2 := I.e2.left.bound (s := K + 1) (fun x hx => by have := I.o2 x hx g (by simp); grind)
   have h3 := I.ex.bound (s := K) (fun x hx => by
     obtain ⟨t, a, b⟩ := (I.low x hx).2.2.1 g (by simp)
     have h1 := b.ge (U_pos t) g0
     have h2 : U t < U (K + 1) := by grind
     have h3 := U_mono (show t ≤ K by have := U_lt_iff.1 h2; omega)
     grind)
   have h4 := I.sum
   have := ab_self de.sum
   have := ab_self df.sum
   have := ab_self outs.sum
   have e1 := U_succ K
   have e2 := U_succ (K + 1)
   rw [ab_lt]; constructor <;> grind
 have hlow : ∀ x ∈ outs, Lo x R ∧ Lo x h ∧ Lo x Q' ∧ Lo x q' := by
   intro x hx
   have a := (I.low x hx).2.1
   have b := (I.low x hx).2.2.1 g (by simp)
   have c := (b.add a).rnd RR
   have d := (b.add a).sub c
   rw [show g + q - R = h by grind] at d
   have e := ((I.low x hx).1.add c).rnd RQ
   have f := ((I.low x hx).1.add c).sub e
   rw [show Q + R - Q' = q' by grind] at f
   exact ⟨c, d, e, f⟩
 have hnew : h ≠ 0 → ab h < U N ∧ Lo h Q' ∧ Lo h q' ∧ (∀ y ∈ re, Lo h y) ∧ (∀ y ∈ rf, Lo h y) := by
   intro h0
   obtain ⟨c1, c2, c3, c4⟩ := join_core hA RQ0 I.fq hg.1 RQ0.f hK1 hK2 RR (by grind) h0
   have e := (c4.add c3).rnd RQ
   have f := (c4.add c3).sub e
   rw [show Q + R - Q' = q' by grind] at f
   have hKN : U (K - 52) ≤ U N := by
     have h1 := U_mono (show K - 52 ≤ K by omega)
     have := hg.2
     grind
   refine ⟨by grind, e, f, fun y hy => ?_, fun y hy => ?_⟩
   · have h1 := (hgr y hy).lt (I.e1.2 y (by simp [hy]))
     exact ⟨K - 52, c1, F.mult (I.b1 y (by simp [hy])).1 (by grind)⟩
   · have h1 := hmin y hy
     exact ⟨K - 52, c1, F.mult (I.b2 y (by simp [hy])).1 (by grind)⟩
 refine ⟨?_, I.ex.grow (fun x hx => (hlow x hx).2.1), ?_, I.e2, ?_, I.b2, ?_, ?_, ?_, ?_, ⟨T2, k2, by rw [hq']; exact RQ⟩, fq'⟩
 · rw [sum_grow, List.sum_append]
   have := I.sum
   simp only [List.sum_cons, List.sum_nil]
   grind
 · have := I.e1
   rwa [List.append_cons] at this
 · intro x hx
   exact I.b1 x (by simp at hx ⊢; grind)
 · intro x hx
   rcases mem_grow hx with hx | ⟨rfl, h0⟩
   · exact I.b3 x hx
   · exact ⟨fh, (hnew h0).1⟩
 · intro x hx
   rcases mem_grow hx with hx | ⟨rfl, h0⟩
   · exact ⟨(hlow x hx).2.2.1, (hlow x hx).2.2.2, fun y hy => (I.low x hx).2.2.1 y (by simp [hy]), (I.low x hx).2.2.2⟩
   · exact (hnew h0).2
 · intro x hx y hy
   rcases List.mem_append.1 hx with hx | hx
   · exact I.o1 x hx y hy
   · simp at hx; rw [hx]; exact hmin y hy
 · intro x hx y hy
   exact I.o2 x hx y (by simp [hy])
theorem JInv.done {N : Nat} {de df outs : List Rat} {Q q : Rat} (I : JInv N de [] df [] outs Q q) : Ex (grownR (grownR outs q) Q) ∧ (grownR (grownR outs q) Q).sum = de.sum + df.sum ∧ (∀ x ∈ grownR (grownR outs q) Q, F x) := by
 obtain ⟨T, k, R⟩ := I.rq
 refine ⟨(I.ex.grow (fun x hx => (I.low x hx).2.1)).grow (fun x hx => ?_), ?_, fun x hx => ?_⟩
 · rcases mem_grow hx with hx | ⟨rfl, _⟩
   · exact (I.low x hx).1
   · have := R.rest_lo
     rwa [show Q + x - Q = x by grind] at this
 · rw [sum_grow, sum_grow]
   have := I.sum
   grind
 · rcases mem_grow hx with hx | ⟨rfl, _⟩
   · rcases mem_grow hx with hx | ⟨rfl, _⟩
     · exact (I.b3 x hx).1
     · exact I.fq
   · exact R.f
end Go.Proofs.YtkgnlobakicnjaaDoor
