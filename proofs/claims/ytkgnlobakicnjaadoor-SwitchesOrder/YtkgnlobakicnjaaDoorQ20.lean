/- Own texts, put together: Xc Xd Oa Et Ew Ex Xe Ha Hc Xf Xg Ob Jb Jc. -/
import Derived.Test.YtkgnlobakicnjaaDoorQ6
import Derived.Test.YtkgnlobakicnjaaDoorQ13
import Derived.Test.YtkgnlobakicnjaaDoorQ14
import Derived.Test.YtkgnlobakicnjaaDoorQ15
import Derived.Test.YtkgnlobakicnjaaDoorQ17
import Derived.Test.YtkgnlobakicnjaaDoorQ18
import Derived.Test.YtkgnlobakicnjaaDoorQ19
import Derived.Deep.AppendLies
import Derived.OwnWalk
import Derived.Maps.AppendAt
namespace Go.Proofs.YtkgnlobakicnjaaDoor
/- A list that rises and does not overlap, times a float: plain facts. -/
section
theorem U_mulX' {s t r : Nat} (h : r + 1074 = s + t) : U s * U t = U r := by
 unfold U
 rw [← p2_add, show (s : Int) - 1074 + ((t : Int) - 1074) = (r : Int) - 1074 by omega]
theorem U_mulX {s t : Nat} (h : 1074 ≤ s + t) : U s * U t = U (s + t - 1074) := U_mulX' (by omega)
theorem M.mul {u v x y : Rat} (h1 : M u x) (h2 : M v y) : M (u * v) (x * y) := by
 obtain ⟨j, rfl⟩ := h1
 obtain ⟨k, rfl⟩ := h2
 exact ⟨j * k, by rw [Rat.intCast_mul]; grind⟩
theorem ab_mul (x y : Rat) : ab (x * y) = ab x * ab y := by
 have key : ∀ a b : Rat, 0 ≤ a → 0 ≤ b → ab (a * b) = a * b := by
   intro a b ha hb
   have := Rat.mul_nonneg ha hb
   unfold ab; rw [if_neg (by grind)]
 have hx : x = ab x ∨ x = -ab x := by unfold ab; split <;> grind
 have hy : y = ab y ∨ y = -ab y := by unfold ab; split <;> grind
 have hk := key (ab x) (ab y) (ab_nonneg x) (ab_nonneg y)
 rcases hx with hx | hx <;> rcases hy with hy | hy
 · rw [← hx, ← hy] at hk
   rw [← hx, ← hy]; exact hk
 · have e : x * y = -(ab x * ab y) := by rw [← hx]; grind
   rw [e, ab_neg, hk]
 · have e : x * y = -(ab x * ab y) := by rw [← hy]; grind
   rw [e, ab_neg, hk]
 · have e : x * y = ab x * ab y := by grind
   rw [e, hk]
theorem lo_many {y : Rat} {l : List Rat} (h : ∀ d ∈ l, Lo d y) (hne : l ≠ []) : ∃ t, (∀ d ∈ l, ab d < U t) ∧ M (U t) y := by
 induction l with
 | nil => exact absurd rfl hne
 | cons d r ih =>
   obtain ⟨s, a, b⟩ := h d (by simp)
   by_cases e : r = []
   · subst e
     exact ⟨s, fun z hz => by simp at hz; rw [hz]; exact a, b⟩
   · obtain ⟨t, c, m⟩ := ih (fun z hz => h z (by simp [hz])) e
     rcases Nat.le_total s t with e | e
     · have := U_mono e
       exact ⟨t, fun z hz => by
         rcases List.mem_cons.1 hz with rfl | hz
         · grind
         · exact c z hz, m⟩
     · have := U_mono e
       exact ⟨s, fun z hz => by
         rcases List.mem_cons.1 hz with rfl | hz
         · exact a
         · have := c z hz; grind, b⟩
theorem Rnd.le_pow {q x : Rat} {T p : Nat} {k : Int} (R : Rnd q x T k) (h : ab q < U p) : ab x ≤ U p := by
 have hu := U_pos T
 have h1 := R.h1
 have h2 := R.h2
 have hq := ab_lt.1 h
 by_cases hT : T ≤ p
 · have hp : M (U T) (U p) := M.down hT ⟨1, by rw [one_rat]; grind⟩
   have key : ∀ z : Rat, M (U T) z → 2 * (z - U p) < U T → z ≤ U p := by
     intro z hz hlt
     rcases (Rat.le_total : z ≤ U p ∨ U p ≤ z) with h | h
     · exact h
     · have := M.eq hu hz hp (by grind) (by grind)
       grind
   exact ab_le.2 ⟨key x R.m (by grind), key (-x) R.m.neg (by grind)⟩
 · exfalso
   have h3 : T ≠ 0 := by omega
   have := R.unit_le h h3
   omega
structure SInv (b : Rat) (B : Nat) (de re outs : List Rat) (Q : Rat) : Prop where
 sum : Q + outs.sum = de.sum * b
 ex : Ex outs
 fo : ∀ h ∈ outs, F h
 low : ∀ h ∈ outs, Lo h Q
 hb : ∀ s, (∀ d ∈ de, ab d < U s) → 572 ≤ s → ∀ h ∈ outs, ab h < U s * U B
 qb : ∀ s, (∀ d ∈ de, ab d < U s) → 572 ≤ s → ab Q ≤ U s * U (B + 53)
 fQ : F Q
 ee : Ex (de ++ re)
 fe : ∀ x ∈ re, F x ∧ U 624 ≤ ab x
theorem SInv.unit {b Q x : Rat} {B : Nat} {de re outs : List Rat} (I : SInv b B de (x :: re) outs Q) : ∃ s, 572 ≤ s ∧ (∀ d ∈ de, ab d < U s) ∧ M (U s) x ∧ ab x < U (s + 53) ∧ x ≠ 0 ∧ U s ≤ ab x := by
 have x0 : x ≠ 0 := I.ee.2 x (by simp)
 obtain ⟨fx, hx⟩ := I.fe x (by simp)
 obtain ⟨K, _, h1, h2⟩ := binade (F.mult0 fx) x0
 have hK : 624 ≤ K := by
   have : U 624 < U (K + 1) := by grind
   have := U_lt_iff.1 this
   omega
 have hdx : ∀ d ∈ de, Lo d x := fun d hd => (List.pairwise_append.1 I.ee.1).2.2 d hd x (by simp)
 by_cases e : de = []
 · subst e
   have hm := F.mult fx h1
   exact ⟨K - 52, by omega, by simp, hm, by rw [show K - 52 + 53 = K + 1 by omega]; exact h2, x0, hm.ge (U_pos _) x0⟩
 · obtain ⟨t, ht, hm⟩ := lo_many hdx e
   rcases Nat.le_total t (K - 52) with h | h
   · have hm := F.mult fx h1
     have := U_mono h
     exact ⟨K - 52, by omega, fun d hd => by have := ht d hd; grind, hm, by rw [show K - 52 + 53 = K + 1 by omega]; exact h2, x0, hm.ge (U_pos _) x0⟩
   · have := U_mono (show K + 1 ≤ t + 53 by omega)
     exact ⟨t, by omega, ht, hm, by grind, x0, hm.ge (U_pos _) x0⟩
theorem scale_bounds {b Q x T t : Rat} {B s TT : Nat} {k : Int} (hB : 572 ≤ B) (hs : 572 ≤ s) (mb : M (U B) b) (bb : ab b < U (B + 53)) (mx : M (U s) x) (xb : ab x < U (s + 53)) (qb : ab Q ≤ U s * U (B + 53)) (RT : Rnd (x * b) T TT k) (hT : T + t = x * b) :
   ab t ≤ U (s + B - 1074 + 52) ∧ ab (Q + t) < U (s + B - 1074 + 54) ∧ Lo t T ∧ ab (x * b) < U (s + B - 1074 + 106) := by
 have e1 : U s * U (B + 53) = U (s + B - 1074 + 53) := U_mulX' (by omega)
 have e2 : U (s + 53) * U (B + 53) = U (s + B - 1074 + 106) := U_mulX' (by omega)
 have hxb : ab (x * b) < U (s + B - 1074 + 106) := by
   rw [ab_mul, ← e2]
   have h1 := Rat.mul_le_mul_of_nonneg_right (Rat.le_of_lt xb) (ab_nonneg b)
   have h2 := Rat.mul_lt_mul_of_pos_left bb (U_pos (s + 53))
   grind
 have hl := RT.rest_lo
 have hh := RT.half
 rw [show x * b - T = t by grind] at hl hh
 have ht : ab t ≤ U (s + B - 1074 + 52) := by
   by_cases h0 : TT = 0
   · subst h0
     have hm : M (U 0) (x * b) := by
       have := mx.mul mb
       rw [U_mulX (by omega)] at this
       exact this.down (Nat.zero_le _)
     have := RT.mult hm
     have h0 : t = 0 := by grind
     have := U_pos (s + B - 1074 + 52)
     rw [ab_le]; constructor <;> grind
   · have h1 := RT.unit_le hxb h0
     have h2 := U_mono (show TT ≤ (s + B - 1074 + 52) + 1 by omega)
     rw [U_succ] at h2
     grind
 refine ⟨ht, ?_, hl, hxb⟩
 have h1 := ab_add Q t
 have h2 := U_succ (s + B - 1074 + 53)
 have h3 := U_succ (s + B - 1074 + 52)
 have := U_pos (s + B - 1074 + 52)
 rw [e1] at qb
 grind
theorem SInv.step {b Q x T t Q1 h1 Q2 h2 : Rat} {B : Nat} {de re outs : List Rat} {TT T1 T2 : Nat} {kT k1 k2 : Int} (I : SInv b B de (x :: re) outs Q) (hB : 572 ≤ B) (mb : M (U B) b) (bb : ab b < U (B + 53))
   (RT : Rnd (x * b) T TT kT) (hT : T + t = x * b) (ft : F t) (R1 : Rnd (Q + t) Q1 T1 k1) (e1 : Q1 + h1 = Q + t) (f1 : F h1) (R2 : Rnd (T + Q1) Q2 T2 k2) (e2 : Q2 + h2 = T + Q1) (f2 : F h2) : SInv b B (de ++ [x]) re (grownR (grownR outs h1) h2) Q2 := by
 obtain ⟨s, hs, hd, mx, xb, x0, sx⟩ := I.unit
 have hqs := I.qb s hd hs
 obtain ⟨c1, c2, c3, c4⟩ := scale_bounds hB hs mb bb mx xb hqs RT hT
 have mxb : M (U s * U B) (x * b) := mx.mul mb
 -- the elder ones
 have old : ∀ h ∈ outs, Lo h T ∧ Lo h Q1 ∧ Lo h h1 ∧ Lo h Q2 ∧ Lo h h2 := by
   intro h hh
   have a : Lo h (x * b) := ⟨s + B - 1074, by rw [← U_mulX (by omega)]; exact I.hb s hd hs h hh, by rw [← U_mulX (by omega)]; exact mxb⟩
   have a1 := a.rnd RT
   have a2 := a.sub a1
   rw [show x * b - T = t by grind] at a2
   have a3 := ((I.low h hh).add a2).rnd R1
   have a4 := ((I.low h hh).add a2).sub a3
   rw [show Q + t - Q1 = h1 by grind] at a4
   have a5 := (a1.add a3).rnd R2
   have a6 := (a1.add a3).sub a5
   rw [show T + Q1 - Q2 = h2 by grind] at a6
   exact ⟨a1, a3, a4, a5, a6⟩
 -- what is rounded off first
 have first : h1 ≠ 0 → ab h1 ≤ U (s + B - 1074) ∧ Lo h1 Q2 ∧ Lo h1 h2 := by
   intro h0
   have a1 := R1.rest_le' I.fQ
   have a2 := R1.rest_lo
   have a3 := R1.half
   rw [show Q + t - Q1 = h1 by grind] at a1 a2 a3
   have hT1 : T1 ≠ 0 := by
     intro e
     subst e
     have := R1.mult ((F.mult0 I.fQ).add (F.mult0 ft))
     exact h0 (by grind)
   have u1 := R1.unit_le c2 hT1
   have u2 := U_mono (show T1 ≤ (s + B - 1074) + 1 by omega)
   rw [U_succ] at u2
   have a4 : Lo h1 T := by
     obtain ⟨r, ra, rb⟩ := c3
     exact ⟨r, by grind, rb⟩
   have a5 := (a4.add a2).rnd R2
   have a6 := (a4.add a2).sub a5
   rw [show T + Q1 - Q2 = h2 by grind] at a6
   exact ⟨by grind, a5, a6⟩
 have ex1 : Ex (grownR outs h1) := I.ex.grow (fun h hh => (old h hh).2.2.1)
 have low1 : ∀ h ∈ grownR outs h1, Lo h Q2 ∧ Lo h h2 := by
   intro h hh
   rcases mem_grow hh with hh | ⟨rfl, h0⟩
   · exact (old h hh).2.2.2
   · exact (first h0).2
 -- a unit above all that is done
 have up : ∀ s', (∀ d ∈ de ++ [x], ab d < U s') → s < s' := by
   intro s' h'
   have := h' x (by simp)
   have : U s < U s' := by grind
   exact U_lt_iff.1 this
 have hb1 : ∀ s', (∀ d ∈ de ++ [x], ab d < U s') → 572 ≤ s' → ∀ h ∈ grownR outs h1, ab h < U s' * U B := by
   intro s' h' hs' h hh
   rcases mem_grow hh with hh | ⟨rfl, h0⟩
   · exact I.hb s' (fun d hd => h' d (by simp [hd])) hs' h hh
   · have a := (first h0).1
     have l := up s' h'
     have := U_lt_iff.2 (show s + B - 1074 < s' + B - 1074 by omega)
     rw [U_mulX (by omega)]
     grind
 have sum1 : T + Q1 + (grownR outs h1).sum = (de ++ [x]).sum * b := by
   rw [sum_grow, List.sum_append, List.sum_cons, List.sum_nil, Rat.add_zero]
   have := I.sum
   grind
 have big : ∀ s', (∀ d ∈ de ++ [x], ab d < U s') → 572 ≤ s' → ab (T + Q1) < U (s' + B - 1074 + 53) := by
   intro s' h' hs'
   have a1 := ex1.bound (s := s' + B - 1074) (fun h hh => by rw [← U_mulX (by omega)]; exact hb1 s' h' hs' h hh)
   have e3 : Ex (de ++ [x]) := by
     have := I.ee
     rw [List.append_cons] at this
     exact this.left
   have a2 := e3.bound h'
   have a3 := mb.room (by omega) bb
   have a4 : ab ((de ++ [x]).sum * b) ≤ U (s' + B - 1074 + 53) - U (s' + B - 1074) := by
     rw [ab_mul]
     have b1 := Rat.mul_le_mul_of_nonneg_right (Rat.le_of_lt a2) (ab_nonneg b)
     have b2 := Rat.mul_le_mul_of_nonneg_left a3 (Rat.le_of_lt (U_pos s'))
     have b3 : U s' * U (B + 53) = U (s' + B - 1074 + 53) := U_mulX' (by omega)
     have b4 : U s' * U B = U (s' + B - 1074) := U_mulX (by omega)
     have b5 : U s' * (U (B + 53) - U B) = U s' * U (B + 53) - U s' * U B := by grind
     rw [b5, b3, b4] at b2
     grind
   have := ab_self ((de ++ [x]).sum * b)
   have := ab_self (grownR outs h1).sum
   rw [ab_lt]; constructor <;> grind
 refine ⟨?_, ex1.grow (fun h hh => (low1 h hh).2), ?_, ?_, ?_, ?_, R2.f, ?_, fun y hy => I.fe y (by simp [hy])⟩
 · rw [sum_grow]; grind
 · intro h hh
   rcases mem_grow hh with hh | ⟨rfl, _⟩
   · rcases mem_grow hh with hh | ⟨rfl, _⟩
     · exact I.fo h hh
     · exact f1
   · exact f2
 · intro h hh
   rcases mem_grow hh with hh | ⟨rfl, _⟩
   · exact (low1 h hh).1
   · have := R2.rest_lo
     rwa [show T + Q1 - Q2 = h by grind] at this
 · intro s' h' hs' h hh
   rcases mem_grow hh with hh | ⟨rfl, h0⟩
   · exact hb1 s' h' hs' h hh
   · have a1 := big s' h' hs'
     have hT2 : T2 ≠ 0 := by
       intro e
       subst e
       have := R2.mult ((F.mult0 RT.f).add (F.mult0 R1.f))
       exact h0 (by grind)
     have u1 := R2.unit_le a1 hT2
     have u2 := U_mono (show T2 ≤ s' + B - 1074 by omega)
     have a3 := R2.half
     rw [show T + Q1 - Q2 = h by grind] at a3
     have := ab_nonneg h
     have := U_pos (s' + B - 1074)
     rw [U_mulX (by omega)]
     grind
 · intro s' h' hs'
   have := R2.le_pow (big s' h' hs')
   rwa [show U s' * U (B + 53) = U (s' + B - 1074 + 53) from U_mulX' (by omega)]
 · have := I.ee
   rwa [List.append_cons] at this
theorem SInv.done {b Q : Rat} {B : Nat} {de outs : List Rat} (I : SInv b B de [] outs Q) : Ex (grownR outs Q) ∧ (grownR outs Q).sum = de.sum * b ∧ ∀ x ∈ grownR outs Q, F x := by
 refine ⟨I.ex.grow I.low, ?_, fun x hx => ?_⟩
 · rw [sum_grow, ← I.sum]; grind
 · rcases mem_grow hx with hx | ⟨rfl, _⟩
   · exact I.fo x hx
   · exact I.fQ
end

/- A list that rises and does not overlap, squeezed: plain facts. -/
section
structure ZInv (top : Nat) (S : Rat) (acc : List Rat) (c : Rat) (lo : List Rat) : Prop where
 sum : lo.sum + c + acc.sum = S
 exl : Ex (lo ++ [c])
 exa : Ex acc
 fl : ∀ x ∈ lo, F x
 fc : F c
 fa : ∀ x ∈ acc, F x
 room : ∃ p, ab (c + lo.sum) < U p ∧ ab c ≤ U p ∧ p + 52 * acc.length ≤ top ∧ ∀ o ∈ acc, M (U (p + 1)) o
 near : ∀ L, acc.getLast? = some L → ∃ P, U (P + 52) ≤ ab L ∧ ab (S - L) < U P
theorem ZInv.next {top p : Nat} {S c x : Rat} {acc lo : List Rat} (I : ZInv top S acc c (lo ++ [x])) (h1 : ab (c + (lo ++ [x]).sum) < U p) (h2 : ab c ≤ U p) : ab (c + x) ≤ U p := by
 rw [List.sum_append, List.sum_cons, List.sum_nil, Rat.add_zero] at h1
 have hp := I.exl
 have c0 : c ≠ 0 := hp.2 c (by simp)
 have pw := List.pairwise_append.1 hp.1
 have pw2 := List.pairwise_append.1 pw.1
 by_cases e : lo = []
 · subst e
   rw [List.sum_nil] at h1
   rw [show c + x = c + (0 + x) by grind]
   exact Rat.le_of_lt h1
 · obtain ⟨t, ht, hm⟩ := lo_many (y := c) (l := lo) (fun d hd => pw.2.2 d (by simp [hd]) c (by simp)) e
   obtain ⟨t', ht', hm'⟩ := lo_many (y := x) (l := lo) (fun d hd => pw2.2.2 d hd x (by simp)) e
   obtain ⟨r, hr, m1, m2⟩ : ∃ r, (∀ d ∈ lo, ab d < U r) ∧ M (U r) c ∧ M (U r) x := by
     rcases Nat.le_total t t' with e | e
     · exact ⟨t, ht, hm, hm'.down e⟩
     · exact ⟨t', ht', hm.down e, hm'⟩
   have hb := (Ex.left (b := [x]) ⟨pw.1, fun y hy => hp.2 y (by simp at hy ⊢; grind)⟩).bound hr
   have hrp : r ≤ p := by
     have := m1.ge (U_pos r) c0
     exact U_le_iff.1 (by grind)
   have m3 := m1.add m2
   have mp : M (U r) (U p) := M.down hrp ⟨1, by rw [one_rat]; grind⟩
   have hu := U_pos r
   have hs := ab_lt.1 h1
   have hl := ab_lt.1 hb
   have key : ∀ z : Rat, M (U r) z → z < U p + U r → z ≤ U p := by
     intro z hz hlt
     rcases (Rat.le_total : z ≤ U p ∨ U p ≤ z) with h | h
     · exact h
     · have := M.eq hu hz mp (by grind) (by grind)
       grind
   exact ab_le.2 ⟨key _ m3 (by grind), key _ m3.neg (by grind)⟩
theorem ZInv.tail {top : Nat} {S c x : Rat} {acc lo : List Rat} (I : ZInv top S acc c (lo ++ [x])) : Ex lo ∧ (∀ d ∈ lo, Lo d c ∧ Lo d x) ∧ Lo x c ∧ c ≠ 0 ∧ x ≠ 0 := by
 have hp := I.exl
 have pw := List.pairwise_append.1 hp.1
 have pw2 := List.pairwise_append.1 pw.1
 exact ⟨⟨pw2.1, fun y hy => hp.2 y (by simp [hy])⟩, fun d hd => ⟨pw.2.2 d (by simp [hd]) c (by simp), pw2.2.2 d hd x (by simp)⟩, pw.2.2 x (by simp) c (by simp), hp.2 c (by simp), hp.2 x (by simp)⟩
theorem Ex.snoc {l : List Rat} {x : Rat} (h : Ex l) (h1 : ∀ d ∈ l, Lo d x) (h0 : x ≠ 0) : Ex (l ++ [x]) :=
 ⟨List.pairwise_append.2 ⟨h.1, by simp, fun d hd y hy => by simp at hy; rw [hy]; exact h1 d hd⟩, fun y hy => by
   rcases List.mem_append.1 hy with hy | hy
   · exact h.2 y hy
   · simp at hy; rw [hy]; exact h0⟩
theorem Ex.cons {l : List Rat} {x : Rat} (h : Ex l) (h1 : ∀ d ∈ l, Lo x d) (h0 : x ≠ 0) : Ex (x :: l) :=
 ⟨List.pairwise_cons.2 ⟨h1, h.1⟩, fun y hy => by
   rcases List.mem_cons.1 hy with rfl | hy
   · exact h0
   · exact h.2 y hy⟩
theorem ZInv.take {top : Nat} {S c x : Rat} {acc lo : List Rat} (I : ZInv top S acc c (lo ++ [x])) (fs : F (c + x)) : ZInv top S acc (c + x) lo := by
 obtain ⟨el, hlo, hxc, c0, x0⟩ := I.tail
 obtain ⟨p, r1, r2, r3, r4⟩ := I.room
 have hn := I.next r1 r2
 refine ⟨?_, el.snoc (fun d hd => (hlo d hd).1.add (hlo d hd).2) ?_, I.exa, fun y hy => I.fl y (by simp [hy]), fs, I.fa, ⟨p, ?_, hn, r3, r4⟩, I.near⟩
 · rw [← I.sum, List.sum_append, List.sum_cons, List.sum_nil]; grind
 · intro e
   have := hxc.lt c0
   rw [show c = -x by grind, ab_neg] at this
   grind
 · rw [List.sum_append, List.sum_cons, List.sum_nil] at r1
   rwa [show c + x + lo.sum = c + (lo.sum + (x + 0)) by grind]
theorem M.even {T : Nat} {k : Int} {s : Rat} (h : s = (k : Rat) * U T) (he : k % 2 = 0) : M (U (T + 1)) s := by
 obtain ⟨j, rfl⟩ : ∃ j, k = j * 2 := ⟨k / 2, by omega⟩
 refine ⟨j, ?_⟩
 rw [h, U_succ, Rat.intCast_mul, show ((2 : Int) : Rat) = 2 from rfl]; grind
theorem ZInv.done {top : Nat} {S c : Rat} {acc : List Rat} (I : ZInv top S acc c []) : Ex (c :: acc) ∧ (c :: acc).sum = S ∧ (∀ x ∈ c :: acc, F x) ∧ 52 * (c :: acc).length ≤ top + 52 := by
 obtain ⟨p, r1, r2, r3, r4⟩ := I.room
 have c0 : c ≠ 0 := I.exl.2 c (by simp)
 have hlt : ab c < U (p + 1) := by
   have := U_succ p
   have := U_pos p
   grind
 refine ⟨I.exa.cons (fun o ho => ⟨p + 1, hlt, r4 o ho⟩) c0, ?_, ?_, ?_⟩
 · have := I.sum
   rw [List.sum_nil] at this
   rw [List.sum_cons]; grind
 · intro y hy
   rcases List.mem_cons.1 hy with rfl | hy
   · exact I.fc
   · exact I.fa y hy
 · rw [List.length_cons]; omega
end

/- Signs that are told fast, and differences as lists: plain facts. -/
section
theorem RN.rel {q x : Rat} {t : Nat} (h : RN q x) (hm : M (U t) q) : 9007199254740992 * ab (q - x) ≤ ab x := by
 obtain ⟨T, k, R⟩ := h
 rcases Nat.lt_or_ge t T with ht | ht
 · have hu := U_pos T
   have h1 := R.h1
   have h2 := R.h2
   have hx := R.hx
   have hd : 2 * ab (q - x) ≤ U T := by
     have : ab (q - x) ≤ U T / 2 := ab_le.2 ⟨by grind, by grind⟩
     grind
   have hk : 4503599627370496 * U T ≤ ab x := by
     rcases R.h3 with h | h | h
     · omega
     · have : (4503599627370495 : Int) < k := by
         apply cast_lt hu
         rw [← hx, show ((4503599627370495 : Int) : Rat) = 4503599627370495 from rfl]
         grind
       have h3 : (4503599627370496 : Int) ≤ k := by omega
       have h4 : ((4503599627370496 : Int) : Rat) * U T ≤ (k : Rat) * U T := Rat.mul_le_mul_of_nonneg_right (Rat.intCast_le_intCast.2 h3) (Rat.le_of_lt hu)
       rw [← hx, show ((4503599627370496 : Int) : Rat) = 4503599627370496 from rfl] at h4
       exact le_ab.2 (Or.inl h4)
     · have : k < (-4503599627370495 : Int) := by
         apply cast_lt hu
         rw [← hx, show ((-4503599627370495 : Int) : Rat) = -4503599627370495 from rfl]
         grind
       have h3 : k ≤ (-4503599627370496 : Int) := by omega
       have h4 : (k : Rat) * U T ≤ ((-4503599627370496 : Int) : Rat) * U T := Rat.mul_le_mul_of_nonneg_right (Rat.intCast_le_intCast.2 h3) (Rat.le_of_lt hu)
       rw [← hx, show ((-4503599627370496 : Int) : Rat) = -4503599627370496 from rfl] at h4
       exact le_ab.2 (Or.inr (by grind))
   grind
 · have e := R.mult (hm.down ht)
   subst e
   rw [show x - x = 0 by grind, show ab 0 = 0 by unfold ab; grind]
   have := ab_nonneg x
   grind
theorem F_int (n : Int) (h1 : -9007199254740992 ≤ n) (h2 : n ≤ 9007199254740992) : F (n : Rat) :=
 ⟨1074, n, by rw [show U 1074 = 1 from by unfold U; exact p2_zero]; grind, h1, h2⟩
theorem RN.lo {q x y : Rat} (h : RN q x) (e : x + y = q) : Lo y x := by
 obtain ⟨T, k, R⟩ := h
 have hu := U_pos T
 have h1 := R.h1
 have h2 := R.h2
 exact ⟨T, ab_lt.2 ⟨by grind, by grind⟩, R.m⟩
end

/- Sums of tame words: what is rounded off is told exactly. -/
section
end

/- Products of safe words: what is rounded off is told exactly. -/
section
end

/- What Sum, Diff and Prod answer, and what follows of it. -/
section
open Go.RowKit
end

/- The lowest bit of a float, as package expand tells it. -/
section
open Go.RowKit
end

/- How many bits a float has; that two numbers are the same. -/
section
open Go.RowKit
attribute [local go_sem ↓] Go.wp_at_zero Go.wp_at_succ
theorem run_store_float (P : Program) (w : World) (a : Addr) (m : Mode) (k : FloatKind) (b : Nat) : (store a (.float k b) m).run P w = stored P w a (.float k b) m := run_store P w a _ m rfl
theorem Rf.agg {w : World} {v : Value} {q : Rat} (h : Rf w v q) : ∃ S a n c E, v = .agg #[.int .i64 S, .slice a n c, .int .i64 E] := by
 obtain ⟨S, a, n, c, E, h, _⟩ := h.sgn
 exact ⟨S, a, n, c, E, h⟩
end

/- A number and the floats about the one nearest to it: plain facts. Nextafter. -/
section
open Go.RowKit
end

/- Which lists of floats may be, as package expand tells it. -/
section
open Go.RowKit
structure Fs (w : World) (s : Value) (bs : List Nat) : Prop where
 form : ∃ a c, s = .slice a bs.length c ∧ bs.length ≤ c ∧ c ≤ 9223372036854775807 ∧ (bs = [] ∨ ∃ g off, a = some ⟨g, off, none⟩ ∧ ∀ k, k < bs.length → w.cell? ⟨g, off + k, none⟩ = some (.float .f64 (bs.getD k 0)))
 word : ∀ b ∈ bs, b < 18446744073709551616
theorem Fs.later {w w' : World} {s : Value} {bs : List Nat} (h : Fs w s bs) (hb : Below w.heap.size w w') : Fs w' s bs := by
 obtain ⟨⟨a, c, hs, hc, hm, hf⟩, h2⟩ := h
 refine ⟨⟨a, c, hs, hc, hm, ?_⟩, h2⟩
 rcases hf with hf | ⟨g, off, ha, hf⟩
 · exact Or.inl hf
 · exact Or.inr ⟨g, off, ha, fun k hk => box_cell hb (hf k hk)⟩
end

/- Package expand: whether a list may be, its last float, its sign, a list that grows. -/
section
open Go.RowKit
end

/- Which coordinates may be: math.Trunc, grid.stands. -/
section
open Go.RowKit
def trw (b : Nat) : Nat := FloatKind.f64.encode ((FloatKind.f64.decode b).integral .zero)
theorem run_trunc (b : Nat) (h : Fin64 b) (w : World) : (callFunc 79 #[.float .f64 b]).run Tryd.prog w = .ok (.value (.float .f64 (trw b))) w := by
 rw [run_callFunc_extern Tryd.func79 (by kernel_rfl) (by kernel_rfl) (by kernel_rfl) (e := Extern.MathFloor.toIntegral "math.archTrunc" .zero) (by kernel_rfl)]
 have e : FloatKind.f64.decode b = .number (fneg b) (fmag (frung b)) (fpl (frung b)) := read_fin h
 have key : Extern.MathFloor.toIntegral "math.archTrunc" .zero #[.float .f64 b] = pure (.float .f64 (trw b)) := by
   unfold trw
   show (match FloatKind.f64.decode b with | .nan _ _ => _ | d => (pure (Value.float .f64 (FloatKind.f64.encode (d.integral .zero))) : Sem Value)) = _
   rw [e]
 rw [key]
 rfl
theorem M_one {q : Rat} : M 1 q ↔ ∃ k : Int, q = (k : Rat) := by
 constructor
 · rintro ⟨k, e⟩; exact ⟨k, by rw [e]; grind⟩
 · rintro ⟨k, e⟩; exact ⟨k, by rw [e]; grind⟩
theorem cut_shift (s : Bool) (n d : Nat) : Ieee.Toward.zero.cut s n d = n >>> d := by
 unfold Ieee.Toward.cut
 simp only [Bool.toNat_false, Nat.add_zero, Nat.one_shiftLeft, Nat.shiftRight_eq_div_pow]
 rcases Nat.lt_or_ge (n.log2 + 2) d with h | h
 · have h1 : n < 2 ^ (n.log2 + 1) := Nat.lt_log2_self
   have h2 : n < 2 ^ (n.log2 + 2) := Nat.lt_of_lt_of_le h1 (Nat.pow_le_pow_right (by omega) (by omega))
   have h3 : n < 2 ^ d := Nat.lt_of_lt_of_le h1 (Nat.pow_le_pow_right (by omega) (by omega))
   rw [Nat.min_eq_right (by omega), Nat.div_eq_of_lt h2, Nat.div_eq_of_lt h3]
 · rw [Nat.min_eq_left h]
theorem cut_val (m : Nat) (i : Int) (hm : m ≤ 9007199254740992) : ∃ n : Nat, (m <<< i.toNat) >>> (-i).toNat = n ∧ ((n : Nat) : Rat) ≤ (m : Rat) * p2 i ∧ (((n : Nat) : Rat) = (m : Rat) * p2 i ∨ n ≤ 9007199254740992) ∧ ((∃ z : Int, (m : Rat) * p2 i = (z : Rat)) → ((n : Nat) : Rat) = (m : Rat) * p2 i) := by
 rcases Int.le_total 0 i with h | h
 · have e1 : (-i).toNat = 0 := by omega
   have e2 : i = ((i.toNat : Nat) : Int) := by omega
   generalize i.toNat = k at *
   subst e2
   rw [e1]
   have : ((m <<< k >>> 0 : Nat) : Rat) = (m : Rat) * p2 (k : Int) := by
     rw [Nat.shiftRight_zero, Nat.shiftLeft_eq, p2_nat, Rat.natCast_mul]
   exact ⟨_, rfl, by rw [this]; exact Rat.le_refl, Or.inl this, fun _ => this⟩
 · have e1 : i.toNat = 0 := by omega
   have e2 : i = -(((-i).toNat : Nat) : Int) := by omega
   generalize (-i).toNat = k at *
   subst e2
   rw [e1, Nat.shiftLeft_zero, Nat.shiftRight_eq_div_pow]
   have hp := p2_neg (k : Int)
   rw [p2_nat] at hp
   have hpos : (0 : Rat) < p2 (-(k : Int)) := p2_pos _
   refine ⟨_, rfl, ?_, Or.inr ?_, ?_⟩
   · have h1 : ((m / 2 ^ k * 2 ^ k : Nat) : Rat) ≤ (m : Rat) := Rat.natCast_le_natCast.2 (Nat.div_mul_le_self _ _)
     rw [Rat.natCast_mul] at h1
     have h2 := Rat.mul_le_mul_of_nonneg_right h1 (Rat.le_of_lt hpos)
     generalize ((m / 2 ^ k : Nat) : Rat) = n at *
     generalize ((2 ^ k : Nat) : Rat) = t at *
     generalize p2 (-(k : Int)) = p at *
     have : n * t * p = n := by rw [Rat.mul_assoc, Rat.mul_comm t p, hp, Rat.mul_one]
     rw [this] at h2
     exact h2
   · exact Nat.le_trans (Nat.div_le_self _ _) hm
   · rintro ⟨z, hz⟩
     have h3 : (m : Rat) = ((z * (2 ^ k : Nat) : Int) : Rat) := by
       rw [Rat.intCast_mul, ← hz, show (((2 ^ k : Nat) : Int) : Rat) = ((2 ^ k : Nat) : Rat) from rfl]
       generalize ((2 ^ k : Nat) : Rat) = t at *
       generalize p2 (-(k : Int)) = p at *
       rw [Rat.mul_assoc, hp, Rat.mul_one]
     have h4 : (m : Int) = z * (2 ^ k : Nat) := by
       have : ((m : Int) : Rat) = ((z * (2 ^ k : Nat) : Int) : Rat) := h3
       exact Rat.intCast_inj.1 this
     have h5 : (2 ^ k : Nat) ∣ m := by
       have : ((2 ^ k : Nat) : Int) ∣ (m : Int) := ⟨z, by rw [h4, Int.mul_comm]⟩
       exact Int.natCast_dvd_natCast.1 this
     have h6 : ((m / 2 ^ k * 2 ^ k : Nat) : Rat) = (m : Rat) := by rw [Nat.div_mul_cancel h5]
     rw [Rat.natCast_mul] at h6
     generalize ((m / 2 ^ k : Nat) : Rat) = n at *
     generalize ((2 ^ k : Nat) : Rat) = t at *
     generalize p2 (-(k : Int)) = p at *
     rw [← h6, Rat.mul_assoc, Rat.mul_comm t p, hp, Rat.mul_one]
theorem trw_val {b : Nat} (h : Fin64 b) (hq : Lim (fval b)) : Fin64 (trw b) ∧ trw b < 18446744073709551616 ∧ (fval (trw b) = fval b ↔ M 1 (fval b)) := by
 have e : FloatKind.f64.decode b = .number (fneg b) (fmag (frung b)) (fpl (frung b)) := read_fin h
 have hm : fmag (frung b) ≤ 9007199254740992 := Nat.le_of_lt (fmag_lt _)
 obtain ⟨n, hn, h1, h2, h3⟩ := cut_val (fmag (frung b)) (fpl (frung b)) hm
 have hv := fval_eq b
 have et : trw b = Ieee.double.write (.number (fneg b) n 0) := by
   unfold trw
   rw [e]
   show Ieee.double.write (.number (fneg b) (Ieee.Toward.zero.cut (fneg b) (fmag (frung b) <<< (fpl (frung b)).toNat) (-fpl (frung b)).toNat) 0) = _
   rw [cut_shift, hn]
 have hF := fc_word h
 clear hn e
 generalize ((fmag (frung b) : Nat) : Rat) * p2 (fpl (frung b)) = X at *
 have hX : X < p2 1023 := by
   have h4 := hq.1
   have h5 := hq.2
   rw [hv] at h4 h5
   revert h4 h5
   unfold sgn1
   cases fneg b
   · rw [if_neg (by decide)]; grind
   · rw [if_pos rfl]; grind
 have n0 : (0 : Rat) ≤ ((n : Nat) : Rat) := Rat.natCast_nonneg
 obtain ⟨r, er, fr, lr, hr⟩ := write_rv (fneg b) n 0 (by rw [p2_zero, Rat.mul_one]; grind)
 rw [p2_zero, Rat.mul_one] at hr
 have ev : fval r = sgn1 (fneg b) * ((n : Nat) : Rat) := by
   apply hr.rn.exact
   rcases h2 with h2 | h2
   · rw [h2, ← hv]
     obtain ⟨S, m, c⟩ := hF
     exact c.f
   · have : F ((n : Int) : Rat) := F_int n (by omega) (by omega)
     unfold sgn1
     cases fneg b
     · rw [if_neg (by decide), Rat.one_mul]
       exact this
     · rw [if_pos rfl]
       have := this.neg
       rwa [show -((n : Int) : Rat) = -1 * ((n : Nat) : Rat) by show -((n : Nat) : Rat) = _; grind] at this
 rw [et, er]
 refine ⟨fr, lr, ?_⟩
 rw [M_one, ev, hv]
 constructor
 · intro e1
   rw [← e1]
   unfold sgn1
   cases fneg b
   · exact ⟨n, by rw [if_neg (by decide), Rat.one_mul]; rfl⟩
   · exact ⟨-(n : Int), by rw [Rat.intCast_neg, if_pos rfl]; show _ = -((n : Nat) : Rat); grind⟩
 · rintro ⟨k, ek⟩
   rw [h3]
   revert ek
   unfold sgn1
   cases fneg b
   · intro ek
     rw [if_neg (by decide), Rat.one_mul] at ek
     exact ⟨k, ek⟩
   · intro ek
     rw [if_pos rfl] at ek
     exact ⟨-k, by rw [Rat.intCast_neg, ← ek]; grind⟩
theorem trunc_any (b : Nat) (w : World) (h : Fin64 b) : Calls Tryd.prog 55 #[.float .f64 b] w fun e w' => e = .returned (.float .f64 (trw b)) ∧ w' = w := by
 have r1 := run_trunc b h
 clear h
 go_enter Tryd.func55, Tryd.ntmps55
 go_wp2
 go_ret
 exact ⟨rfl, rfl⟩
end

/- Floats by their values: a float is told by its number; what is a float is written exactly; products and conversions that are floats. -/
section
open Go.RowKit
theorem fval_sgn {a : Nat} (ha : Fin64 a) (la : a < 18446744073709551616) : (a = frung a ∧ fval a = fval (frung a)) ∨ (a = 9223372036854775808 + frung a ∧ fval a = -fval (frung a)) := by
 rcases Nat.lt_or_ge a 9223372036854775808 with h | h
 · left
   have e : frung a = a := by unfold frung; omega
   rw [e]; exact ⟨rfl, rfl⟩
 · right
   have e : a = 9223372036854775808 + frung a := by unfold frung; omega
   refine ⟨e, ?_⟩
   have := fval_word (r := frung a) ha
   rw [← this, ← e]
theorem rung_inj {r s : Nat} (hr : r < 9218868437227405312) (hs : s < 9218868437227405312) (h : fval r = fval s) : r = s := by
 rcases Nat.lt_trichotomy r s with a | a | a
 · have := fval_lt a hs; grind
 · exact a
 · have := fval_lt a hr; grind
theorem fval_inj {a b : Nat} (ha : Fin64 a) (hb : Fin64 b) (la : a < 18446744073709551616) (lb : b < 18446744073709551616) (h : fval a = fval b) (h0 : fval a ≠ 0) : a = b := by
 have na := fval_nonneg (r := frung a) ha
 have nb := fval_nonneg (r := frung b) hb
 rcases fval_sgn ha la with ⟨e1, v1⟩ | ⟨e1, v1⟩ <;> rcases fval_sgn hb lb with ⟨e2, v2⟩ | ⟨e2, v2⟩
 · have := rung_inj ha hb (by rw [← v1, ← v2]; exact h)
   omega
 · exfalso; grind
 · exfalso; grind
 · have := rung_inj ha hb (by grind)
   omega
theorem near_finJ {q : Rat} {r : Nat} (h : Near q r) (hq : q < 18014398509481983 * p2 970) : r < 9218868437227405312 := by
 rcases h with ⟨rfl, rfl⟩ | ⟨_, T, k, hl, hh, e⟩
 · omega
 · have hb := kept_bounds hl hh
   have hT : T ≤ 2045 := by
     rcases hl.1 with h | h
     · omega
     · have e1 : ((9007199254740992 : Int) : Rat) * p2 ((T : Int) - 1075) = p2 ((T : Int) - 1022) := by
         rw [show (T : Int) - 1022 = ((T : Int) - 1075) + ((53 : Nat) : Int) by omega, p2_add, p2_nat, Rat.mul_comm]; rfl
       rw [e1] at h
       have e2 : (18014398509481983 : Rat) * p2 970 ≤ p2 1024 := by
         have h1 : p2 1024 = 18014398509481984 * p2 970 := by
           rw [show (1024 : Int) = ((54 : Nat) : Int) + 970 by omega, p2_add, p2_nat]; rfl
         have := p2_pos 970
         rw [h1]
         grind
       have := p2_lt_iff.1 (lt_of_le_lt h (lt_of_lt_le hq e2))
       omega
   rcases Nat.lt_or_ge T 2045 with h | h
   · omega
   · obtain rfl : T = 2045 := by omega
     have s1 := hh.1
     rw [show ((2045 : Nat) : Int) - 1075 = 970 from rfl] at s1
     have s2 : ((2 * (k : Int) - 1 : Int) : Rat) * p2 970 < ((18014398509481983 : Int) : Rat) * p2 970 := lt_of_le_lt s1 hq
     have s3 := int_lt (p2_pos 970) s2
     omega
theorem max_val : fval 9218868437227405311 = 18014398509481982 * p2 970 := by
 rw [(fval_pos_lt (r := 9218868437227405311) (by omega)).1]
 rw [show fmag 9218868437227405311 = 9007199254740991 by decide, show fpl 9218868437227405311 = 1 + 970 by decide, p2_add, p2_one]
 have : ((9007199254740991 : Nat) : Rat) = 9007199254740991 := rfl
 rw [this]; grind
theorem write_exact {s : Bool} {m z : Nat} {place : Int} (hz : Fin64 z) (lz : z < 18446744073709551616) (h : fval z = sgn1 s * ((m : Nat) * p2 place)) (h0 : fval z ≠ 0) : Ieee.double.write (.number s m place) = z := by
 have hm : m ≠ 0 := by
   intro e
   apply h0
   rw [h, e, show ((0 : Nat) : Rat) = 0 from rfl]
   grind
 obtain ⟨r, e, hn⟩ := nearest_near s m place hm
 show Ieee.double.nearest s m place = z
 rw [e]
 have hX0 := (near_nonneg hn).1
 obtain ⟨S, c, hf⟩ := fc_word hz
 have hF := hf.f
 have hmax := fval_le_max (r := frung z) hz
 have hr0 := fval_nonneg (r := frung z) hz
 rw [max_val] at hmax
 have h970 := p2_pos 970
 have hXne : ((m : Nat) : Rat) * p2 place ≠ 0 := by
   intro e; apply h0; rw [h, e]; grind
 have fin : ∀ q : Rat, q = ((m : Nat) : Rat) * p2 place → q = fval (frung z) → F q → r = frung z := by
   intro q e1 e2 hq
   rw [← e1] at hn
   have hb : r < 9218868437227405312 := near_finJ hn (by rw [e2]; grind)
   obtain ⟨T, k, R⟩ := near_rnd hn hb
   have := R.exact hq
   exact rung_inj hb hz (by rw [this, e2])
 generalize hX : ((m : Nat) : Rat) * p2 place = X at *
 rcases fval_sgn hz lz with ⟨ez, ev⟩ | ⟨ez, ev⟩
 · cases s
   · have e2 : X = fval (frung z) := by rw [← ev, h]; simp [sgn1]
     have := fin X rfl e2 (by rw [e2, ← ev]; exact hF)
     rw [word_false]; omega
   · exfalso
     rw [ev] at h
     simp [sgn1] at h
     grind
 · cases s
   · exfalso
     rw [ev] at h
     simp [sgn1] at h
     grind
   · have e2 : X = fval (frung z) := by
       have : -fval (frung z) = -1 * X := by rw [← ev, h]; simp [sgn1]
       grind
     have := fin X rfl e2 (by
       have hn := hF.neg
       rw [ev] at hn
       rw [e2]
       rwa [show - -fval (frung z) = fval (frung z) by grind] at hn)
     rw [Ieee.Format.word, d_sw, if_pos rfl, this]
     exact ez.symm
theorem mul_exact {a b z : Nat} (ha : Fin64 a) (hb : Fin64 b) (hz : Fin64 z) (lz : z < 18446744073709551616) (h : fval z = fval a * fval b) (h0 : fval z ≠ 0) : Ieee.double.mul a b = some z := by
 show ((Ieee.double.read a).product (Ieee.double.read b)).map Ieee.double.write = some z
 rw [read_fin ha, read_fin hb]
 unfold Ieee.Datum.product
 simp only [Option.map_some]
 have e : fval a * fval b = sgn1 (fneg a ^^ fneg b) * (((fmag (frung a) * fmag (frung b) : Nat) : Rat) * p2 (fpl (frung a) + fpl (frung b))) := by
   rw [fval_eq a, fval_eq b, p2_add, Rat.natCast_mul]
   generalize ((fmag (frung a) : Nat) : Rat) = m
   generalize ((fmag (frung b) : Nat) : Rat) = n
   generalize p2 (fpl (frung a)) = u
   generalize p2 (fpl (frung b)) = v
   cases fneg a <;> cases fneg b <;> simp [sgn1] <;> grind
 rw [e] at h
 rw [write_exact hz lz h h0]
theorem toInt_exact {z : Nat} {k : Int} (hz : Fin64 z) (h : fval z = (k : Rat)) : Ieee.Datum.toInt .zero (FloatKind.f64.decode z) = some k := by
 have e : FloatKind.f64.decode z = .number (fneg z) (fmag (frung z)) (fpl (frung z)) := read_fin hz
 rw [e]
 show some (Ieee.signed (fneg z) (Ieee.Toward.zero.cut (fneg z) (fmag (frung z) <<< (fpl (frung z)).toNat) (-fpl (frung z)).toNat) 0) = _
 rw [cut_shift]
 obtain ⟨n, hn, _, _, h3⟩ := cut_val (fmag (frung z)) (fpl (frung z)) (Nat.le_of_lt (fmag_lt _))
 rw [hn]
 have hv := fval_eq z
 generalize ((fmag (frung z) : Nat) : Rat) * p2 (fpl (frung z)) = X at *
 rw [hv] at h
 congr 1
 unfold Ieee.signed
 rw [Nat.shiftLeft_zero]
 revert h
 unfold sgn1
 cases fneg z
 · rw [if_neg (by decide), if_neg (by decide), Rat.one_mul]
   intro h
   have := h3 ⟨k, h⟩
   rw [h] at this
   exact Rat.intCast_inj.1 (show ((n : Int) : Rat) = (k : Rat) from this)
 · rw [if_pos rfl, if_pos rfl]
   intro h
   have hX : X = ((-k : Int) : Rat) := by rw [Rat.intCast_neg]; grind
   have := h3 ⟨-k, hX⟩
   rw [hX] at this
   have t := Rat.intCast_inj.1 (show ((n : Int) : Rat) = ((-k : Int) : Rat) from this)
   omega
theorem conv_int {z : Nat} {k : Int} (hz : Fin64 z) (h : fval z = (k : Rat)) (h1 : -9223372036854775808 ≤ k) (h2 : k ≤ 9223372036854775807) : floatToIntVal .f64 z .i64 = some k := by
 unfold floatToIntVal
 rw [toInt_exact hz h]
 have h3 : IntKind.i64.min = -9223372036854775808 := by decide
 have h4 : IntKind.i64.max = 9223372036854775807 := by decide
 simp only [h3, h4]
 rw [if_pos ⟨h1, h2⟩]
def fwJ (n : Int) : Nat := floatOfInt .f64 n
theorem fwJ_val {n : Int} (h1 : -9007199254740992 ≤ n) (h2 : n ≤ 9007199254740992) : Fin64 (fwJ n) ∧ fwJ n < 18446744073709551616 ∧ fval (fwJ n) = (n : Rat) := by
 have hq : ((n.natAbs : Nat) : Rat) * p2 0 < p2 1023 := by
   rw [p2_zero, Rat.mul_one]
   have a : ((n.natAbs : Nat) : Rat) ≤ ((9007199254740992 : Nat) : Rat) := Rat.natCast_le_natCast.2 (by omega)
   have b : ((9007199254740992 : Nat) : Rat) = p2 53 := by rw [show (53 : Int) = ((53 : Nat) : Int) from rfl, p2_nat]
   have c : p2 53 < p2 1023 := p2_lt (by omega)
   rw [b] at a
   grind
 obtain ⟨r, er, fr, lr, hr⟩ := write_rv (decide (n < 0)) n.natAbs 0 hq
 have e : fwJ n = r := er
 have hv : sgn1 (decide (n < 0)) * (((n.natAbs : Nat) : Rat) * p2 0) = (n : Rat) := by
   rw [p2_zero, Rat.mul_one]
   unfold sgn1
   by_cases h : n < 0
   · rw [decide_eq_true h, if_pos rfl]
     have : ((n.natAbs : Nat) : Rat) = ((-n : Int) : Rat) := by
       rw [show ((n.natAbs : Nat) : Rat) = ((n.natAbs : Int) : Rat) from rfl, show (n.natAbs : Int) = -n by omega]
     rw [this, Rat.intCast_neg]; grind
   · rw [decide_eq_false h, if_neg (by decide), Rat.one_mul]
     rw [show ((n.natAbs : Nat) : Rat) = ((n.natAbs : Int) : Rat) from rfl, show (n.natAbs : Int) = n by omega]
 rw [hv] at hr
 rw [e]
 exact ⟨fr, lr, hr.rn.exact (F_int n h1 h2)⟩
theorem trw_full {b : Nat} (h : Fin64 b) (lb : b < 18446744073709551616) : Fin64 (trw b) ∧ trw b < 18446744073709551616 ∧ (fval (trw b) = fval b ↔ M 1 (fval b)) := by
 by_cases hq : Lim (fval b)
 · exact trw_val h hq
 · have hv := fval_eq b
   have hp : 0 ≤ fpl (frung b) := by
     apply Classical.byContradiction
     intro hp
     apply hq
     have hm : ((fmag (frung b) : Nat) : Rat) < p2 53 := by
       rw [show (53 : Int) = ((53 : Nat) : Int) from rfl, p2_nat]
       exact Rat.natCast_lt_natCast.2 (fmag_lt _)
     have hu : p2 (fpl (frung b)) ≤ 1 := by rw [← p2_zero]; exact p2_mono (by omega)
     have hu0 := p2_pos (fpl (frung b))
     have hm0 : (0 : Rat) ≤ ((fmag (frung b) : Nat) : Rat) := Rat.natCast_nonneg
     have hX : ((fmag (frung b) : Nat) : Rat) * p2 (fpl (frung b)) < p2 1023 := by
       have a := Rat.mul_le_mul_of_nonneg_left hu hm0
       rw [Rat.mul_one] at a
       have c : p2 53 < p2 1023 := p2_lt (by omega)
       grind
     have hX0 : 0 ≤ ((fmag (frung b) : Nat) : Rat) * p2 (fpl (frung b)) := Rat.mul_nonneg hm0 (Rat.le_of_lt hu0)
     rw [hv]
     generalize ((fmag (frung b) : Nat) : Rat) * p2 (fpl (frung b)) = X at *
     unfold Lim sgn1
     cases fneg b
     · rw [if_neg (by decide)]; constructor <;> grind
     · rw [if_pos rfl]; constructor <;> grind
   obtain ⟨k, hk⟩ : ∃ k : Nat, fpl (frung b) = (k : Int) := ⟨(fpl (frung b)).toNat, by omega⟩
   have hb0 : fval b ≠ 0 := by
     intro e
     apply hq
     rw [e]
     exact ⟨p2_pos _, by have := p2_pos 1023; grind⟩
   have et : trw b = b := by
     unfold trw
     rw [show FloatKind.f64.decode b = .number (fneg b) (fmag (frung b)) (fpl (frung b)) from read_fin h]
     show Ieee.double.write (.number (fneg b) (Ieee.Toward.zero.cut (fneg b) (fmag (frung b) <<< (fpl (frung b)).toNat) (-fpl (frung b)).toNat) 0) = _
     rw [cut_shift, hk, show (-(k : Int)).toNat = 0 by omega, Int.toNat_natCast, Nat.shiftRight_zero, Nat.shiftLeft_eq]
     refine write_exact h lb ?_ hb0
     rw [hv, hk, p2_zero, Rat.mul_one, nat_mul_p2]
   rw [et]
   refine ⟨h, lb, iff_of_true rfl ?_⟩
   rw [M_one, hv, hk, p2_nat]
   unfold sgn1
   cases fneg b
   · exact ⟨((fmag (frung b) * 2 ^ k : Nat) : Int), by rw [if_neg (by decide), Rat.one_mul, ← Rat.natCast_mul]; rfl⟩
   · exact ⟨-((fmag (frung b) * 2 ^ k : Nat) : Int), by rw [if_pos rfl, Rat.intCast_neg, ← Rat.natCast_mul]; show -1 * (((fmag (frung b) * 2 ^ k : Nat) : Int) : Rat) = _; grind⟩
end

/- Frexp and Ldexp of floats of either sign, by their numbers. -/
section
open Go.RowKit
theorem fval_norm {s E u : Nat} (hs : s = 0 ∨ s = 9223372036854775808) (h1 : 1 ≤ E) (h2 : E ≤ 2046) (hu : u < 4503599627370496) :
   Fin64 (s + (E * 4503599627370496 + u)) ∧ s + (E * 4503599627370496 + u) < 18446744073709551616 ∧ frung (s + (E * 4503599627370496 + u)) = E * 4503599627370496 + u ∧ fval (s + (E * 4503599627370496 + u)) = (if s = 0 then 1 else -1) * (((4503599627370496 + u : Nat) : Rat) * p2 ((E : Int) - 1075)) := by
 have hr : E * 4503599627370496 + u < 9218868437227405312 := by omega
 have hf : frung (s + (E * 4503599627370496 + u)) = E * 4503599627370496 + u := by unfold frung; omega
 have hv : fval (E * 4503599627370496 + u) = ((4503599627370496 + u : Nat) : Rat) * p2 ((E : Int) - 1075) := by
   rw [(fval_pos_lt hr).1]
   have e1 : fmag (E * 4503599627370496 + u) = 4503599627370496 + u := by unfold fmag; rw [if_neg (by omega)]; omega
   have e2 : fpl (E * 4503599627370496 + u) = (E : Int) - 1075 := by unfold fpl; rw [if_neg (by omega)]; omega
   rw [e1, e2]
 refine ⟨by unfold Fin64; omega, by omega, hf, ?_⟩
 rcases hs with rfl | rfl
 · rw [Nat.zero_add, hv, if_pos rfl, Rat.one_mul]
 · rw [fval_word hr, hv, if_neg (by omega)]; grind
theorem norm_parts {y : Nat} (hy : Fin64 y) (ly : y < 18446744073709551616) (h : 4503599627370496 ≤ frung y) : ∃ s E u, y = s + (E * 4503599627370496 + u) ∧ (s = 0 ∨ s = 9223372036854775808) ∧ 1 ≤ E ∧ E ≤ 2046 ∧ u < 4503599627370496 := by
 unfold Fin64 at hy
 unfold frung at hy h
 refine ⟨y - y % 9223372036854775808, y % 9223372036854775808 / 4503599627370496, y % 9223372036854775808 % 4503599627370496, ?_, ?_, ?_, ?_, ?_⟩ <;> omega
theorem p52_val : fval 4841369599423283200 = p2 52 := by
 rw [(fval_pos_lt (r := 4841369599423283200) (by omega)).1, show fmag 4841369599423283200 = 4503599627370496 by decide, show fpl 4841369599423283200 = 0 by decide, p2_zero, Rat.mul_one, show (52 : Int) = ((52 : Nat) : Int) from rfl, p2_nat]
theorem one_val : fval 4607182418800017408 = 1 := by
 rw [(fval_pos_lt (r := 4607182418800017408) (by omega)).1, show fmag 4607182418800017408 = 2 ^ 52 by decide, show fpl 4607182418800017408 = -((52 : Nat) : Int) by decide, ← p2_nat, Rat.mul_comm, p2_neg]
theorem m53_val : fval 4368491638549381120 = p2 (-53) := by
 rw [(fval_pos_lt (r := 4368491638549381120) (by omega)).1, show fmag 4368491638549381120 = 2 ^ 52 by decide, show fpl 4368491638549381120 = -105 by decide, ← p2_nat, ← p2_add]; rfl
theorem order_small {r : Nat} (h2 : r < 9218868437227405312) : (FloatKind.f64.format.order r 4503599627370496 == some .lt) = decide (r < 4503599627370496) := by
 show (Ieee.double.order r 4503599627370496 == some .lt) = _
 rw [order_fin (by unfold Fin64 frung; omega) (by unfold Fin64 frung; decide)]
 by_cases h : r < 4503599627370496
 · rw [if_pos (by rw [small_iff h2]; omega), decide_eq_true h]; rfl
 · rw [if_neg (by rw [small_iff h2]; omega), decide_eq_false h]; split <;> rfl
set_option maxHeartbeats 1000000 in
theorem normS_walk (x y : Nat) (w : World) (lx : x < 18446744073709551616) (hs : (FloatKind.f64.format.order (x % 9223372036854775808) 4503599627370496 == some .lt) = true) (hm : Ieee.double.mul x 4841369599423283200 = some y) :
   Calls Tryd.prog 101 #[.float .f64 x] w fun e w' => e = .returned (.tuple #[.float .f64 y, .int .i64 (-52)]) ∧ w' = w := by
 have e3 : ∀ w, (binOp .mul 39 (.float .f64 x) (.float .f64 4841369599423283200)).run Tryd.prog w = .ok (.float .f64 y) w := fun w => run_float_arith w .mul _ .f64 x 4841369599423283200 _ hm
 have H2 : Hid (x < 18446744073709551616) := lx
 clear hm lx
 go_enter Tryd.func101, Tryd.ntmps101
 go_wp2_with fail
 refine (abs_any x _ H2.out).mono ?_
 rintro e w' ⟨rfl, rfl⟩
 generalize x % 9223372036854775808 = c at *
 go_wp2
 go_ret2
 exact ⟨rfl, rfl⟩
set_option maxHeartbeats 1000000 in
theorem normB_walk (x : Nat) (w : World) (lx : x < 18446744073709551616) (hs : (FloatKind.f64.format.order (x % 9223372036854775808) 4503599627370496 == some .lt) = false) :
   Calls Tryd.prog 101 #[.float .f64 x] w fun e w' => e = .returned (.tuple #[.float .f64 x, .int .i64 0]) ∧ w' = w := by
 have H2 : Hid (x < 18446744073709551616) := lx
 clear lx
 go_enter Tryd.func101, Tryd.ntmps101
 go_wp2_with fail
 refine (abs_any x _ H2.out).mono ?_
 rintro e w' ⟨rfl, rfl⟩
 generalize x % 9223372036854775808 = c at *
 go_wp2
 go_ret2
 exact ⟨rfl, rfl⟩
theorem normS (x : Nat) (hx : Fin64 x) (lx : x < 18446744073709551616) (h0 : fval x ≠ 0) :
   ∃ y e0, Fin64 y ∧ y < 18446744073709551616 ∧ 4503599627370496 ≤ frung y ∧ (e0 = 0 ∨ e0 = -52) ∧ fval x = fval y * p2 e0 ∧ ∀ w, Calls Tryd.prog 101 #[.float .f64 x] w fun e w' => e = .returned (.tuple #[.float .f64 y, .int .i64 e0]) ∧ w' = w := by
 have hs := order_small (r := x % 9223372036854775808) hx
 by_cases h : frung x < 4503599627370496
 · have h' : x % 9223372036854775808 < 4503599627370496 := h
   rw [decide_eq_true h'] at hs
   have hr0 : frung x ≠ 0 := fun e => h0 (fval_zero_iff.2 e)
   obtain ⟨r, hr⟩ : ∃ r, frung x = r := ⟨_, rfl⟩
   rw [hr] at h hr0
   have a1 := Nat.log2_self_le hr0
   have a2 : r < 2 ^ (Nat.log2 r + 1) := Nat.lt_log2_self
   have a3 : Nat.log2 r < 52 := (Nat.log2_lt hr0).2 h
   have b1 := Nat.mul_le_mul_right (2 ^ (52 - Nat.log2 r)) a1
   have b2 := Nat.mul_lt_mul_of_pos_right a2 (Nat.two_pow_pos (52 - Nat.log2 r))
   rw [← Nat.pow_add, show Nat.log2 r + (52 - Nat.log2 r) = 52 by omega] at b1
   rw [← Nat.pow_add, show Nat.log2 r + 1 + (52 - Nat.log2 r) = 53 by omega] at b2
   obtain ⟨k, hk⟩ : ∃ k, r * 2 ^ (52 - Nat.log2 r) = k := ⟨_, rfl⟩
   rw [hk] at b1 b2
   have hv := fval_rung (Nat.log2 r) k (by omega) (Or.inr (by omega)) (by omega)
   have hvr : fval r = ((r : Nat) : Rat) * p2 (-1074) := by
     rw [(fval_pos_lt (by omega)).1]
     unfold fmag fpl
     rw [if_pos h, if_pos h]
   have e5 : fval (Nat.log2 r * 4503599627370496 + k) = fval r * p2 52 := by
     rw [hv, hvr, ← hk, nat_mul_p2]
     unfold U
     rw [Rat.mul_assoc, ← p2_add, Rat.mul_assoc, ← p2_add]
     congr 2
     omega
   obtain ⟨v, hvv⟩ : ∃ v, Nat.log2 r * 4503599627370496 + k = v := ⟨_, rfl⟩
   rw [hvv] at e5
   have hvb : 4503599627370496 ≤ v ∧ v < 9218868437227405312 := by omega
   have hxs : x = (x - r) + r ∧ (x - r = 0 ∨ x - r = 9223372036854775808) := by unfold frung at hr; omega
   obtain ⟨s, hss⟩ : ∃ s, x - r = s := ⟨_, rfl⟩
   rw [hss] at hxs
   obtain ⟨hx1, hs1⟩ := hxs
   have hy : Fin64 (s + v) ∧ s + v < 18446744073709551616 ∧ frung (s + v) = v ∧ fval (s + v) = fval x * p2 52 := by
     rcases hs1 with rfl | rfl
     · rw [Nat.zero_add] at *
       refine ⟨by unfold Fin64 frung; omega, by omega, by unfold frung; omega, ?_⟩
       rw [hx1]; exact e5
     · refine ⟨by unfold Fin64 frung; omega, by omega, by unfold frung; omega, ?_⟩
       rw [hx1, fval_word hvb.2, fval_word (by omega), e5]; grind
   have hp : p2 52 * p2 (-52) = 1 := by rw [← p2_add, ← p2_zero]; rfl
   have hne : fval (s + v) ≠ 0 := by
     intro e
     have := fval_zero_iff.1 e
     omega
   refine ⟨s + v, -52, hy.1, hy.2.1, by omega, Or.inr rfl, by rw [hy.2.2.2, Rat.mul_assoc, hp, Rat.mul_one], fun w => normS_walk x (s + v) w lx hs (mul_exact hx (by unfold Fin64 frung; decide) hy.1 hy.2.1 (by rw [hy.2.2.2, p52_val]) hne)⟩
 · have h' : ¬ x % 9223372036854775808 < 4503599627370496 := h
   rw [decide_eq_false h'] at hs
   exact ⟨x, 0, hx, lx, by omega, Or.inl rfl, by rw [p2_zero, Rat.mul_one], fun w => normB_walk x w lx hs⟩
theorem flagsS {x : Nat} (hx : Fin64 x) : isinf x = false ∧ isnan x = false := by
 unfold Fin64 at hx
 unfold isinf isnan
 exact ⟨by rw [beq_eq_false_iff_ne]; omega, by simp; omega⟩
theorem zeroS {x : Nat} (h0 : fval x ≠ 0) : (FloatKind.f64.format.order x 0 == some .eq) = false := by
 rw [eql_zero2, decide_eq_false_iff_not]
 exact fun e => h0 (fval_zero_iff.2 e)
theorem and_expS (n : Nat) (_h : n < 4096) : bits .and .u64 (n : Int) 2047 = ((n % 2048 : Nat) : Int) := by
 rw [show (2047 : Int) = ((2047 : Nat) : Int) from rfl, u64_and_nat n _ (by omega) (by omega), show (2047 : Nat) = 2 ^ 11 - 1 by decide, Nat.and_two_pow_sub_one_eq_mod]
theorem and_expSi (n : Nat) (_h : n < 4096) : bits .and .i64 (n : Int) 2047 = ((n % 2048 : Nat) : Int) := by
 have h127 : (BitVec.ofInt 64 2047).toNat = 2 ^ 11 - 1 := by decide
 have key : (BitVec.ofInt 64 (n : Int) &&& BitVec.ofInt 64 2047).toNat = n % 2048 := by
   rw [BitVec.toNat_and, BitVec.toNat_ofInt, h127, Nat.and_two_pow_sub_one_eq_mod]
   omega
 show IntKind.i64.wrap ((BitVec.ofInt 64 (n : Int) &&& BitVec.ofInt 64 2047).toNat : Nat) = _
 rw [key, IntKind.wrap_i64]
 omega
theorem nat_or63 {r : Nat} (h : r < 9223372036854775808) : 9223372036854775808 + r = 2 ^ 63 ||| r := by
 have := Nat.two_pow_add_eq_or_of_lt (i := 63) (b := r) h 1
 rw [Nat.mul_one] at this
 exact this
theorem andNot_expS {s r : Nat} (hs : s = 0 ∨ s = 9223372036854775808) (h : r < 9223372036854775808) : bits .andNot .u64 ((s + r : Nat) : Int) 9218868437227405312 = ((s + r % 4503599627370496 : Nat) : Int) := by
 rcases hs with rfl | rfl
 · rw [Nat.zero_add, Nat.zero_add]; exact andNot_exp r h
 · rw [show (9218868437227405312 : Int) = ((9218868437227405312 : Nat) : Int) from rfl, u64_andNot_nat _ _ (by omega) (by omega)]
   congr 1
   have e : (18446744073709551615 - 9218868437227405312 : Nat) = 2 ^ 63 ||| (2 ^ 52 - 1) := by decide
   rw [e, nat_or63 h, nat_or63 (r := r % 4503599627370496) (by omega), ← Nat.or_and_distrib_left, Nat.and_two_pow_sub_one_eq_mod]
theorem or_expS {s T u : Nat} (hs : s = 0 ∨ s = 9223372036854775808) (hT : T < 2048) (hu : u < 4503599627370496) : bits .or .u64 ((s + u : Nat) : Int) ((T * 4503599627370496 : Nat) : Int) = ((s + (T * 4503599627370496 + u) : Nat) : Int) := by
 rcases hs with rfl | rfl
 · rw [Nat.zero_add, Nat.zero_add]; exact or_exp T u hT hu
 · rw [u64_or_nat _ _ (by omega) (by omega)]
   congr 1
   have e : u ||| T * 4503599627370496 = T * 4503599627370496 + u := by
     rw [show T * 4503599627370496 = 2 ^ 52 * T by rw [Nat.mul_comm], Nat.or_comm, ← Nat.two_pow_add_eq_or_of_lt hu]
   rw [nat_or63 (r := u) (by omega), Nat.or_assoc, e, nat_or63 (by omega)]
set_option maxHeartbeats 2000000 in
theorem frexpS_walk (x y E EE su y' : Nat) (e0 : Int) (w : World) (z : (FloatKind.f64.format.order x 0 == some .eq) = false) (hx : Fin64 x) (lx : x < 18446744073709551616)
   (c0 : ((y : Nat) : Int) / 4503599627370496 = (EE : Int)) (c1 : bits .and .u64 (EE : Int) 2047 = (E : Int)) (c2 : bits .andNot .u64 ((y : Nat) : Int) 9218868437227405312 = (su : Int)) (c3 : bits .or .u64 (su : Int) 4602678819172646912 = (y' : Int)) (hEi : (E : Int) < 2048) (he1 : -100 ≤ e0) (he2 : e0 ≤ 100)
   (hn : ∀ w, Calls Tryd.prog 101 #[.float .f64 x] w fun e w' => e = .returned (.tuple #[.float .f64 y, .int .i64 e0]) ∧ w' = w) :
   Calls Tryd.prog 82 #[.float .f64 x] w fun e w' => e = .returned (.tuple #[.float .f64 y', .int .i64 (e0 + (E : Int) - 1022)]) ∧ w' = w := by
 obtain ⟨f1, f2⟩ := flagsS hx
 have b1 := run_bits y
 have b2 := run_frombits y'
 have HI : Hid (∀ w, Calls Tryd.prog 54 #[.float .f64 x, .int .i64 0] w fun e w' => e = .returned (.bool false) ∧ w' = w) := fun w => by have := isInf0_any x w lx; rwa [f1] at this
 have HN : Hid (∀ w, Calls Tryd.prog 53 #[.float .f64 x] w fun e w' => e = .returned (.bool false) ∧ w' = w) := fun w => by have := isNaN_any x w; rwa [f2] at this
 have HM : Hid (∀ w, Calls Tryd.prog 101 #[.float .f64 x] w fun e w' => e = .returned (.tuple #[.float .f64 y, .int .i64 e0]) ∧ w' = w) := hn
 clear hn f1 f2 hx lx
 go_enter Tryd.func82, Tryd.ntmps82
 go_wp2_with (first
   | (go_at_call 54; refine (HI.out _).mono ?_; rintro e w' ⟨rfl, rfl⟩)
   | (go_at_call 53; refine (HN.out _).mono ?_; rintro e w' ⟨rfl, rfl⟩)
   | (go_at_call 101; refine (HM.out _).mono ?_; rintro e w' ⟨rfl, rfl⟩))
 go_ret2
 exact ⟨ret_fi (by omega), rfl⟩
theorem frexp_val (x : Nat) (hx : Fin64 x) (lx : x < 18446744073709551616) (h0 : fval x ≠ 0) :
   ∃ (f : Nat) (ex m : Int), Fin64 f ∧ f < 18446744073709551616 ∧ fval f = (m : Rat) * p2 (-53) ∧ (4503599627370496 ≤ m ∧ m < 9007199254740992 ∨ -9007199254740992 < m ∧ m ≤ -4503599627370496) ∧ fval x = (m : Rat) * p2 (ex - 53) ∧ -1100 ≤ ex ∧ ex ≤ 1100 ∧
     ∀ w, Calls Tryd.prog 57 #[.float .f64 x] w fun e w' => e = .returned (.tuple #[.float .f64 f, .int .i64 ex]) ∧ w' = w := by
 obtain ⟨y, e0, fy, ly, hy, he, hv, hc⟩ := normS x hx lx h0
 obtain ⟨s, E, u, rfl, hs, h1, h2, hu⟩ := norm_parts fy ly hy
 obtain ⟨_, _, hfr, hvy⟩ := fval_norm hs h1 h2 hu
 obtain ⟨ff, lf, _, hvf⟩ := fval_norm (E := 1022) hs (by omega) (by omega) hu
 have hw := fun w => frexpS_walk x _ E ((s + (E * 4503599627370496 + u)) / 4503599627370496) (s + u) (s + (1022 * 4503599627370496 + u)) e0 w (zeroS h0) hx lx (by omega)
   (by rw [and_expS _ (by omega)]; congr 1; omega) (by rw [andNot_expS hs (by omega)]; congr 1; omega) (show bits .or .u64 ((s + u : Nat) : Int) 4602678819172646912 = _ from or_expS (T := 1022) hs (by omega) hu) (by omega) (by omega) (by omega) hc
 obtain ⟨m, hm, hmb⟩ : ∃ m : Int, (m : Rat) = (if s = 0 then 1 else -1) * ((4503599627370496 + u : Nat) : Rat) ∧ (4503599627370496 ≤ m ∧ m < 9007199254740992 ∨ -9007199254740992 < m ∧ m ≤ -4503599627370496) := by
   by_cases h : s = 0
   · exact ⟨((4503599627370496 + u : Nat) : Int), by rw [if_pos h, Rat.one_mul]; rfl, by omega⟩
   · exact ⟨-((4503599627370496 + u : Nat) : Int), by rw [if_neg h, Rat.intCast_neg]; show -((4503599627370496 + u : Nat) : Rat) = _; grind, by omega⟩
 refine ⟨s + (1022 * 4503599627370496 + u), e0 + (E : Int) - 1022, m, ff, lf, ?_, hmb, ?_, by omega, by omega, fun w => Frexp_of _ _ _ w hw⟩
 · rw [hvf, hm, Rat.mul_assoc]; rfl
 · rw [hv, hvy, hm, Rat.mul_assoc, Rat.mul_assoc, Rat.mul_assoc, ← p2_add]
   congr 3
   omega
set_option maxHeartbeats 2000000 in
set_option maxRecDepth 100000 in
theorem ldexpS_norm (x y E EE su y' z z9 T : Nat) (e0 k : Int) (w : World) (z0 : (FloatKind.f64.format.order x 0 == some .eq) = false) (hx : Fin64 x) (lx : x < 18446744073709551616)
   (c1 : ((y : Nat) : Int) / 4503599627370496 = (EE : Int)) (c2 : bits .and .i64 (EE : Int) 2047 = (E : Int)) (c3 : bits .andNot .u64 ((y : Nat) : Int) 9218868437227405312 = (su : Int)) (c4 : bits .or .u64 (su : Int) (z9 : Int) = (y' : Int)) (c5 : IntKind.u64.wrap ((T : Int) * 4503599627370496) = (z9 : Int))
   (hE : E ≤ 2046) (hEE : EE < 4096) (_hk1 : -5000 ≤ k) (_hk2 : k ≤ 5000) (_he1 : -100 ≤ e0) (_he2 : e0 ≤ 100) (hT : k + e0 + (E : Int) = (T : Int)) (hT1 : 1 ≤ T) (hT2 : T ≤ 2046) (hmul : Ieee.double.mul 4607182418800017408 y' = some z)
   (hn : ∀ w, Calls Tryd.prog 101 #[.float .f64 x] w fun e w' => e = .returned (.tuple #[.float .f64 y, .int .i64 e0]) ∧ w' = w) :
   Calls Tryd.prog 85 #[.float .f64 x, .int .i64 k] w fun e w' => e = .returned (.float .f64 z) ∧ w' = w := by
 obtain ⟨f1, f2⟩ := flagsS hx
 have b1 := run_bits y
 have b2 := run_frombits y'
 have HI : Hid (∀ w, Calls Tryd.prog 54 #[.float .f64 x, .int .i64 0] w fun e w' => e = .returned (.bool false) ∧ w' = w) := fun w => by have := isInf0_any x w lx; rwa [f1] at this
 have HN : Hid (∀ w, Calls Tryd.prog 53 #[.float .f64 x] w fun e w' => e = .returned (.bool false) ∧ w' = w) := fun w => by have := isNaN_any x w; rwa [f2] at this
 have HM : Hid (∀ w, Calls Tryd.prog 101 #[.float .f64 x] w fun e w' => e = .returned (.tuple #[.float .f64 y, .int .i64 e0]) ∧ w' = w) := hn
 have c6 : ∀ w, (binOp .mul 39 (.float .f64 4607182418800017408) (.float .f64 y')).run Tryd.prog w = .ok (.float .f64 z) w := fun w => run_float_arith w .mul _ .f64 _ _ _ hmul
 have g1 : ¬ (k + e0 + ((E : Int) - 1023) < -1075) := by omega
 have g2 : ¬ (1023 < k + e0 + ((E : Int) - 1023)) := by omega
 have g3 : ¬ (k + e0 + ((E : Int) - 1023) < -1022) := by omega
 have g4 : k + e0 + ((E : Int) - 1023) + 1023 = (T : Int) := by omega
 have g7 : (E : Int) ≤ 2046 := by omega
 have g8 : (T : Int) ≤ 2046 := by omega
 have g9 : (EE : Int) < 4096 := by omega
 have HT : Hid (k + e0 + (E : Int) = (T : Int)) := hT
 clear hT hn f1 f2 hx lx hmul
 go_enter Tryd.func85, Tryd.ntmps85
 go_wp2_with (first
   | (go_at_call 54; refine (HI.out _).mono ?_; rintro e w' ⟨rfl, rfl⟩)
   | (go_at_call 53; refine (HN.out _).mono ?_; rintro e w' ⟨rfl, rfl⟩)
   | (go_at_call 101; refine (HM.out _).mono ?_; rintro e w' ⟨rfl, rfl⟩))
 go_ret
 exact ⟨rfl, rfl⟩
set_option maxHeartbeats 2000000 in
set_option maxRecDepth 100000 in
theorem ldexpS_den (x y E EE su y' z z9 T : Nat) (e0 k : Int) (w : World) (z0 : (FloatKind.f64.format.order x 0 == some .eq) = false) (hx : Fin64 x) (lx : x < 18446744073709551616)
   (c1 : ((y : Nat) : Int) / 4503599627370496 = (EE : Int)) (c2 : bits .and .i64 (EE : Int) 2047 = (E : Int)) (c3 : bits .andNot .u64 ((y : Nat) : Int) 9218868437227405312 = (su : Int)) (c4 : bits .or .u64 (su : Int) (z9 : Int) = (y' : Int)) (c5 : IntKind.u64.wrap ((T : Int) * 4503599627370496) = (z9 : Int))
   (hE : E ≤ 2046) (hEE : EE < 4096) (_hk1 : -5000 ≤ k) (_hk2 : k ≤ 5000) (_he1 : -100 ≤ e0) (_he2 : e0 ≤ 100) (hT : k + e0 + (E : Int) + 53 = (T : Int)) (hT1 : 1 ≤ T) (hT2 : T ≤ 53) (hmul : Ieee.double.mul 4368491638549381120 y' = some z)
   (hn : ∀ w, Calls Tryd.prog 101 #[.float .f64 x] w fun e w' => e = .returned (.tuple #[.float .f64 y, .int .i64 e0]) ∧ w' = w) :
   Calls Tryd.prog 85 #[.float .f64 x, .int .i64 k] w fun e w' => e = .returned (.float .f64 z) ∧ w' = w := by
 obtain ⟨f1, f2⟩ := flagsS hx
 have b1 := run_bits y
 have b2 := run_frombits y'
 have HI : Hid (∀ w, Calls Tryd.prog 54 #[.float .f64 x, .int .i64 0] w fun e w' => e = .returned (.bool false) ∧ w' = w) := fun w => by have := isInf0_any x w lx; rwa [f1] at this
 have HN : Hid (∀ w, Calls Tryd.prog 53 #[.float .f64 x] w fun e w' => e = .returned (.bool false) ∧ w' = w) := fun w => by have := isNaN_any x w; rwa [f2] at this
 have HM : Hid (∀ w, Calls Tryd.prog 101 #[.float .f64 x] w fun e w' => e = .returned (.tuple #[.float .f64 y, .int .i64 e0]) ∧ w' = w) := hn
 have c6 : ∀ w, (binOp .mul 39 (.float .f64 4368491638549381120) (.float .f64 y')).run Tryd.prog w = .ok (.float .f64 z) w := fun w => run_float_arith w .mul _ .f64 _ _ _ hmul
 have g1 : ¬ (k + e0 + ((E : Int) - 1023) < -1075) := by omega
 have g2 : ¬ (1023 < k + e0 + ((E : Int) - 1023)) := by omega
 have g3 : k + e0 + ((E : Int) - 1023) < -1022 := by omega
 have g4 : k + e0 + ((E : Int) - 1023) + 53 + 1023 = (T : Int) := by omega
 have g7 : (E : Int) ≤ 2046 := by omega
 have g8 : (T : Int) ≤ 2046 := by omega
 have g9 : (EE : Int) < 4096 := by omega
 have HT : Hid (k + e0 + (E : Int) + 53 = (T : Int)) := hT
 clear hT hn f1 f2 hx lx hmul
 go_enter Tryd.func85, Tryd.ntmps85
 go_wp2_with (first
   | (go_at_call 54; refine (HI.out _).mono ?_; rintro e w' ⟨rfl, rfl⟩)
   | (go_at_call 53; refine (HN.out _).mono ?_; rintro e w' ⟨rfl, rfl⟩)
   | (go_at_call 101; refine (HM.out _).mono ?_; rintro e w' ⟨rfl, rfl⟩))
 go_ret
 exact ⟨rfl, rfl⟩
theorem fin_bounds {z : Nat} (hz : Fin64 z) (lz : z < 18446744073709551616) (h0 : fval z ≠ 0) {X : Rat} (h : fval z = X ∨ fval z = -X) (hX : 0 ≤ X) : X < p2 1024 ∧ p2 (-1074) ≤ X := by
 have e : X = fval (frung z) := by
   have := fval_nonneg (r := frung z) hz
   rcases fval_sgn hz lz with ⟨_, ev⟩ | ⟨_, ev⟩ <;> rcases h with h | h <;> grind
 rw [e]
 have hr0 : frung z ≠ 0 := fun e => h0 (fval_zero_iff.2 e)
 constructor
 · have hmax := fval_le_max (r := frung z) hz
   rw [max_val] at hmax
   have h1 : p2 1024 = 18014398509481984 * p2 970 := by
     rw [show (1024 : Int) = ((54 : Nat) : Int) + 970 by omega, p2_add, p2_nat]; rfl
   have := p2_pos 970
   rw [h1]; grind
 · have e1 : fval 1 = p2 (-1074) := by
     rw [(fval_pos_lt (r := 1) (by omega)).1, show fmag 1 = 1 by decide, show fpl 1 = -1074 by decide]
     show (1 : Rat) * _ = _
     rw [Rat.one_mul]
   rw [← e1]
   rcases Nat.lt_or_ge 1 (frung z) with h | h
   · exact Rat.le_of_lt (fval_lt h hz)
   · rw [show frung z = 1 by omega]; exact Rat.le_refl
theorem Ldexp_val (x z : Nat) (k : Int) (w : World) (hx : Fin64 x) (lx : x < 18446744073709551616) (hz : Fin64 z) (lz : z < 18446744073709551616) (h : fval z = fval x * p2 k) (h0 : fval z ≠ 0) (hk1 : -5000 ≤ k) (hk2 : k ≤ 5000) :
   Calls Tryd.prog 59 #[.float .f64 x, .int .i64 k] w fun e w' => e = .returned (.float .f64 z) ∧ w' = w := by
 have hx0 : fval x ≠ 0 := by intro e; apply h0; rw [h, e]; grind
 obtain ⟨y, e0, fy, ly, hy, he, hv, hc⟩ := normS x hx lx hx0
 obtain ⟨s, E, u, rfl, hs, h1, h2, hu⟩ := norm_parts fy ly hy
 obtain ⟨_, _, hfr, hvy⟩ := fval_norm hs h1 h2 hu
 have hzv : fval z = (if s = 0 then 1 else -1) * (((4503599627370496 + u : Nat) : Rat) * p2 ((E : Int) - 1075 + e0 + k)) := by
   rw [h, hv, hvy, p2_add, p2_add]; grind
 have hX0 : 0 ≤ ((4503599627370496 + u : Nat) : Rat) * p2 ((E : Int) - 1075 + e0 + k) := Rat.mul_nonneg Rat.natCast_nonneg (Rat.le_of_lt (p2_pos _))
 obtain ⟨hb1, hb2⟩ := fin_bounds hz lz h0 (X := ((4503599627370496 + u : Nat) : Rat) * p2 ((E : Int) - 1075 + e0 + k)) (by
   rw [hzv]
   by_cases hs0 : s = 0
   · left; rw [if_pos hs0, Rat.one_mul]
   · right; rw [if_neg hs0]; grind) hX0
 have hl1 : p2 ((E : Int) - 1023 + e0 + k) ≤ ((4503599627370496 + u : Nat) : Rat) * p2 ((E : Int) - 1075 + e0 + k) := by
   rw [show (E : Int) - 1023 + e0 + k = ((52 : Nat) : Int) + ((E : Int) - 1075 + e0 + k) by omega, p2_add, p2_nat]
   exact Rat.mul_le_mul_of_nonneg_right (Rat.natCast_le_natCast.2 (by omega)) (Rat.le_of_lt (p2_pos _))
 have hl2 : ((4503599627370496 + u : Nat) : Rat) * p2 ((E : Int) - 1075 + e0 + k) < p2 ((E : Int) - 1022 + e0 + k) := by
   rw [show (E : Int) - 1022 + e0 + k = ((53 : Nat) : Int) + ((E : Int) - 1075 + e0 + k) by omega, p2_add ((53 : Nat) : Int), p2_nat]
   exact Rat.mul_lt_mul_of_pos_right (Rat.natCast_lt_natCast.2 (by omega)) (p2_pos _)
 have q1 := p2_lt_iff.1 (lt_of_le_lt hl1 hb1)
 have q2 := p2_lt_iff.1 (lt_of_le_lt hb2 hl2)
 refine Ldexp_of _ _ _ w (fun w => ?_)
 by_cases hd : k + e0 + (E : Int) < 1
 · obtain ⟨T, hT⟩ : ∃ T : Nat, k + e0 + (E : Int) + 53 = (T : Int) := ⟨(k + e0 + (E : Int) + 53).toNat, by omega⟩
   obtain ⟨fy', ly', _, hvy'⟩ := fval_norm (E := T) hs (by omega) (by omega) hu
   exact ldexpS_den x _ E ((s + (E * 4503599627370496 + u)) / 4503599627370496) (s + u) (s + (T * 4503599627370496 + u)) z (T * 4503599627370496) T e0 k w (zeroS hx0) hx lx (by omega)
     (by rw [and_expSi _ (by omega)]; congr 1; omega) (by rw [andNot_expS hs (by omega)]; congr 1; omega) (or_expS hs (by omega) hu) (by rw [IntKind.wrap_u64]; omega) (by omega) (by omega) hk1 hk2 (by omega) (by omega) hT (by omega) (by omega)
     (mul_exact (by unfold Fin64 frung; decide) fy' hz lz (by
       rw [hzv, m53_val, hvy', show (E : Int) - 1075 + e0 + k = -53 + ((T : Int) - 1075) by omega, p2_add]
       grind) h0) hc
 · obtain ⟨T, hT⟩ : ∃ T : Nat, k + e0 + (E : Int) = (T : Int) := ⟨(k + e0 + (E : Int)).toNat, by omega⟩
   obtain ⟨fy', ly', _, hvy'⟩ := fval_norm (E := T) hs (by omega) (by omega) hu
   exact ldexpS_norm x _ E ((s + (E * 4503599627370496 + u)) / 4503599627370496) (s + u) (s + (T * 4503599627370496 + u)) z (T * 4503599627370496) T e0 k w (zeroS hx0) hx lx (by omega)
     (by rw [and_expSi _ (by omega)]; congr 1; omega) (by rw [andNot_expS hs (by omega)]; congr 1; omega) (or_expS hs (by omega) hu) (by rw [IntKind.wrap_u64]; omega) (by omega) (by omega) hk1 hk2 (by omega) (by omega) hT (by omega) (by omega)
     (mul_exact (by unfold Fin64 frung; decide) fy' hz lz (by
       rw [hzv, one_val, hvy', show (E : Int) - 1075 + e0 + k = (T : Int) - 1075 by omega, Rat.one_mul]) h0) hc
end
end Go.Proofs.YtkgnlobakicnjaaDoor
