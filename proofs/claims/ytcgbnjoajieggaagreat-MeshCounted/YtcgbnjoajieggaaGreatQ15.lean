/- Own texts, put together: Xc Xd Oa. -/
import Derived.Test.YtcgbnjoajieggaaGreatQ13
namespace Go.Proofs.YtcgbnjoajieggaaGreat
/- A list that rises and does not overlap, times a float: plain facts. -/
section
theorem U_mulX' {s t r : Nat} (h : r + 1074 = s + t) : U s * U t = U r := by
 unfold U
 rw [← p2_add, show (s : Int) - 1074 + ((t : Int) - 1074) = (r : Int) - 1074 by omega]
theorem U_mulX {s t : Nat} (h : 1074 ≤ s + t) : U s * U t = U (s + t - 1074) := U_mulX' (by omega)
theorem M.mul {u v x y : Rat} (h1 : M u x) (h2 : M v y) : M (u * v) (x * y) := by
 obtain ⟨j, rfl⟩ := h1
 obtain ⟨k, rfl⟩ := h2
 exact ⟨j * k, by rw [Rat.intCast_mul]; grind⟩
theorem ab_mul (x y : Rat) : ab (x * y) = ab x * ab y := by
 have key : ∀ a b : Rat, 0 ≤ a → 0 ≤ b → ab (a * b) = a * b := by
   intro a b ha hb
   have := Rat.mul_nonneg ha hb
   unfold ab; rw [if_neg (by grind)]
 have hx : x = ab x ∨ x = -ab x := by unfold ab; split <;> grind
 have hy : y = ab y ∨ y = -ab y := by unfold ab; split <;> grind
 have hk := key (ab x) (ab y) (ab_nonneg x) (ab_nonneg y)
 rcases hx with hx | hx <;> rcases hy with hy | hy
 · rw [← hx, ← hy] at hk
   rw [← hx, ← hy]; exact hk
 · have e : x * y = -(ab x * ab y) := by rw [← hx]; grind
   rw [e, ab_neg, hk]
 · have e : x * y = -(ab x * ab y) := by rw [← hy]; grind
   rw [e, ab_neg, hk]
 · have e : x * y = ab x * ab y := by grind
   rw [e, hk]
theorem lo_many {y : Rat} {l : List Rat} (h : ∀ d ∈ l, Lo d y) (hne : l ≠ []) : ∃ t, (∀ d ∈ l, ab d < U t) ∧ M (U t) y := by
 induction l with
 | nil => exact absurd rfl hne
 | cons d r ih =>
   obtain ⟨s, a, b⟩ := h d (by simp)
   by_cases e : r = []
   · subst e
     exact ⟨s, fun z hz => by simp at hz; rw [hz]; exact a, b⟩
   · obtain ⟨t, c, m⟩ := ih (fun z hz => h z (by simp [hz])) e
     rcases Nat.le_total s t with e | e
     · have := U_mono e
       exact ⟨t, fun z hz => by
         rcases List.mem_cons.1 hz with rfl | hz
         · grind
         · exact c z hz, m⟩
     · have := U_mono e
       exact ⟨s, fun z hz => by
         rcases List.mem_cons.1 hz with rfl | hz
         · exact a
         · have := c z hz; grind, b⟩
theorem Rnd.le_pow {q x : Rat} {T p : Nat} {k : Int} (R : Rnd q x T k) (h : ab q < U p) : ab x ≤ U p := by
 have hu := U_pos T
 have h1 := R.h1
 have h2 := R.h2
 have hq := ab_lt.1 h
 by_cases hT : T ≤ p
 · have hp : M (U T) (U p) := M.down hT ⟨1, by rw [one_rat]; grind⟩
   have key : ∀ z : Rat, M (U T) z → 2 * (z - U p) < U T → z ≤ U p := by
     intro z hz hlt
     rcases (Rat.le_total : z ≤ U p ∨ U p ≤ z) with h | h
     · exact h
     · have := M.eq hu hz hp (by grind) (by grind)
       grind
   exact ab_le.2 ⟨key x R.m (by grind), key (-x) R.m.neg (by grind)⟩
 · exfalso
   have h3 : T ≠ 0 := by omega
   have := R.unit_le h h3
   omega
structure SInv (b : Rat) (B : Nat) (de re outs : List Rat) (Q : Rat) : Prop where
 sum : Q + outs.sum = de.sum * b
 ex : Ex outs
 fo : ∀ h ∈ outs, F h
 low : ∀ h ∈ outs, Lo h Q
 hb : ∀ s, (∀ d ∈ de, ab d < U s) → 572 ≤ s → ∀ h ∈ outs, ab h < U s * U B
 qb : ∀ s, (∀ d ∈ de, ab d < U s) → 572 ≤ s → ab Q ≤ U s * U (B + 53)
 fQ : F Q
 ee : Ex (de ++ re)
 fe : ∀ x ∈ re, F x ∧ U 624 ≤ ab x
theorem SInv.start {b : Rat} {B : Nat} {e : List Rat} (h : Ex e) (hf : ∀ x ∈ e, F x ∧ U 624 ≤ ab x) : SInv b B [] e [] 0 where
 sum := by simp only [List.sum_nil]; grind
 ex := ⟨List.Pairwise.nil, by simp⟩
 fo := by simp
 low := by simp
 hb := by simp
 qb := fun s _ _ => by
   have := Rat.mul_pos (U_pos s) (U_pos (B + 53))
   rw [ab_le]; constructor <;> grind
 fQ := F_zero
 ee := h
 fe := hf
theorem SInv.unit {b Q x : Rat} {B : Nat} {de re outs : List Rat} (I : SInv b B de (x :: re) outs Q) : ∃ s, 572 ≤ s ∧ (∀ d ∈ de, ab d < U s) ∧ M (U s) x ∧ ab x < U (s + 53) ∧ x ≠ 0 ∧ U s ≤ ab x := by
 have x0 : x ≠ 0 := I.ee.2 x (by simp)
 obtain ⟨fx, hx⟩ := I.fe x (by simp)
 obtain ⟨K, _, h1, h2⟩ := binade (F.mult0 fx) x0
 have hK : 624 ≤ K := by
   have : U 624 < U (K + 1) := by grind
   have := U_lt_iff.1 this
   omega
 have hdx : ∀ d ∈ de, Lo d x := fun d hd => (List.pairwise_append.1 I.ee.1).2.2 d hd x (by simp)
 by_cases e : de = []
 · subst e
   have hm := F.mult fx h1
   exact ⟨K - 52, by omega, by simp, hm, by rw [show K - 52 + 53 = K + 1 by omega]; exact h2, x0, hm.ge (U_pos _) x0⟩
 · obtain ⟨t, ht, hm⟩ := lo_many hdx e
   rcases Nat.le_total t (K - 52) with h | h
   · have hm := F.mult fx h1
     have := U_mono h
     exact ⟨K - 52, by omega, fun d hd => by have := ht d hd; grind, hm, by rw [show K - 52 + 53 = K + 1 by omega]; exact h2, x0, hm.ge (U_pos _) x0⟩
   · have := U_mono (show K + 1 ≤ t + 53 by omega)
     exact ⟨t, by omega, ht, hm, by grind, x0, hm.ge (U_pos _) x0⟩
theorem scale_bounds {b Q x T t : Rat} {B s TT : Nat} {k : Int} (hB : 572 ≤ B) (hs : 572 ≤ s) (mb : M (U B) b) (bb : ab b < U (B + 53)) (mx : M (U s) x) (xb : ab x < U (s + 53)) (qb : ab Q ≤ U s * U (B + 53)) (RT : Rnd (x * b) T TT k) (hT : T + t = x * b) :
   ab t ≤ U (s + B - 1074 + 52) ∧ ab (Q + t) < U (s + B - 1074 + 54) ∧ Lo t T ∧ ab (x * b) < U (s + B - 1074 + 106) := by
 have e1 : U s * U (B + 53) = U (s + B - 1074 + 53) := U_mulX' (by omega)
 have e2 : U (s + 53) * U (B + 53) = U (s + B - 1074 + 106) := U_mulX' (by omega)
 have hxb : ab (x * b) < U (s + B - 1074 + 106) := by
   rw [ab_mul, ← e2]
   have h1 := Rat.mul_le_mul_of_nonneg_right (Rat.le_of_lt xb) (ab_nonneg b)
   have h2 := Rat.mul_lt_mul_of_pos_left bb (U_pos (s + 53))
   grind
 have hl := RT.rest_lo
 have hh := RT.half
 rw [show x * b - T = t by grind] at hl hh
 have ht : ab t ≤ U (s + B - 1074 + 52) := by
   by_cases h0 : TT = 0
   · subst h0
     have hm : M (U 0) (x * b) := by
       have := mx.mul mb
       rw [U_mulX (by omega)] at this
       exact this.down (Nat.zero_le _)
     have := RT.mult hm
     have h0 : t = 0 := by grind
     have := U_pos (s + B - 1074 + 52)
     rw [ab_le]; constructor <;> grind
   · have h1 := RT.unit_le hxb h0
     have h2 := U_mono (show TT ≤ (s + B - 1074 + 52) + 1 by omega)
     rw [U_succ] at h2
     grind
 refine ⟨ht, ?_, hl, hxb⟩
 have h1 := ab_add Q t
 have h2 := U_succ (s + B - 1074 + 53)
 have h3 := U_succ (s + B - 1074 + 52)
 have := U_pos (s + B - 1074 + 52)
 rw [e1] at qb
 grind
theorem SInv.step {b Q x T t Q1 h1 Q2 h2 : Rat} {B : Nat} {de re outs : List Rat} {TT T1 T2 : Nat} {kT k1 k2 : Int} (I : SInv b B de (x :: re) outs Q) (hB : 572 ≤ B) (mb : M (U B) b) (bb : ab b < U (B + 53))
   (RT : Rnd (x * b) T TT kT) (hT : T + t = x * b) (ft : F t) (R1 : Rnd (Q + t) Q1 T1 k1) (e1 : Q1 + h1 = Q + t) (f1 : F h1) (R2 : Rnd (T + Q1) Q2 T2 k2) (e2 : Q2 + h2 = T + Q1) (f2 : F h2) : SInv b B (de ++ [x]) re (grownR (grownR outs h1) h2) Q2 := by
 obtain ⟨s, hs, hd, mx, xb, x0, sx⟩ := I.unit
 have hqs := I.qb s hd hs
 obtain ⟨c1, c2, c3, c4⟩ := scale_bounds hB hs mb bb mx xb hqs RT hT
 have mxb : M (U s * U B) (x * b) := mx.mul mb
 -- the elder ones
 have old : ∀ h ∈ outs, Lo h T ∧ Lo h Q1 ∧ Lo h h1 ∧ Lo h Q2 ∧ Lo h h2 := by
   intro h hh
   have a : Lo h (x * b) := ⟨s + B - 1074, by rw [← U_mulX (by omega)]; exact I.hb s hd hs h hh, by rw [← U_mulX (by omega)]; exact mxb⟩
   have a1 := a.rnd RT
   have a2 := a.sub a1
   rw [show x * b - T = t by grind] at a2
   have a3 := ((I.low h hh).add a2).rnd R1
   have a4 := ((I.low h hh).add a2).sub a3
   rw [show Q + t - Q1 = h1 by grind] at a4
   have a5 := (a1.add a3).rnd R2
   have a6 := (a1.add a3).sub a5
   rw [show T + Q1 - Q2 = h2 by grind] at a6
   exact ⟨a1, a3, a4, a5, a6⟩
 -- what is rounded off first
 have first : h1 ≠ 0 → ab h1 ≤ U (s + B - 1074) ∧ Lo h1 Q2 ∧ Lo h1 h2 := by
   intro h0
   have a1 := R1.rest_le' I.fQ
   have a2 := R1.rest_lo
   have a3 := R1.half
   rw [show Q + t - Q1 = h1 by grind] at a1 a2 a3
   have hT1 : T1 ≠ 0 := by
     intro e
     subst e
     have := R1.mult ((F.mult0 I.fQ).add (F.mult0 ft))
     exact h0 (by grind)
   have u1 := R1.unit_le c2 hT1
   have u2 := U_mono (show T1 ≤ (s + B - 1074) + 1 by omega)
   rw [U_succ] at u2
   have a4 : Lo h1 T := by
     obtain ⟨r, ra, rb⟩ := c3
     exact ⟨r, by grind, rb⟩
   have a5 := (a4.add a2).rnd R2
   have a6 := (a4.add a2).sub a5
   rw [show T + Q1 - Q2 = h2 by grind] at a6
   exact ⟨by grind, a5, a6⟩
 have ex1 : Ex (grownR outs h1) := I.ex.grow (fun h hh => (old h hh).2.2.1)
 have low1 : ∀ h ∈ grownR outs h1, Lo h Q2 ∧ Lo h h2 := by
   intro h hh
   rcases mem_grow hh with hh | ⟨rfl, h0⟩
   · exact (old h hh).2.2.2
   · exact (first h0).2
 -- a unit above all that is done
 have up : ∀ s', (∀ d ∈ de ++ [x], ab d < U s') → s < s' := by
   intro s' h'
   have := h' x (by simp)
   have : U s < U s' := by grind
   exact U_lt_iff.1 this
 have hb1 : ∀ s', (∀ d ∈ de ++ [x], ab d < U s') → 572 ≤ s' → ∀ h ∈ grownR outs h1, ab h < U s' * U B := by
   intro s' h' hs' h hh
   rcases mem_grow hh with hh | ⟨rfl, h0⟩
   · exact I.hb s' (fun d hd => h' d (by simp [hd])) hs' h hh
   · have a := (first h0).1
     have l := up s' h'
     have := U_lt_iff.2 (show s + B - 1074 < s' + B - 1074 by omega)
     rw [U_mulX (by omega)]
     grind
 have sum1 : T + Q1 + (grownR outs h1).sum = (de ++ [x]).sum * b := by
   rw [sum_grow, List.sum_append, List.sum_cons, List.sum_nil, Rat.add_zero]
   have := I.sum
   grind
 have big : ∀ s', (∀ d ∈ de ++ [x], ab d < U s') → 572 ≤ s' → ab (T + Q1) < U (s' + B - 1074 + 53) := by
   intro s' h' hs'
   have a1 := ex1.bound (s := s' + B - 1074) (fun h hh => by rw [← U_mulX (by omega)]; exact hb1 s' h' hs' h hh)
   have e3 : Ex (de ++ [x]) := by
     have := I.ee
     rw [List.append_cons] at this
     exact this.left
   have a2 := e3.bound h'
   have a3 := mb.room (by omega) bb
   have a4 : ab ((de ++ [x]).sum * b) ≤ U (s' + B - 1074 + 53) - U (s' + B - 1074) := by
     rw [ab_mul]
     have b1 := Rat.mul_le_mul_of_nonneg_right (Rat.le_of_lt a2) (ab_nonneg b)
     have b2 := Rat.mul_le_mul_of_nonneg_left a3 (Rat.le_of_lt (U_pos s'))
     have b3 : U s' * U (B + 53) = U (s' + B - 1074 + 53) := U_mulX' (by omega)
     have b4 : U s' * U B = U (s' + B - 1074) := U_mulX (by omega)
     have b5 : U s' * (U (B + 53) - U B) = U s' * U (B + 53) - U s' * U B := by grind
     rw [b5, b3, b4] at b2
     grind
   have := ab_self ((de ++ [x]).sum * b)
   have := ab_self (grownR outs h1).sum
   rw [ab_lt]; constructor <;> grind
 refine ⟨?_, ex1.grow (fun h hh => (low1 h hh).2), ?_, ?_, ?_, ?_, R2.f, ?_, fun y hy => I.fe y (by simp [hy])⟩
 · rw [sum_grow]; grind
 · intro h hh
   rcases mem_grow hh with hh | ⟨rfl, _⟩
   · rcases mem_grow hh with hh | ⟨rfl, _⟩
     · exact I.fo h hh
     · exact f1
   · exact f2
 · intro h hh
   rcases mem_grow hh with hh | ⟨rfl, _⟩
   · exact (low1 h hh).1
   · have := R2.rest_lo
     rwa [show T + Q1 - Q2 = h by grind] at this
 · intro s' h' hs' h hh
   rcases mem_grow hh with hh | ⟨rfl, h0⟩
   · exact hb1 s' h' hs' h hh
   · have a1 := big s' h' hs'
     have hT2 : T2 ≠ 0 := by
       intro e
       subst e
       have := R2.mult ((F.mult0 RT.f).add (F.mult0 R1.f))
       exact h0 (by grind)
     have u1 := R2.unit_le a1 hT2
     have u2 := U_mono (show T2 ≤ s' + B - 1074 by omega)
     have a3 := R2.half
     rw [show T + Q1 - Q2 = h by grind] at a3
     have := ab_nonneg h
     have := U_pos (s' + B - 1074)
     rw [U_mulX (by omega)]
     grind
 · intro s' h' hs'
   have := R2.le_pow (big s' h' hs')
   rwa [show U s' * U (B + 53) = U (s' + B - 1074 + 53) from U_mulX' (by omega)]
 · have := I.ee
   rwa [List.append_cons] at this
theorem SInv.done {b Q : Rat} {B : Nat} {de outs : List Rat} (I : SInv b B de [] outs Q) : Ex (grownR outs Q) ∧ (grownR outs Q).sum = de.sum * b ∧ ∀ x ∈ grownR outs Q, F x := by
 refine ⟨I.ex.grow I.low, ?_, fun x hx => ?_⟩
 · rw [sum_grow, ← I.sum]; grind
 · rcases mem_grow hx with hx | ⟨rfl, _⟩
   · exact I.fo x hx
   · exact I.fQ
end

/- A list that rises and does not overlap, squeezed: plain facts. -/
section
def RndE (q x : Rat) (T : Nat) (k : Int) : Prop := Rnd q x T k ∧ (2 * ab (q - x) = U T → k % 2 = 0)
structure ZInv (top : Nat) (S : Rat) (acc : List Rat) (c : Rat) (lo : List Rat) : Prop where
 sum : lo.sum + c + acc.sum = S
 exl : Ex (lo ++ [c])
 exa : Ex acc
 fl : ∀ x ∈ lo, F x
 fc : F c
 fa : ∀ x ∈ acc, F x
 room : ∃ p, ab (c + lo.sum) < U p ∧ ab c ≤ U p ∧ p + 52 * acc.length ≤ top ∧ ∀ o ∈ acc, M (U (p + 1)) o
 near : ∀ L, acc.getLast? = some L → ∃ P, U (P + 52) ≤ ab L ∧ ab (S - L) < U P
theorem ZInv.start {top : Nat} {c : Rat} {lo : List Rat} (h : Ex (lo ++ [c])) (hf : ∀ x ∈ lo ++ [c], F x ∧ ab x < U top) : ZInv top ((lo ++ [c]).sum) [] c lo where
 sum := by simp only [List.sum_append, List.sum_cons, List.sum_nil]; grind
 exl := h
 exa := ⟨List.Pairwise.nil, by simp⟩
 fl := fun x hx => (hf x (by simp [hx])).1
 fc := (hf c (by simp)).1
 fa := by simp
 room := ⟨top, by
   have := h.bound (s := top) (fun x hx => (hf x hx).2)
   simp only [List.sum_append, List.sum_cons, List.sum_nil] at this
   rwa [show c + lo.sum = lo.sum + (c + 0) by grind], Rat.le_of_lt (hf c (by simp)).2, by simp, by simp⟩
 near := by simp
theorem U_two (T : Nat) (h : T ≠ 0) : U T = 2 * U (T - 1) := by
 have := U_succ (T - 1)
 rwa [show T - 1 + 1 = T by omega] at this
theorem U_52 (T : Nat) : U (T + 52) = 4503599627370496 * U T := by
 rw [U_add]
 have e : ((2 ^ 52 : Nat) : Rat) = 4503599627370496 := by decide +kernel
 rw [e]
theorem ZInv.next {top p : Nat} {S c x : Rat} {acc lo : List Rat} (I : ZInv top S acc c (lo ++ [x])) (h1 : ab (c + (lo ++ [x]).sum) < U p) (h2 : ab c ≤ U p) : ab (c + x) ≤ U p := by
 rw [List.sum_append, List.sum_cons, List.sum_nil, Rat.add_zero] at h1
 have hp := I.exl
 have c0 : c ≠ 0 := hp.2 c (by simp)
 have pw := List.pairwise_append.1 hp.1
 have pw2 := List.pairwise_append.1 pw.1
 by_cases e : lo = []
 · subst e
   rw [List.sum_nil] at h1
   rw [show c + x = c + (0 + x) by grind]
   exact Rat.le_of_lt h1
 · obtain ⟨t, ht, hm⟩ := lo_many (y := c) (l := lo) (fun d hd => pw.2.2 d (by simp [hd]) c (by simp)) e
   obtain ⟨t', ht', hm'⟩ := lo_many (y := x) (l := lo) (fun d hd => pw2.2.2 d hd x (by simp)) e
   obtain ⟨r, hr, m1, m2⟩ : ∃ r, (∀ d ∈ lo, ab d < U r) ∧ M (U r) c ∧ M (U r) x := by
     rcases Nat.le_total t t' with e | e
     · exact ⟨t, ht, hm, hm'.down e⟩
     · exact ⟨t', ht', hm.down e, hm'⟩
   have hb := (Ex.left (b := [x]) ⟨pw.1, fun y hy => hp.2 y (by simp at hy ⊢; grind)⟩).bound hr
   have hrp : r ≤ p := by
     have := m1.ge (U_pos r) c0
     exact U_le_iff.1 (by grind)
   have m3 := m1.add m2
   have mp : M (U r) (U p) := M.down hrp ⟨1, by rw [one_rat]; grind⟩
   have hu := U_pos r
   have hs := ab_lt.1 h1
   have hl := ab_lt.1 hb
   have key : ∀ z : Rat, M (U r) z → z < U p + U r → z ≤ U p := by
     intro z hz hlt
     rcases (Rat.le_total : z ≤ U p ∨ U p ≤ z) with h | h
     · exact h
     · have := M.eq hu hz mp (by grind) (by grind)
       grind
   exact ab_le.2 ⟨key _ m3 (by grind), key _ m3.neg (by grind)⟩
theorem ZInv.tail {top : Nat} {S c x : Rat} {acc lo : List Rat} (I : ZInv top S acc c (lo ++ [x])) : Ex lo ∧ (∀ d ∈ lo, Lo d c ∧ Lo d x) ∧ Lo x c ∧ c ≠ 0 ∧ x ≠ 0 := by
 have hp := I.exl
 have pw := List.pairwise_append.1 hp.1
 have pw2 := List.pairwise_append.1 pw.1
 exact ⟨⟨pw2.1, fun y hy => hp.2 y (by simp [hy])⟩, fun d hd => ⟨pw.2.2 d (by simp [hd]) c (by simp), pw2.2.2 d hd x (by simp)⟩, pw.2.2 x (by simp) c (by simp), hp.2 c (by simp), hp.2 x (by simp)⟩
theorem Ex.snoc {l : List Rat} {x : Rat} (h : Ex l) (h1 : ∀ d ∈ l, Lo d x) (h0 : x ≠ 0) : Ex (l ++ [x]) :=
 ⟨List.pairwise_append.2 ⟨h.1, by simp, fun d hd y hy => by simp at hy; rw [hy]; exact h1 d hd⟩, fun y hy => by
   rcases List.mem_append.1 hy with hy | hy
   · exact h.2 y hy
   · simp at hy; rw [hy]; exact h0⟩
theorem Ex.cons {l : List Rat} {x : Rat} (h : Ex l) (h1 : ∀ d ∈ l, Lo x d) (h0 : x ≠ 0) : Ex (x :: l) :=
 ⟨List.pairwise_cons.2 ⟨h1, h.1⟩, fun y hy => by
   rcases List.mem_cons.1 hy with rfl | hy
   · exact h0
   · exact h.2 y hy⟩
theorem Rnd.le_pow' {q x : Rat} {T p : Nat} {k : Int} (R : Rnd q x T k) (h : ab q ≤ U p) : ab x ≤ U p := by
 by_cases e : ab q = U p
 · have hf : F q := by
     unfold ab at e
     split at e
     · exact ⟨p, -1, by rw [show ((-1 : Int) : Rat) = -1 from rfl]; grind, by omega, by omega⟩
     · exact ⟨p, 1, by rw [one_rat]; grind, by omega, by omega⟩
   rw [R.exact hf]; exact h
 · exact R.le_pow (by grind)
theorem ZInv.take {top : Nat} {S c x : Rat} {acc lo : List Rat} (I : ZInv top S acc c (lo ++ [x])) (fs : F (c + x)) : ZInv top S acc (c + x) lo := by
 obtain ⟨el, hlo, hxc, c0, x0⟩ := I.tail
 obtain ⟨p, r1, r2, r3, r4⟩ := I.room
 have hn := I.next r1 r2
 refine ⟨?_, el.snoc (fun d hd => (hlo d hd).1.add (hlo d hd).2) ?_, I.exa, fun y hy => I.fl y (by simp [hy]), fs, I.fa, ⟨p, ?_, hn, r3, r4⟩, I.near⟩
 · rw [← I.sum, List.sum_append, List.sum_cons, List.sum_nil]; grind
 · intro e
   have := hxc.lt c0
   rw [show c = -x by grind, ab_neg] at this
   grind
 · rw [List.sum_append, List.sum_cons, List.sum_nil] at r1
   rwa [show c + x + lo.sum = c + (lo.sum + (x + 0)) by grind]
theorem M.even {T : Nat} {k : Int} {s : Rat} (h : s = (k : Rat) * U T) (he : k % 2 = 0) : M (U (T + 1)) s := by
 obtain ⟨j, rfl⟩ : ∃ j, k = j * 2 := ⟨k / 2, by omega⟩
 refine ⟨j, ?_⟩
 rw [h, U_succ, Rat.intCast_mul, show ((2 : Int) : Rat) = 2 from rfl]; grind
theorem ZInv.emit {top : Nat} {S c x s r : Rat} {acc lo : List Rat} {T : Nat} {k : Int} (I : ZInv top S acc c (lo ++ [x])) (R : RndE (c + x) s T k) (hr : s + r = c + x) (fr : F r) (r0 : r ≠ 0) : ZInv top S (s :: acc) r lo := by
 obtain ⟨el, hlo, hxc, c0, x0⟩ := I.tail
 obtain ⟨p, r1, r2, r3, r4⟩ := I.room
 have hn := I.next r1 r2
 obtain ⟨R, hev⟩ := R
 have fx := I.fl x (by simp)
 have hT : T ≠ 0 := by
   intro e
   subst e
   have := R.mult ((F.mult0 I.fc).add (F.mult0 fx))
   exact r0 (by grind)
 have hhalf := R.half
 rw [show c + x - s = r by grind] at hev hhalf
 have hu := U_pos T
 have e2 := U_two T hT
 have e52 := U_52 T
 have hbig : U (T + 52) ≤ ab (c + x) := by
   rw [le_ab, e52]
   rcases R.h3 with h | h | h
   · exact absurd h hT
   · exact Or.inl h
   · exact Or.inr h
 have hTp : T + 52 ≤ p := U_le_iff.1 (by grind)
 have hs : U (T + 52) ≤ ab s := by
   have m52 : M (U T) (U (T + 52)) := M.down (show T ≤ T + 52 by omega) ⟨1, by rw [one_rat]; grind⟩
   have key : ∀ z : Rat, M (U T) z → U (T + 52) < z + U T → U (T + 52) ≤ z := by
     intro z hz hlt
     rcases (Rat.le_total : U (T + 52) ≤ z ∨ z ≤ U (T + 52)) with h | h
     · exact h
     · have := M.eq hu hz m52 (by grind) (by grind)
       grind
   have h1 := R.h1
   have h2 := R.h2
   rw [le_ab]
   rcases le_ab.1 hbig with h | h
   · exact Or.inl (key s R.m (by grind))
   · exact Or.inr (key (-s) R.m.neg (by grind))
 have s0 : s ≠ 0 := by
   intro e
   rw [e] at hs
   have := U_pos (T + 52)
   have : ab 0 ≤ 0 := ab_le.2 ⟨by grind, by grind⟩
   grind
 have hsp : ab s ≤ U p := R.le_pow' hn
 have hlor : ∀ d ∈ lo, Lo d r := fun d hd => by
   have a := (hlo d hd).1.add (hlo d hd).2
   have b := a.sub (a.rnd R)
   rwa [show c + x - s = r by grind] at b
 have hlt : ab s < U (p + 1) := by
   have := U_succ p
   have := U_pos p
   grind
 have exa' : Ex (s :: acc) := I.exa.cons (fun o ho => ⟨p + 1, hlt, r4 o ho⟩) s0
 -- what is left below
 have hroom : ∃ p', ab (r + lo.sum) < U p' ∧ ab r ≤ U p' ∧ p' + 52 ≤ p ∧ U (p' + 52) ≤ ab s ∧ M (U (p' + 1)) s := by
   by_cases tie : 2 * ab r = U T
   · have hm := M.even R.hx (hev tie)
     refine ⟨T, ?_, by have := ab_nonneg r; grind, hTp, hs, hm⟩
     by_cases e : lo = []
     · subst e
       rw [List.sum_nil, Rat.add_zero]; grind
     · obtain ⟨t, ht, hm⟩ := lo_many hlor e
       have a1 := el.bound ht
       have a2 := hm.ge (U_pos t) r0
       have a3 := ab_add r lo.sum
       grind
   · have hlt2 : ab r < U (T - 1) := by grind
     have hm : M (U (T - 1 + 1)) s := by rw [show T - 1 + 1 = T by omega]; exact R.m
     refine ⟨T - 1, ?_, Rat.le_of_lt hlt2, by omega, by have := U_mono (show T - 1 + 52 ≤ T + 52 by omega); grind, hm⟩
     by_cases e : lo = []
     · subst e
       rw [List.sum_nil, Rat.add_zero]; exact hlt2
     · obtain ⟨t, ht, hm⟩ := lo_many hlor e
       have a1 := el.bound ht
       have a2 := hm.ge (U_pos t) r0
       have htT : t ≤ T - 1 := U_le_iff.1 (by grind)
       have a3 := hm.room htT hlt2
       have a4 := ab_add r lo.sum
       grind
 obtain ⟨p', q1, q2, q3, q4, q5⟩ := hroom
 refine ⟨?_, el.snoc hlor r0, exa', fun y hy => I.fl y (by simp [hy]), fr, ?_, ⟨p', q1, q2, ?_, ?_⟩, ?_⟩
 · rw [← I.sum]
   simp only [List.sum_append, List.sum_cons, List.sum_nil]; grind
 · intro y hy
   rcases List.mem_cons.1 hy with rfl | hy
   · exact R.f
   · exact I.fa y hy
 · rw [List.length_cons]; omega
 · intro o ho
   rcases List.mem_cons.1 ho with rfl | ho
   · exact q5
   · exact (r4 o ho).down (by omega)
 · intro L hL
   by_cases e : acc = []
   · subst e
     simp at hL
     subst hL
     have hS := I.sum
     rw [List.sum_append, List.sum_cons, List.sum_nil] at hS
     exact ⟨p', q4, by rw [show S - s = r + lo.sum by grind]; exact q1⟩
   · refine I.near L ?_
     rw [List.getLast?_cons_of_ne_nil e] at hL
     exact hL
theorem ZInv.done {top : Nat} {S c : Rat} {acc : List Rat} (I : ZInv top S acc c []) : Ex (c :: acc) ∧ (c :: acc).sum = S ∧ (∀ x ∈ c :: acc, F x) ∧ 52 * (c :: acc).length ≤ top + 52 := by
 obtain ⟨p, r1, r2, r3, r4⟩ := I.room
 have c0 : c ≠ 0 := I.exl.2 c (by simp)
 have hlt : ab c < U (p + 1) := by
   have := U_succ p
   have := U_pos p
   grind
 refine ⟨I.exa.cons (fun o ho => ⟨p + 1, hlt, r4 o ho⟩) c0, ?_, ?_, ?_⟩
 · have := I.sum
   rw [List.sum_nil] at this
   rw [List.sum_cons]; grind
 · intro y hy
   rcases List.mem_cons.1 hy with rfl | hy
   · exact I.fc
   · exact I.fa y hy
 · rw [List.length_cons]; omega
theorem ZInv.lead {top : Nat} {S c L : Rat} {acc : List Rat} (I : ZInv top S acc c []) (hL : (c :: acc).getLast? = some L) : 1125899906842624 * ab (L - S) ≤ ab S ∧ ((0 < L ∧ 0 < S) ∨ (L < 0 ∧ S < 0)) := by
 have c0 : c ≠ 0 := I.exl.2 c (by simp)
 by_cases e : acc = []
 · subst e
   simp at hL
   subst hL
   have hS := I.sum
   simp only [List.sum_nil] at hS
   have : S = c := by grind
   subst this
   have : ab (S - S) ≤ 0 := ab_le.2 ⟨by grind, by grind⟩
   have := ab_nonneg S
   exact ⟨by grind, by grind⟩
 · rw [List.getLast?_cons_of_ne_nil e] at hL
   obtain ⟨P, h1, h2⟩ := I.near L hL
   rw [U_52] at h1
   have := U_pos P
   have := ab_lt.1 h2
   have h3 : ab (L - S) < U P := by rw [show L - S = -(S - L) by grind, ab_neg]; exact h2
   rcases le_ab.1 h1 with h | h
   · have h4 : 4503599627370495 * U P ≤ ab S := by rw [le_ab]; left; grind
     exact ⟨by grind, Or.inl ⟨by grind, by grind⟩⟩
   · have h4 : 4503599627370495 * U P ≤ ab S := by rw [le_ab]; right; grind
     exact ⟨by grind, Or.inr ⟨by grind, by grind⟩⟩
end

/- Signs that are told fast, and differences as lists: plain facts. -/
section
theorem RN.mm {q x : Rat} {t : Nat} (h : RN q x) (hm : M (U t) q) : M (U t) x := by
 obtain ⟨_, _, R⟩ := h
 exact hm.rnd R
theorem RN.rel {q x : Rat} {t : Nat} (h : RN q x) (hm : M (U t) q) : 9007199254740992 * ab (q - x) ≤ ab x := by
 obtain ⟨T, k, R⟩ := h
 rcases Nat.lt_or_ge t T with ht | ht
 · have hu := U_pos T
   have h1 := R.h1
   have h2 := R.h2
   have hx := R.hx
   have hd : 2 * ab (q - x) ≤ U T := by
     have : ab (q - x) ≤ U T / 2 := ab_le.2 ⟨by grind, by grind⟩
     grind
   have hk : 4503599627370496 * U T ≤ ab x := by
     rcases R.h3 with h | h | h
     · omega
     · have : (4503599627370495 : Int) < k := by
         apply cast_lt hu
         rw [← hx, show ((4503599627370495 : Int) : Rat) = 4503599627370495 from rfl]
         grind
       have h3 : (4503599627370496 : Int) ≤ k := by omega
       have h4 : ((4503599627370496 : Int) : Rat) * U T ≤ (k : Rat) * U T := Rat.mul_le_mul_of_nonneg_right (Rat.intCast_le_intCast.2 h3) (Rat.le_of_lt hu)
       rw [← hx, show ((4503599627370496 : Int) : Rat) = 4503599627370496 from rfl] at h4
       exact le_ab.2 (Or.inl h4)
     · have : k < (-4503599627370495 : Int) := by
         apply cast_lt hu
         rw [← hx, show ((-4503599627370495 : Int) : Rat) = -4503599627370495 from rfl]
         grind
       have h3 : k ≤ (-4503599627370496 : Int) := by omega
       have h4 : (k : Rat) * U T ≤ ((-4503599627370496 : Int) : Rat) * U T := Rat.mul_le_mul_of_nonneg_right (Rat.intCast_le_intCast.2 h3) (Rat.le_of_lt hu)
       rw [← hx, show ((-4503599627370496 : Int) : Rat) = -4503599627370496 from rfl] at h4
       exact le_ab.2 (Or.inr (by grind))
   grind
 · have e := R.mult (hm.down ht)
   subst e
   rw [show x - x = 0 by grind, show ab 0 = 0 by unfold ab; grind]
   have := ab_nonneg x
   grind
theorem prod_err {p q x y L : Rat} (h1 : 9007199254740992 * ab (p - x) ≤ ab x) (h2 : 9007199254740992 * ab (q - y) ≤ ab y) (h3 : 9007199254740992 * ab (x * y - L) ≤ ab L) :
   9223372036854775808 * ab (p * q - L) ≤ 3073 * ab L := by
 have a0 := ab_nonneg x
 have b0 := ab_nonneg y
 have f0 := ab_nonneg (q - y)
 have d0 := ab_nonneg q
 have hd : ab q ≤ ab y + ab (q - y) := by
   have := ab_add y (q - y)
   rwa [show y + (q - y) = q by grind] at this
 have t1 : ab (p * q - x * y) ≤ ab (p - x) * ab q + ab x * ab (q - y) := by
   have := ab_add ((p - x) * q) (x * (q - y))
   rw [ab_mul, ab_mul, show (p - x) * q + x * (q - y) = p * q - x * y by grind] at this
   exact this
 have t2 : ab (p * q - L) ≤ ab (p * q - x * y) + ab (x * y - L) := by
   have := ab_add (p * q - x * y) (x * y - L)
   rwa [show p * q - x * y + (x * y - L) = p * q - L by grind] at this
 have t3 : ab (x * y) ≤ ab L + ab (x * y - L) := by
   have := ab_add L (x * y - L)
   rwa [show L + (x * y - L) = x * y by grind] at this
 rw [ab_mul] at t3
 have m1 := Rat.mul_le_mul_of_nonneg_right h1 d0
 have m2 := Rat.mul_le_mul_of_nonneg_left hd a0
 have m3 := Rat.mul_le_mul_of_nonneg_left h2 a0
 have m4 := Rat.mul_nonneg a0 b0
 have m5 := Rat.mul_nonneg a0 f0
 have l0 := ab_nonneg L
 generalize ab (p * q - L) = g1 at *
 generalize ab (p * q - x * y) = g2 at *
 generalize ab (x * y - L) = g3 at *
 generalize ab (p - x) = e at *
 generalize ab (q - y) = f at *
 generalize ab x = a at *
 generalize ab y = b at *
 generalize ab q = d at *
 generalize ab L = l at *
 have n1 : 9007199254740992 * (e * d) ≤ a * d := by grind
 have n2 : a * d ≤ a * b + a * f := by grind
 have n3 : 9007199254740992 * (a * f) ≤ a * b := by grind
 clear m1 m2 m3
 generalize e * d = z1 at *
 generalize a * d = z2 at *
 generalize a * b = z3 at *
 generalize a * f = z4 at *
 grind
theorem fast_sign {P Q L R s z : Rat} (h1 : 9223372036854775808 * ab (P - L) ≤ 3073 * ab L) (h2 : 9223372036854775808 * ab (Q - R) ≤ 3073 * ab R) (h3 : 9007199254740992 * ab (L - R - s) ≤ ab s) (h4 : 9007199254740992 * ab (ab L + ab R - z) ≤ ab z) (hz : 0 ≤ z) (h5 : z ≤ 2251799813685248 * ab s) :
   (0 < s ∧ 0 < P - Q) ∨ (s < 0 ∧ P - Q < 0) ∨ (s = 0 ∧ P - Q = 0) := by
 have ez : ab z = z := by unfold ab; rw [if_neg (by grind)]
 rw [ez] at h4
 obtain ⟨p1, p2⟩ := ab_self (P - L)
 obtain ⟨q1, q2⟩ := ab_self (Q - R)
 obtain ⟨s1, s2⟩ := ab_self (L - R - s)
 obtain ⟨z1, z2⟩ := ab_self (ab L + ab R - z)
 have l0 := ab_nonneg L
 have r0 := ab_nonneg R
 have g0 := ab_nonneg (ab L + ab R - z)
 rcases (by grind : 0 < s ∨ 0 = s ∨ s < 0) with hs | hs | hs
 · left
   have es : ab s = s := by unfold ab; rw [if_neg (by grind)]
   rw [es] at h3 h5
   refine ⟨hs, ?_⟩
   generalize ab (P - L) = v1 at *
   generalize ab (Q - R) = v2 at *
   generalize ab (L - R - s) = v3 at *
   generalize ab (ab L + ab R - z) = v4 at *
   generalize ab L = v5 at *
   generalize ab R = v6 at *
   grind
 · right; right
   have es : ab s = 0 := by rw [← hs]; rfl
   rw [es] at h5
   have z0 : z = 0 := by grind
   subst z0
   have e1 : ab L = 0 := by grind
   have e2 : ab R = 0 := by grind
   rw [e1] at h1
   rw [e2] at h2
   have := ab_zero (x := P - L) (by grind)
   have := ab_zero (x := Q - R) (by grind)
   have := ab_zero (x := L) (by grind)
   have := ab_zero (x := R) (by grind)
   exact ⟨hs.symm, by grind⟩
 · right; left
   have es : ab s = -s := by unfold ab; rw [if_pos hs]
   rw [es] at h3 h5
   refine ⟨hs, ?_⟩
   generalize ab (P - L) = v1 at *
   generalize ab (Q - R) = v2 at *
   generalize ab (L - R - s) = v3 at *
   generalize ab (ab L + ab R - z) = v4 at *
   generalize ab L = v5 at *
   generalize ab R = v6 at *
   grind
theorem F_less {z : Rat} {t : Nat} (hz : F z) (hm : M (U t) z) (ht : 104 ≤ t) : F (U 1023 * z) := by
 obtain ⟨S, m, e, m1, m2⟩ := hz
 rcases Nat.lt_or_ge S 51 with h | h
 · have hb : ab z < U t := by
     have hu := U_pos S
     have h1 := F.abs e m1 m2
     have h2 : 9007199254740992 * U S = U (S + 53) := by rw [U_add]; rfl
     have h3 := U_lt_iff.2 (show S + 53 < t by omega)
     exact ab_lt.2 ⟨by grind, by grind⟩
   have z0 : z = 0 := by
     apply Classical.byContradiction
     intro h0
     have := hm.ge (U_pos t) h0
     grind
   rw [z0, Rat.mul_zero]
   exact F_zero
 · refine ⟨S - 51, m, ?_, m1, m2⟩
   have := U_mulX' (s := 1023) (t := S) (r := S - 51) (by omega)
   rw [e, ← this]
   grind
theorem F_int (n : Int) (h1 : -9007199254740992 ≤ n) (h2 : n ≤ 9007199254740992) : F (n : Rat) :=
 ⟨1074, n, by rw [show U 1074 = 1 from by unfold U; exact p2_zero]; grind, h1, h2⟩
theorem RN.lo {q x y : Rat} (h : RN q x) (e : x + y = q) : Lo y x := by
 obtain ⟨T, k, R⟩ := h
 have hu := U_pos T
 have h1 := R.h1
 have h2 := R.h2
 exact ⟨T, ab_lt.2 ⟨by grind, by grind⟩, R.m⟩
end
end Go.Proofs.YtcgbnjoajieggaaGreat
