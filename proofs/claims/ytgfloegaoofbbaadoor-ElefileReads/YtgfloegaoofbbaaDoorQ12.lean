/- Own texts, put together: Xa Xb Xc Xd Oa Eu Ev Bn Bo Bq Bt. -/
import Derived.Test.YtgfloegaoofbbaaDoorQ5
import Derived.Test.YtgfloegaoofbbaaDoorQ7
import Derived.Deep.Draws
import Derived.Deep.QuietTactic
import Derived.BigQuiet
import Derived.Deep.DeepCutAuto
namespace Go.Proofs.YtgfloegaoofbbaaDoor
/- Lists of floats that rise and do not overlap: plain facts. -/
section
def ab (x : Rat) : Rat := if x < 0 then -x else x
theorem ab_le {x c : Rat} : ab x ≤ c ↔ x ≤ c ∧ -x ≤ c := by unfold ab; split <;> grind
theorem ab_lt {x c : Rat} : ab x < c ↔ x < c ∧ -x < c := by unfold ab; split <;> grind
theorem le_ab {x c : Rat} : c ≤ ab x ↔ c ≤ x ∨ c ≤ -x := by unfold ab; split <;> grind
theorem ab_self (x : Rat) : x ≤ ab x ∧ -x ≤ ab x := ab_le.1 Rat.le_refl
theorem ab_nonneg (x : Rat) : 0 ≤ ab x := by unfold ab; split <;> grind
theorem ab_neg (x : Rat) : ab (-x) = ab x := by unfold ab; split <;> split <;> grind
theorem ab_add (x y : Rat) : ab (x + y) ≤ ab x + ab y := by
 have := ab_self x
 have := ab_self y
 rw [ab_le]; constructor <;> grind
theorem ab_pos {x : Rat} (h : x ≠ 0) : 0 < ab x := by unfold ab; split <;> grind
theorem U_le_iff {S T : Nat} : U S ≤ U T ↔ S ≤ T := by unfold U; rw [p2_le_iff]; omega
theorem U_lt_iff {S T : Nat} : U S < U T ↔ S < T := by unfold U; rw [p2_lt_iff]; omega
theorem two_rat (j : Nat) : (((2 ^ j : Nat) : Int) : Rat) = ((2 ^ j : Nat) : Rat) := rfl
theorem M.ge {u x : Rat} (hu : 0 < u) (h : M u x) (h0 : x ≠ 0) : u ≤ ab x := by
 obtain ⟨k, rfl⟩ := h
 have hk : k ≠ 0 := by intro e; subst e; exact h0 (by rw [show ((0 : Int) : Rat) = 0 from rfl]; grind)
 rw [le_ab]
 rcases Int.lt_or_le 0 k with h | h
 · left
   have := Rat.mul_le_mul_of_nonneg_right (Rat.intCast_le_intCast.2 (show (1 : Int) ≤ k by omega)) (Rat.le_of_lt hu)
   rw [one_rat] at this; grind
 · right
   have := Rat.mul_le_mul_of_nonneg_right (Rat.intCast_le_intCast.2 (show (1 : Int) ≤ -k by omega)) (Rat.le_of_lt hu)
   rw [one_rat, Rat.intCast_neg] at this; grind
theorem M.room1 {s t : Nat} {z : Rat} (h : M (U t) z) (hst : t ≤ s) (hz : z < U s) : z ≤ U s - U t := by
 obtain ⟨k, rfl⟩ := h
 obtain ⟨j, rfl⟩ : ∃ j, s = t + j := ⟨s - t, by omega⟩
 rw [U_add] at hz ⊢
 have hu := U_pos t
 have h1 : (k : Rat) * U t < (((2 ^ j : Nat) : Int) : Rat) * U t := hz
 have h2 := cast_lt hu h1
 have h3 : k ≤ ((2 ^ j : Nat) : Int) - 1 := by omega
 have h4 := Rat.mul_le_mul_of_nonneg_right (Rat.intCast_le_intCast.2 h3) (Rat.le_of_lt hu)
 rw [Rat.intCast_sub, one_rat, two_rat] at h4
 grind
theorem M.room {s t : Nat} {z : Rat} (h : M (U t) z) (hst : t ≤ s) (hz : ab z < U s) : ab z ≤ U s - U t := by
 have := ab_lt.1 hz
 exact ab_le.2 ⟨h.room1 hst this.1, h.neg.room1 hst this.2⟩
def Lo (h x : Rat) : Prop := ∃ t, ab h < U t ∧ M (U t) x
theorem Lo.common {h x y : Rat} (h1 : Lo h x) (h2 : Lo h y) : ∃ t, ab h < U t ∧ M (U t) x ∧ M (U t) y := by
 obtain ⟨s, a, b⟩ := h1
 obtain ⟨t, c, d⟩ := h2
 rcases Nat.le_total s t with e | e
 · exact ⟨s, a, b, d.down e⟩
 · exact ⟨t, c, b.down e, d⟩
theorem Lo.add {h x y : Rat} (h1 : Lo h x) (h2 : Lo h y) : Lo h (x + y) := by
 obtain ⟨t, a, b, c⟩ := h1.common h2
 exact ⟨t, a, b.add c⟩
theorem Lo.neg {h x : Rat} (h1 : Lo h x) : Lo h (-x) := by
 obtain ⟨t, a, b⟩ := h1
 exact ⟨t, a, b.neg⟩
theorem Lo.sub {h x y : Rat} (h1 : Lo h x) (h2 : Lo h y) : Lo h (x - y) := by
 obtain ⟨t, a, b, c⟩ := h1.common h2
 exact ⟨t, a, b.sub c⟩
theorem M.rnd {q x : Rat} {T t : Nat} {k : Int} (h : M (U t) q) (R : Rnd q x T k) : M (U t) x := by
 rcases Nat.le_total T t with e | e
 · rw [R.mult (h.down e)]; exact h
 · exact R.m.down e
theorem Lo.rnd {h q x : Rat} {T : Nat} {k : Int} (h1 : Lo h q) (R : Rnd q x T k) : Lo h x := by
 obtain ⟨t, a, b⟩ := h1
 exact ⟨t, a, b.rnd R⟩
theorem Lo.lt {h x : Rat} (h1 : Lo h x) (h0 : x ≠ 0) : ab h < ab x := by
 obtain ⟨t, a, b⟩ := h1
 have := b.ge (U_pos t) h0
 grind
theorem Lo.trans {h x y : Rat} (h1 : Lo h x) (h0 : x ≠ 0) (h2 : Lo x y) : Lo h y := by
 have a := h1.lt h0
 obtain ⟨t, b, c⟩ := h2
 exact ⟨t, by grind, c⟩
def Ex (l : List Rat) : Prop := l.Pairwise Lo ∧ ∀ x ∈ l, x ≠ 0
theorem lo_list {x : Rat} {r : List Rat} (h : ∀ y ∈ r, Lo x y) (hne : r ≠ []) : ∃ t, ab x < U t ∧ ∀ y ∈ r, M (U t) y := by
 induction r with
 | nil => exact absurd rfl hne
 | cons y r ih =>
   obtain ⟨s, a, b⟩ := h y (by simp)
   by_cases e : r = []
   · subst e
     exact ⟨s, a, fun z hz => by simp at hz; rw [hz]; exact b⟩
   · obtain ⟨t, c, d⟩ := ih (fun z hz => h z (by simp [hz])) e
     rcases Nat.le_total s t with e | e
     · exact ⟨s, a, fun z hz => by
         rcases List.mem_cons.1 hz with rfl | hz
         · exact b
         · exact (d z hz).down e⟩
     · exact ⟨t, c, fun z hz => by
         rcases List.mem_cons.1 hz with rfl | hz
         · exact b.down e
         · exact d z hz⟩
theorem M_zero (u : Rat) : M u 0 := ⟨0, by rw [show ((0 : Int) : Rat) = 0 from rfl]; grind⟩
theorem M.sum {u : Rat} {l : List Rat} (h : ∀ y ∈ l, M u y) : M u l.sum := by
 induction l with
 | nil => exact M_zero u
 | cons y r ih => rw [List.sum_cons]; exact (h y (by simp)).add (ih (fun z hz => h z (by simp [hz])))
theorem Ex.bound {l : List Rat} {s : Nat} (h : Ex l) (hb : ∀ x ∈ l, ab x < U s) : ab l.sum < U s := by
 induction l with
 | nil => rw [List.sum_nil]; exact ab_lt.2 ⟨U_pos s, by have := U_pos s; grind⟩
 | cons x r ih =>
   obtain ⟨hp, h0⟩ := h
   rw [List.pairwise_cons] at hp
   have hr := ih ⟨hp.2, fun y hy => h0 y (by simp [hy])⟩ (fun y hy => hb y (by simp [hy]))
   rw [List.sum_cons]
   by_cases e : r = []
   · subst e
     rw [List.sum_nil, Rat.add_zero]
     exact hb x (by simp)
   · obtain ⟨t, a, m⟩ := lo_list hp.1 e
     have ht : t ≤ s := by
       obtain ⟨y, hy⟩ := List.exists_mem_of_ne_nil r e
       have h1 := (m y hy).ge (U_pos t) (h0 y (by simp [hy]))
       have h2 := hb y (by simp [hy])
       have h3 : U t ≤ U s := by grind
       exact U_le_iff.1 h3
     have := (M.sum m).room ht hr
     have := ab_add x r.sum
     grind
theorem F.mult {g : Rat} {K : Nat} (hg : F g) (h : U K ≤ ab g) : M (U (K - 52)) g := by
 obtain ⟨S, m, rfl, h1, h2⟩ := hg
 have hu := U_pos S
 have hb := F.abs (z := (m : Rat) * U S) rfl h1 h2
 have hK : U K ≤ U (S + 53) := by
   rw [U_add]
   have e : ((2 ^ 53 : Nat) : Rat) = 9007199254740992 := by decide +kernel
   rw [e]
   have := ab_le.2 hb
   grind
 have hK := U_le_iff.1 hK
 by_cases e : K ≤ S + 52
 · exact M.down (by omega) ⟨m, rfl⟩
 · obtain rfl : K = S + 53 := by omega
   have hm : m = 9007199254740992 ∨ m = -9007199254740992 := by
     rw [U_add] at h
     have e : ((2 ^ 53 : Nat) : Rat) = ((9007199254740992 : Int) : Rat) := by decide +kernel
     rw [e] at h
     rcases le_ab.1 h with h | h
     · left; have := cast_le hu h; omega
     · right
       have h : ((9007199254740992 : Int) : Rat) * U S ≤ ((-m : Int) : Rat) * U S := by rw [Rat.intCast_neg]; grind
       have := cast_le hu h; omega
   rw [show S + 53 - 52 = S + 1 by omega]
   have eu := U_succ S
   rcases hm with rfl | rfl
   · exact ⟨4503599627370496, by rw [eu, show ((9007199254740992 : Int) : Rat) = 9007199254740992 from rfl, show ((4503599627370496 : Int) : Rat) = 4503599627370496 from rfl]; grind⟩
   · exact ⟨-4503599627370496, by rw [eu, show ((-9007199254740992 : Int) : Rat) = -9007199254740992 from rfl, show ((-4503599627370496 : Int) : Rat) = -4503599627370496 from rfl]; grind⟩
theorem F.mult0 {g : Rat} (hg : F g) : M (U 0) g := by
 obtain ⟨S, m, rfl, _, _⟩ := hg
 exact M.down (Nat.zero_le _) ⟨m, rfl⟩
theorem binade {u : Nat} {g : Rat} (hg : M (U u) g) (h0 : g ≠ 0) : ∃ K, u ≤ K ∧ U K ≤ ab g ∧ ab g < U (K + 1) := by
 obtain ⟨m, rfl⟩ := hg
 have hu := U_pos u
 have hm : m.natAbs ≠ 0 := by
   intro e
   have : m = 0 := by omega
   subst this
   exact h0 (by rw [show ((0 : Int) : Rat) = 0 from rfl]; grind)
 have e : ab ((m : Rat) * U u) = ((m.natAbs : Int) : Rat) * U u := by
   rcases Int.lt_or_le m 0 with h | h
   · rw [show ((m.natAbs : Nat) : Int) = -m by omega, Rat.intCast_neg]
     have h2 : (m : Rat) * U u < 0 := by
       have := Rat.mul_lt_mul_of_pos_right (Rat.intCast_lt_intCast.2 h) hu
       rw [show ((0 : Int) : Rat) = 0 from rfl] at this; grind
     unfold ab; rw [if_pos h2]; grind
   · rw [show ((m.natAbs : Nat) : Int) = m by omega]
     have h2 : 0 ≤ (m : Rat) * U u := by
       have := Rat.mul_le_mul_of_nonneg_right (Rat.intCast_le_intCast.2 h) (Rat.le_of_lt hu)
       rw [show ((0 : Int) : Rat) = 0 from rfl] at this; grind
     unfold ab; rw [if_neg (by grind)]
 refine ⟨u + Nat.log2 m.natAbs, by omega, ?_, ?_⟩
 · rw [e, U_add]
   have h1 : 2 ^ Nat.log2 m.natAbs ≤ m.natAbs := Nat.log2_self_le hm
   exact Rat.mul_le_mul_of_nonneg_right (Rat.intCast_le_intCast.2 (by omega : (((2 ^ Nat.log2 m.natAbs : Nat) : Int)) ≤ (m.natAbs : Int))) (Rat.le_of_lt hu)
 · rw [e, Nat.add_assoc, U_add]
   have h1 : m.natAbs < 2 ^ (Nat.log2 m.natAbs + 1) := Nat.lt_log2_self
   exact Rat.mul_lt_mul_of_pos_right (Rat.intCast_lt_intCast.2 (by omega : (m.natAbs : Int) < (((2 ^ (Nat.log2 m.natAbs + 1) : Nat) : Int)))) hu
end

/- Two lists that rise and do not overlap, joined: plain facts. -/
section
structure JInv (N : Nat) (de re df rf outs : List Rat) (Q q : Rat) : Prop where
 sum : Q + q + outs.sum = de.sum + df.sum
 ex : Ex outs
 e1 : Ex (de ++ re)
 e2 : Ex (df ++ rf)
 b1 : ∀ x ∈ de ++ re, F x ∧ ab x < U N
 b2 : ∀ x ∈ df ++ rf, F x ∧ ab x < U N
 b3 : ∀ h ∈ outs, F h ∧ ab h < U N
 low : ∀ h ∈ outs, Lo h Q ∧ Lo h q ∧ (∀ g ∈ re, Lo h g) ∧ (∀ g ∈ rf, Lo h g)
 o1 : ∀ x ∈ de, ∀ y ∈ rf, ab x ≤ ab y
 o2 : ∀ x ∈ df, ∀ y ∈ re, ab x ≤ ab y
 rq : ∃ T k, Rnd (Q + q) Q T k
 fq : F q
theorem Ex.left {a b : List Rat} (h : Ex (a ++ b)) : Ex a := ⟨(List.pairwise_append.1 h.1).1, fun x hx => h.2 x (by simp [hx])⟩
theorem Ex.right {a b : List Rat} (h : Ex (a ++ b)) : Ex b := ⟨(List.pairwise_append.1 h.1).2.1, fun x hx => h.2 x (by simp [hx])⟩
theorem JInv.start {N : Nat} {e f : List Rat} (h1 : Ex e) (h2 : Ex f) (b1 : ∀ x ∈ e, F x ∧ ab x < U N) (b2 : ∀ x ∈ f, F x ∧ ab x < U N) : JInv N [] e [] f [] 0 0 where
 sum := by simp only [List.sum_nil]; grind
 ex := ⟨List.Pairwise.nil, by simp⟩
 e1 := h1
 e2 := h2
 b1 := b1
 b2 := b2
 b3 := by simp
 low := by simp
 o1 := by simp
 o2 := by simp
 rq := ⟨0, 0, by
   have h0 : (0 : Rat) + 0 = 0 := by grind
   have hu := U_pos 0
   rw [h0]
   exact ⟨by rw [show ((0 : Int) : Rat) = 0 from rfl]; grind, by grind, by grind, Or.inl rfl, by grind, by grind, by omega, by omega⟩⟩
 fq := F_zero
theorem JInv.size {N : Nat} {de re df rf outs : List Rat} {Q q : Rat} (I : JInv N de re df rf outs Q q) : ab (Q + q) < 3 * U N := by
 have h1 := I.e1.left.bound (s := N) (fun x hx => (I.b1 x (by simp [hx])).2)
 have h2 := I.e2.left.bound (s := N) (fun x hx => (I.b2 x (by simp [hx])).2)
 have h3 := I.ex.bound (s := N) (fun x hx => (I.b3 x hx).2)
 have h4 := I.sum
 have := ab_self de.sum
 have := ab_self df.sum
 have := ab_self outs.sum
 rw [ab_lt]; constructor <;> grind
theorem Rnd.rest_le {q x : Rat} {T : Nat} {k : Int} (R : Rnd q x T k) : ab (q - x) ≤ ab q := by
 have := ab_self q
 have h := R.best (c := ab q) F_zero (by grind) (by grind)
 rw [ab_le]; constructor <;> grind
theorem Rnd.rest_le' {a q x : Rat} {T : Nat} {k : Int} (R : Rnd (a + q) x T k) (ha : F a) : ab (a + q - x) ≤ ab q := by
 have := ab_self q
 have h := R.best (c := ab q) ha (by grind) (by grind)
 rw [ab_le]; constructor <;> grind
theorem Rnd.half {q x : Rat} {T : Nat} {k : Int} (R : Rnd q x T k) : 2 * ab (q - x) ≤ U T := by
 have h1 := R.h1
 have h2 := R.h2
 unfold ab; split <;> grind
theorem Rnd.rest_lo {q x : Rat} {T : Nat} {k : Int} (R : Rnd q x T k) : Lo (q - x) x := by
 have h := R.half
 have hu := U_pos T
 have := ab_nonneg (q - x)
 exact ⟨T, by grind, R.m⟩
theorem Rnd.unit_le {q x : Rat} {T K : Nat} {k : Int} (R : Rnd q x T k) (h : ab q < U K) (hT : T ≠ 0) : T + 52 < K := by
 have h1 : U (T + 52) < U K := by
   rw [U_add]
   have e : ((2 ^ 52 : Nat) : Rat) = 4503599627370496 := by decide +kernel
   rw [e]
   have := ab_lt.1 h
   rcases R.h3 with h3 | h3 | h3
   · exact absurd h3 hT
   · grind
   · grind
 exact U_lt_iff.1 h1
theorem join_core {K : Nat} {Q q g R h : Rat} {T T' : Nat} {k k' : Int} (hA : ab (Q + q) < U (K + 2)) (RQ : Rnd (Q + q) Q T k) (fq : F q) (fg : F g) (fQ : F Q) (hg1 : U K ≤ ab g) (hg2 : ab g < U (K + 1)) (RR : Rnd (g + q) R T' k') (hh : h = g + q - R) (h0 : h ≠ 0) :
   ab h < U (K - 52) ∧ ab h ≤ ab q ∧ Lo h R ∧ Lo h Q := by
 have hq := RQ.half
 rw [show Q + q - Q = q by grind] at hq
 have hle := RR.rest_le' fg
 rw [← hh] at hle
 have hlR := RR.rest_lo
 rw [← hh] at hlR
 have hT : T ≠ 0 := by
   intro e
   subst e
   have := RQ.mult ((F.mult0 fQ).add (F.mult0 fq))
   have hq0 : q = 0 := by grind
   subst hq0
   have : R = g := by
     have := RR.exact (by rw [Rat.add_zero]; exact fg)
     grind
   exact h0 (by grind)
 have hTK := RQ.unit_le hA hT
 have hT' : T' ≠ 0 := by
   intro e
   subst e
   have := RR.mult ((F.mult0 fg).add (F.mult0 fq))
   exact h0 (by grind)
 have hK : U T ≤ 2 * U (K - 52) := by
   rw [← U_succ]; exact U_mono (by omega)
 have hgm := (F.mult fg hg1).room (by omega : K - 52 ≤ K + 1) hg2
 have hu := U_pos T
 have hx : ab (g + q) ≤ U (K + 1) := by
   have := ab_add g q
   grind
 have hne : ab (g + q) ≠ U (K + 1) := by
   intro e
   have hf : F (g + q) := by
     unfold ab at e
     split at e
     · exact ⟨K + 1, -1, by rw [show ((-1 : Int) : Rat) = -1 from rfl]; grind, by omega, by omega⟩
     · exact ⟨K + 1, 1, by rw [one_rat]; grind, by omega, by omega⟩
   have := RR.exact hf
   exact h0 (by grind)
 have hT2 := RR.unit_le (K := K + 1) (by grind) hT'
 have hh2 := RR.half
 rw [← hh] at hh2
 have hu' := U_pos T'
 have hK' : U T' ≤ U (K - 52) := U_mono (by omega)
 have := ab_nonneg h
 refine ⟨by grind, hle, hlR, T, ?_, RQ.m⟩
 have := ab_nonneg q
 grind
def grownR (l : List Rat) (h : Rat) : List Rat := if h = 0 then l else l ++ [h]
theorem Ex.grow {l : List Rat} {h : Rat} (hl : Ex l) (hh : ∀ x ∈ l, Lo x h) : Ex (grownR l h) := by
 unfold grownR
 split
 · exact hl
 · rename_i h0
   refine ⟨List.pairwise_append.2 ⟨hl.1, by simp, fun x hx y hy => ?_⟩, fun x hx => ?_⟩
   · simp at hy; rw [hy]; exact hh x hx
   · rcases List.mem_append.1 hx with hx | hx
     · exact hl.2 x hx
     · simp at hx; rw [hx]; exact h0
theorem sum_grow (l : List Rat) (h : Rat) : (grownR l h).sum = l.sum + h := by
 unfold grownR
 split
 · rename_i e; rw [e]; grind
 · rw [List.sum_append, List.sum_cons, List.sum_nil, Rat.add_zero]
theorem mem_grow {l : List Rat} {h x : Rat} (hx : x ∈ grownR l h) : x ∈ l ∨ (x = h ∧ h ≠ 0) := by
 unfold grownR at hx
 split at hx
 · exact Or.inl hx
 · rename_i h0
   rcases List.mem_append.1 hx with hx | hx
   · exact Or.inl hx
   · simp at hx; exact Or.inr ⟨hx, h0⟩
theorem JInv.step {N : Nat} {de re df rf outs : List Rat} {Q q g R h Q' q' : Rat} {T1 T2 : Nat} {k1 k2 : Int} (I : JInv N de (g :: re) df rf outs Q q) (hmin : ∀ y ∈ rf, ab g ≤ ab y)
   (RR : Rnd (g + q) R T1 k1) (hh : R + h = g + q) (fh : F h) (RQ : Rnd (Q + R) Q' T2 k2) (hq' : Q' + q' = Q + R) (fq' : F q') : JInv N (de ++ [g]) re df rf (grownR outs h) Q' q' := by
 obtain ⟨TQ, kQ, RQ0⟩ := I.rq
 have hg := I.b1 g (by simp)
 have g0 : g ≠ 0 := I.e1.2 g (by simp)
 obtain ⟨K, _, hK1, hK2⟩ := binade (F.mult0 hg.1) g0
 have hpw := List.pairwise_append.1 I.e1.1
 have hgr : ∀ y ∈ re, Lo g y := fun y hy => (List.pairwise_cons.1 hpw.2.1).1 y hy
 have hdg : ∀ x ∈ de, Lo x g := fun x hx => hpw.2.2 x hx g (by simp)
 have hA : ab (Q + q) < U (K + 2) := by
   have h1 := I.e1.left.bound (s := K) (fun x hx => by
     obtain ⟨t, a, b⟩ := hdg x hx
     have h1 := b.ge (U_pos t) g0
     have h2 : U t < U (K + 1) := by grind
     have h3 := U_mono (show t ≤ K by have := U_lt_iff.1 h2; omega)
     grind)
   have h2 := I.e2.left.bound (s := K + 1) (fun x hx => by have := I.o2 x hx g (by simp); grind)
   have h3 := I.ex.bound (s := K) (fun x hx => by
     obtain ⟨t, a, b⟩ := (I.low x hx).2.2.1 g (by simp)
     have h1 := b.ge (U_pos t) g0
     have h2 : U t < U (K + 1) := by grind
     have h3 := U_mono (show t ≤ K by have := U_lt_iff.1 h2; omega)
     grind)
   have h4 := I.sum
   have := ab_self de.sum
   have := ab_self df.sum
   have := ab_self outs.sum
   have e1 := U_succ K
   have e2 := U_succ (K + 1)
   rw [ab_lt]; constructor <;> grind
 have hlow : ∀ x ∈ outs, Lo x R ∧ Lo x h ∧ Lo x Q' ∧ Lo x q' := by
   intro x hx
   have a := (I.low x hx).2.1
   have b := (I.low x hx).2.2.1 g (by simp)
   have c := (b.add a).rnd RR
   have d := (b.add a).sub c
   rw [show g + q - R = h by grind] at d
   have e := ((I.low x hx).1.add c).rnd RQ
   have f := ((I.low x hx).1.add c).sub e
   rw [show Q + R - Q' = q' by grind] at f
   exact ⟨c, d, e, f⟩
 have hnew : h ≠ 0 → ab h < U N ∧ Lo h Q' ∧ Lo h q' ∧ (∀ y ∈ re, Lo h y) ∧ (∀ y ∈ rf, Lo h y) := by
   intro h0
   obtain ⟨c1, c2, c3, c4⟩ := join_core hA RQ0 I.fq hg.1 RQ0.f hK1 hK2 RR (by grind) h0
   have e := (c4.add c3).rnd RQ
   have f := (c4.add c3).sub e
   rw [show Q + R - Q' = q' by grind] at f
   have hKN : U (K - 52) ≤ U N := by
     have h1 := U_mono (show K - 52 ≤ K by omega)
     have := hg.2
     grind
   refine ⟨by grind, e, f, fun y hy => ?_, fun y hy => ?_⟩
   · have h1 := (hgr y hy).lt (I.e1.2 y (by simp [hy]))
     exact ⟨K - 52, c1, F.mult (I.b1 y (by simp [hy])).1 (by grind)⟩
   · have h1 := hmin y hy
     exact ⟨K - 52, c1, F.mult (I.b2 y (by simp [hy])).1 (by grind)⟩
 refine ⟨?_, I.ex.grow (fun x hx => (hlow x hx).2.1), ?_, I.e2, ?_, I.b2, ?_, ?_, ?_, ?_, ⟨T2, k2, by rw [hq']; exact RQ⟩, fq'⟩
 · rw [sum_grow, List.sum_append]
   have := I.sum
   simp only [List.sum_cons, List.sum_nil]
   grind
 · have := I.e1
   rwa [List.append_cons] at this
 · intro x hx
   exact I.b1 x (by simp at hx ⊢; grind)
 · intro x hx
   rcases mem_grow hx with hx | ⟨rfl, h0⟩
   · exact I.b3 x hx
   · exact ⟨fh, (hnew h0).1⟩
 · intro x hx
   rcases mem_grow hx with hx | ⟨rfl, h0⟩
   · exact ⟨(hlow x hx).2.2.1, (hlow x hx).2.2.2, fun y hy => (I.low x hx).2.2.1 y (by simp [hy]), (I.low x hx).2.2.2⟩
   · exact (hnew h0).2
 · intro x hx y hy
   rcases List.mem_append.1 hx with hx | hx
   · exact I.o1 x hx y hy
   · simp at hx; rw [hx]; exact hmin y hy
 · intro x hx y hy
   exact I.o2 x hx y (by simp [hy])
theorem JInv.done {N : Nat} {de df outs : List Rat} {Q q : Rat} (I : JInv N de [] df [] outs Q q) : Ex (grownR (grownR outs q) Q) ∧ (grownR (grownR outs q) Q).sum = de.sum + df.sum ∧ (∀ x ∈ grownR (grownR outs q) Q, F x) := by
 obtain ⟨T, k, R⟩ := I.rq
 refine ⟨(I.ex.grow (fun x hx => (I.low x hx).2.1)).grow (fun x hx => ?_), ?_, fun x hx => ?_⟩
 · rcases mem_grow hx with hx | ⟨rfl, _⟩
   · exact (I.low x hx).1
   · have := R.rest_lo
     rwa [show Q + x - Q = x by grind] at this
 · rw [sum_grow, sum_grow]
   have := I.sum
   grind
 · rcases mem_grow hx with hx | ⟨rfl, _⟩
   · rcases mem_grow hx with hx | ⟨rfl, _⟩
     · exact (I.b3 x hx).1
     · exact I.fq
   · exact R.f
end

/- A list that rises and does not overlap, times a float: plain facts. -/
section
theorem U_mulX' {s t r : Nat} (h : r + 1074 = s + t) : U s * U t = U r := by
 unfold U
 rw [← p2_add, show (s : Int) - 1074 + ((t : Int) - 1074) = (r : Int) - 1074 by omega]
theorem U_mulX {s t : Nat} (h : 1074 ≤ s + t) : U s * U t = U (s + t - 1074) := U_mulX' (by omega)
theorem M.mul {u v x y : Rat} (h1 : M u x) (h2 : M v y) : M (u * v) (x * y) := by
 obtain ⟨j, rfl⟩ := h1
 obtain ⟨k, rfl⟩ := h2
 exact ⟨j * k, by rw [Rat.intCast_mul]; grind⟩
theorem ab_mul (x y : Rat) : ab (x * y) = ab x * ab y := by
 have key : ∀ a b : Rat, 0 ≤ a → 0 ≤ b → ab (a * b) = a * b := by
   intro a b ha hb
   have := Rat.mul_nonneg ha hb
   unfold ab; rw [if_neg (by grind)]
 have hx : x = ab x ∨ x = -ab x := by unfold ab; split <;> grind
 have hy : y = ab y ∨ y = -ab y := by unfold ab; split <;> grind
 have hk := key (ab x) (ab y) (ab_nonneg x) (ab_nonneg y)
 rcases hx with hx | hx <;> rcases hy with hy | hy
 · rw [← hx, ← hy] at hk
   rw [← hx, ← hy]; exact hk
 · have e : x * y = -(ab x * ab y) := by rw [← hx]; grind
   rw [e, ab_neg, hk]
 · have e : x * y = -(ab x * ab y) := by rw [← hy]; grind
   rw [e, ab_neg, hk]
 · have e : x * y = ab x * ab y := by grind
   rw [e, hk]
theorem lo_many {y : Rat} {l : List Rat} (h : ∀ d ∈ l, Lo d y) (hne : l ≠ []) : ∃ t, (∀ d ∈ l, ab d < U t) ∧ M (U t) y := by
 induction l with
 | nil => exact absurd rfl hne
 | cons d r ih =>
   obtain ⟨s, a, b⟩ := h d (by simp)
   by_cases e : r = []
   · subst e
     exact ⟨s, fun z hz => by simp at hz; rw [hz]; exact a, b⟩
   · obtain ⟨t, c, m⟩ := ih (fun z hz => h z (by simp [hz])) e
     rcases Nat.le_total s t with e | e
     · have := U_mono e
       exact ⟨t, fun z hz => by
         rcases List.mem_cons.1 hz with rfl | hz
         · grind
         · exact c z hz, m⟩
     · have := U_mono e
       exact ⟨s, fun z hz => by
         rcases List.mem_cons.1 hz with rfl | hz
         · exact a
         · have := c z hz; grind, b⟩
theorem Rnd.le_pow {q x : Rat} {T p : Nat} {k : Int} (R : Rnd q x T k) (h : ab q < U p) : ab x ≤ U p := by
 have hu := U_pos T
 have h1 := R.h1
 have h2 := R.h2
 have hq := ab_lt.1 h
 by_cases hT : T ≤ p
 · have hp : M (U T) (U p) := M.down hT ⟨1, by rw [one_rat]; grind⟩
   have key : ∀ z : Rat, M (U T) z → 2 * (z - U p) < U T → z ≤ U p := by
     intro z hz hlt
     rcases (Rat.le_total : z ≤ U p ∨ U p ≤ z) with h | h
     · exact h
     · have := M.eq hu hz hp (by grind) (by grind)
       grind
   exact ab_le.2 ⟨key x R.m (by grind), key (-x) R.m.neg (by grind)⟩
 · exfalso
   have h3 : T ≠ 0 := by omega
   have := R.unit_le h h3
   omega
structure SInv (b : Rat) (B : Nat) (de re outs : List Rat) (Q : Rat) : Prop where
 sum : Q + outs.sum = de.sum * b
 ex : Ex outs
 fo : ∀ h ∈ outs, F h
 low : ∀ h ∈ outs, Lo h Q
 hb : ∀ s, (∀ d ∈ de, ab d < U s) → 572 ≤ s → ∀ h ∈ outs, ab h < U s * U B
 qb : ∀ s, (∀ d ∈ de, ab d < U s) → 572 ≤ s → ab Q ≤ U s * U (B + 53)
 fQ : F Q
 ee : Ex (de ++ re)
 fe : ∀ x ∈ re, F x ∧ U 624 ≤ ab x
theorem SInv.start {b : Rat} {B : Nat} {e : List Rat} (h : Ex e) (hf : ∀ x ∈ e, F x ∧ U 624 ≤ ab x) : SInv b B [] e [] 0 where
 sum := by simp only [List.sum_nil]; grind
 ex := ⟨List.Pairwise.nil, by simp⟩
 fo := by simp
 low := by simp
 hb := by simp
 qb := fun s _ _ => by
   have := Rat.mul_pos (U_pos s) (U_pos (B + 53))
   rw [ab_le]; constructor <;> grind
 fQ := F_zero
 ee := h
 fe := hf
theorem SInv.unit {b Q x : Rat} {B : Nat} {de re outs : List Rat} (I : SInv b B de (x :: re) outs Q) : ∃ s, 572 ≤ s ∧ (∀ d ∈ de, ab d < U s) ∧ M (U s) x ∧ ab x < U (s + 53) ∧ x ≠ 0 ∧ U s ≤ ab x := by
 have x0 : x ≠ 0 := I.ee.2 x (by simp)
 obtain ⟨fx, hx⟩ := I.fe x (by simp)
 obtain ⟨K, _, h1, h2⟩ := binade (F.mult0 fx) x0
 have hK : 624 ≤ K := by
   have : U 624 < U (K + 1) := by grind
   have := U_lt_iff.1 this
   omega
 have hdx : ∀ d ∈ de, Lo d x := fun d hd => (List.pairwise_append.1 I.ee.1).2.2 d hd x (by simp)
 by_cases e : de = []
 · subst e
   have hm := F.mult fx h1
   exact ⟨K - 52, by omega, by simp, hm, by rw [show K - 52 + 53 = K + 1 by omega]; exact h2, x0, hm.ge (U_pos _) x0⟩
 · obtain ⟨t, ht, hm⟩ := lo_many hdx e
   rcases Nat.le_total t (K - 52) with h | h
   · have hm := F.mult fx h1
     have := U_mono h
     exact ⟨K - 52, by omega, fun d hd => by have := ht d hd; grind, hm, by rw [show K - 52 + 53 = K + 1 by omega]; exact h2, x0, hm.ge (U_pos _) x0⟩
   · have := U_mono (show K + 1 ≤ t + 53 by omega)
     exact ⟨t, by omega, ht, hm, by grind, x0, hm.ge (U_pos _) x0⟩
theorem scale_bounds {b Q x T t : Rat} {B s TT : Nat} {k : Int} (hB : 572 ≤ B) (hs : 572 ≤ s) (mb : M (U B) b) (bb : ab b < U (B + 53)) (mx : M (U s) x) (xb : ab x < U (s + 53)) (qb : ab Q ≤ U s * U (B + 53)) (RT : Rnd (x * b) T TT k) (hT : T + t = x * b) :
   ab t ≤ U (s + B - 1074 + 52) ∧ ab (Q + t) < U (s + B - 1074 + 54) ∧ Lo t T ∧ ab (x * b) < U (s + B - 1074 + 106) := by
 have e1 : U s * U (B + 53) = U (s + B - 1074 + 53) := U_mulX' (by omega)
 have e2 : U (s + 53) * U (B + 53) = U (s + B - 1074 + 106) := U_mulX' (by omega)
 have hxb : ab (x * b) < U (s + B - 1074 + 106) := by
   rw [ab_mul, ← e2]
   have h1 := Rat.mul_le_mul_of_nonneg_right (Rat.le_of_lt xb) (ab_nonneg b)
   have h2 := Rat.mul_lt_mul_of_pos_left bb (U_pos (s + 53))
   grind
 have hl := RT.rest_lo
 have hh := RT.half
 rw [show x * b - T = t by grind] at hl hh
 have ht : ab t ≤ U (s + B - 1074 + 52) := by
   by_cases h0 : TT = 0
   · subst h0
     have hm : M (U 0) (x * b) := by
       have := mx.mul mb
       rw [U_mulX (by omega)] at this
       exact this.down (Nat.zero_le _)
     have := RT.mult hm
     have h0 : t = 0 := by grind
     have := U_pos (s + B - 1074 + 52)
     rw [ab_le]; constructor <;> grind
   · have h1 := RT.unit_le hxb h0
     have h2 := U_mono (show TT ≤ (s + B - 1074 + 52) + 1 by omega)
     rw [U_succ] at h2
     grind
 refine ⟨ht, ?_, hl, hxb⟩
 have h1 := ab_add Q t
 have h2 := U_succ (s + B - 1074 + 53)
 have h3 := U_succ (s + B - 1074 + 52)
 have := U_pos (s + B - 1074 + 52)
 rw [e1] at qb
 grind
theorem SInv.step {b Q x T t Q1 h1 Q2 h2 : Rat} {B : Nat} {de re outs : List Rat} {TT T1 T2 : Nat} {kT k1 k2 : Int} (I : SInv b B de (x :: re) outs Q) (hB : 572 ≤ B) (mb : M (U B) b) (bb : ab b < U (B + 53))
   (RT : Rnd (x * b) T TT kT) (hT : T + t = x * b) (ft : F t) (R1 : Rnd (Q + t) Q1 T1 k1) (e1 : Q1 + h1 = Q + t) (f1 : F h1) (R2 : Rnd (T + Q1) Q2 T2 k2) (e2 : Q2 + h2 = T + Q1) (f2 : F h2) : SInv b B (de ++ [x]) re (grownR (grownR outs h1) h2) Q2 := by
 obtain ⟨s, hs, hd, mx, xb, x0, sx⟩ := I.unit
 have hqs := I.qb s hd hs
 obtain ⟨c1, c2, c3, c4⟩ := scale_bounds hB hs mb bb mx xb hqs RT hT
 have mxb : M (U s * U B) (x * b) := mx.mul mb
 -- the elder ones
 have old : ∀ h ∈ outs, Lo h T ∧ Lo h Q1 ∧ Lo h h1 ∧ Lo h Q2 ∧ Lo h h2 := by
   intro h hh
   have a : Lo h (x * b) := ⟨s + B - 1074, by rw [← U_mulX (by omega)]; exact I.hb s hd hs h hh, by rw [← U_mulX (by omega)]; exact mxb⟩
   have a1 := a.rnd RT
   have a2 := a.sub a1
   rw [show x * b - T = t by grind] at a2
   have a3 := ((I.low h hh).add a2).rnd R1
   have a4 := ((I.low h hh).add a2).sub a3
   rw [show Q + t - Q1 = h1 by grind] at a4
   have a5 := (a1.add a3).rnd R2
   have a6 := (a1.add a3).sub a5
   rw [show T + Q1 - Q2 = h2 by grind] at a6
   exact ⟨a1, a3, a4, a5, a6⟩
 -- what is rounded off first
 have first : h1 ≠ 0 → ab h1 ≤ U (s + B - 1074) ∧ Lo h1 Q2 ∧ Lo h1 h2 := by
   intro h0
   have a1 := R1.rest_le' I.fQ
   have a2 := R1.rest_lo
   have a3 := R1.half
   rw [show Q + t - Q1 = h1 by grind] at a1 a2 a3
   have hT1 : T1 ≠ 0 := by
     intro e
     subst e
     have := R1.mult ((F.mult0 I.fQ).add (F.mult0 ft))
     exact h0 (by grind)
   have u1 := R1.unit_le c2 hT1
   have u2 := U_mono (show T1 ≤ (s + B - 1074) + 1 by omega)
   rw [U_succ] at u2
   have a4 : Lo h1 T := by
     obtain ⟨r, ra, rb⟩ := c3
     exact ⟨r, by grind, rb⟩
   have a5 := (a4.add a2).rnd R2
   have a6 := (a4.add a2).sub a5
   rw [show T + Q1 - Q2 = h2 by grind] at a6
   exact ⟨by grind, a5, a6⟩
 have ex1 : Ex (grownR outs h1) := I.ex.grow (fun h hh => (old h hh).2.2.1)
 have low1 : ∀ h ∈ grownR outs h1, Lo h Q2 ∧ Lo h h2 := by
   intro h hh
   rcases mem_grow hh with hh | ⟨rfl, h0⟩
   · exact (old h hh).2.2.2
   · exact (first h0).2
 -- a unit above all that is done
 have up : ∀ s', (∀ d ∈ de ++ [x], ab d < U s') → s < s' := by
   intro s' h'
   have := h' x (by simp)
   have : U s < U s' := by grind
   exact U_lt_iff.1 this
 have hb1 : ∀ s', (∀ d ∈ de ++ [x], ab d < U s') → 572 ≤ s' → ∀ h ∈ grownR outs h1, ab h < U s' * U B := by
   intro s' h' hs' h hh
   rcases mem_grow hh with hh | ⟨rfl, h0⟩
   · exact I.hb s' (fun d hd => h' d (by simp [hd])) hs' h hh
   · have a := (first h0).1
     have l := up s' h'
     have := U_lt_iff.2 (show s + B - 1074 < s' + B - 1074 by omega)
     rw [U_mulX (by omega)]
     grind
 have sum1 : T + Q1 + (grownR outs h1).sum = (de ++ [x]).sum * b := by
   rw [sum_grow, List.sum_append, List.sum_cons, List.sum_nil, Rat.add_zero]
   have := I.sum
   grind
 have big : ∀ s', (∀ d ∈ de ++ [x], ab d < U s') → 572 ≤ s' → ab (T + Q1) < U (s' + B - 1074 + 53) := by
   intro s' h' hs'
   have a1 := ex1.bound (s := s' + B - 1074) (fun h hh => by rw [← U_mulX (by omega)]; exact hb1 s' h' hs' h hh)
   have e3 : Ex (de ++ [x]) := by
     have := I.ee
     rw [List.append_cons] at this
     exact this.left
   have a2 := e3.bound h'
   have a3 := mb.room (by omega) bb
   have a4 : ab ((de ++ [x]).sum * b) ≤ U (s' + B - 1074 + 53) - U (s' + B - 1074) := by
     rw [ab_mul]
     have b1 := Rat.mul_le_mul_of_nonneg_right (Rat.le_of_lt a2) (ab_nonneg b)
     have b2 := Rat.mul_le_mul_of_nonneg_left a3 (Rat.le_of_lt (U_pos s'))
     have b3 : U s' * U (B + 53) = U (s' + B - 1074 + 53) := U_mulX' (by omega)
     have b4 : U s' * U B = U (s' + B - 1074) := U_mulX (by omega)
     have b5 : U s' * (U (B + 53) - U B) = U s' * U (B + 53) - U s' * U B := by grind
     rw [b5, b3, b4] at b2
     grind
   have := ab_self ((de ++ [x]).sum * b)
   have := ab_self (grownR outs h1).sum
   rw [ab_lt]; constructor <;> grind
 refine ⟨?_, ex1.grow (fun h hh => (low1 h hh).2), ?_, ?_, ?_, ?_, R2.f, ?_, fun y hy => I.fe y (by simp [hy])⟩
 · rw [sum_grow]; grind
 · intro h hh
   rcases mem_grow hh with hh | ⟨rfl, _⟩
   · rcases mem_grow hh with hh | ⟨rfl, _⟩
     · exact I.fo h hh
     · exact f1
   · exact f2
 · intro h hh
   rcases mem_grow hh with hh | ⟨rfl, _⟩
   · exact (low1 h hh).1
   · have := R2.rest_lo
     rwa [show T + Q1 - Q2 = h by grind] at this
 · intro s' h' hs' h hh
   rcases mem_grow hh with hh | ⟨rfl, h0⟩
   · exact hb1 s' h' hs' h hh
   · have a1 := big s' h' hs'
     have hT2 : T2 ≠ 0 := by
       intro e
       subst e
       have := R2.mult ((F.mult0 RT.f).add (F.mult0 R1.f))
       exact h0 (by grind)
     have u1 := R2.unit_le a1 hT2
     have u2 := U_mono (show T2 ≤ s' + B - 1074 by omega)
     have a3 := R2.half
     rw [show T + Q1 - Q2 = h by grind] at a3
     have := ab_nonneg h
     have := U_pos (s' + B - 1074)
     rw [U_mulX (by omega)]
     grind
 · intro s' h' hs'
   have := R2.le_pow (big s' h' hs')
   rwa [show U s' * U (B + 53) = U (s' + B - 1074 + 53) from U_mulX' (by omega)]
 · have := I.ee
   rwa [List.append_cons] at this
theorem SInv.done {b Q : Rat} {B : Nat} {de outs : List Rat} (I : SInv b B de [] outs Q) : Ex (grownR outs Q) ∧ (grownR outs Q).sum = de.sum * b ∧ ∀ x ∈ grownR outs Q, F x := by
 refine ⟨I.ex.grow I.low, ?_, fun x hx => ?_⟩
 · rw [sum_grow, ← I.sum]; grind
 · rcases mem_grow hx with hx | ⟨rfl, _⟩
   · exact I.fo x hx
   · exact I.fQ
end

/- A list that rises and does not overlap, squeezed: plain facts. -/
section
def RndE (q x : Rat) (T : Nat) (k : Int) : Prop := Rnd q x T k ∧ (2 * ab (q - x) = U T → k % 2 = 0)
structure ZInv (top : Nat) (S : Rat) (acc : List Rat) (c : Rat) (lo : List Rat) : Prop where
 sum : lo.sum + c + acc.sum = S
 exl : Ex (lo ++ [c])
 exa : Ex acc
 fl : ∀ x ∈ lo, F x
 fc : F c
 fa : ∀ x ∈ acc, F x
 room : ∃ p, ab (c + lo.sum) < U p ∧ ab c ≤ U p ∧ p + 52 * acc.length ≤ top ∧ ∀ o ∈ acc, M (U (p + 1)) o
 near : ∀ L, acc.getLast? = some L → ∃ P, U (P + 52) ≤ ab L ∧ ab (S - L) < U P
theorem ZInv.start {top : Nat} {c : Rat} {lo : List Rat} (h : Ex (lo ++ [c])) (hf : ∀ x ∈ lo ++ [c], F x ∧ ab x < U top) : ZInv top ((lo ++ [c]).sum) [] c lo where
 sum := by simp only [List.sum_append, List.sum_cons, List.sum_nil]; grind
 exl := h
 exa := ⟨List.Pairwise.nil, by simp⟩
 fl := fun x hx => (hf x (by simp [hx])).1
 fc := (hf c (by simp)).1
 fa := by simp
 room := ⟨top, by
   have := h.bound (s := top) (fun x hx => (hf x hx).2)
   simp only [List.sum_append, List.sum_cons, List.sum_nil] at this
   rwa [show c + lo.sum = lo.sum + (c + 0) by grind], Rat.le_of_lt (hf c (by simp)).2, by simp, by simp⟩
 near := by simp
theorem U_two (T : Nat) (h : T ≠ 0) : U T = 2 * U (T - 1) := by
 have := U_succ (T - 1)
 rwa [show T - 1 + 1 = T by omega] at this
theorem U_52 (T : Nat) : U (T + 52) = 4503599627370496 * U T := by
 rw [U_add]
 have e : ((2 ^ 52 : Nat) : Rat) = 4503599627370496 := by decide +kernel
 rw [e]
theorem ZInv.next {top p : Nat} {S c x : Rat} {acc lo : List Rat} (I : ZInv top S acc c (lo ++ [x])) (h1 : ab (c + (lo ++ [x]).sum) < U p) (h2 : ab c ≤ U p) : ab (c + x) ≤ U p := by
 rw [List.sum_append, List.sum_cons, List.sum_nil, Rat.add_zero] at h1
 have hp := I.exl
 have c0 : c ≠ 0 := hp.2 c (by simp)
 have pw := List.pairwise_append.1 hp.1
 have pw2 := List.pairwise_append.1 pw.1
 by_cases e : lo = []
 · subst e
   rw [List.sum_nil] at h1
   rw [show c + x = c + (0 + x) by grind]
   exact Rat.le_of_lt h1
 · obtain ⟨t, ht, hm⟩ := lo_many (y := c) (l := lo) (fun d hd => pw.2.2 d (by simp [hd]) c (by simp)) e
   obtain ⟨t', ht', hm'⟩ := lo_many (y := x) (l := lo) (fun d hd => pw2.2.2 d hd x (by simp)) e
   obtain ⟨r, hr, m1, m2⟩ : ∃ r, (∀ d ∈ lo, ab d < U r) ∧ M (U r) c ∧ M (U r) x := by
     rcases Nat.le_total t t' with e | e
     · exact ⟨t, ht, hm, hm'.down e⟩
     · exact ⟨t', ht', hm.down e, hm'⟩
   have hb := (Ex.left (b := [x]) ⟨pw.1, fun y hy => hp.2 y (by simp at hy ⊢; grind)⟩).bound hr
   have hrp : r ≤ p := by
     have := m1.ge (U_pos r) c0
     exact U_le_iff.1 (by grind)
   have m3 := m1.add m2
   have mp : M (U r) (U p) := M.down hrp ⟨1, by rw [one_rat]; grind⟩
   have hu := U_pos r
   have hs := ab_lt.1 h1
   have hl := ab_lt.1 hb
   have key : ∀ z : Rat, M (U r) z → z < U p + U r → z ≤ U p := by
     intro z hz hlt
     rcases (Rat.le_total : z ≤ U p ∨ U p ≤ z) with h | h
     · exact h
     · have := M.eq hu hz mp (by grind) (by grind)
       grind
   exact ab_le.2 ⟨key _ m3 (by grind), key _ m3.neg (by grind)⟩
theorem ZInv.tail {top : Nat} {S c x : Rat} {acc lo : List Rat} (I : ZInv top S acc c (lo ++ [x])) : Ex lo ∧ (∀ d ∈ lo, Lo d c ∧ Lo d x) ∧ Lo x c ∧ c ≠ 0 ∧ x ≠ 0 := by
 have hp := I.exl
 have pw := List.pairwise_append.1 hp.1
 have pw2 := List.pairwise_append.1 pw.1
 exact ⟨⟨pw2.1, fun y hy => hp.2 y (by simp [hy])⟩, fun d hd => ⟨pw.2.2 d (by simp [hd]) c (by simp), pw2.2.2 d hd x (by simp)⟩, pw.2.2 x (by simp) c (by simp), hp.2 c (by simp), hp.2 x (by simp)⟩
theorem Ex.snoc {l : List Rat} {x : Rat} (h : Ex l) (h1 : ∀ d ∈ l, Lo d x) (h0 : x ≠ 0) : Ex (l ++ [x]) :=
 ⟨List.pairwise_append.2 ⟨h.1, by simp, fun d hd y hy => by simp at hy; rw [hy]; exact h1 d hd⟩, fun y hy => by
   rcases List.mem_append.1 hy with hy | hy
   · exact h.2 y hy
   · simp at hy; rw [hy]; exact h0⟩
theorem Ex.cons {l : List Rat} {x : Rat} (h : Ex l) (h1 : ∀ d ∈ l, Lo x d) (h0 : x ≠ 0) : Ex (x :: l) :=
 ⟨List.pairwise_cons.2 ⟨h1, h.1⟩, fun y hy => by
   rcases List.mem_cons.1 hy with rfl | hy
   · exact h0
   · exact h.2 y hy⟩
theorem Rnd.le_pow' {q x : Rat} {T p : Nat} {k : Int} (R : Rnd q x T k) (h : ab q ≤ U p) : ab x ≤ U p := by
 by_cases e : ab q = U p
 · have hf : F q := by
     unfold ab at e
     split at e
     · exact ⟨p, -1, by rw [show ((-1 : Int) : Rat) = -1 from rfl]; grind, by omega, by omega⟩
     · exact ⟨p, 1, by rw [one_rat]; grind, by omega, by omega⟩
   rw [R.exact hf]; exact h
 · exact R.le_pow (by grind)
theorem ZInv.take {top : Nat} {S c x : Rat} {acc lo : List Rat} (I : ZInv top S acc c (lo ++ [x])) (fs : F (c + x)) : ZInv top S acc (c + x) lo := by
 obtain ⟨el, hlo, hxc, c0, x0⟩ := I.tail
 obtain ⟨p, r1, r2, r3, r4⟩ := I.room
 have hn := I.next r1 r2
 refine ⟨?_, el.snoc (fun d hd => (hlo d hd).1.add (hlo d hd).2) ?_, I.exa, fun y hy => I.fl y (by simp [hy]), fs, I.fa, ⟨p, ?_, hn, r3, r4⟩, I.near⟩
 · rw [← I.sum, List.sum_append, List.sum_cons, List.sum_nil]; grind
 · intro e
   have := hxc.lt c0
   rw [show c = -x by grind, ab_neg] at this
   grind
 · rw [List.sum_append, List.sum_cons, List.sum_nil] at r1
   rwa [show c + x + lo.sum = c + (lo.sum + (x + 0)) by grind]
theorem M.even {T : Nat} {k : Int} {s : Rat} (h : s = (k : Rat) * U T) (he : k % 2 = 0) : M (U (T + 1)) s := by
 obtain ⟨j, rfl⟩ : ∃ j, k = j * 2 := ⟨k / 2, by omega⟩
 refine ⟨j, ?_⟩
 rw [h, U_succ, Rat.intCast_mul, show ((2 : Int) : Rat) = 2 from rfl]; grind
theorem ZInv.emit {top : Nat} {S c x s r : Rat} {acc lo : List Rat} {T : Nat} {k : Int} (I : ZInv top S acc c (lo ++ [x])) (R : RndE (c + x) s T k) (hr : s + r = c + x) (fr : F r) (r0 : r ≠ 0) : ZInv top S (s :: acc) r lo := by
 obtain ⟨el, hlo, hxc, c0, x0⟩ := I.tail
 obtain ⟨p, r1, r2, r3, r4⟩ := I.room
 have hn := I.next r1 r2
 obtain ⟨R, hev⟩ := R
 have fx := I.fl x (by simp)
 have hT : T ≠ 0 := by
   intro e
   subst e
   have := R.mult ((F.mult0 I.fc).add (F.mult0 fx))
   exact r0 (by grind)
 have hhalf := R.half
 rw [show c + x - s = r by grind] at hev hhalf
 have hu := U_pos T
 have e2 := U_two T hT
 have e52 := U_52 T
 have hbig : U (T + 52) ≤ ab (c + x) := by
   rw [le_ab, e52]
   rcases R.h3 with h | h | h
   · exact absurd h hT
   · exact Or.inl h
   · exact Or.inr h
 have hTp : T + 52 ≤ p := U_le_iff.1 (by grind)
 have hs : U (T + 52) ≤ ab s := by
   have m52 : M (U T) (U (T + 52)) := M.down (show T ≤ T + 52 by omega) ⟨1, by rw [one_rat]; grind⟩
   have key : ∀ z : Rat, M (U T) z → U (T + 52) < z + U T → U (T + 52) ≤ z := by
     intro z hz hlt
     rcases (Rat.le_total : U (T + 52) ≤ z ∨ z ≤ U (T + 52)) with h | h
     · exact h
     · have := M.eq hu hz m52 (by grind) (by grind)
       grind
   have h1 := R.h1
   have h2 := R.h2
   rw [le_ab]
   rcases le_ab.1 hbig with h | h
   · exact Or.inl (key s R.m (by grind))
   · exact Or.inr (key (-s) R.m.neg (by grind))
 have s0 : s ≠ 0 := by
   intro e
   rw [e] at hs
   have := U_pos (T + 52)
   have : ab 0 ≤ 0 := ab_le.2 ⟨by grind, by grind⟩
   grind
 have hsp : ab s ≤ U p := R.le_pow' hn
 have hlor : ∀ d ∈ lo, Lo d r := fun d hd => by
   have a := (hlo d hd).1.add (hlo d hd).2
   have b := a.sub (a.rnd R)
   rwa [show c + x - s = r by grind] at b
 have hlt : ab s < U (p + 1) := by
   have := U_succ p
   have := U_pos p
   grind
 have exa' : Ex (s :: acc) := I.exa.cons (fun o ho => ⟨p + 1, hlt, r4 o ho⟩) s0
 -- what is left below
 have hroom : ∃ p', ab (r + lo.sum) < U p' ∧ ab r ≤ U p' ∧ p' + 52 ≤ p ∧ U (p' + 52) ≤ ab s ∧ M (U (p' + 1)) s := by
   by_cases tie : 2 * ab r = U T
   · have hm := M.even R.hx (hev tie)
     refine ⟨T, ?_, by have := ab_nonneg r; grind, hTp, hs, hm⟩
     by_cases e : lo = []
     · subst e
       rw [List.sum_nil, Rat.add_zero]; grind
     · obtain ⟨t, ht, hm⟩ := lo_many hlor e
       have a1 := el.bound ht
       have a2 := hm.ge (U_pos t) r0
       have a3 := ab_add r lo.sum
       grind
   · have hlt2 : ab r < U (T - 1) := by grind
     have hm : M (U (T - 1 + 1)) s := by rw [show T - 1 + 1 = T by omega]; exact R.m
     refine ⟨T - 1, ?_, Rat.le_of_lt hlt2, by omega, by have := U_mono (show T - 1 + 52 ≤ T + 52 by omega); grind, hm⟩
     by_cases e : lo = []
     · subst e
       rw [List.sum_nil, Rat.add_zero]; exact hlt2
     · obtain ⟨t, ht, hm⟩ := lo_many hlor e
       have a1 := el.bound ht
       have a2 := hm.ge (U_pos t) r0
       have htT : t ≤ T - 1 := U_le_iff.1 (by grind)
       have a3 := hm.room htT hlt2
       have a4 := ab_add r lo.sum
       grind
 obtain ⟨p', q1, q2, q3, q4, q5⟩ := hroom
 refine ⟨?_, el.snoc hlor r0, exa', fun y hy => I.fl y (by simp [hy]), fr, ?_, ⟨p', q1, q2, ?_, ?_⟩, ?_⟩
 · rw [← I.sum]
   simp only [List.sum_append, List.sum_cons, List.sum_nil]; grind
 · intro y hy
   rcases List.mem_cons.1 hy with rfl | hy
   · exact R.f
   · exact I.fa y hy
 · rw [List.length_cons]; omega
 · intro o ho
   rcases List.mem_cons.1 ho with rfl | ho
   · exact q5
   · exact (r4 o ho).down (by omega)
 · intro L hL
   by_cases e : acc = []
   · subst e
     simp at hL
     subst hL
     have hS := I.sum
     rw [List.sum_append, List.sum_cons, List.sum_nil] at hS
     exact ⟨p', q4, by rw [show S - s = r + lo.sum by grind]; exact q1⟩
   · refine I.near L ?_
     rw [List.getLast?_cons_of_ne_nil e] at hL
     exact hL
theorem ZInv.done {top : Nat} {S c : Rat} {acc : List Rat} (I : ZInv top S acc c []) : Ex (c :: acc) ∧ (c :: acc).sum = S ∧ (∀ x ∈ c :: acc, F x) ∧ 52 * (c :: acc).length ≤ top + 52 := by
 obtain ⟨p, r1, r2, r3, r4⟩ := I.room
 have c0 : c ≠ 0 := I.exl.2 c (by simp)
 have hlt : ab c < U (p + 1) := by
   have := U_succ p
   have := U_pos p
   grind
 refine ⟨I.exa.cons (fun o ho => ⟨p + 1, hlt, r4 o ho⟩) c0, ?_, ?_, ?_⟩
 · have := I.sum
   rw [List.sum_nil] at this
   rw [List.sum_cons]; grind
 · intro y hy
   rcases List.mem_cons.1 hy with rfl | hy
   · exact I.fc
   · exact I.fa y hy
 · rw [List.length_cons]; omega
theorem ZInv.lead {top : Nat} {S c L : Rat} {acc : List Rat} (I : ZInv top S acc c []) (hL : (c :: acc).getLast? = some L) : 1125899906842624 * ab (L - S) ≤ ab S ∧ ((0 < L ∧ 0 < S) ∨ (L < 0 ∧ S < 0)) := by
 have c0 : c ≠ 0 := I.exl.2 c (by simp)
 by_cases e : acc = []
 · subst e
   simp at hL
   subst hL
   have hS := I.sum
   simp only [List.sum_nil] at hS
   have : S = c := by grind
   subst this
   have : ab (S - S) ≤ 0 := ab_le.2 ⟨by grind, by grind⟩
   have := ab_nonneg S
   exact ⟨by grind, by grind⟩
 · rw [List.getLast?_cons_of_ne_nil e] at hL
   obtain ⟨P, h1, h2⟩ := I.near L hL
   rw [U_52] at h1
   have := U_pos P
   have := ab_lt.1 h2
   have h3 : ab (L - S) < U P := by rw [show L - S = -(S - L) by grind, ab_neg]; exact h2
   rcases le_ab.1 h1 with h | h
   · have h4 : 4503599627370495 * U P ≤ ab S := by rw [le_ab]; left; grind
     exact ⟨by grind, Or.inl ⟨by grind, by grind⟩⟩
   · have h4 : 4503599627370495 * U P ≤ ab S := by rw [le_ab]; right; grind
     exact ⟨by grind, Or.inr ⟨by grind, by grind⟩⟩
end

/- Signs that are told fast, and differences as lists: plain facts. -/
section
theorem RN.mm {q x : Rat} {t : Nat} (h : RN q x) (hm : M (U t) q) : M (U t) x := by
 obtain ⟨_, _, R⟩ := h
 exact hm.rnd R
theorem RN.rel {q x : Rat} {t : Nat} (h : RN q x) (hm : M (U t) q) : 9007199254740992 * ab (q - x) ≤ ab x := by
 obtain ⟨T, k, R⟩ := h
 rcases Nat.lt_or_ge t T with ht | ht
 · have hu := U_pos T
   have h1 := R.h1
   have h2 := R.h2
   have hx := R.hx
   have hd : 2 * ab (q - x) ≤ U T := by
     have : ab (q - x) ≤ U T / 2 := ab_le.2 ⟨by grind, by grind⟩
     grind
   have hk : 4503599627370496 * U T ≤ ab x := by
     rcases R.h3 with h | h | h
     · omega
     · have : (4503599627370495 : Int) < k := by
         apply cast_lt hu
         rw [← hx, show ((4503599627370495 : Int) : Rat) = 4503599627370495 from rfl]
         grind
       have h3 : (4503599627370496 : Int) ≤ k := by omega
       have h4 : ((4503599627370496 : Int) : Rat) * U T ≤ (k : Rat) * U T := Rat.mul_le_mul_of_nonneg_right (Rat.intCast_le_intCast.2 h3) (Rat.le_of_lt hu)
       rw [← hx, show ((4503599627370496 : Int) : Rat) = 4503599627370496 from rfl] at h4
       exact le_ab.2 (Or.inl h4)
     · have : k < (-4503599627370495 : Int) := by
         apply cast_lt hu
         rw [← hx, show ((-4503599627370495 : Int) : Rat) = -4503599627370495 from rfl]
         grind
       have h3 : k ≤ (-4503599627370496 : Int) := by omega
       have h4 : (k : Rat) * U T ≤ ((-4503599627370496 : Int) : Rat) * U T := Rat.mul_le_mul_of_nonneg_right (Rat.intCast_le_intCast.2 h3) (Rat.le_of_lt hu)
       rw [← hx, show ((-4503599627370496 : Int) : Rat) = -4503599627370496 from rfl] at h4
       exact le_ab.2 (Or.inr (by grind))
   grind
 · have e := R.mult (hm.down ht)
   subst e
   rw [show x - x = 0 by grind, show ab 0 = 0 by unfold ab; grind]
   have := ab_nonneg x
   grind
theorem F_int (n : Int) (h1 : -9007199254740992 ≤ n) (h2 : n ≤ 9007199254740992) : F (n : Rat) :=
 ⟨1074, n, by rw [show U 1074 = 1 from by unfold U; exact p2_zero]; grind, h1, h2⟩
theorem RN.lo {q x y : Rat} (h : RN q x) (e : x + y = q) : Lo y x := by
 obtain ⟨T, k, R⟩ := h
 have hu := U_pos T
 have h1 := R.h1
 have h2 := R.h2
 exact ⟨T, ab_lt.2 ⟨by grind, by grind⟩, R.m⟩
end

/- A float's halves, and two floats multiplied (Veltkamp, Dekker), in plain numbers. -/
section
end

/- Two floats multiplied: what is rounded off is told exactly (Dekker), in plain numbers. -/
section
theorem RN.neg {q x : Rat} (h : RN q x) : RN (-q) (-x) := by obtain ⟨T, k, R⟩ := h; exact ⟨T, _, R.neg⟩
end

/- The document's side of layer 9: Texts. -/
section
set_option maxRecDepth 100000
open Go.RowKit Go.Shelf Go.Lib
end

/- The law LinesRead. -/
section
set_option maxRecDepth 100000
open Go.RowKit Go.Shelf Go.Lib
attribute [local go_sem] run_store_str
theorem Lr.form {e : TypeId} {W : World} {B : Nat} {v : Value} {ps : List Lt} (h : Lr e W B v ps) : ∃ a c, v = .slice a ps.length c ∧ ps.length ≤ c ∧ c ≤ 9223372036854775807 ∧ (ps = [] ∨ ∃ g, a = some ⟨g, 0, none⟩ ∧ B ≤ g) := by
 rcases h.own.2 with ⟨h1, h2⟩ | ⟨g, cap, cur, h1, h0, _, h3, h4, _⟩
 · exact ⟨none, 0, by rw [h1, h2], by omega, by omega, Or.inl (List.length_eq_zero_iff.1 h2)⟩
 · exact ⟨_, _, h1, h3, by unfold maxLen at h4; omega, Or.inr ⟨g, rfl, h0⟩⟩
theorem good_word : ∀ (ls : List Bs) (n : Nat) {p : Nat × List Bs}, p ∈ good n ls → p.2 ≠ [] ∧ ∃ l ∈ ls, p.2 = lineW l := by
 intro ls
 induction ls with
 | nil => intro n p hp; simp [good] at hp
 | cons l r ih =>
   intro n p hp
   rw [good] at hp
   rcases List.mem_append.1 hp with e | e
   · by_cases h : (lineW l).isEmpty = true
     · rw [if_pos h] at e; simp at e
     · rw [if_neg h] at e
       rw [List.mem_singleton.1 e]
       exact ⟨by simpa using h, l, by simp, rfl⟩
   · obtain ⟨h1, x, h2, h3⟩ := ih _ e
     exact ⟨h1, x, by simp [h2], h3⟩
theorem rdV_word {t : Bs} {p : Nat × List Bs} (hp : p ∈ (rdV t).1) : p.2 ≠ [] ∧ (∀ x ∈ p.2, x.length ≤ 16777216) ∧ (rdV t).2.2 = 0 ∧ ∃ l ∈ lns t, p.2 = lineW l := by
 unfold rdV at hp ⊢
 split at hp
 · simp at hp
 · rename_i hl
   rw [if_neg hl]
   split at hp
   · simp at hp
   · obtain ⟨h1, l, h2, h3⟩ := good_word _ _ hp
     refine ⟨h1, fun x hx => ?_, rfl, l, h2, h3⟩
     rw [h3] at hx
     have g1 := (toks_word hx).2.2.1
     have g2 : (ahd l).length ≤ l.length := cutT_len _ _
     have g3 := (spl_word h2).2.1
     omega
end

/- What package lines is asked first: works. -/
section
set_option maxRecDepth 100000
open Go.RowKit Go.Shelf Go.Lib
end

/- The law LinesBack. -/
section
open Go.RowKit Go.Shelf Go.Lib
theorem Lr.sl {e : TypeId} {W : World} {B : Nat} {v : Value} {ps : List Lt} (h : Lr e W B v ps) {t : Bs} (ht : tell ps = (rdV t).1) : ∀ p ∈ ps, Sl W p.2.2 p.2.1 := fun p hp => by
 refine (h.sub p hp).sl (fun x hx => ?_)
 have hm : (p.1, p.2.1) ∈ (rdV t).1 := by rw [← ht]; exact List.mem_map.2 ⟨p, hp, rfl⟩
 have := (rdV_word hm).2.1 x hx
 omega
def RdS (W : World) (t : Bs) (e : Ending) (w' : World) : Prop := ∃ a c ps, e = .returned (.tuple #[.slice a (rdV t).1.length c, .int .i64 ((rdV t).2.1 : Nat), .int .i64 ((rdV t).2.2 : Nat)]) ∧ Lr 56 w' W.heap.size (.slice a (rdV t).1.length c) ps ∧ tell ps = (rdV t).1 ∧ ps.length = (rdV t).1.length ∧ Below W.heap.size W w'
theorem readS (s : ByteArray) (t : Bs) (W : World) (ht : s.data.toList = t) (hl : t.length ≤ 9223372036854775807) : Calls Tryd.prog 11 #[.string s] W fun e w' => RdS W t e w' := by
 refine (read_any s t W ht hl).mono ?_
 rintro e w' ⟨v, ps, rfl, h2, h3, h4⟩
 have hlen : ps.length = (rdV t).1.length := by rw [← h3]; simp [tell]
 obtain ⟨a, c, rfl, _, _, _⟩ := h2.form
 rw [hlen] at h2 ⊢
 exact ⟨a, c, ps, rfl, h2, h3, hlen, h4⟩
end
end Go.Proofs.YtgfloegaoofbbaaDoor
