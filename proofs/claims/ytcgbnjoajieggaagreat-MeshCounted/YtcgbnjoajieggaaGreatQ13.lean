/- Own texts, put together: Xa Xb. -/
import Derived.Test.YtcgbnjoajieggaaGreatQ9
namespace Go.Proofs.YtcgbnjoajieggaaGreat
/- Lists of floats that rise and do not overlap: plain facts. -/
section
def ab (x : Rat) : Rat := if x < 0 then -x else x
theorem ab_le {x c : Rat} : ab x ≤ c ↔ x ≤ c ∧ -x ≤ c := by unfold ab; split <;> grind
theorem ab_lt {x c : Rat} : ab x < c ↔ x < c ∧ -x < c := by unfold ab; split <;> grind
theorem le_ab {x c : Rat} : c ≤ ab x ↔ c ≤ x ∨ c ≤ -x := by unfold ab; split <;> grind
theorem ab_self (x : Rat) : x ≤ ab x ∧ -x ≤ ab x := ab_le.1 Rat.le_refl
theorem ab_nonneg (x : Rat) : 0 ≤ ab x := by unfold ab; split <;> grind
theorem ab_neg (x : Rat) : ab (-x) = ab x := by unfold ab; split <;> split <;> grind
theorem ab_add (x y : Rat) : ab (x + y) ≤ ab x + ab y := by
 have := ab_self x
 have := ab_self y
 rw [ab_le]; constructor <;> grind
theorem ab_pos {x : Rat} (h : x ≠ 0) : 0 < ab x := by unfold ab; split <;> grind
theorem ab_zero {x : Rat} (h : ab x ≤ 0) : x = 0 := by
 have := ab_le.1 h
 grind
theorem U_le_iff {S T : Nat} : U S ≤ U T ↔ S ≤ T := by unfold U; rw [p2_le_iff]; omega
theorem U_lt_iff {S T : Nat} : U S < U T ↔ S < T := by unfold U; rw [p2_lt_iff]; omega
theorem two_rat (j : Nat) : (((2 ^ j : Nat) : Int) : Rat) = ((2 ^ j : Nat) : Rat) := rfl
theorem M.ge {u x : Rat} (hu : 0 < u) (h : M u x) (h0 : x ≠ 0) : u ≤ ab x := by
 obtain ⟨k, rfl⟩ := h
 have hk : k ≠ 0 := by intro e; subst e; exact h0 (by rw [show ((0 : Int) : Rat) = 0 from rfl]; grind)
 rw [le_ab]
 rcases Int.lt_or_le 0 k with h | h
 · left
   have := Rat.mul_le_mul_of_nonneg_right (Rat.intCast_le_intCast.2 (show (1 : Int) ≤ k by omega)) (Rat.le_of_lt hu)
   rw [one_rat] at this; grind
 · right
   have := Rat.mul_le_mul_of_nonneg_right (Rat.intCast_le_intCast.2 (show (1 : Int) ≤ -k by omega)) (Rat.le_of_lt hu)
   rw [one_rat, Rat.intCast_neg] at this; grind
theorem M.room1 {s t : Nat} {z : Rat} (h : M (U t) z) (hst : t ≤ s) (hz : z < U s) : z ≤ U s - U t := by
 obtain ⟨k, rfl⟩ := h
 obtain ⟨j, rfl⟩ : ∃ j, s = t + j := ⟨s - t, by omega⟩
 rw [U_add] at hz ⊢
 have hu := U_pos t
 have h1 : (k : Rat) * U t < (((2 ^ j : Nat) : Int) : Rat) * U t := hz
 have h2 := cast_lt hu h1
 have h3 : k ≤ ((2 ^ j : Nat) : Int) - 1 := by omega
 have h4 := Rat.mul_le_mul_of_nonneg_right (Rat.intCast_le_intCast.2 h3) (Rat.le_of_lt hu)
 rw [Rat.intCast_sub, one_rat, two_rat] at h4
 grind
theorem M.room {s t : Nat} {z : Rat} (h : M (U t) z) (hst : t ≤ s) (hz : ab z < U s) : ab z ≤ U s - U t := by
 have := ab_lt.1 hz
 exact ab_le.2 ⟨h.room1 hst this.1, h.neg.room1 hst this.2⟩
def Lo (h x : Rat) : Prop := ∃ t, ab h < U t ∧ M (U t) x
theorem Lo.common {h x y : Rat} (h1 : Lo h x) (h2 : Lo h y) : ∃ t, ab h < U t ∧ M (U t) x ∧ M (U t) y := by
 obtain ⟨s, a, b⟩ := h1
 obtain ⟨t, c, d⟩ := h2
 rcases Nat.le_total s t with e | e
 · exact ⟨s, a, b, d.down e⟩
 · exact ⟨t, c, b.down e, d⟩
theorem Lo.add {h x y : Rat} (h1 : Lo h x) (h2 : Lo h y) : Lo h (x + y) := by
 obtain ⟨t, a, b, c⟩ := h1.common h2
 exact ⟨t, a, b.add c⟩
theorem Lo.neg {h x : Rat} (h1 : Lo h x) : Lo h (-x) := by
 obtain ⟨t, a, b⟩ := h1
 exact ⟨t, a, b.neg⟩
theorem Lo.sub {h x y : Rat} (h1 : Lo h x) (h2 : Lo h y) : Lo h (x - y) := by
 obtain ⟨t, a, b, c⟩ := h1.common h2
 exact ⟨t, a, b.sub c⟩
theorem M.rnd {q x : Rat} {T t : Nat} {k : Int} (h : M (U t) q) (R : Rnd q x T k) : M (U t) x := by
 rcases Nat.le_total T t with e | e
 · rw [R.mult (h.down e)]; exact h
 · exact R.m.down e
theorem Lo.rnd {h q x : Rat} {T : Nat} {k : Int} (h1 : Lo h q) (R : Rnd q x T k) : Lo h x := by
 obtain ⟨t, a, b⟩ := h1
 exact ⟨t, a, b.rnd R⟩
theorem Lo.lt {h x : Rat} (h1 : Lo h x) (h0 : x ≠ 0) : ab h < ab x := by
 obtain ⟨t, a, b⟩ := h1
 have := b.ge (U_pos t) h0
 grind
theorem Lo.trans {h x y : Rat} (h1 : Lo h x) (h0 : x ≠ 0) (h2 : Lo x y) : Lo h y := by
 have a := h1.lt h0
 obtain ⟨t, b, c⟩ := h2
 exact ⟨t, by grind, c⟩
def Ex (l : List Rat) : Prop := l.Pairwise Lo ∧ ∀ x ∈ l, x ≠ 0
theorem lo_list {x : Rat} {r : List Rat} (h : ∀ y ∈ r, Lo x y) (hne : r ≠ []) : ∃ t, ab x < U t ∧ ∀ y ∈ r, M (U t) y := by
 induction r with
 | nil => exact absurd rfl hne
 | cons y r ih =>
   obtain ⟨s, a, b⟩ := h y (by simp)
   by_cases e : r = []
   · subst e
     exact ⟨s, a, fun z hz => by simp at hz; rw [hz]; exact b⟩
   · obtain ⟨t, c, d⟩ := ih (fun z hz => h z (by simp [hz])) e
     rcases Nat.le_total s t with e | e
     · exact ⟨s, a, fun z hz => by
         rcases List.mem_cons.1 hz with rfl | hz
         · exact b
         · exact (d z hz).down e⟩
     · exact ⟨t, c, fun z hz => by
         rcases List.mem_cons.1 hz with rfl | hz
         · exact b.down e
         · exact d z hz⟩
theorem M_zero (u : Rat) : M u 0 := ⟨0, by rw [show ((0 : Int) : Rat) = 0 from rfl]; grind⟩
theorem M.sum {u : Rat} {l : List Rat} (h : ∀ y ∈ l, M u y) : M u l.sum := by
 induction l with
 | nil => exact M_zero u
 | cons y r ih => rw [List.sum_cons]; exact (h y (by simp)).add (ih (fun z hz => h z (by simp [hz])))
theorem Ex.bound {l : List Rat} {s : Nat} (h : Ex l) (hb : ∀ x ∈ l, ab x < U s) : ab l.sum < U s := by
 induction l with
 | nil => rw [List.sum_nil]; exact ab_lt.2 ⟨U_pos s, by have := U_pos s; grind⟩
 | cons x r ih =>
   obtain ⟨hp, h0⟩ := h
   rw [List.pairwise_cons] at hp
   have hr := ih ⟨hp.2, fun y hy => h0 y (by simp [hy])⟩ (fun y hy => hb y (by simp [hy]))
   rw [List.sum_cons]
   by_cases e : r = []
   · subst e
     rw [List.sum_nil, Rat.add_zero]
     exact hb x (by simp)
   · obtain ⟨t, a, m⟩ := lo_list hp.1 e
     have ht : t ≤ s := by
       obtain ⟨y, hy⟩ := List.exists_mem_of_ne_nil r e
       have h1 := (m y hy).ge (U_pos t) (h0 y (by simp [hy]))
       have h2 := hb y (by simp [hy])
       have h3 : U t ≤ U s := by grind
       exact U_le_iff.1 h3
     have := (M.sum m).room ht hr
     have := ab_add x r.sum
     grind
theorem F.mult {g : Rat} {K : Nat} (hg : F g) (h : U K ≤ ab g) : M (U (K - 52)) g := by
 obtain ⟨S, m, rfl, h1, h2⟩ := hg
 have hu := U_pos S
 have hb := F.abs (z := (m : Rat) * U S) rfl h1 h2
 have hK : U K ≤ U (S + 53) := by
   rw [U_add]
   have e : ((2 ^ 53 : Nat) : Rat) = 9007199254740992 := by decide +kernel
   rw [e]
   have := ab_le.2 hb
   grind
 have hK := U_le_iff.1 hK
 by_cases e : K ≤ S + 52
 · exact M.down (by omega) ⟨m, rfl⟩
 · obtain rfl : K = S + 53 := by omega
   have hm : m = 9007199254740992 ∨ m = -9007199254740992 := by
     rw [U_add] at h
     have e : ((2 ^ 53 : Nat) : Rat) = ((9007199254740992 : Int) : Rat) := by decide +kernel
     rw [e] at h
     rcases le_ab.1 h with h | h
     · left; have := cast_le hu h; omega
     · right
       have h : ((9007199254740992 : Int) : Rat) * U S ≤ ((-m : Int) : Rat) * U S := by rw [Rat.intCast_neg]; grind
       have := cast_le hu h; omega
   rw [show S + 53 - 52 = S + 1 by omega]
   have eu := U_succ S
   rcases hm with rfl | rfl
   · exact ⟨4503599627370496, by rw [eu, show ((9007199254740992 : Int) : Rat) = 9007199254740992 from rfl, show ((4503599627370496 : Int) : Rat) = 4503599627370496 from rfl]; grind⟩
   · exact ⟨-4503599627370496, by rw [eu, show ((-9007199254740992 : Int) : Rat) = -9007199254740992 from rfl, show ((-4503599627370496 : Int) : Rat) = -4503599627370496 from rfl]; grind⟩
theorem F.mult0 {g : Rat} (hg : F g) : M (U 0) g := by
 obtain ⟨S, m, rfl, _, _⟩ := hg
 exact M.down (Nat.zero_le _) ⟨m, rfl⟩
theorem binade {u : Nat} {g : Rat} (hg : M (U u) g) (h0 : g ≠ 0) : ∃ K, u ≤ K ∧ U K ≤ ab g ∧ ab g < U (K + 1) := by
 obtain ⟨m, rfl⟩ := hg
 have hu := U_pos u
 have hm : m.natAbs ≠ 0 := by
   intro e
   have : m = 0 := by omega
   subst this
   exact h0 (by rw [show ((0 : Int) : Rat) = 0 from rfl]; grind)
 have e : ab ((m : Rat) * U u) = ((m.natAbs : Int) : Rat) * U u := by
   rcases Int.lt_or_le m 0 with h | h
   · rw [show ((m.natAbs : Nat) : Int) = -m by omega, Rat.intCast_neg]
     have h2 : (m : Rat) * U u < 0 := by
       have := Rat.mul_lt_mul_of_pos_right (Rat.intCast_lt_intCast.2 h) hu
       rw [show ((0 : Int) : Rat) = 0 from rfl] at this; grind
     unfold ab; rw [if_pos h2]; grind
   · rw [show ((m.natAbs : Nat) : Int) = m by omega]
     have h2 : 0 ≤ (m : Rat) * U u := by
       have := Rat.mul_le_mul_of_nonneg_right (Rat.intCast_le_intCast.2 h) (Rat.le_of_lt hu)
       rw [show ((0 : Int) : Rat) = 0 from rfl] at this; grind
     unfold ab; rw [if_neg (by grind)]
 refine ⟨u + Nat.log2 m.natAbs, by omega, ?_, ?_⟩
 · rw [e, U_add]
   have h1 : 2 ^ Nat.log2 m.natAbs ≤ m.natAbs := Nat.log2_self_le hm
   exact Rat.mul_le_mul_of_nonneg_right (Rat.intCast_le_intCast.2 (by omega : (((2 ^ Nat.log2 m.natAbs : Nat) : Int)) ≤ (m.natAbs : Int))) (Rat.le_of_lt hu)
 · rw [e, Nat.add_assoc, U_add]
   have h1 : m.natAbs < 2 ^ (Nat.log2 m.natAbs + 1) := Nat.lt_log2_self
   exact Rat.mul_lt_mul_of_pos_right (Rat.intCast_lt_intCast.2 (by omega : (m.natAbs : Int) < (((2 ^ (Nat.log2 m.natAbs + 1) : Nat) : Int)))) hu
end

/- Two lists that rise and do not overlap, joined: plain facts. -/
section
structure JInv (N : Nat) (de re df rf outs : List Rat) (Q q : Rat) : Prop where
 sum : Q + q + outs.sum = de.sum + df.sum
 ex : Ex outs
 e1 : Ex (de ++ re)
 e2 : Ex (df ++ rf)
 b1 : ∀ x ∈ de ++ re, F x ∧ ab x < U N
 b2 : ∀ x ∈ df ++ rf, F x ∧ ab x < U N
 b3 : ∀ h ∈ outs, F h ∧ ab h < U N
 low : ∀ h ∈ outs, Lo h Q ∧ Lo h q ∧ (∀ g ∈ re, Lo h g) ∧ (∀ g ∈ rf, Lo h g)
 o1 : ∀ x ∈ de, ∀ y ∈ rf, ab x ≤ ab y
 o2 : ∀ x ∈ df, ∀ y ∈ re, ab x ≤ ab y
 rq : ∃ T k, Rnd (Q + q) Q T k
 fq : F q
theorem JInv.turn {N : Nat} {de re df rf outs : List Rat} {Q q : Rat} (I : JInv N de re df rf outs Q q) : JInv N df rf de re outs Q q where
 sum := by rw [I.sum]; grind
 ex := I.ex
 e1 := I.e2
 e2 := I.e1
 b1 := I.b2
 b2 := I.b1
 b3 := I.b3
 low := fun h hh => ⟨(I.low h hh).1, (I.low h hh).2.1, (I.low h hh).2.2.2, (I.low h hh).2.2.1⟩
 o1 := I.o2
 o2 := I.o1
 rq := I.rq
 fq := I.fq
theorem Ex.left {a b : List Rat} (h : Ex (a ++ b)) : Ex a := ⟨(List.pairwise_append.1 h.1).1, fun x hx => h.2 x (by simp [hx])⟩
theorem Ex.right {a b : List Rat} (h : Ex (a ++ b)) : Ex b := ⟨(List.pairwise_append.1 h.1).2.1, fun x hx => h.2 x (by simp [hx])⟩
theorem JInv.start {N : Nat} {e f : List Rat} (h1 : Ex e) (h2 : Ex f) (b1 : ∀ x ∈ e, F x ∧ ab x < U N) (b2 : ∀ x ∈ f, F x ∧ ab x < U N) : JInv N [] e [] f [] 0 0 where
 sum := by simp only [List.sum_nil]; grind
 ex := ⟨List.Pairwise.nil, by simp⟩
 e1 := h1
 e2 := h2
 b1 := b1
 b2 := b2
 b3 := by simp
 low := by simp
 o1 := by simp
 o2 := by simp
 rq := ⟨0, 0, by
   have h0 : (0 : Rat) + 0 = 0 := by grind
   have hu := U_pos 0
   rw [h0]
   exact ⟨by rw [show ((0 : Int) : Rat) = 0 from rfl]; grind, by grind, by grind, Or.inl rfl, by grind, by grind, by omega, by omega⟩⟩
 fq := F_zero
theorem JInv.size {N : Nat} {de re df rf outs : List Rat} {Q q : Rat} (I : JInv N de re df rf outs Q q) : ab (Q + q) < 3 * U N := by
 have h1 := I.e1.left.bound (s := N) (fun x hx => (I.b1 x (by simp [hx])).2)
 have h2 := I.e2.left.bound (s := N) (fun x hx => (I.b2 x (by simp [hx])).2)
 have h3 := I.ex.bound (s := N) (fun x hx => (I.b3 x hx).2)
 have h4 := I.sum
 have := ab_self de.sum
 have := ab_self df.sum
 have := ab_self outs.sum
 rw [ab_lt]; constructor <;> grind
theorem Rnd.rest_le {q x : Rat} {T : Nat} {k : Int} (R : Rnd q x T k) : ab (q - x) ≤ ab q := by
 have := ab_self q
 have h := R.best (c := ab q) F_zero (by grind) (by grind)
 rw [ab_le]; constructor <;> grind
theorem Rnd.rest_le' {a q x : Rat} {T : Nat} {k : Int} (R : Rnd (a + q) x T k) (ha : F a) : ab (a + q - x) ≤ ab q := by
 have := ab_self q
 have h := R.best (c := ab q) ha (by grind) (by grind)
 rw [ab_le]; constructor <;> grind
theorem Rnd.half {q x : Rat} {T : Nat} {k : Int} (R : Rnd q x T k) : 2 * ab (q - x) ≤ U T := by
 have h1 := R.h1
 have h2 := R.h2
 unfold ab; split <;> grind
theorem Rnd.rest_lo {q x : Rat} {T : Nat} {k : Int} (R : Rnd q x T k) : Lo (q - x) x := by
 have h := R.half
 have hu := U_pos T
 have := ab_nonneg (q - x)
 exact ⟨T, by grind, R.m⟩
theorem Rnd.unit_le {q x : Rat} {T K : Nat} {k : Int} (R : Rnd q x T k) (h : ab q < U K) (hT : T ≠ 0) : T + 52 < K := by
 have h1 : U (T + 52) < U K := by
   rw [U_add]
   have e : ((2 ^ 52 : Nat) : Rat) = 4503599627370496 := by decide +kernel
   rw [e]
   have := ab_lt.1 h
   rcases R.h3 with h3 | h3 | h3
   · exact absurd h3 hT
   · grind
   · grind
 exact U_lt_iff.1 h1
theorem join_core {K : Nat} {Q q g R h : Rat} {T T' : Nat} {k k' : Int} (hA : ab (Q + q) < U (K + 2)) (RQ : Rnd (Q + q) Q T k) (fq : F q) (fg : F g) (fQ : F Q) (hg1 : U K ≤ ab g) (hg2 : ab g < U (K + 1)) (RR : Rnd (g + q) R T' k') (hh : h = g + q - R) (h0 : h ≠ 0) :
   ab h < U (K - 52) ∧ ab h ≤ ab q ∧ Lo h R ∧ Lo h Q := by
 have hq := RQ.half
 rw [show Q + q - Q = q by grind] at hq
 have hle := RR.rest_le' fg
 rw [← hh] at hle
 have hlR := RR.rest_lo
 rw [← hh] at hlR
 have hT : T ≠ 0 := by
   intro e
   subst e
   have := RQ.mult ((F.mult0 fQ).add (F.mult0 fq))
   have hq0 : q = 0 := by grind
   subst hq0
   have : R = g := by
     have := RR.exact (by rw [Rat.add_zero]; exact fg)
     grind
   exact h0 (by grind)
 have hTK := RQ.unit_le hA hT
 have hT' : T' ≠ 0 := by
   intro e
   subst e
   have := RR.mult ((F.mult0 fg).add (F.mult0 fq))
   exact h0 (by grind)
 have hK : U T ≤ 2 * U (K - 52) := by
   rw [← U_succ]; exact U_mono (by omega)
 have hgm := (F.mult fg hg1).room (by omega : K - 52 ≤ K + 1) hg2
 have hu := U_pos T
 have hx : ab (g + q) ≤ U (K + 1) := by
   have := ab_add g q
   grind
 have hne : ab (g + q) ≠ U (K + 1) := by
   intro e
   have hf : F (g + q) := by
     unfold ab at e
     split at e
     · exact ⟨K + 1, -1, by rw [show ((-1 : Int) : Rat) = -1 from rfl]; grind, by omega, by omega⟩
     · exact ⟨K + 1, 1, by rw [one_rat]; grind, by omega, by omega⟩
   have := RR.exact hf
   exact h0 (by grind)
 have hT2 := RR.unit_le (K := K + 1) (by grind) hT'
 have hh2 := RR.half
 rw [← hh] at hh2
 have hu' := U_pos T'
 have hK' : U T' ≤ U (K - 52) := U_mono (by omega)
 have := ab_nonneg h
 refine ⟨by grind, hle, hlR, T, ?_, RQ.m⟩
 have := ab_nonneg q
 grind
def grownR (l : List Rat) (h : Rat) : List Rat := if h = 0 then l else l ++ [h]
theorem Ex.grow {l : List Rat} {h : Rat} (hl : Ex l) (hh : ∀ x ∈ l, Lo x h) : Ex (grownR l h) := by
 unfold grownR
 split
 · exact hl
 · rename_i h0
   refine ⟨List.pairwise_append.2 ⟨hl.1, by simp, fun x hx y hy => ?_⟩, fun x hx => ?_⟩
   · simp at hy; rw [hy]; exact hh x hx
   · rcases List.mem_append.1 hx with hx | hx
     · exact hl.2 x hx
     · simp at hx; rw [hx]; exact h0
theorem sum_grow (l : List Rat) (h : Rat) : (grownR l h).sum = l.sum + h := by
 unfold grownR
 split
 · rename_i e; rw [e]; grind
 · rw [List.sum_append, List.sum_cons, List.sum_nil, Rat.add_zero]
theorem mem_grow {l : List Rat} {h x : Rat} (hx : x ∈ grownR l h) : x ∈ l ∨ (x = h ∧ h ≠ 0) := by
 unfold grownR at hx
 split at hx
 · exact Or.inl hx
 · rename_i h0
   rcases List.mem_append.1 hx with hx | hx
   · exact Or.inl hx
   · simp at hx; exact Or.inr ⟨hx, h0⟩
theorem JInv.step {N : Nat} {de re df rf outs : List Rat} {Q q g R h Q' q' : Rat} {T1 T2 : Nat} {k1 k2 : Int} (I : JInv N de (g :: re) df rf outs Q q) (hmin : ∀ y ∈ rf, ab g ≤ ab y)
   (RR : Rnd (g + q) R T1 k1) (hh : R + h = g + q) (fh : F h) (RQ : Rnd (Q + R) Q' T2 k2) (hq' : Q' + q' = Q + R) (fq' : F q') : JInv N (de ++ [g]) re df rf (grownR outs h) Q' q' := by
 obtain ⟨TQ, kQ, RQ0⟩ := I.rq
 have hg := I.b1 g (by simp)
 have g0 : g ≠ 0 := I.e1.2 g (by simp)
 obtain ⟨K, _, hK1, hK2⟩ := binade (F.mult0 hg.1) g0
 have hpw := List.pairwise_append.1 I.e1.1
 have hgr : ∀ y ∈ re, Lo g y := fun y hy => (List.pairwise_cons.1 hpw.2.1).1 y hy
 have hdg : ∀ x ∈ de, Lo x g := fun x hx => hpw.2.2 x hx g (by simp)
 have hA : ab (Q + q) < U (K + 2) := by
   have h1 := I.e1.left.bound (s := K) (fun x hx => by
     obtain ⟨t, a, b⟩ := hdg x hx
     have h1 := b.ge (U_pos t) g0
     have h2 : U t < U (K + 1) := by grind
     have h3 := U_mono (show t ≤ K by have := U_lt_iff.1 h2; omega)
     grind)
   have h2 := I.e2.left.bound (s := K + 1) (fun x hx => by have := I.o2 x hx g (by simp); grind)
   have h3 := I.ex.bound (s := K) (fun x hx => by
     obtain ⟨t, a, b⟩ := (I.low x hx).2.2.1 g (by simp)
     have h1 := b.ge (U_pos t) g0
     have h2 : U t < U (K + 1) := by grind
     have h3 := U_mono (show t ≤ K by have := U_lt_iff.1 h2; omega)
     grind)
   have h4 := I.sum
   have := ab_self de.sum
   have := ab_self df.sum
   have := ab_self outs.sum
   have e1 := U_succ K
   have e2 := U_succ (K + 1)
   rw [ab_lt]; constructor <;> grind
 have hlow : ∀ x ∈ outs, Lo x R ∧ Lo x h ∧ Lo x Q' ∧ Lo x q' := by
   intro x hx
   have a := (I.low x hx).2.1
   have b := (I.low x hx).2.2.1 g (by simp)
   have c := (b.add a).rnd RR
   have d := (b.add a).sub c
   rw [show g + q - R = h by grind] at d
   have e := ((I.low x hx).1.add c).rnd RQ
   have f := ((I.low x hx).1.add c).sub e
   rw [show Q + R - Q' = q' by grind] at f
   exact ⟨c, d, e, f⟩
 have hnew : h ≠ 0 → ab h < U N ∧ Lo h Q' ∧ Lo h q' ∧ (∀ y ∈ re, Lo h y) ∧ (∀ y ∈ rf, Lo h y) := by
   intro h0
   obtain ⟨c1, c2, c3, c4⟩ := join_core hA RQ0 I.fq hg.1 RQ0.f hK1 hK2 RR (by grind) h0
   have e := (c4.add c3).rnd RQ
   have f := (c4.add c3).sub e
   rw [show Q + R - Q' = q' by grind] at f
   have hKN : U (K - 52) ≤ U N := by
     have h1 := U_mono (show K - 52 ≤ K by omega)
     have := hg.2
     grind
   refine ⟨by grind, e, f, fun y hy => ?_, fun y hy => ?_⟩
   · have h1 := (hgr y hy).lt (I.e1.2 y (by simp [hy]))
     exact ⟨K - 52, c1, F.mult (I.b1 y (by simp [hy])).1 (by grind)⟩
   · have h1 := hmin y hy
     exact ⟨K - 52, c1, F.mult (I.b2 y (by simp [hy])).1 (by grind)⟩
 refine ⟨?_, I.ex.grow (fun x hx => (hlow x hx).2.1), ?_, I.e2, ?_, I.b2, ?_, ?_, ?_, ?_, ⟨T2, k2, by rw [hq']; exact RQ⟩, fq'⟩
 · rw [sum_grow, List.sum_append]
   have := I.sum
   simp only [List.sum_cons, List.sum_nil]
   grind
 · have := I.e1
   rwa [List.append_cons] at this
 · intro x hx
   exact I.b1 x (by simp at hx ⊢; grind)
 · intro x hx
   rcases mem_grow hx with hx | ⟨rfl, h0⟩
   · exact I.b3 x hx
   · exact ⟨fh, (hnew h0).1⟩
 · intro x hx
   rcases mem_grow hx with hx | ⟨rfl, h0⟩
   · exact ⟨(hlow x hx).2.2.1, (hlow x hx).2.2.2, fun y hy => (I.low x hx).2.2.1 y (by simp [hy]), (I.low x hx).2.2.2⟩
   · exact (hnew h0).2
 · intro x hx y hy
   rcases List.mem_append.1 hx with hx | hx
   · exact I.o1 x hx y hy
   · simp at hx; rw [hx]; exact hmin y hy
 · intro x hx y hy
   exact I.o2 x hx y (by simp [hy])
theorem JInv.done {N : Nat} {de df outs : List Rat} {Q q : Rat} (I : JInv N de [] df [] outs Q q) : Ex (grownR (grownR outs q) Q) ∧ (grownR (grownR outs q) Q).sum = de.sum + df.sum ∧ (∀ x ∈ grownR (grownR outs q) Q, F x) := by
 obtain ⟨T, k, R⟩ := I.rq
 refine ⟨(I.ex.grow (fun x hx => (I.low x hx).2.1)).grow (fun x hx => ?_), ?_, fun x hx => ?_⟩
 · rcases mem_grow hx with hx | ⟨rfl, _⟩
   · exact (I.low x hx).1
   · have := R.rest_lo
     rwa [show Q + x - Q = x by grind] at this
 · rw [sum_grow, sum_grow]
   have := I.sum
   grind
 · rcases mem_grow hx with hx | ⟨rfl, _⟩
   · rcases mem_grow hx with hx | ⟨rfl, _⟩
     · exact (I.b3 x hx).1
     · exact I.fq
   · exact R.f
end
end Go.Proofs.YtcgbnjoajieggaaGreat
