/- Own texts, put together: Xa Eu Ev. -/
import Derived.Test.YtkgnlobakicnjaaDoorQ11
namespace Go.Proofs.YtkgnlobakicnjaaDoor
/- Lists of floats that rise and do not overlap: plain facts. -/
section
def ab (x : Rat) : Rat := if x < 0 then -x else x
theorem ab_le {x c : Rat} : ab x ≤ c ↔ x ≤ c ∧ -x ≤ c := by unfold ab; split <;> grind
theorem ab_lt {x c : Rat} : ab x < c ↔ x < c ∧ -x < c := by unfold ab; split <;> grind
theorem le_ab {x c : Rat} : c ≤ ab x ↔ c ≤ x ∨ c ≤ -x := by unfold ab; split <;> grind
theorem ab_self (x : Rat) : x ≤ ab x ∧ -x ≤ ab x := ab_le.1 Rat.le_refl
theorem ab_nonneg (x : Rat) : 0 ≤ ab x := by unfold ab; split <;> grind
theorem ab_neg (x : Rat) : ab (-x) = ab x := by unfold ab; split <;> split <;> grind
theorem ab_add (x y : Rat) : ab (x + y) ≤ ab x + ab y := by
 have := ab_self x
 have := ab_self y
 rw [ab_le]; constructor <;> grind
theorem U_le_iff {S T : Nat} : U S ≤ U T ↔ S ≤ T := by unfold U; rw [p2_le_iff]; omega
theorem U_lt_iff {S T : Nat} : U S < U T ↔ S < T := by unfold U; rw [p2_lt_iff]; omega
theorem two_rat (j : Nat) : (((2 ^ j : Nat) : Int) : Rat) = ((2 ^ j : Nat) : Rat) := rfl
theorem M.ge {u x : Rat} (hu : 0 < u) (h : M u x) (h0 : x ≠ 0) : u ≤ ab x := by
 obtain ⟨k, rfl⟩ := h
 have hk : k ≠ 0 := by intro e; subst e; exact h0 (by rw [show ((0 : Int) : Rat) = 0 from rfl]; grind)
 rw [le_ab]
 rcases Int.lt_or_le 0 k with h | h
 · left
   have := Rat.mul_le_mul_of_nonneg_right (Rat.intCast_le_intCast.2 (show (1 : Int) ≤ k by omega)) (Rat.le_of_lt hu)
   rw [one_rat] at this; grind
 · right
   have := Rat.mul_le_mul_of_nonneg_right (Rat.intCast_le_intCast.2 (show (1 : Int) ≤ -k by omega)) (Rat.le_of_lt hu)
   rw [one_rat, Rat.intCast_neg] at this; grind
theorem M.room1 {s t : Nat} {z : Rat} (h : M (U t) z) (hst : t ≤ s) (hz : z < U s) : z ≤ U s - U t := by
 obtain ⟨k, rfl⟩ := h
 obtain ⟨j, rfl⟩ : ∃ j, s = t + j := ⟨s - t, by omega⟩
 rw [U_add] at hz ⊢
 have hu := U_pos t
 have h1 : (k : Rat) * U t < (((2 ^ j : Nat) : Int) : Rat) * U t := hz
 have h2 := cast_lt hu h1
 have h3 : k ≤ ((2 ^ j : Nat) : Int) - 1 := by omega
 have h4 := Rat.mul_le_mul_of_nonneg_right (Rat.intCast_le_intCast.2 h3) (Rat.le_of_lt hu)
 rw [Rat.intCast_sub, one_rat, two_rat] at h4
 grind
theorem M.room {s t : Nat} {z : Rat} (h : M (U t) z) (hst : t ≤ s) (hz : ab z < U s) : ab z ≤ U s - U t := by
 have := ab_lt.1 hz
 exact ab_le.2 ⟨h.room1 hst this.1, h.neg.room1 hst this.2⟩
def Lo (h x : Rat) : Prop := ∃ t, ab h < U t ∧ M (U t) x
theorem Lo.common {h x y : Rat} (h1 : Lo h x) (h2 : Lo h y) : ∃ t, ab h < U t ∧ M (U t) x ∧ M (U t) y := by
 obtain ⟨s, a, b⟩ := h1
 obtain ⟨t, c, d⟩ := h2
 rcases Nat.le_total s t with e | e
 · exact ⟨s, a, b, d.down e⟩
 · exact ⟨t, c, b.down e, d⟩
theorem Lo.add {h x y : Rat} (h1 : Lo h x) (h2 : Lo h y) : Lo h (x + y) := by
 obtain ⟨t, a, b, c⟩ := h1.common h2
 exact ⟨t, a, b.add c⟩
theorem Lo.neg {h x : Rat} (h1 : Lo h x) : Lo h (-x) := by
 obtain ⟨t, a, b⟩ := h1
 exact ⟨t, a, b.neg⟩
theorem Lo.sub {h x y : Rat} (h1 : Lo h x) (h2 : Lo h y) : Lo h (x - y) := by
 obtain ⟨t, a, b, c⟩ := h1.common h2
 exact ⟨t, a, b.sub c⟩
theorem M.rnd {q x : Rat} {T t : Nat} {k : Int} (h : M (U t) q) (R : Rnd q x T k) : M (U t) x := by
 rcases Nat.le_total T t with e | e
 · rw [R.mult (h.down e)]; exact h
 · exact R.m.down e
theorem Lo.rnd {h q x : Rat} {T : Nat} {k : Int} (h1 : Lo h q) (R : Rnd q x T k) : Lo h x := by
 obtain ⟨t, a, b⟩ := h1
 exact ⟨t, a, b.rnd R⟩
theorem Lo.lt {h x : Rat} (h1 : Lo h x) (h0 : x ≠ 0) : ab h < ab x := by
 obtain ⟨t, a, b⟩ := h1
 have := b.ge (U_pos t) h0
 grind
theorem Lo.trans {h x y : Rat} (h1 : Lo h x) (h0 : x ≠ 0) (h2 : Lo x y) : Lo h y := by
 have a := h1.lt h0
 obtain ⟨t, b, c⟩ := h2
 exact ⟨t, by grind, c⟩
def Ex (l : List Rat) : Prop := l.Pairwise Lo ∧ ∀ x ∈ l, x ≠ 0
theorem lo_list {x : Rat} {r : List Rat} (h : ∀ y ∈ r, Lo x y) (hne : r ≠ []) : ∃ t, ab x < U t ∧ ∀ y ∈ r, M (U t) y := by
 induction r with
 | nil => exact absurd rfl hne
 | cons y r ih =>
   obtain ⟨s, a, b⟩ := h y (by simp)
   by_cases e : r = []
   · subst e
     exact ⟨s, a, fun z hz => by simp at hz; rw [hz]; exact b⟩
   · obtain ⟨t, c, d⟩ := ih (fun z hz => h z (by simp [hz])) e
     rcases Nat.le_total s t with e | e
     · exact ⟨s, a, fun z hz => by
         rcases List.mem_cons.1 hz with rfl | hz
         · exact b
         · exact (d z hz).down e⟩
     · exact ⟨t, c, fun z hz => by
         rcases List.mem_cons.1 hz with rfl | hz
         · exact b.down e
         · exact d z hz⟩
theorem M_zero (u : Rat) : M u 0 := ⟨0, by rw [show ((0 : Int) : Rat) = 0 from rfl]; grind⟩
theorem M.sum {u : Rat} {l : List Rat} (h : ∀ y ∈ l, M u y) : M u l.sum := by
 induction l with
 | nil => exact M_zero u
 | cons y r ih => rw [List.sum_cons]; exact (h y (by simp)).add (ih (fun z hz => h z (by simp [hz])))
theorem Ex.bound {l : List Rat} {s : Nat} (h : Ex l) (hb : ∀ x ∈ l, ab x < U s) : ab l.sum < U s := by
 induction l with
 | nil => rw [List.sum_nil]; exact ab_lt.2 ⟨U_pos s, by have := U_pos s; grind⟩
 | cons x r ih =>
   obtain ⟨hp, h0⟩ := h
   rw [List.pairwise_cons] at hp
   have hr := ih ⟨hp.2, fun y hy => h0 y (by simp [hy])⟩ (fun y hy => hb y (by simp [hy]))
   rw [List.sum_cons]
   by_cases e : r = []
   · subst e
     rw [List.sum_nil, Rat.add_zero]
     exact hb x (by simp)
   · obtain ⟨t, a, m⟩ := lo_list hp.1 e
     have ht : t ≤ s := by
       obtain ⟨y, hy⟩ := List.exists_mem_of_ne_nil r e
       have h1 := (m y hy).ge (U_pos t) (h0 y (by simp [hy]))
       have h2 := hb y (by simp [hy])
       have h3 : U t ≤ U s := by grind
       exact U_le_iff.1 h3
     have := (M.sum m).room ht hr
     have := ab_add x r.sum
     grind
theorem F.mult {g : Rat} {K : Nat} (hg : F g) (h : U K ≤ ab g) : M (U (K - 52)) g := by
 obtain ⟨S, m, rfl, h1, h2⟩ := hg
 have hu := U_pos S
 have hb := F.abs (z := (m : Rat) * U S) rfl h1 h2
 have hK : U K ≤ U (S + 53) := by
   rw [U_add]
   have e : ((2 ^ 53 : Nat) : Rat) = 9007199254740992 := by decide +kernel
   rw [e]
   have := ab_le.2 hb
   grind
 have hK := U_le_iff.1 hK
 by_cases e : K ≤ S + 52
 · exact M.down (by omega) ⟨m, rfl⟩
 · obtain rfl : K = S + 53 := by omega
   have hm : m = 9007199254740992 ∨ m = -9007199254740992 := by
     rw [U_add] at h
     have e : ((2 ^ 53 : Nat) : Rat) = ((9007199254740992 : Int) : Rat) := by decide +kernel
     rw [e] at h
     rcases le_ab.1 h with h | h
     · left; have := cast_le hu h; omega
     · right
       have h : ((9007199254740992 : Int) : Rat) * U S ≤ ((-m : Int) : Rat) * U S := by rw [Rat.intCast_neg]; grind
       have := cast_le hu h; omega
   rw [show S + 53 - 52 = S + 1 by omega]
   have eu := U_succ S
   rcases hm with rfl | rfl
   · exact ⟨4503599627370496, by rw [eu, show ((9007199254740992 : Int) : Rat) = 9007199254740992 from rfl, show ((4503599627370496 : Int) : Rat) = 4503599627370496 from rfl]; grind⟩
   · exact ⟨-4503599627370496, by rw [eu, show ((-9007199254740992 : Int) : Rat) = -9007199254740992 from rfl, show ((-4503599627370496 : Int) : Rat) = -4503599627370496 from rfl]; grind⟩
theorem F.mult0 {g : Rat} (hg : F g) : M (U 0) g := by
 obtain ⟨S, m, rfl, _, _⟩ := hg
 exact M.down (Nat.zero_le _) ⟨m, rfl⟩
theorem binade {u : Nat} {g : Rat} (hg : M (U u) g) (h0 : g ≠ 0) : ∃ K, u ≤ K ∧ U K ≤ ab g ∧ ab g < U (K + 1) := by
 obtain ⟨m, rfl⟩ := hg
 have hu := U_pos u
 have hm : m.natAbs ≠ 0 := by
   intro e
   have : m = 0 := by omega
   subst this
   exact h0 (by rw [show ((0 : Int) : Rat) = 0 from rfl]; grind)
 have e : ab ((m : Rat) * U u) = ((m.natAbs : Int) : Rat) * U u := by
   rcases Int.lt_or_le m 0 with h | h
   · rw [show ((m.natAbs : Nat) : Int) = -m by omega, Rat.intCast_neg]
     have h2 : (m : Rat) * U u < 0 := by
       have := Rat.mul_lt_mul_of_pos_right (Rat.intCast_lt_intCast.2 h) hu
       rw [show ((0 : Int) : Rat) = 0 from rfl] at this; grind
     unfold ab; rw [if_pos h2]; grind
   · rw [show ((m.natAbs : Nat) : Int) = m by omega]
     have h2 : 0 ≤ (m : Rat) * U u := by
       have := Rat.mul_le_mul_of_nonneg_right (Rat.intCast_le_intCast.2 h) (Rat.le_of_lt hu)
       rw [show ((0 : Int) : Rat) = 0 from rfl] at this; grind
     unfold ab; rw [if_neg (by grind)]
 refine ⟨u + Nat.log2 m.natAbs, by omega, ?_, ?_⟩
 · rw [e, U_add]
   have h1 : 2 ^ Nat.log2 m.natAbs ≤ m.natAbs := Nat.log2_self_le hm
   exact Rat.mul_le_mul_of_nonneg_right (Rat.intCast_le_intCast.2 (by omega : (((2 ^ Nat.log2 m.natAbs : Nat) : Int)) ≤ (m.natAbs : Int))) (Rat.le_of_lt hu)
 · rw [e, Nat.add_assoc, U_add]
   have h1 : m.natAbs < 2 ^ (Nat.log2 m.natAbs + 1) := Nat.lt_log2_self
   exact Rat.mul_lt_mul_of_pos_right (Rat.intCast_lt_intCast.2 (by omega : (m.natAbs : Int) < (((2 ^ (Nat.log2 m.natAbs + 1) : Nat) : Int)))) hu
end

/- A float's halves, and two floats multiplied (Veltkamp, Dekker), in plain numbers. -/
section
end

/- Two floats multiplied: what is rounded off is told exactly (Dekker), in plain numbers. -/
section
theorem RN.neg {q x : Rat} (h : RN q x) : RN (-q) (-x) := by obtain ⟨T, k, R⟩ := h; exact ⟨T, _, R.neg⟩
end
end Go.Proofs.YtkgnlobakicnjaaDoor
