/- Own texts, put together: Eu Ev Xa Wi. -/
import Derived.Test.YtejhinjanjlplaaDoorQ5
import Derived.Test.YtejhinjanjlplaaDoorQ12
import Derived.Test.YtejhinjanjlplaaDoorQ14
namespace Go.Proofs.YtejhinjanjlplaaDoor
/- A float's halves, and two floats multiplied (Veltkamp, Dekker), in plain numbers. -/
section
end

/- Two floats multiplied: what is rounded off is told exactly (Dekker), in plain numbers. -/
section
theorem RN.neg {q x : Rat} (h : RN q x) : RN (-q) (-x) := by obtain ⟨T, k, R⟩ := h; exact ⟨T, _, R.neg⟩
end

/- Lists of floats that rise and do not overlap: plain facts. -/
section
def ab (x : Rat) : Rat := if x < 0 then -x else x
theorem ab_le {x c : Rat} : ab x ≤ c ↔ x ≤ c ∧ -x ≤ c := by unfold ab; split <;> grind
theorem ab_lt {x c : Rat} : ab x < c ↔ x < c ∧ -x < c := by unfold ab; split <;> grind
theorem le_ab {x c : Rat} : c ≤ ab x ↔ c ≤ x ∨ c ≤ -x := by unfold ab; split <;> grind
theorem ab_self (x : Rat) : x ≤ ab x ∧ -x ≤ ab x := ab_le.1 Rat.le_refl
theorem ab_nonneg (x : Rat) : 0 ≤ ab x := by unfold ab; split <;> grind
theorem ab_neg (x : Rat) : ab (-x) = ab x := by unfold ab; split <;> split <;> grind
theorem ab_add (x y : Rat) : ab (x + y) ≤ ab x + ab y := by
 have := ab_self x
 have := ab_self y
 rw [ab_le]; constructor <;> grind
theorem ab_pos {x : Rat} (h : x ≠ 0) : 0 < ab x := by unfold ab; split <;> grind
theorem U_le_iff {S T : Nat} : U S ≤ U T ↔ S ≤ T := by unfold U; rw [p2_le_iff]; omega
theorem U_lt_iff {S T : Nat} : U S < U T ↔ S < T := by unfold U; rw [p2_lt_iff]; omega
theorem two_rat (j : Nat) : (((2 ^ j : Nat) : Int) : Rat) = ((2 ^ j : Nat) : Rat) := rfl
theorem M.ge {u x : Rat} (hu : 0 < u) (h : M u x) (h0 : x ≠ 0) : u ≤ ab x := by
 obtain ⟨k, rfl⟩ := h
 have hk : k ≠ 0 := by intro e; subst e; exact h0 (by rw [show ((0 : Int) : Rat) = 0 from rfl]; grind)
 rw [le_ab]
 rcases Int.lt_or_le 0 k with h | h
 · left
   have := Rat.mul_le_mul_of_nonneg_right (Rat.intCast_le_intCast.2 (show (1 : Int) ≤ k by omega)) (Rat.le_of_lt hu)
   rw [one_rat] at this; grind
 · right
   have := Rat.mul_le_mul_of_nonneg_right (Rat.intCast_le_intCast.2 (show (1 : Int) ≤ -k by omega)) (Rat.le_of_lt hu)
   rw [one_rat, Rat.intCast_neg] at this; grind
theorem M.room1 {s t : Nat} {z : Rat} (h : M (U t) z) (hst : t ≤ s) (hz : z < U s) : z ≤ U s - U t := by
 obtain ⟨k, rfl⟩ := h
 obtain ⟨j, rfl⟩ : ∃ j, s = t + j := ⟨s - t, by omega⟩
 rw [U_add] at hz ⊢
 have hu := U_pos t
 have h1 : (k : Rat) * U t < (((2 ^ j : Nat) : Int) : Rat) * U t := hz
 have h2 := cast_lt hu h1
 have h3 : k ≤ ((2 ^ j : Nat) : Int) - 1 := by omega
 have h4 := Rat.mul_le_mul_of_nonneg_right (Rat.intCast_le_intCast.2 h3) (Rat.le_of_lt hu)
 rw [Rat.intCast_sub, one_rat, two_rat] at h4
 grind
theorem M.room {s t : Nat} {z : Rat} (h : M (U t) z) (hst : t ≤ s) (hz : ab z < U s) : ab z ≤ U s - U t := by
 have := ab_lt.1 hz
 exact ab_le.2 ⟨h.room1 hst this.1, h.neg.room1 hst this.2⟩
def Lo (h x : Rat) : Prop := ∃ t, ab h < U t ∧ M (U t) x
theorem Lo.common {h x y : Rat} (h1 : Lo h x) (h2 : Lo h y) : ∃ t, ab h < U t ∧ M (U t) x ∧ M (U t) y := by
 obtain ⟨s, a, b⟩ := h1
 obtain ⟨t, c, d⟩ := h2
 rcases Nat.le_total s t with e | e
 · exact ⟨s, a, b, d.down e⟩
 · exact ⟨t, c, b.down e, d⟩
theorem Lo.add {h x y : Rat} (h1 : Lo h x) (h2 : Lo h y) : Lo h (x + y) := by
 obtain ⟨t, a, b, c⟩ := h1.common h2
 exact ⟨t, a, b.add c⟩
theorem Lo.neg {h x : Rat} (h1 : Lo h x) : Lo h (-x) := by
 obtain ⟨t, a, b⟩ := h1
 exact ⟨t, a, b.neg⟩
theorem Lo.sub {h x y : Rat} (h1 : Lo h x) (h2 : Lo h y) : Lo h (x - y) := by
 obtain ⟨t, a, b, c⟩ := h1.common h2
 exact ⟨t, a, b.sub c⟩
theorem M.rnd {q x : Rat} {T t : Nat} {k : Int} (h : M (U t) q) (R : Rnd q x T k) : M (U t) x := by
 rcases Nat.le_total T t with e | e
 · rw [R.mult (h.down e)]; exact h
 · exact R.m.down e
theorem Lo.rnd {h q x : Rat} {T : Nat} {k : Int} (h1 : Lo h q) (R : Rnd q x T k) : Lo h x := by
 obtain ⟨t, a, b⟩ := h1
 exact ⟨t, a, b.rnd R⟩
theorem Lo.lt {h x : Rat} (h1 : Lo h x) (h0 : x ≠ 0) : ab h < ab x := by
 obtain ⟨t, a, b⟩ := h1
 have := b.ge (U_pos t) h0
 grind
theorem Lo.trans {h x y : Rat} (h1 : Lo h x) (h0 : x ≠ 0) (h2 : Lo x y) : Lo h y := by
 have a := h1.lt h0
 obtain ⟨t, b, c⟩ := h2
 exact ⟨t, by grind, c⟩
def Ex (l : List Rat) : Prop := l.Pairwise Lo ∧ ∀ x ∈ l, x ≠ 0
theorem lo_list {x : Rat} {r : List Rat} (h : ∀ y ∈ r, Lo x y) (hne : r ≠ []) : ∃ t, ab x < U t ∧ ∀ y ∈ r, M (U t) y := by
 induction r with
 | nil => exact absurd rfl hne
 | cons y r ih =>
   obtain ⟨s, a, b⟩ := h y (by simp)
   by_cases e : r = []
   · subst e
     exact ⟨s, a, fun z hz => by simp at hz; rw [hz]; exact b⟩
   · obtain ⟨t, c, d⟩ := ih (fun z hz => h z (by simp [hz])) e
     rcases Nat.le_total s t with e | e
     · exact ⟨s, a, fun z hz => by
         rcases List.mem_cons.1 hz with rfl | hz
         · exact b
         · exact (d z hz).down e⟩
     · exact ⟨t, c, fun z hz => by
         rcases List.mem_cons.1 hz with rfl | hz
         · exact b.down e
         · exact d z hz⟩
theorem M_zero (u : Rat) : M u 0 := ⟨0, by rw [show ((0 : Int) : Rat) = 0 from rfl]; grind⟩
theorem M.sum {u : Rat} {l : List Rat} (h : ∀ y ∈ l, M u y) : M u l.sum := by
 induction l with
 | nil => exact M_zero u
 | cons y r ih => rw [List.sum_cons]; exact (h y (by simp)).add (ih (fun z hz => h z (by simp [hz])))
theorem Ex.bound {l : List Rat} {s : Nat} (h : Ex l) (hb : ∀ x ∈ l, ab x < U s) : ab l.sum < U s := by
 induction l with
 | nil => rw [List.sum_nil]; exact ab_lt.2 ⟨U_pos s, by have := U_pos s; grind⟩
 | cons x r ih =>
   obtain ⟨hp, h0⟩ := h
   rw [List.pairwise_cons] at hp
   have hr := ih ⟨hp.2, fun y hy => h0 y (by simp [hy])⟩ (fun y hy => hb y (by simp [hy]))
   rw [List.sum_cons]
   by_cases e : r = []
   · subst e
     rw [List.sum_nil, Rat.add_zero]
     exact hb x (by simp)
   · obtain ⟨t, a, m⟩ := lo_list hp.1 e
     have ht : t ≤ s := by
       obtain ⟨y, hy⟩ := List.exists_mem_of_ne_nil r e
       have h1 := (m y hy).ge (U_pos t) (h0 y (by simp [hy]))
       have h2 := hb y (by simp [hy])
       have h3 : U t ≤ U s := by grind
       exact U_le_iff.1 h3
     have := (M.sum m).room ht hr
     have := ab_add x r.sum
     grind
theorem F.mult {g : Rat} {K : Nat} (hg : F g) (h : U K ≤ ab g) : M (U (K - 52)) g := by
 obtain ⟨S, m, rfl, h1, h2⟩ := hg
 have hu := U_pos S
 have hb := F.abs (z := (m : Rat) * U S) rfl h1 h2
 have hK : U K ≤ U (S + 53) := by
   rw [U_add]
   have e : ((2 ^ 53 : Nat) : Rat) = 9007199254740992 := by decide +kernel
   rw [e]
   have := ab_le.2 hb
   grind
 have hK := U_le_iff.1 hK
 by_cases e : K ≤ S + 52
 · exact M.down (by omega) ⟨m, rfl⟩
 · obtain rfl : K = S + 53 := by omega
   have hm : m = 9007199254740992 ∨ m = -9007199254740992 := by
     rw [U_add] at h
     have e : ((2 ^ 53 : Nat) : Rat) = ((9007199254740992 : Int) : Rat) := by decide +kernel
     rw [e] at h
     rcases le_ab.1 h with h | h
     · left; have := cast_le hu h; omega
     · right
       have h : ((9007199254740992 : Int) : Rat) * U S ≤ ((-m : Int) : Rat) * U S := by rw [Rat.intCast_neg]; grind
       have := cast_le hu h; omega
   rw [show S + 53 - 52 = S + 1 by omega]
   have eu := U_succ S
   rcases hm with rfl | rfl
   · exact ⟨4503599627370496, by rw [eu, show ((9007199254740992 : Int) : Rat) = 9007199254740992 from rfl, show ((4503599627370496 : Int) : Rat) = 4503599627370496 from rfl]; grind⟩
   · exact ⟨-4503599627370496, by rw [eu, show ((-9007199254740992 : Int) : Rat) = -9007199254740992 from rfl, show ((-4503599627370496 : Int) : Rat) = -4503599627370496 from rfl]; grind⟩
theorem F.mult0 {g : Rat} (hg : F g) : M (U 0) g := by
 obtain ⟨S, m, rfl, _, _⟩ := hg
 exact M.down (Nat.zero_le _) ⟨m, rfl⟩
theorem binade {u : Nat} {g : Rat} (hg : M (U u) g) (h0 : g ≠ 0) : ∃ K, u ≤ K ∧ U K ≤ ab g ∧ ab g < U (K + 1) := by
 obtain ⟨m, rfl⟩ := hg
 have hu := U_pos u
 have hm : m.natAbs ≠ 0 := by
   intro e
   have : m = 0 := by omega
   subst this
   exact h0 (by rw [show ((0 : Int) : Rat) = 0 from rfl]; grind)
 have e : ab ((m : Rat) * U u) = ((m.natAbs : Int) : Rat) * U u := by
   rcases Int.lt_or_le m 0 with h | h
   · rw [show ((m.natAbs : Nat) : Int) = -m by omega, Rat.intCast_neg]
     have h2 : (m : Rat) * U u < 0 := by
       have := Rat.mul_lt_mul_of_pos_right (Rat.intCast_lt_intCast.2 h) hu
       rw [show ((0 : Int) : Rat) = 0 from rfl] at this; grind
     unfold ab; rw [if_pos h2]; grind
   · rw [show ((m.natAbs : Nat) : Int) = m by omega]
     have h2 : 0 ≤ (m : Rat) * U u := by
       have := Rat.mul_le_mul_of_nonneg_right (Rat.intCast_le_intCast.2 h) (Rat.le_of_lt hu)
       rw [show ((0 : Int) : Rat) = 0 from rfl] at this; grind
     unfold ab; rw [if_neg (by grind)]
 refine ⟨u + Nat.log2 m.natAbs, by omega, ?_, ?_⟩
 · rw [e, U_add]
   have h1 : 2 ^ Nat.log2 m.natAbs ≤ m.natAbs := Nat.log2_self_le hm
   exact Rat.mul_le_mul_of_nonneg_right (Rat.intCast_le_intCast.2 (by omega : (((2 ^ Nat.log2 m.natAbs : Nat) : Int)) ≤ (m.natAbs : Int))) (Rat.le_of_lt hu)
 · rw [e, Nat.add_assoc, U_add]
   have h1 : m.natAbs < 2 ^ (Nat.log2 m.natAbs + 1) := Nat.lt_log2_self
   exact Rat.mul_lt_mul_of_pos_right (Rat.intCast_lt_intCast.2 (by omega : (m.natAbs : Int) < (((2 ^ (Nat.log2 m.natAbs + 1) : Nat) : Int)))) hu
end

/- The walk of joined: two magnitudes added, or the one taken off the other. -/
section
open Go.RowKit
attribute [local go_sem ↓] Go.wp_at_zero Go.wp_at_succ
theorem keep4 {w W W' : World} {p1 p2 p3 p4 : Addr} {x1 x2 x3 x4 : Value} (h : W.cell? p1 = some x1 ∧ W.cell? p2 = some x2 ∧ W.cell? p3 = some x3 ∧ W.cell? p4 = some x4 ∧ Below w.heap.size w W) (hb : Below W.heap.size W W') :
   W'.cell? p1 = some x1 ∧ W'.cell? p2 = some x2 ∧ W'.cell? p3 = some x3 ∧ W'.cell? p4 = some x4 ∧ Below w.heap.size w W' :=
 ⟨cell_later hb h.1, cell_later hb h.2.1, cell_later hb h.2.2.1, cell_later hb h.2.2.2.1, h.2.2.2.2.trans (hb.mono h.2.2.2.2.size)⟩
theorem keep4d {w W : World} {p1 p2 p3 p4 : Addr} {x1 x2 x3 x4 : Value} (h : W.cell? p1 = some x1 ∧ W.cell? p2 = some x2 ∧ W.cell? p3 = some x3 ∧ W.cell? p4 = some x4 ∧ Below w.heap.size w W) :
   W.drew.cell? p1 = some x1 ∧ W.drew.cell? p2 = some x2 ∧ W.drew.cell? p3 = some x3 ∧ W.drew.cell? p4 = some x4 ∧ Below w.heap.size w W.drew :=
 ⟨h.1, h.2.1, h.2.2.1, h.2.2.2.1, h.2.2.2.2.drew⟩
theorem thru {w W0 W : World} (h : Below w.heap.size w W0) (h' : Below W0.heap.size W0 W) : Below w.heap.size w W := h.trans (h'.mono h.size)
theorem keep4g {w W W' : World} {g : Nat} {p1 p2 p3 p4 : Addr} {x1 x2 x3 x4 : Value} (h : W.cell? p1 = some x1 ∧ W.cell? p2 = some x2 ∧ W.cell? p3 = some x3 ∧ W.cell? p4 = some x4 ∧ Below w.heap.size w W) (hg : W.grownBy W' (some g))
   (q1 : p1.block < g) (q2 : p2.block < g) (q3 : p3.block < g) (q4 : p4.block < g) (q : w.heap.size ≤ g) :
   W'.cell? p1 = some x1 ∧ W'.cell? p2 = some x2 ∧ W'.cell? p3 = some x3 ∧ W'.cell? p4 = some x4 ∧ Below w.heap.size w W' :=
 ⟨hg.cell h.1 (by simp; omega), hg.cell h.2.1 (by simp; omega), hg.cell h.2.2.1 (by simp; omega), hg.cell h.2.2.2.1 (by simp; omega), h.2.2.2.2.grown hg h.2.2.2.2.size (fun k hk => by simp at hk; omega)⟩
theorem bringX {fid : Nat} {f : Nat → Nat → Nat} {pre : Nat → Nat → Nat → Prop} (hop : BringOK fid f pre) {A C n1 n2 g g2 : Nat} {w : World} (hgg : g2 ≠ g) (h2 : Row w 45 g2 (wds (digs C (n2 + 1)))) (h1 : Row w 45 g (wds (digs A (n1 + 1)))) (hn : n1 ≤ 10000) (hn2 : n2 ≤ n1)
   (hp : pre A C (n1 + 1)) (hA : A < 2 ^ (64 * (n1 + 1))) (hC : C < 2 ^ (64 * (n2 + 1))) :
   Calls Tryd.prog 64 #[.slice (some ⟨g2, 0, none⟩) (n2 + 1) (n2 + 1), .slice (some ⟨g, 0, none⟩) (n1 + 1) (n1 + 1), .func (.func fid) #[] #[]] w fun e w' => e = .returned (.tuple #[]) ∧
     ∃ zs : List Nat, Small zs ∧ zs.length = n1 + 1 ∧ val zs = f A C ∧ Row w' 45 g (wds zs) ∧ w.grownBy w' (some g) := by
 have h := hop (digs C (n2 + 1)) (digs A (n1 + 1)) g g2 w hgg h2 (digs_small _ _) (digs_small _ _) h1 (by rw [digs_length]; omega) (by rw [digs_length, digs_length]; omega) (by rw [val_digs_of hA, val_digs_of hC, digs_length]; exact hp)
 rw [digs_length, digs_length, val_digs_of hA, val_digs_of hC] at h
 exact h
theorem sz4 {w W : World} {p1 p2 p3 p4 : Addr} {x1 x2 x3 x4 : Value} (h : W.cell? p1 = some x1 ∧ W.cell? p2 = some x2 ∧ W.cell? p3 = some x3 ∧ W.cell? p4 = some x4 ∧ Below w.heap.size w W) : w.heap.size ≤ W.heap.size := h.2.2.2.2.size
set_option maxHeartbeats 2000000 in
theorem joined_walk (fid : Nat) (f : Nat → Nat → Nat) (pre : Nat → Nat → Nat → Prop) (hop : BringOK fid f pre) (a1 a2 : Option Addr) (c1 c2 : Nat) (ns1 ns2 : List Nat) (low1 low2 L : Int) (k1 k2 n1 n2 r1 r2 : Nat) (w : World)
   (h1 : Ws w (.slice a1 ns1.length c1) ns1) (h2 : Ws w (.slice a2 ns2.length c2) ns2) (hT : Tab w) (o1 : OwnF ns1 low1) (o2 : OwnF ns2 low2)
   (hL : min low1 low2 = L) (hk1 : low1 = L + (k1 : Nat)) (hk2 : low2 = L + (k2 : Nat)) (b1 : -70000 ≤ L) (b2 : low1 ≤ 70000) (b3 : low2 ≤ 70000)
   (hH : max (hiB ns1 low1) (hiB ns2 low2) + 1 = L + (64 * n1 + r1 : Nat)) (hH2 : hiB ns2 low2 = L + (64 * n2 + r2 : Nat)) (hr1 : r1 < 64) (hr2 : r2 < 64) (hn1 : n1 ≤ 10000) (hn2 : n2 ≤ n1)
   (hpre : pre (val ns1 * 2 ^ k1) (val ns2 * 2 ^ k2) (n1 + 1)) (hv1 : val ns1 * 2 ^ k1 < 2 ^ (64 * (n1 + 1))) (hv2 : val ns2 * 2 ^ k2 < 2 ^ (64 * (n2 + 1))) :
   Calls Tryd.prog 58 #[.agg #[.slice a1 ns1.length c1, .int .i64 low1], .agg #[.slice a2 ns2.length c2, .int .i64 low2], .func (.func fid) #[] #[]] w fun e w' => Made w w' (f (val ns1 * 2 ^ k1) (val ns2 * 2 ^ k2)) L e := by
 have HOP : Hid (BringOK fid f pre) := hop
 have HH : Hid _ := hH
 have HH2 : Hid _ := hH2
 have HK1 : Hid _ := hk1
 have HK2 : Hid _ := hk2
 have HV1 : Hid _ := hv1
 have HV2 : Hid _ := hv2
 have HPRE : Hid _ := hpre
 have HT : Hid (Tab w) := hT
 have HS1 : Hid (spanL ns1 low1 L (n1 + 1) = digs (val ns1 * 2 ^ k1) (n1 + 1)) := by rw [hk1]; exact spanL_down _ _ _ _
 have HS2 : Hid (spanL ns2 low2 L (n2 + 1) = digs (val ns2 * 2 ^ k2) (n2 + 1)) := by rw [hk2]; exact spanL_down _ _ _ _
 have lo1 : -70000 ≤ low1 := by omega
 have lo2 : -70000 ≤ low2 := by omega
 have hLle : L ≤ 70000 := by omega
 have hmx : IntKind.i64.wrap (max (hiB ns1 low1) (hiB ns2 low2) + 1) = L + (64 * n1 + r1 : Nat) := by rw [hH]; exact wrapI _ (by omega) (by omega)
 have HB0 : Hid (Below w.heap.size w (((w.alloc (.cells #[.slice a1 ns1.length c1, .int .i64 low1] 25)).alloc (.cells #[.slice a2 ns2.length c2, .int .i64 low2] 25)).alloc (.cells #[.slice none 0 0, .int .i64 0] 25))) := (((Below.refl _ _).alloc (Nat.le_refl _) _).alloc (by simp) _).alloc (by simp; omega) _
 clear hop hk1 hk2 hv1 hv2 hpre hH hH2 hT
 go_enter Tryd.func58, Tryd.ntmps58
 go_wp2
 go_region_held3 (fun W => W.cell? ⟨w.heap.size, 0, none⟩ = some (.slice a1 ns1.length c1) ∧ W.cell? ⟨w.heap.size, 1, none⟩ = some (.int .i64 low1) ∧ W.cell? ⟨w.heap.size + 1, 0, none⟩ = some (.slice a2 ns2.length c2) ∧ W.cell? ⟨w.heap.size + 1, 1, none⟩ = some (.int .i64 low2) ∧ Below (((w.alloc (.cells #[.slice a1 ns1.length c1, .int .i64 low1] 25)).alloc (.cells #[.slice a2 ns2.length c2, .int .i64 low2] 25)).alloc (.cells #[.slice none 0 0, .int .i64 0] 25)).heap.size (((w.alloc (.cells #[.slice a1 ns1.length c1, .int .i64 low1] 25)).alloc (.cells #[.slice a2 ns2.length c2, .int .i64 low2] 25)).alloc (.cells #[.slice none 0 0, .int .i64 0] 25)) W)
   (first
     | assumption
     | exact ⟨by go_simp, by go_simp, by go_simp, by go_simp, (Below.refl _ _).drew⟩
     | exact keep4 (by assumption) (by assumption))
   (first
     | (go_at_call 42; refine (lowest_any _ _ _ _ _).mono ?_; rintro e wx ⟨rfl, hbx⟩))
 go_wp2
 go_region_held3 (fun W => W.cell? ⟨w.heap.size, 0, none⟩ = some (.slice a1 ns1.length c1) ∧ W.cell? ⟨w.heap.size, 1, none⟩ = some (.int .i64 low1) ∧ W.cell? ⟨w.heap.size + 1, 0, none⟩ = some (.slice a2 ns2.length c2) ∧ W.cell? ⟨w.heap.size + 1, 1, none⟩ = some (.int .i64 low2) ∧ Below (((w.alloc (.cells #[.slice a1 ns1.length c1, .int .i64 low1] 25)).alloc (.cells #[.slice a2 ns2.length c2, .int .i64 low2] 25)).alloc (.cells #[.slice none 0 0, .int .i64 0] 25)).heap.size (((w.alloc (.cells #[.slice a1 ns1.length c1, .int .i64 low1] 25)).alloc (.cells #[.slice a2 ns2.length c2, .int .i64 low2] 25)).alloc (.cells #[.slice none 0 0, .int .i64 0] 25)) W)
   (first
     | assumption
     | exact keep4d (by assumption)
     | exact keep4 (by assumption) (by assumption))
   (first
     | (go_at_call_of 41 low1; refine (highest_any _ ns1 _ _ ?_ (own_topped o1) (by omega) (by omega)).mono ?_; exact h1.later (thru HB0.out ((by assumption : _ ∧ _ ∧ _ ∧ _ ∧ _).2.2.2.2)) (Nat.le_refl _); rintro e wx ⟨rfl, hbx⟩)
     | (go_at_call_of 41 low2; refine (highest_any _ ns2 _ _ ?_ (own_topped o2) (by omega) (by omega)).mono ?_; exact h2.later (thru HB0.out ((by assumption : _ ∧ _ ∧ _ ∧ _ ∧ _).2.2.2.2)) (Nat.le_refl _); rintro e wx ⟨rfl, hbx⟩)
     | (go_at_call 45; refine (span_any _ ns1 _ _ n1 r1 _ ?_ (by omega) (by omega) (by omega) (by omega) (by omega) hr1).mono ?_; exact h1.later (thru HB0.out ((by assumption : _ ∧ _ ∧ _ ∧ _ ∧ _).2.2.2.2)) (Nat.le_refl _); rw [HS1.out]; rintro e wx ⟨g, hg, rfl, hrow, hbx⟩; have hgW := Nat.le_trans (sz4 (by assumption)) hg))
 have hgN : w.heap.size + 3 ≤ g := by simpa using hgW
 clear hgW hbx
 have hh2 : hiB ns2 low2 = L + (64 * n2 + r2 : Nat) := HH2.out
 go_wp2
 go_region_held3 (fun W => W.cell? ⟨w.heap.size, 0, none⟩ = some (.slice a1 ns1.length c1) ∧ W.cell? ⟨w.heap.size, 1, none⟩ = some (.int .i64 low1) ∧ W.cell? ⟨w.heap.size + 1, 0, none⟩ = some (.slice a2 ns2.length c2) ∧ W.cell? ⟨w.heap.size + 1, 1, none⟩ = some (.int .i64 low2) ∧ Below (((w.alloc (.cells #[.slice a1 ns1.length c1, .int .i64 low1] 25)).alloc (.cells #[.slice a2 ns2.length c2, .int .i64 low2] 25)).alloc (.cells #[.slice none 0 0, .int .i64 0] 25)).heap.size (((w.alloc (.cells #[.slice a1 ns1.length c1, .int .i64 low1] 25)).alloc (.cells #[.slice a2 ns2.length c2, .int .i64 low2] 25)).alloc (.cells #[.slice none 0 0, .int .i64 0] 25)) W)
   (first
     | assumption
     | exact keep4d (by assumption)
     | exact keep4 (by assumption) (by assumption)
     | exact keep4g (by assumption) (by assumption) (by simp; omega) (by simp; omega) (by simp; omega) (by simp; omega) (by simp; omega))
   (first
     | (go_at_call 41; refine (highest_any _ ns2 _ _ ?_ (own_topped o2) (by omega) (by omega)).mono ?_; exact h2.later (thru HB0.out ((by assumption : _ ∧ _ ∧ _ ∧ _ ∧ _).2.2.2.2)) (Nat.le_refl _); rw [hh2]; rintro e wy ⟨rfl, hby⟩)
     | (go_at_call 45; refine (span_any _ ns2 _ _ n2 r2 _ ?_ (by omega) (by omega) (by omega) (by omega) (by omega) hr2).mono ?_; exact h2.later (thru HB0.out ((by assumption : _ ∧ _ ∧ _ ∧ _ ∧ _).2.2.2.2)) (Nat.le_refl _); rw [HS2.out]; rintro e wz ⟨g2, hg2, rfl, hrow2, hbz⟩; have hrow1 := (hrow.drew.below hby hrow.lt).below hbz (Nat.lt_of_lt_of_le hrow.lt hby.size); have hgg : g2 ≠ g := (by have := hrow.lt; have := hby.size; simp at this; omega))
     | (go_at_call 64; refine (bringX HOP.out hgg hrow2 hrow1 (by omega) (by omega) HPRE.out HV1.out HV2.out).mono ?_; rintro e wb ⟨rfl, zs, hzs, hzl, hzv, hzr, hgr⟩))
 have hWB : Below (((w.alloc (.cells #[.slice a1 ns1.length c1, .int .i64 low1] 25)).alloc (.cells #[.slice a2 ns2.length c2, .int .i64 low2] 25)).alloc (.cells #[.slice none 0 0, .int .i64 0] 25)).heap.size (((w.alloc (.cells #[.slice a1 ns1.length c1, .int .i64 low1] 25)).alloc (.cells #[.slice a2 ns2.length c2, .int .i64 low2] 25)).alloc (.cells #[.slice none 0 0, .int .i64 0] 25)) wb := (by assumption : _ ∧ _ ∧ _ ∧ _ ∧ Below (((w.alloc (.cells #[.slice a1 ns1.length c1, .int .i64 low1] 25)).alloc (.cells #[.slice a2 ns2.length c2, .int .i64 low2] 25)).alloc (.cells #[.slice none 0 0, .int .i64 0] 25)).heap.size (((w.alloc (.cells #[.slice a1 ns1.length c1, .int .i64 low1] 25)).alloc (.cells #[.slice a2 ns2.length c2, .int .i64 low2] 25)).alloc (.cells #[.slice none 0 0, .int .i64 0] 25)) wb).2.2.2.2
 have hBw : Below w.heap.size w wb := thru HB0.out hWB
 have hWz : Ws wb (.slice (some ⟨g, 0, none⟩) (n1 + 1) (n1 + 1)) zs := by
   have := hzr.ws hzs (by omega) (n1 + 1) (by omega)
   rw [hzl] at this; exact this
 have hTb := HT.out.later hBw
 have q0 : wb.cell? ⟨w.heap.size + 1 + 1, 0, none⟩ = some (.slice none 0 0) := cell_later hWB (by go_simp)
 have q1 : wb.cell? ⟨w.heap.size + 1 + 1, 1, none⟩ = some (.int .i64 0) := cell_later hWB (by go_simp)
 have q2 : wb.frozen? ⟨w.heap.size + 1 + 1, 0, none⟩ = false := frozen_later hWB (by go_simp) (by simp)
 have q3 : wb.frozen? ⟨w.heap.size + 1 + 1, 1, none⟩ = false := frozen_later hWB (by go_simp) (by simp)
 have hsz : w.heap.size + 1 + 1 < wb.heap.size := by have := hWB.size; simp at this; omega
 have HZ : Hid _ := hzv
 clear hgr hzr hzs hrow hrow1 hrow2 hbz hby hzv hWB hh2 hmx
 go_wp2_with fail
 refine (own_any _ zs L _ hWz hTb (by omega) (by omega)).mono ?_
 rintro e w5 ⟨s5, ns5, low5, rfl, hws5, ho5, ht5, hlo5, hb5⟩
 obtain ⟨a5, c5, rfl, hc5, hx5⟩ := hws5.shape
 have p0 := cell_later hb5 q0
 have p1 := cell_later hb5 q1
 have p2 := frozen_later hb5 q2 hsz
 have p3 := frozen_later hb5 q3 hsz
 have HX5 : Hid _ := hx5
 have HLO5 : Hid (-200000000 ≤ low5 ∧ low5 ≤ 200000000) := hlo5
 clear hx5 q0 q1 q2 q3 hlo5
 go_wp2
 refine bodyPost_ret (v := .agg #[.slice a5 ns5.length c5, .int .i64 low5]) (by simp [results, Tryd.results58, go_sem, p0, p1]) rfl ?_
 have hws6 := (hws5.set p0 (by intro n; simp) (.slice a5 ns5.length c5)).set (cell_ne p1 p0 (by simp) (.slice a5 ns5.length c5)) (by intro n; simp) (.int .i64 low5)
 refine ⟨_, ns5, low5, rfl, hws6, ho5, by rw [← HZ.out]; exact ht5, HLO5.out, ?_⟩
 exact ((thru hBw hb5).setCell (by simp; omega) _).setCell (by simp; omega) _
end
end Go.Proofs.YtejhinjanjlplaaDoor
