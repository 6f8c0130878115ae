/- Own texts, put together: Na Nb Nc Nd Ne Nf Ng. -/
import Derived.Test.YtfcgndgmbmkdgaaDoorQ1
import Derived.Test.YtfcgndgmbmkdgaaDoorQ3
/- Numbers in memory, and the walk of number: a magnitude and a sign become a number, or none. -/
namespace Go.Proofs.YtfcgndgmbmkdgaaDoor
open Go.RowKit
attribute [local go_sem ↓] Go.wp_at_zero Go.wp_at_succ

def sg (b : Bool) : Rat := if b then -1 else 1

/-- The value v is a Num that stands for x (none: none). -/
def IsNum (w : World) (v : Value) (x : Option Rat) : Prop :=
  ∃ a ns c low neg nn, v = .agg #[.slice a (List.length ns) c, .int .i64 low, .bool neg, .bool nn] ∧ Ws w (.slice a (List.length ns) c) ns ∧ OwnF ns low ∧ -65536 ≤ low ∧ hiB ns low ≤ 65536 ∧ (ns = [] → neg = false) ∧
    (nn = true → ns = [] ∧ x = none) ∧ (nn = false → x = some (sg neg * magR ns low))

theorem IsNum.later {w w' : World} {v : Value} {x : Option Rat} (h : IsNum w v x) (hb : Below w.heap.size w w') : IsNum w' v x := by
  obtain ⟨a, ns, c, low, neg, nn, h1, h2, h3⟩ := h
  exact ⟨a, ns, c, low, neg, nn, h1, h2.later hb (Nat.le_refl _), h3⟩

/-- What becomes of a number: itself, if it may be; else none. -/
def Norm (q : Rat) (x : Option Rat) : Prop := (May q ∧ x = some q) ∨ (¬ May q ∧ x = none)

/-- A call that hands back the number q, or none. -/
def NumR (w w' : World) (q : Rat) (e : Ending) : Prop := ∃ v x, e = .returned v ∧ IsNum w' v x ∧ Norm q x ∧ Below w.heap.size w w'

theorem isNum_none (w : World) : IsNum w (.agg #[.slice none 0 0, .int .i64 0, .bool false, .bool true]) none :=
  ⟨none, [], 0, 0, false, true, rfl, ⟨⟨_, _, rfl, Nat.le_refl _, Or.inl rfl⟩, fun n hn => by simp at hn, by simp⟩, Or.inl ⟨rfl, rfl⟩, by omega, by simp [hiB], fun _ => rfl, fun _ => ⟨rfl, rfl⟩, fun h => by cases h⟩

theorem may_sg {ns : List Nat} {low : Int} {b : Bool} : May (sg b * magR ns low) ↔ May (magR ns low) := by
  unfold sg
  cases b
  · simp
  · simp only [if_true]
    constructor
    · intro h; have := may_neg h; rwa [show -(-1 * magR ns low) = magR ns low by grind] at this
    · intro h; have := may_neg h; rwa [show -1 * magR ns low = -magR ns low by grind]

theorem magR_nil (low : Int) : magR [] low = 0 := by simp [magR, val]

set_option maxHeartbeats 2000000 in
theorem number_out (a : Option Addr) (c : Nat) (ns : List Nat) (low : Int) (neg : Bool) (w : World) (h : Ws w (.slice a ns.length c) ns) (o : OwnF ns low) (b1 : -200000000 ≤ low) (b2 : low ≤ 200000000) (hm : ¬ (hiB ns low ≤ 65536 ∧ -65536 ≤ low)) :
    Calls Tryd.prog 27 #[.agg #[.slice a ns.length c, .int .i64 low], .bool neg] w fun e w' => e = .returned (.agg #[.slice none 0 0, .int .i64 0, .bool false, .bool true]) ∧ Below w.heap.size w w' := by
  have HB0 : Hid (Below w.heap.size w ((w.alloc (.cells #[.slice a ns.length c, .int .i64 low] 33)).alloc (.cells #[.slice none 0 0, .int .i64 0, .bool false, .bool false] 35))) := ((Below.refl _ _).alloc (Nat.le_refl _) _).alloc (by simp) _
  have H : Hid (Ws w (.slice a ns.length c) ns) := h
  have HO : Hid _ := o
  clear h o
  go_enter Tryd.func27, Tryd.ntmps27
  go_wp2_with fail
  refine (highest_any _ ns _ _ (H.out.later HB0.out (Nat.le_refl _)) (own_topped HO.out) (by omega) (by omega)).mono ?_
  rintro e w1 ⟨rfl, hb1⟩
  have x0 : w1.cell? ⟨w.heap.size, 0, none⟩ = some (.slice a ns.length c) := cell_later hb1 (by go_simp)
  have x1 : w1.cell? ⟨w.heap.size, 1, none⟩ = some (.int .i64 low) := cell_later hb1 (by go_simp)
  have r0 : w1.cell? ⟨w.heap.size + 1, 0, none⟩ = some (.slice none 0 0) := cell_later hb1 (by go_simp)
  have r1 : w1.cell? ⟨w.heap.size + 1, 1, none⟩ = some (.int .i64 0) := cell_later hb1 (by go_simp)
  have r2 : w1.cell? ⟨w.heap.size + 1, 2, none⟩ = some (.bool false) := cell_later hb1 (by go_simp)
  have r3 : w1.cell? ⟨w.heap.size + 1, 3, none⟩ = some (.bool false) := cell_later hb1 (by go_simp)
  have f0 : ∀ i, w1.frozen? ⟨w.heap.size + 1, i, none⟩ = false := fun i => frozen_later hb1 (by go_simp) (by simp)
  have HB1 : Hid (Below w.heap.size w w1) := thru HB0.out hb1
  have hsz : w.heap.size + 1 < w1.heap.size := by have := hb1.size; simp at this; omega
  clear hb1 HB0
  generalize hiB ns low = hi at *
  by_cases hh : 65536 < hi
  · go_wp2
    refine bodyPost_ret (v := .agg #[.slice none 0 0, .int .i64 0, .bool false, .bool true]) (by simp [results, Tryd.results27, go_sem, r0, r1, r2, r3]) rfl ⟨rfl, ?_⟩
    repeat (first | exact HB1.out | refine Below.setCell ?_ (by simp) _)
  · have hlo : low < -65536 := by omega
    go_wp2_with fail
    refine (lowest_any _ _ _ _ _).mono ?_
    rintro e w2 ⟨rfl, hb2⟩
    have q0 := cell_later hb2 r0
    have q1 := cell_later hb2 r1
    have q2 := cell_later hb2 r2
    have q3 := cell_later hb2 r3
    have g0 : ∀ i, w2.frozen? ⟨w.heap.size + 1, i, none⟩ = false := fun i => frozen_later hb2 (f0 i) hsz
    have HB2 : Hid (Below w.heap.size w w2) := thru HB1.out hb2
    clear hb2 r0 r1 r2 r3 f0 HB1 x0 x1
    go_wp2
    refine bodyPost_ret (v := .agg #[.slice none 0 0, .int .i64 0, .bool false, .bool true]) (by simp [results, Tryd.results27, go_sem, q0, q1, q2, q3]) rfl ⟨rfl, ?_⟩
    repeat (first | exact HB2.out | refine Below.setCell ?_ (by simp) _)

set_option maxHeartbeats 2000000 in
theorem number_in (a : Option Addr) (c : Nat) (ns : List Nat) (low : Int) (neg : Bool) (w : World) (h : Ws w (.slice a ns.length c) ns) (o : OwnF ns low) (b1 : -65536 ≤ low) (b2 : low ≤ 200000000) (hm : hiB ns low ≤ 65536) :
    Calls Tryd.prog 27 #[.agg #[.slice a ns.length c, .int .i64 low], .bool neg] w fun e w' => e = .returned (.agg #[.slice a ns.length c, .int .i64 low, .bool (neg && !((ns.length : Int) == 0)), .bool false]) ∧ Ws w' (.slice a ns.length c) ns ∧ Below w.heap.size w w' := by
  have HB0 : Hid (Below w.heap.size w ((w.alloc (.cells #[.slice a ns.length c, .int .i64 low] 33)).alloc (.cells #[.slice none 0 0, .int .i64 0, .bool false, .bool false] 35))) := ((Below.refl _ _).alloc (Nat.le_refl _) _).alloc (by simp) _
  have H : Hid (Ws w (.slice a ns.length c) ns) := h
  have HO : Hid _ := o
  clear h o
  go_enter Tryd.func27, Tryd.ntmps27
  go_wp2_with fail
  refine (highest_any _ ns _ _ (H.out.later HB0.out (Nat.le_refl _)) (own_topped HO.out) (by omega) (by omega)).mono ?_
  rintro e w1 ⟨rfl, hb1⟩
  have x0 : w1.cell? ⟨w.heap.size, 0, none⟩ = some (.slice a ns.length c) := cell_later hb1 (by go_simp)
  have x1 : w1.cell? ⟨w.heap.size, 1, none⟩ = some (.int .i64 low) := cell_later hb1 (by go_simp)
  have r0 : w1.cell? ⟨w.heap.size + 1, 0, none⟩ = some (.slice none 0 0) := cell_later hb1 (by go_simp)
  have r1 : w1.cell? ⟨w.heap.size + 1, 1, none⟩ = some (.int .i64 0) := cell_later hb1 (by go_simp)
  have r2 : w1.cell? ⟨w.heap.size + 1, 2, none⟩ = some (.bool false) := cell_later hb1 (by go_simp)
  have r3 : w1.cell? ⟨w.heap.size + 1, 3, none⟩ = some (.bool false) := cell_later hb1 (by go_simp)
  have f0 : ∀ i, w1.frozen? ⟨w.heap.size + 1, i, none⟩ = false := fun i => frozen_later hb1 (by go_simp) (by simp)
  have HB1 : Hid (Below w.heap.size w w1) := thru HB0.out hb1
  have hsz : w.heap.size + 1 < w1.heap.size := by have := hb1.size; simp at this; omega
  clear hb1 HB0
  generalize hiB ns low = hi at *
  have hh : ¬ 65536 < hi := by omega
  have hlo : ¬ low < -65536 := by omega
  go_wp2_with fail
  refine (lowest_any _ _ _ _ _).mono ?_
  rintro e w2 ⟨rfl, hb2⟩
  have q0 := cell_later hb2 r0
  have q1 := cell_later hb2 r1
  have q2 := cell_later hb2 r2
  have q3 := cell_later hb2 r3
  have y0 := cell_later hb2 x0
  have y1 := cell_later hb2 x1
  have g0 : ∀ i, w2.frozen? ⟨w.heap.size + 1, i, none⟩ = false := fun i => frozen_later hb2 (f0 i) hsz
  have HB2 : Hid (Below w.heap.size w w2) := thru HB1.out hb2
  have hsz2 : w.heap.size + 1 < w2.heap.size := Nat.lt_of_lt_of_le hsz hb2.size
  clear hb2 r0 r1 r2 r3 f0 HB1 x0 x1 hsz
  cases neg with
  | false =>
    go_wp2
    go_region
    go_wp2
    refine bodyPost_ret (v := .agg #[.slice a ns.length c, .int .i64 low, .bool (false && !((ns.length : Int) == 0)), .bool false]) (by simp [results, Tryd.results27, go_sem, q0, q1, q2, q3]) rfl ?_
    refine ⟨rfl, H.out.later (B := w.heap.size) ?_ (Nat.le_refl _), ?_⟩
    all_goals repeat (first | exact HB2.out | refine Below.drew ?_ | refine Below.setCell ?_ (by simp) _)
  | true =>
    go_wp2
    go_region_held3 (fun W => W.cell? ⟨w.heap.size, 0, none⟩ = some (.slice a ns.length c) ∧ W.cell? ⟨w.heap.size, 1, none⟩ = some (.int .i64 low) ∧ Below w.heap.size w W)
      (first
        | assumption
        | exact ⟨y0, y1, HB2.out.drew⟩
        | exact keep2 (by assumption) (by assumption)
        | exact keep2_set (keep2_set (keep2_set (keep2_set (by assumption) _ _ (by simp) (by simp) (by simp)) _ _ (by simp) (by simp) (by simp)) _ _ (by simp) (by simp) (by simp)) _ _ (by simp) (by simp) (by simp))
      (first
        | (go_at_call 37; refine (isZero_any _ _ _ _ _).mono ?_; rintro e w3 ⟨rfl, hb3⟩; have t0 : w3.cell? ⟨w.heap.size + 1, 0, none⟩ = some (.slice none 0 0) := cell_later hb3 q0; have t1 : w3.cell? ⟨w.heap.size + 1, 1, none⟩ = some (.int .i64 0) := cell_later hb3 q1; have t2 : w3.cell? ⟨w.heap.size + 1, 2, none⟩ = some (.bool false) := cell_later hb3 q2; have t3 : w3.cell? ⟨w.heap.size + 1, 3, none⟩ = some (.bool false) := cell_later hb3 q3; have u0 : ∀ i, w3.frozen? ⟨w.heap.size + 1, i, none⟩ = false := fun i => frozen_later hb3 (g0 i) hsz2))
    go_wp2
    refine bodyPost_ret (v := .agg #[.slice a ns.length c, .int .i64 low, .bool (true && !((ns.length : Int) == 0)), .bool false]) (by simp [results, Tryd.results27, go_sem, t0, t1, t2, t3]) rfl ?_
    have hB := (by assumption : _ ∧ _ ∧ Below w.heap.size w _).2.2
    exact ⟨rfl, H.out.later (B := w.heap.size) hB (Nat.le_refl _), hB⟩

/-- number: what a magnitude and a sign come to. -/
theorem number_any (s : Value) (ns : List Nat) (low : Int) (neg : Bool) (w : World) (h : Ws w s ns) (o : OwnF ns low) (b1 : -200000000 ≤ low) (b2 : low ≤ 200000000) :
    Calls Tryd.prog 27 #[.agg #[s, .int .i64 low], .bool neg] w fun e w' => NumR w w' (sg neg * magR ns low) e := by
  obtain ⟨a, c, rfl, _, _⟩ := h.shape
  by_cases hm : hiB ns low ≤ 65536 ∧ -65536 ≤ low
  · refine (number_in a c ns low neg w h o hm.2 b2 hm.1).mono ?_
    rintro e w' ⟨rfl, hw, hb⟩
    refine ⟨_, some (sg neg * magR ns low), rfl, ⟨a, ns, c, low, _, false, rfl, hw, o, hm.2, hm.1, ?_, (fun h => by cases h), fun _ => ?_⟩, Or.inl ⟨may_sg.2 ((may_iff o).1 hm), rfl⟩, hb⟩
    · rintro rfl; simp
    · by_cases hne : ns = []
      · subst hne; rw [magR_nil]; simp
      · have hz : ((ns.length : Int) == 0) = false := by rw [beq_eq_false_iff_ne]; have := List.length_pos_iff.2 hne; omega
        rw [hz]; simp
  · refine (number_out a c ns low neg w h o b1 b2 hm).mono ?_
    rintro e w' ⟨rfl, hb⟩
    exact ⟨_, none, rfl, isNum_none w', Or.inr ⟨fun h => hm ((may_iff o).2 (may_sg.1 h)), rfl⟩, hb⟩

end Go.Proofs.YtfcgndgmbmkdgaaDoor

/- Magnitudes of numbers: sums, differences, products, and which is greater, as rationals. -/
namespace Go.Proofs.YtfcgndgmbmkdgaaDoor
open Go.RowKit

/-- A magnitude as a number has it. -/
structure IsMag (w : World) (s : Value) (ns : List Nat) (low : Int) : Prop where
  ws : Ws w s ns
  own : OwnF ns low
  lo : -65536 ≤ low
  hi : hiB ns low ≤ 65536

theorem IsMag.later {w w' : World} {s : Value} {ns : List Nat} {low : Int} (h : IsMag w s ns low) (hb : Below w.heap.size w w') : IsMag w' s ns low := ⟨h.ws.later hb (Nat.le_refl _), h.own, h.lo, h.hi⟩

theorem IsMag.low_le {w : World} {s : Value} {ns : List Nat} {low : Int} (h : IsMag w s ns low) : low ≤ 65536 := by
  have := own_low_hi h.own; have := h.hi; omega

theorem IsMag.len {w : World} {s : Value} {ns : List Nat} {low : Int} (h : IsMag w s ns low) : ns.length ≤ 10000 := by
  by_cases hne : ns = []
  · subst hne; simp
  · have h1 := log2_val h.ws.small hne (own_topped h.own hne)
    have h2 := h.hi
    have h3 := h.lo
    unfold hiB at h2
    rw [if_neg hne] at h2
    omega

/-- A call that hands back the magnitude q. -/
def MagR (w w' : World) (q : Rat) (e : Ending) : Prop := ∃ s ns low, e = .returned (.agg #[s, .int .i64 low]) ∧ Ws w' s ns ∧ OwnF ns low ∧ magR ns low = q ∧ (-200000000 ≤ low ∧ low ≤ 200000000) ∧ Below w.heap.size w w'

theorem made_magR {w w' : World} {V : Nat} {low : Int} {e : Ending} (h : Made w w' V low e) : MagR w w' ((V : Nat) * p2 low) e := by
  obtain ⟨s, ns, low', he, hw, ho, ht, hl, hb⟩ := h
  exact ⟨s, ns, low', he, hw, ho, tells_magR ht, hl, hb⟩

theorem two_at (low1 low2 : Int) : ∃ (L : Int) (k1 k2 : Nat), min low1 low2 = L ∧ low1 = L + (k1 : Nat) ∧ low2 = L + (k2 : Nat) :=
  ⟨min low1 low2, (low1 - min low1 low2).toNat, (low2 - min low1 low2).toNat, rfl, by omega, by omega⟩

theorem joined_any (fid : Nat) (f : Nat → Nat → Nat) (pre : Nat → Nat → Nat → Prop) (hop : BringOK fid f pre) (s1 s2 : Value) (ns1 ns2 : List Nat) (low1 low2 : Int) (w : World) (m1 : IsMag w s1 ns1 low1) (m2 : IsMag w s2 ns2 low2) (hT : Tab w)
    (hpre : ∀ (L : Int) (k1 k2 n : Nat), low1 = L + (k1 : Nat) → low2 = L + (k2 : Nat) → val ns1 * 2 ^ k1 < 2 ^ (64 * n - 1) → val ns2 * 2 ^ k2 < 2 ^ (64 * n - 1) → 0 < n → pre (val ns1 * 2 ^ k1) (val ns2 * 2 ^ k2) n) (q : Rat)
    (hq : ∀ (L : Int) (k1 k2 : Nat), low1 = L + (k1 : Nat) → low2 = L + (k2 : Nat) → ((f (val ns1 * 2 ^ k1) (val ns2 * 2 ^ k2) : Nat) : Rat) * p2 L = q) :
    Calls Tryd.prog 77 #[.agg #[s1, .int .i64 low1], .agg #[s2, .int .i64 low2], .func (.func fid) #[] #[]] w fun e w' => MagR w w' q e := by
  obtain ⟨a1, c1, rfl, _, _⟩ := m1.ws.shape
  obtain ⟨a2, c2, rfl, _, _⟩ := m2.ws.shape
  obtain ⟨L, k1, k2, hL, hk1, hk2⟩ := two_at low1 low2
  have i1 := own_low_hi m1.own
  have i2 := own_low_hi m2.own
  have j1 := m1.lo
  have j2 := m2.lo
  have j3 := m1.hi
  have j4 := m2.hi
  obtain ⟨d1, hd1⟩ : ∃ d : Nat, max (hiB ns1 low1) (hiB ns2 low2) + 1 = L + (d : Int) := ⟨(max (hiB ns1 low1) (hiB ns2 low2) + 1 - L).toNat, by omega⟩
  obtain ⟨d2, hd2⟩ : ∃ d : Nat, hiB ns2 low2 = L + (d : Int) := ⟨(hiB ns2 low2 - L).toNat, by omega⟩
  have hv1 : val ns1 * 2 ^ k1 < 2 ^ d1 := val_hi m1.own k1 hk1 d1 (by omega)
  have hv2 : val ns2 * 2 ^ k2 < 2 ^ d1 := val_hi m2.own k2 hk2 d1 (by omega)
  have hv3 : val ns2 * 2 ^ k2 < 2 ^ (d2 + 1) := val_hi m2.own k2 hk2 (d2 + 1) (by omega)
  have hmono : ∀ {X a b : Nat}, X < 2 ^ a → a ≤ b → X < 2 ^ b := fun h1 h2 => Nat.lt_of_lt_of_le h1 (Nat.pow_le_pow_right (by omega) h2)
  refine (joined_walk fid f pre hop a1 a2 c1 c2 ns1 ns2 low1 low2 L k1 k2 (d1 / 64) (d2 / 64) (d1 % 64) (d2 % 64) w m1.ws m2.ws hT m1.own m2.own hL hk1 hk2 (by omega) (by omega) (by omega) (by rw [hd1]; omega) (by rw [hd2]; omega) (Nat.mod_lt _ (by omega)) (Nat.mod_lt _ (by omega)) (by omega) (by omega) ?_ (hmono hv1 (by omega)) (hmono hv3 (by omega))).mono ?_
  · exact hpre L k1 k2 _ hk1 hk2 (hmono hv1 (by omega)) (hmono hv2 (by omega)) (by omega)
  · intro e w' h
    have := made_magR h
    rwa [hq L k1 k2 hk1 hk2] at this

theorem pow_half {a b n : Nat} (h1 : a < 2 ^ (64 * n - 1)) (h2 : b < 2 ^ (64 * n - 1)) (hn : 0 < n) : a + b < 2 ^ (64 * n) := by
  rw [show 64 * n = 64 * n - 1 + 1 by omega, Nat.pow_succ]; omega

theorem joined_add (s1 s2 : Value) (ns1 ns2 : List Nat) (low1 low2 : Int) (w : World) (m1 : IsMag w s1 ns1 low1) (m2 : IsMag w s2 ns2 low2) (hT : Tab w) :
    Calls Tryd.prog 77 #[.agg #[s1, .int .i64 low1], .agg #[s2, .int .i64 low2], .func (.func 78) #[] #[]] w fun e w' => MagR w w' (magR ns1 low1 + magR ns2 low2) e := by
  refine joined_any _ _ _ add_bring s1 s2 ns1 ns2 low1 low2 w m1 m2 hT (fun L k1 k2 n _ _ h1 h2 h3 => pow_half h1 h2 h3) _ ?_
  intro L k1 k2 h1 h2
  rw [magR_at ns1 low1 L k1 h1, magR_at ns2 low2 L k2 h2, Rat.natCast_add]; grind

theorem joined_sub (s1 s2 : Value) (ns1 ns2 : List Nat) (low1 low2 : Int) (w : World) (m1 : IsMag w s1 ns1 low1) (m2 : IsMag w s2 ns2 low2) (hT : Tab w) (hle : magR ns2 low2 ≤ magR ns1 low1) :
    Calls Tryd.prog 77 #[.agg #[s1, .int .i64 low1], .agg #[s2, .int .i64 low2], .func (.func 79) #[] #[]] w fun e w' => MagR w w' (magR ns1 low1 - magR ns2 low2) e := by
  have key : ∀ (L : Int) (k1 k2 : Nat), low1 = L + (k1 : Nat) → low2 = L + (k2 : Nat) → val ns2 * 2 ^ k2 ≤ val ns1 * 2 ^ k1 := by
    intro L k1 k2 h1 h2
    rw [magR_at ns1 low1 L k1 h1, magR_at ns2 low2 L k2 h2] at hle
    exact Rat.natCast_le_natCast.1 (Rat.le_of_mul_le_mul_right hle (p2_pos L))
  refine joined_any _ _ _ sub_bring s1 s2 ns1 ns2 low1 low2 w m1 m2 hT (fun L k1 k2 n h1 h2 _ _ _ => key L k1 k2 h1 h2) _ ?_
  intro L k1 k2 h1 h2
  have h3 := key L k1 k2 h1 h2
  have e1 : ((val ns1 * 2 ^ k1 - val ns2 * 2 ^ k2 : Nat) : Rat) = ((val ns1 * 2 ^ k1 : Nat) : Rat) - ((val ns2 * 2 ^ k2 : Nat) : Rat) := by
    have := Rat.natCast_add (val ns1 * 2 ^ k1 - val ns2 * 2 ^ k2) (val ns2 * 2 ^ k2)
    rw [Nat.sub_add_cancel h3] at this
    grind
  rw [magR_at ns1 low1 L k1 h1, magR_at ns2 low2 L k2 h2, e1]; grind

theorem times_any (s1 s2 : Value) (ns1 ns2 : List Nat) (low1 low2 : Int) (w : World) (m1 : IsMag w s1 ns1 low1) (m2 : IsMag w s2 ns2 low2) (hT : Tab w) :
    Calls Tryd.prog 34 #[.agg #[s1, .int .i64 low1], .agg #[s2, .int .i64 low2]] w fun e w' => MagR w w' (magR ns1 low1 * magR ns2 low2) e := by
  have l1 := m1.len
  have l2 := m2.len
  have i1 := m1.low_le
  have i2 := m2.low_le
  have j1 := m1.lo
  have j2 := m2.lo
  obtain ⟨a1, c1, rfl, _, _⟩ := m1.ws.shape
  obtain ⟨a2, c2, rfl, _, _⟩ := m2.ws.shape
  refine (times_walk a1 a2 c1 c2 ns1 ns2 low1 low2 w m1.ws m2.ws hT l1 l2 (by omega) (by omega) (by omega) (by omega)).mono ?_
  intro e w' h
  have := made_magR h
  have e1 : ((val ns1 * val ns2 : Nat) : Rat) * p2 (low1 + low2) = magR ns1 low1 * magR ns2 low2 := by
    rw [Rat.natCast_mul, p2_add]; unfold magR; grind
  rwa [e1] at this

/-- Which of two rationals is greater. -/
def cmpR (p q : Rat) : Int := if p < q then -1 else if q < p then 1 else 0

theorem cmp_nat (A C : Nat) (L : Int) : cmpI (A : Int) (C : Int) = cmpR ((A : Nat) * p2 L) ((C : Nat) * p2 L) := by
  have hp := p2_pos L
  unfold cmpI cmpR
  have e1 : ((A : Nat) : Rat) * p2 L < (C : Nat) * p2 L ↔ (A : Int) < (C : Int) := by
    rw [Rat.mul_lt_mul_right hp, Rat.natCast_lt_natCast]; omega
  have e2 : ((C : Nat) : Rat) * p2 L < (A : Nat) * p2 L ↔ (C : Int) < (A : Int) := by
    rw [Rat.mul_lt_mul_right hp, Rat.natCast_lt_natCast]; omega
  simp only [e1, e2]

theorem magR_pos {ns : List Nat} {low : Int} (h : OwnF ns low) (hne : ns ≠ []) : 0 < magR ns low := by
  have := (own_lo h hne).1
  have := p2_pos (hiB ns low)
  grind

theorem against_any (s1 s2 : Value) (ns1 ns2 : List Nat) (low1 low2 : Int) (w : World) (m1 : IsMag w s1 ns1 low1) (m2 : IsMag w s2 ns2 low2) :
    Calls Tryd.prog 40 #[.agg #[s1, .int .i64 low1], .agg #[s2, .int .i64 low2]] w fun e w' => e = .returned (.int .i64 (cmpR (magR ns1 low1) (magR ns2 low2))) ∧ Below w.heap.size w w' := by
  obtain ⟨a1, c1, rfl, _, _⟩ := m1.ws.shape
  obtain ⟨a2, c2, rfl, _, _⟩ := m2.ws.shape
  by_cases n1 : ns1 = []
  · subst n1
    have e1 : cmpR (magR [] low1) (magR ns2 low2) = cmpI 0 ns2.length := by
      rw [magR_nil]
      by_cases n2 : ns2 = []
      · subst n2; rw [magR_nil]; simp [cmpR, cmpI]
      · have h1 := magR_pos m2.own n2
        have h2 := List.length_pos_iff.2 n2
        unfold cmpR cmpI
        rw [if_pos h1, if_pos (by omega)]
    rw [e1]
    exact against_zero1 a1 a2 c1 c2 ns2.length low1 low2 w
  · by_cases n2 : ns2 = []
    · subst n2
      have h2 := List.length_pos_iff.2 n1
      have e1 : cmpR (magR ns1 low1) (magR [] low2) = cmpI ns1.length 0 := by
        rw [magR_nil]
        have h1 := magR_pos m1.own n1
        unfold cmpR cmpI
        rw [if_neg (by grind), if_pos h1, if_neg (by omega), if_pos (by omega)]
      rw [e1]
      exact against_zero2 a1 a2 c1 c2 ns1.length low1 low2 w (by rw [beq_eq_false_iff_ne]; omega)
    · obtain ⟨L, k1, k2, hL, hk1, hk2⟩ := two_at low1 low2
      have i1 := own_low_hi m1.own
      have j1 := m1.lo
      have j2 := m2.lo
      have j3 := m1.hi
      have i3 := m1.low_le
      have i4 := m2.low_le
      obtain ⟨E, hE⟩ : ∃ E : Nat, hiB ns1 low1 + 1 = L + (E : Int) := ⟨(hiB ns1 low1 + 1 - L).toNat, by omega⟩
      have := against_walk a1 a2 c1 c2 ns1 ns2 low1 low2 L k1 k2 E _ _ w rfl rfl m1.ws m2.ws m1.own m2.own n1 n2 hL hk1 hk2 (by omega) (by omega) (by omega) hE (by omega)
      rw [cmp_nat _ _ L, ← magR_at ns1 low1 L k1 hk1, ← magR_at ns2 low2 L k2 hk2] at this
      exact this

end Go.Proofs.YtfcgndgmbmkdgaaDoor

/- The walks of plus and minus, and of the small calls on numbers. -/
namespace Go.Proofs.YtfcgndgmbmkdgaaDoor
open Go.RowKit
attribute [local go_sem ↓] Go.wp_at_zero Go.wp_at_succ

set_option maxHeartbeats 1000000 in
theorem plus_any (s1 s2 : Value) (ns1 ns2 : List Nat) (low1 low2 : Int) (w : World) (m1 : IsMag w s1 ns1 low1) (m2 : IsMag w s2 ns2 low2) (hT : Tab w) :
    Calls Tryd.prog 58 #[.agg #[s1, .int .i64 low1], .agg #[s2, .int .i64 low2]] w fun e w' => MagR w w' (magR ns1 low1 + magR ns2 low2) e := by
  have M1 : Hid (IsMag w s1 ns1 low1) := m1
  have M2 : Hid (IsMag w s2 ns2 low2) := m2
  have HT : Hid (Tab w) := hT
  obtain ⟨a1, c1, rfl, _, _⟩ := m1.ws.shape
  obtain ⟨a2, c2, rfl, _, _⟩ := m2.ws.shape
  have HB0 : Hid (Below w.heap.size w (((w.alloc (.cells #[.slice a1 ns1.length c1, .int .i64 low1] 33)).alloc (.cells #[.slice a2 ns2.length c2, .int .i64 low2] 33)).alloc (.cells #[.slice none 0 0, .int .i64 0] 33))) := (((Below.refl _ _).alloc (Nat.le_refl _) _).alloc (by simp) _).alloc (by simp; omega) _
  clear m1 m2 hT
  go_enter Tryd.func58, Tryd.ntmps58
  go_wp2_with fail
  refine (joined_add _ _ ns1 ns2 _ _ _ (M1.out.later HB0.out) (M2.out.later HB0.out) (HT.out.later HB0.out)).mono ?_
  rintro e w5 ⟨s5, ns5, low5, rfl, hws5, ho5, hq5, hlo5, hb5⟩
  obtain ⟨a5, c5, rfl, hc5, hx5⟩ := hws5.shape
  have p0 : w5.cell? ⟨w.heap.size + 1 + 1, 0, none⟩ = some (.slice none 0 0) := cell_later hb5 (by go_simp)
  have p1 : w5.cell? ⟨w.heap.size + 1 + 1, 1, none⟩ = some (.int .i64 0) := cell_later hb5 (by go_simp)
  have p2' : w5.frozen? ⟨w.heap.size + 1 + 1, 0, none⟩ = false := frozen_later hb5 (by go_simp) (by simp)
  have p3 : w5.frozen? ⟨w.heap.size + 1 + 1, 1, none⟩ = false := frozen_later hb5 (by go_simp) (by simp)
  have HQ : Hid (magR ns5 low5 = magR ns1 low1 + magR ns2 low2) := hq5
  have HLO5 : Hid (-200000000 ≤ low5 ∧ low5 ≤ 200000000) := hlo5
  clear hx5 hlo5 hq5
  go_wp2
  refine bodyPost_ret (v := .agg #[.slice a5 ns5.length c5, .int .i64 low5]) (by simp [results, Tryd.results58, go_sem, p0, p1]) rfl ?_
  have hws6 := (hws5.set p0 (by intro n; simp) (.slice a5 ns5.length c5)).set (cell_ne p1 p0 (by simp) (.slice a5 ns5.length c5)) (by intro n; simp) (.int .i64 low5)
  refine ⟨_, ns5, low5, rfl, hws6, ho5, HQ.out, HLO5.out, ?_⟩
  exact ((thru HB0.out hb5).setCell (by simp; omega) _).setCell (by simp; omega) _

set_option maxHeartbeats 1000000 in
theorem minus_any (s1 s2 : Value) (ns1 ns2 : List Nat) (low1 low2 : Int) (w : World) (m1 : IsMag w s1 ns1 low1) (m2 : IsMag w s2 ns2 low2) (hT : Tab w) (hle : magR ns2 low2 ≤ magR ns1 low1) :
    Calls Tryd.prog 59 #[.agg #[s1, .int .i64 low1], .agg #[s2, .int .i64 low2]] w fun e w' => MagR w w' (magR ns1 low1 - magR ns2 low2) e := by
  have M1 : Hid (IsMag w s1 ns1 low1) := m1
  have M2 : Hid (IsMag w s2 ns2 low2) := m2
  have HT : Hid (Tab w) := hT
  obtain ⟨a1, c1, rfl, _, _⟩ := m1.ws.shape
  obtain ⟨a2, c2, rfl, _, _⟩ := m2.ws.shape
  have HB0 : Hid (Below w.heap.size w (((w.alloc (.cells #[.slice a1 ns1.length c1, .int .i64 low1] 33)).alloc (.cells #[.slice a2 ns2.length c2, .int .i64 low2] 33)).alloc (.cells #[.slice none 0 0, .int .i64 0] 33))) := (((Below.refl _ _).alloc (Nat.le_refl _) _).alloc (by simp) _).alloc (by simp; omega) _
  clear m1 m2 hT
  go_enter Tryd.func59, Tryd.ntmps59
  go_wp2_with fail
  refine (joined_sub _ _ ns1 ns2 _ _ _ (M1.out.later HB0.out) (M2.out.later HB0.out) (HT.out.later HB0.out) hle).mono ?_
  rintro e w5 ⟨s5, ns5, low5, rfl, hws5, ho5, hq5, hlo5, hb5⟩
  obtain ⟨a5, c5, rfl, hc5, hx5⟩ := hws5.shape
  have p0 : w5.cell? ⟨w.heap.size + 1 + 1, 0, none⟩ = some (.slice none 0 0) := cell_later hb5 (by go_simp)
  have p1 : w5.cell? ⟨w.heap.size + 1 + 1, 1, none⟩ = some (.int .i64 0) := cell_later hb5 (by go_simp)
  have p2' : w5.frozen? ⟨w.heap.size + 1 + 1, 0, none⟩ = false := frozen_later hb5 (by go_simp) (by simp)
  have p3 : w5.frozen? ⟨w.heap.size + 1 + 1, 1, none⟩ = false := frozen_later hb5 (by go_simp) (by simp)
  have HQ : Hid (magR ns5 low5 = magR ns1 low1 - magR ns2 low2) := hq5
  have HLO5 : Hid (-200000000 ≤ low5 ∧ low5 ≤ 200000000) := hlo5
  clear hx5 hlo5 hq5
  go_wp2
  refine bodyPost_ret (v := .agg #[.slice a5 ns5.length c5, .int .i64 low5]) (by simp [results, Tryd.results59, go_sem, p0, p1]) rfl ?_
  have hws6 := (hws5.set p0 (by intro n; simp) (.slice a5 ns5.length c5)).set (cell_ne p1 p0 (by simp) (.slice a5 ns5.length c5)) (by intro n; simp) (.int .i64 low5)
  refine ⟨_, ns5, low5, rfl, hws6, ho5, HQ.out, HLO5.out, ?_⟩
  exact ((thru HB0.out hb5).setCell (by simp; omega) _).setCell (by simp; omega) _

/-- The sign of a number. -/
def sgnR (q : Rat) : Int := cmpR q 0

set_option maxHeartbeats 400000 in
theorem sign_walk (a : Option Addr) (n c : Nat) (low : Int) (neg nn : Bool) (w : World) :
    Calls Tryd.prog 15 #[.agg #[.slice a n c, .int .i64 low, .bool neg, .bool nn]] w fun e w' => e = .returned (.int .i64 (if n = 0 then 0 else if neg then -1 else 1)) ∧ Below w.heap.size w w' := by
  have HB0 : Hid (Below w.heap.size w (w.alloc (.cells #[.slice a n c, .int .i64 low, .bool neg, .bool nn] 35))) := (Below.refl _ _).alloc (Nat.le_refl _) _
  go_enter Tryd.func15, Tryd.ntmps15
  go_wp2_with fail
  refine (isZero_any _ _ _ _ _).mono ?_
  rintro e w1 ⟨rfl, hb1⟩
  have x2 : w1.cell? ⟨w.heap.size, 2, none⟩ = some (.bool neg) := cell_later hb1 (by go_simp)
  have HB1 : Hid (Below w.heap.size w w1) := thru HB0.out hb1
  clear hb1
  by_cases hn : n = 0
  · subst hn
    go_wp2
    go_ret
    exact ⟨rfl, HB1.out⟩
  · have hz : ((n : Int) == 0) = false := by rw [beq_eq_false_iff_ne]; omega
    cases neg with
    | true =>
      go_wp2
      go_ret
      exact ⟨ret_int (by simp), HB1.out⟩
    | false =>
      go_wp2
      go_ret
      exact ⟨ret_int (by simp), HB1.out⟩

theorem sgn_num {ns : List Nat} {low : Int} {neg : Bool} (o : OwnF ns low) : (if ns.length = 0 then (0 : Int) else if neg then -1 else 1) = sgnR (sg neg * magR ns low) := by
  by_cases hne : ns = []
  · subst hne; rw [magR_nil]; simp [sgnR, cmpR]
  · have h1 := magR_pos o hne
    have h2 := List.length_pos_iff.2 hne
    rw [if_neg (by omega)]
    unfold sgnR cmpR sg
    cases neg
    · simp only [Bool.false_eq_true, if_false]
      rw [if_neg (by grind), if_pos (by grind)]
    · simp only [if_true]
      rw [if_pos (by grind)]

/-- Sign: the sign; 0 of none. -/
theorem sign_any (v : Value) (x : Option Rat) (w : World) (h : IsNum w v x) :
    Calls Tryd.prog 15 #[v] w fun e w' => e = .returned (.int .i64 (sgnR (x.getD 0))) ∧ Below w.heap.size w w' := by
  obtain ⟨a, ns, c, low, neg, nn, rfl, h2, h3, h4, h5, h6, h7, h8⟩ := h
  have e : (if ns.length = 0 then (0 : Int) else if neg then -1 else 1) = sgnR (x.getD 0) := by
    cases nn
    · rw [h8 rfl]; exact sgn_num h3
    · obtain ⟨h9, h10⟩ := h7 rfl
      rw [h10, h9]; simp [sgnR, cmpR]
  rw [← e]
  exact sign_walk a _ c low neg nn w

end Go.Proofs.YtfcgndgmbmkdgaaDoor

/- The walk of sum: two numbers added, the second one with the sign that is handed. -/
namespace Go.Proofs.YtfcgndgmbmkdgaaDoor
open Go.RowKit
attribute [local go_sem ↓] Go.wp_at_zero Go.wp_at_succ

theorem ws4 {W : World} {s : Value} {ns : List Nat} {r : Nat} (h : Ws W s ns) (t0 : W.cell? ⟨r, 0, none⟩ = some (.slice none 0 0)) (t1 : W.cell? ⟨r, 1, none⟩ = some (.int .i64 0)) (t2 : W.cell? ⟨r, 2, none⟩ = some (.bool false)) (t3 : W.cell? ⟨r, 3, none⟩ = some (.bool false)) (v0 v1 v2 v3 : Value) :
    Ws ((((W.setCell ⟨r, 0, none⟩ v0).setCell ⟨r, 1, none⟩ v1).setCell ⟨r, 2, none⟩ v2).setCell ⟨r, 3, none⟩ v3) s ns := by
  have o : ∀ (W : World) (i j : Nat) (x : Value) (v : Value), i ≠ j → W.cell? ⟨r, i, none⟩ = some x → (W.setCell ⟨r, j, none⟩ v).cell? ⟨r, i, none⟩ = some x := fun W i j x v hij hx => by
    rw [World.cell?_setCell_other W _ _ v (by intro e; cases e; exact hij rfl)]; exact hx
  have a1 := h.set t0 (by intro n; simp) v0
  have a2 := a1.set (o _ 1 0 _ v0 (by omega) t1) (by intro n; simp) v1
  have a3 := a2.set (o _ 2 1 _ v1 (by omega) (o _ 2 0 _ v0 (by omega) t2)) (by intro n; simp) v2
  exact a3.set (o _ 3 2 _ v2 (by omega) (o _ 3 1 _ v1 (by omega) (o _ 3 0 _ v0 (by omega) t3))) (by intro n; simp) v3

theorem keep5 {w W W' : World} {p1 p2 p3 p4 p5 : Addr} {x1 x2 x3 x4 x5 : Value} (h : W.cell? p1 = some x1 ∧ W.cell? p2 = some x2 ∧ W.cell? p3 = some x3 ∧ W.cell? p4 = some x4 ∧ W.cell? p5 = some x5 ∧ Below w.heap.size w W) (hb : Below W.heap.size W W') :
    W'.cell? p1 = some x1 ∧ W'.cell? p2 = some x2 ∧ W'.cell? p3 = some x3 ∧ W'.cell? p4 = some x4 ∧ W'.cell? p5 = some x5 ∧ Below w.heap.size w W' :=
  ⟨cell_later hb h.1, cell_later hb h.2.1, cell_later hb h.2.2.1, cell_later hb h.2.2.2.1, cell_later hb h.2.2.2.2.1, h.2.2.2.2.2.trans (hb.mono h.2.2.2.2.2.size)⟩

theorem keep5_set {w W : World} {b1 b2 : Nat} {o1 o2 o3 o4 o5 : Nat} {x1 x2 x3 x4 x5 : Value} (h : W.cell? ⟨b1, o1, none⟩ = some x1 ∧ W.cell? ⟨b1, o2, none⟩ = some x2 ∧ W.cell? ⟨b1, o3, none⟩ = some x3 ∧ W.cell? ⟨b2, o4, none⟩ = some x4 ∧ W.cell? ⟨b2, o5, none⟩ = some x5 ∧ Below w.heap.size w W) (a : Addr) (v : Value) (h1 : b1 ≠ a.block) (h2 : b2 ≠ a.block) (h3 : w.heap.size ≤ a.block) :
    (W.setCell a v).cell? ⟨b1, o1, none⟩ = some x1 ∧ (W.setCell a v).cell? ⟨b1, o2, none⟩ = some x2 ∧ (W.setCell a v).cell? ⟨b1, o3, none⟩ = some x3 ∧ (W.setCell a v).cell? ⟨b2, o4, none⟩ = some x4 ∧ (W.setCell a v).cell? ⟨b2, o5, none⟩ = some x5 ∧ Below w.heap.size w (W.setCell a v) :=
  ⟨cell_other h.1 h1 v, cell_other h.2.1 h1 v, cell_other h.2.2.1 h1 v, cell_other h.2.2.2.1 h2 v, cell_other h.2.2.2.2.1 h2 v, h.2.2.2.2.2.setCell h3 v⟩

set_option maxHeartbeats 1000000 in
theorem sum_none1 (a1 a2 : Option Addr) (n1 n2 c1 c2 : Nat) (low1 low2 : Int) (neg1 neg2 nn2 neg : Bool) (w : World) :
    Calls Tryd.prog 33 #[.agg #[.slice a1 n1 c1, .int .i64 low1, .bool neg1, .bool true], .agg #[.slice a2 n2 c2, .int .i64 low2, .bool neg2, .bool nn2], .bool neg] w fun e w' => e = .returned (.agg #[.slice none 0 0, .int .i64 0, .bool false, .bool true]) ∧ Below w.heap.size w w' := by
  have HB0 : Hid (Below w.heap.size w (((w.alloc (.cells #[.slice a1 n1 c1, .int .i64 low1, .bool neg1, .bool true] 35)).alloc (.cells #[.slice a2 n2 c2, .int .i64 low2, .bool neg2, .bool nn2] 35)).alloc (.cells #[.slice none 0 0, .int .i64 0, .bool false, .bool false] 35))) := (((Below.refl _ _).alloc (Nat.le_refl _) _).alloc (by simp) _).alloc (by simp; omega) _
  go_enter Tryd.func33, Tryd.ntmps33
  go_wp2
  refine bodyPost_ret (v := .agg #[.slice none 0 0, .int .i64 0, .bool false, .bool true]) (by simp [results, Tryd.results33, go_sem]) rfl ⟨rfl, ?_⟩
  exact (((Below.refl _ _).alloc (Nat.le_refl _) _).alloc (by simp) _).alloc (by simp; omega) _

set_option maxHeartbeats 1000000 in
theorem sum_none2 (a1 a2 : Option Addr) (n1 n2 c1 c2 : Nat) (low1 low2 : Int) (neg1 neg2 neg : Bool) (w : World) :
    Calls Tryd.prog 33 #[.agg #[.slice a1 n1 c1, .int .i64 low1, .bool neg1, .bool false], .agg #[.slice a2 n2 c2, .int .i64 low2, .bool neg2, .bool true], .bool neg] w fun e w' => e = .returned (.agg #[.slice none 0 0, .int .i64 0, .bool false, .bool true]) ∧ Below w.heap.size w w' := by
  have HB0 : Hid (Below w.heap.size w (((w.alloc (.cells #[.slice a1 n1 c1, .int .i64 low1, .bool neg1, .bool false] 35)).alloc (.cells #[.slice a2 n2 c2, .int .i64 low2, .bool neg2, .bool true] 35)).alloc (.cells #[.slice none 0 0, .int .i64 0, .bool false, .bool false] 35))) := (((Below.refl _ _).alloc (Nat.le_refl _) _).alloc (by simp) _).alloc (by simp; omega) _
  go_enter Tryd.func33, Tryd.ntmps33
  go_wp2
  refine bodyPost_ret (v := .agg #[.slice none 0 0, .int .i64 0, .bool false, .bool true]) (by simp [results, Tryd.results33, go_sem]) rfl ⟨rfl, ?_⟩
  exact (((Below.refl _ _).alloc (Nat.le_refl _) _).alloc (by simp) _).alloc (by simp; omega) _

set_option maxHeartbeats 2000000 in
theorem sum_walk (a1 a2 : Option Addr) (c1 c2 : Nat) (ns1 ns2 : List Nat) (low1 low2 : Int) (neg1 neg2 neg : Bool) (w : World) (m1 : IsMag w (.slice a1 ns1.length c1) ns1 low1) (m2 : IsMag w (.slice a2 ns2.length c2) ns2 low2) (hT : Tab w) :
    Calls Tryd.prog 33 #[.agg #[.slice a1 ns1.length c1, .int .i64 low1, .bool neg1, .bool false], .agg #[.slice a2 ns2.length c2, .int .i64 low2, .bool neg2, .bool false], .bool neg] w fun e w' => NumR w w' (sg neg1 * magR ns1 low1 + sg neg * magR ns2 low2) e := by
  have HB0 : Hid (Below w.heap.size w (((w.alloc (.cells #[.slice a1 ns1.length c1, .int .i64 low1, .bool neg1, .bool false] 35)).alloc (.cells #[.slice a2 ns2.length c2, .int .i64 low2, .bool neg2, .bool false] 35)).alloc (.cells #[.slice none 0 0, .int .i64 0, .bool false, .bool false] 35))) := (((Below.refl _ _).alloc (Nat.le_refl _) _).alloc (by simp) _).alloc (by simp; omega) _
  have M1 : Hid (IsMag w (.slice a1 ns1.length c1) ns1 low1) := m1
  have M2 : Hid (IsMag w (.slice a2 ns2.length c2) ns2 low2) := m2
  have HT : Hid (Tab w) := hT
  clear m1 m2 hT
  by_cases hs : neg1 = neg
  · subst hs
    have hsb : (neg1 == neg1) = true := by simp
    have HQ : Hid (sg neg1 * magR ns1 low1 + sg neg1 * magR ns2 low2 = sg neg1 * (magR ns1 low1 + magR ns2 low2)) := by rw [Rat.mul_add]; exact rfl
    go_enter Tryd.func33, Tryd.ntmps33
    go_wp2_with fail
    refine (plus_any _ _ ns1 ns2 _ _ _ (M1.out.later HB0.out) (M2.out.later HB0.out) (HT.out.later HB0.out)).mono ?_
    rintro e w5 ⟨s5, ns5, low5, rfl, hws5, ho5, hq5, hlo5, hb5⟩
    go_wp2_with fail
    refine (number_any _ ns5 _ _ _ hws5 ho5 hlo5.1 hlo5.2).mono ?_
    rintro e w6 ⟨v9, x9, rfl, ⟨a9, ns9, c9, low9, neg9, nn9, rfl, hws9, hrest⟩, hN9, hb6⟩
    have hB6 := thru hb5 hb6
    have t0 : w6.cell? ⟨w.heap.size + 1 + 1, 0, none⟩ = some (.slice none 0 0) := cell_later hB6 (by go_simp)
    have t1 : w6.cell? ⟨w.heap.size + 1 + 1, 1, none⟩ = some (.int .i64 0) := cell_later hB6 (by go_simp)
    have t2 : w6.cell? ⟨w.heap.size + 1 + 1, 2, none⟩ = some (.bool false) := cell_later hB6 (by go_simp)
    have t3 : w6.cell? ⟨w.heap.size + 1 + 1, 3, none⟩ = some (.bool false) := cell_later hB6 (by go_simp)
    have u0 : ∀ i, w6.frozen? ⟨w.heap.size + 1 + 1, i, none⟩ = false := fun i => frozen_later hB6 (by go_simp) (by simp)
    have HB6 : Hid (Below w.heap.size w w6) := thru HB0.out hB6
    rw [hq5, ← HQ.out] at hN9
    have HN9 : Hid _ := hN9
    clear hb5 hb6 hB6 hq5 hlo5 hws5 ho5 hN9 HB0
    have HRST : Hid _ := hrest
    clear hrest
    go_wp2
    refine bodyPost_ret (v := .agg #[.slice a9 ns9.length c9, .int .i64 low9, .bool neg9, .bool nn9]) (by simp [results, Tryd.results33, go_sem, t0, t1, t2, t3]) rfl ?_
    have hw9 := ws4 hws9 t0 t1 t2 t3 (.slice a9 ns9.length c9) (.int .i64 low9) (.bool neg9) (.bool nn9)
    refine ⟨_, x9, rfl, ⟨a9, ns9, c9, low9, neg9, nn9, rfl, hw9, HRST.out⟩, HN9.out, ?_⟩
    repeat (first | exact HB6.out | refine Below.drew ?_ | refine Below.setCell ?_ (by simp; omega) _)
  · have hsb : (neg1 == neg) = false := by simpa using hs
    have hsg : sg neg1 = -sg neg := by
      revert hs; cases neg1 <;> cases neg <;> simp [sg]
    go_enter Tryd.func33, Tryd.ntmps33
    go_wp2_with fail
    refine (against_any _ _ ns1 ns2 _ _ _ (M1.out.later HB0.out) (M2.out.later HB0.out)).mono ?_
    rintro e w4 ⟨rfl, hb4⟩
    have x0 : w4.cell? ⟨w.heap.size, 0, none⟩ = some (.slice a1 ns1.length c1) := cell_later hb4 (by go_simp)
    have x1 : w4.cell? ⟨w.heap.size, 1, none⟩ = some (.int .i64 low1) := cell_later hb4 (by go_simp)
    have x2 : w4.cell? ⟨w.heap.size, 2, none⟩ = some (.bool neg1) := cell_later hb4 (by go_simp)
    have y0 : w4.cell? ⟨w.heap.size + 1, 0, none⟩ = some (.slice a2 ns2.length c2) := cell_later hb4 (by go_simp)
    have y1 : w4.cell? ⟨w.heap.size + 1, 1, none⟩ = some (.int .i64 low2) := cell_later hb4 (by go_simp)
    have k0 : w4.cell? ⟨w.heap.size + 1 + 1, 0, none⟩ = some (.slice none 0 0) := cell_later hb4 (by go_simp)
    have k1 : w4.cell? ⟨w.heap.size + 1 + 1, 1, none⟩ = some (.int .i64 0) := cell_later hb4 (by go_simp)
    have k2 : w4.cell? ⟨w.heap.size + 1 + 1, 2, none⟩ = some (.bool false) := cell_later hb4 (by go_simp)
    have k3 : w4.cell? ⟨w.heap.size + 1 + 1, 3, none⟩ = some (.bool false) := cell_later hb4 (by go_simp)
    have u4 : ∀ i, w4.frozen? ⟨w.heap.size + 1 + 1, i, none⟩ = false := fun i => frozen_later hb4 (by go_simp) (by simp)
    have hsz4 : w.heap.size + 1 + 1 < w4.heap.size := by have := hb4.size; simp at this; omega
    have HB4 : Hid (Below w.heap.size w w4) := thru HB0.out hb4
    clear hb4 HB0
    by_cases hlt : magR ns1 low1 < magR ns2 low2
    · have hc : decide (cmpR (magR ns1 low1) (magR ns2 low2) < 0) = true := by unfold cmpR; rw [if_pos hlt]; decide
      have hc' : cmpR (magR ns1 low1) (magR ns2 low2) < 0 := by unfold cmpR; rw [if_pos hlt]; decide
      have HQ : Hid (sg neg1 * magR ns1 low1 + sg neg * magR ns2 low2 = sg neg * (magR ns2 low2 - magR ns1 low1)) := by rw [hsg]; show _ = _; grind
      have HLE : Hid (magR ns1 low1 ≤ magR ns2 low2) := Rat.le_of_lt hlt
      clear hsg hlt
      generalize cmpR (magR ns1 low1) (magR ns2 low2) = cc at *
      go_wp2_with fail
      refine (minus_any _ _ ns2 ns1 _ _ _ (M2.out.later HB4.out) (M1.out.later HB4.out) (HT.out.later HB4.out) HLE.out).mono ?_
      rintro e w5 ⟨s5, ns5, low5, rfl, hws5, ho5, hq5, hlo5, hb5⟩
      go_wp2_with fail
      refine (number_any _ ns5 _ _ _ hws5 ho5 hlo5.1 hlo5.2).mono ?_
      rintro e w6 ⟨v9, x9, rfl, ⟨a9, ns9, c9, low9, neg9, nn9, rfl, hws9, hrest⟩, hN9, hb6⟩
      have hB6 := thru hb5 hb6
      have t0 := cell_later hB6 k0
      have t1 := cell_later hB6 k1
      have t2 := cell_later hB6 k2
      have t3 := cell_later hB6 k3
      have u0 : ∀ i, w6.frozen? ⟨w.heap.size + 1 + 1, i, none⟩ = false := fun i => frozen_later hB6 (u4 i) hsz4
      have HB6 : Hid (Below w.heap.size w w6) := thru HB4.out hB6
      rw [hq5, ← HQ.out] at hN9
      have HN9 : Hid _ := hN9
      clear hb5 hb6 hB6 hq5 hlo5 hws5 ho5 hN9
      have HRST : Hid _ := hrest
      clear hrest
      go_wp2
      refine bodyPost_ret (v := .agg #[.slice a9 ns9.length c9, .int .i64 low9, .bool neg9, .bool nn9]) (by simp [results, Tryd.results33, go_sem, t0, t1, t2, t3]) rfl ?_
      have hw9 := ws4 hws9 t0 t1 t2 t3 (.slice a9 ns9.length c9) (.int .i64 low9) (.bool neg9) (.bool nn9)
      refine ⟨_, x9, rfl, ⟨a9, ns9, c9, low9, neg9, nn9, rfl, hw9, HRST.out⟩, HN9.out, ?_⟩
      repeat (first | exact HB6.out | refine Below.drew ?_ | refine Below.setCell ?_ (by simp; omega) _)
    · have hc' : ¬ cmpR (magR ns1 low1) (magR ns2 low2) < 0 := by unfold cmpR; rw [if_neg hlt]; split <;> decide
      have HQ : Hid (sg neg1 * magR ns1 low1 + sg neg * magR ns2 low2 = sg neg1 * (magR ns1 low1 - magR ns2 low2)) := by rw [show sg neg = -sg neg1 by rw [hsg]; grind]; show _ = _; grind
      have HLE : Hid (magR ns2 low2 ≤ magR ns1 low1) := Rat.not_lt.1 hlt
      clear hsg hlt
      generalize cmpR (magR ns1 low1) (magR ns2 low2) = cc at *
      go_wp2
      go_region_held3 (fun W => W.cell? ⟨w.heap.size, 0, none⟩ = some (.slice a1 ns1.length c1) ∧ W.cell? ⟨w.heap.size, 1, none⟩ = some (.int .i64 low1) ∧ W.cell? ⟨w.heap.size, 2, none⟩ = some (.bool neg1) ∧ W.cell? ⟨w.heap.size + 1, 0, none⟩ = some (.slice a2 ns2.length c2) ∧ W.cell? ⟨w.heap.size + 1, 1, none⟩ = some (.int .i64 low2) ∧ Below w.heap.size w W)
        (first
          | assumption
          | exact ⟨x0, x1, x2, y0, y1, HB4.out.drew⟩
          | exact keep5 (by assumption) (by assumption)
          | exact keep5_set (keep5_set (keep5_set (keep5_set (by assumption) _ _ (by show w.heap.size ≠ w.heap.size + 1 + 1; omega) (by show w.heap.size + 1 ≠ w.heap.size + 1 + 1; omega) (by show w.heap.size ≤ w.heap.size + 1 + 1; omega)) _ _ (by show w.heap.size ≠ w.heap.size + 1 + 1; omega) (by show w.heap.size + 1 ≠ w.heap.size + 1 + 1; omega) (by show w.heap.size ≤ w.heap.size + 1 + 1; omega)) _ _ (by show w.heap.size ≠ w.heap.size + 1 + 1; omega) (by show w.heap.size + 1 ≠ w.heap.size + 1 + 1; omega) (by show w.heap.size ≤ w.heap.size + 1 + 1; omega)) _ _ (by show w.heap.size ≠ w.heap.size + 1 + 1; omega) (by show w.heap.size + 1 ≠ w.heap.size + 1 + 1; omega) (by show w.heap.size ≤ w.heap.size + 1 + 1; omega))
        (first
          | (go_at_call 59; refine (minus_any _ _ ns1 ns2 _ _ _ (M1.out.later HB4.out.drew) (M2.out.later HB4.out.drew) (HT.out.later HB4.out.drew) HLE.out).mono ?_; rintro e w5 ⟨s5, ns5, low5, rfl, hws5, ho5, hq5, hlo5, hb5⟩)
          | (go_at_call 27; refine (number_any _ ns5 _ _ _ hws5 ho5 hlo5.1 hlo5.2).mono ?_; rintro e w6 ⟨v9, x9, rfl, ⟨a9, ns9, c9, low9, neg9, nn9, rfl, hws9, hrest⟩, hN9, hb6⟩; have hB6 := thru hb5 hb6; have t0 : w6.cell? ⟨w.heap.size + 1 + 1, 0, none⟩ = some (.slice none 0 0) := cell_later hB6 k0; have t1 : w6.cell? ⟨w.heap.size + 1 + 1, 1, none⟩ = some (.int .i64 0) := cell_later hB6 k1; have t2 : w6.cell? ⟨w.heap.size + 1 + 1, 2, none⟩ = some (.bool false) := cell_later hB6 k2; have t3 : w6.cell? ⟨w.heap.size + 1 + 1, 3, none⟩ = some (.bool false) := cell_later hB6 k3; have u0 : ∀ i, w6.frozen? ⟨w.heap.size + 1 + 1, i, none⟩ = false := fun i => frozen_later hB6 (u4 i) hsz4))
      have hBf := (by assumption : _ ∧ _ ∧ _ ∧ _ ∧ _ ∧ Below w.heap.size w _).2.2.2.2.2
      have HBF : Hid _ := hBf
      rw [hq5, ← HQ.out] at hN9
      have HN9 : Hid _ := hN9
      clear hb5 hb6 hB6 hq5 hlo5 hws5 ho5 hN9 hBf
      have HRST : Hid _ := hrest
      clear hrest
      go_wp2
      refine bodyPost_ret (v := .agg #[.slice a9 ns9.length c9, .int .i64 low9, .bool neg9, .bool nn9]) (by simp [results, Tryd.results33, go_sem, t0, t1, t2, t3]) rfl ?_
      have hw9 := ws4 hws9 t0 t1 t2 t3 (.slice a9 ns9.length c9) (.int .i64 low9) (.bool neg9) (.bool nn9)
      refine ⟨_, x9, rfl, ⟨a9, ns9, c9, low9, neg9, nn9, rfl, hw9, HRST.out⟩, HN9.out, HBF.out⟩

end Go.Proofs.YtfcgndgmbmkdgaaDoor

/- Add and Sub: the sum and the difference of two numbers. -/
namespace Go.Proofs.YtfcgndgmbmkdgaaDoor
open Go.RowKit
attribute [local go_sem ↓] Go.wp_at_zero Go.wp_at_succ

/-- A call that hands back a number of which R holds. -/
def OpR (w w' : World) (R : Option Rat → Prop) (e : Ending) : Prop := ∃ v x, e = .returned v ∧ IsNum w' v x ∧ R x ∧ Below w.heap.size w w'

/-- What comes of two numbers: none of none. -/
def Op2 (f : Rat → Rat → Rat) (a b x : Option Rat) : Prop := (∃ p q, a = some p ∧ b = some q ∧ Norm (f p q) x) ∨ ((a = none ∨ b = none) ∧ x = none)

theorem sum_num (a1 a2 : Option Addr) (c1 c2 : Nat) (ns1 ns2 : List Nat) (low1 low2 : Int) (neg1 nn1 neg2 nn2 neg : Bool) (w : World) (m1 : IsMag w (.slice a1 ns1.length c1) ns1 low1) (m2 : IsMag w (.slice a2 ns2.length c2) ns2 low2) (hT : Tab w) (R : Option Rat → Prop)
    (h1 : nn1 = true ∨ nn2 = true → R none) (h2 : nn1 = false → nn2 = false → ∀ x, Norm (sg neg1 * magR ns1 low1 + sg neg * magR ns2 low2) x → R x) :
    Calls Tryd.prog 33 #[.agg #[.slice a1 ns1.length c1, .int .i64 low1, .bool neg1, .bool nn1], .agg #[.slice a2 ns2.length c2, .int .i64 low2, .bool neg2, .bool nn2], .bool neg] w fun e w' => OpR w w' R e := by
  cases nn1 with
  | true =>
    refine (sum_none1 a1 a2 _ _ c1 c2 low1 low2 neg1 neg2 nn2 neg w).mono ?_
    rintro e w' ⟨rfl, hb⟩
    exact ⟨_, none, rfl, isNum_none w', h1 (Or.inl rfl), hb⟩
  | false =>
    cases nn2 with
    | true =>
      refine (sum_none2 a1 a2 _ _ c1 c2 low1 low2 neg1 neg2 neg w).mono ?_
      rintro e w' ⟨rfl, hb⟩
      exact ⟨_, none, rfl, isNum_none w', h1 (Or.inr rfl), hb⟩
    | false =>
      refine (sum_walk a1 a2 c1 c2 ns1 ns2 low1 low2 neg1 neg2 neg w m1 m2 hT).mono ?_
      rintro e w' ⟨v, x, he, hn, hN, hb⟩
      exact ⟨v, x, he, hn, h2 rfl rfl x hN, hb⟩

set_option maxHeartbeats 1000000 in
theorem add_walk (a1 a2 : Option Addr) (c1 c2 : Nat) (ns1 ns2 : List Nat) (low1 low2 : Int) (neg1 nn1 neg2 nn2 : Bool) (w : World) (m1 : IsMag w (.slice a1 ns1.length c1) ns1 low1) (m2 : IsMag w (.slice a2 ns2.length c2) ns2 low2) (hT : Tab w) (R : Option Rat → Prop)
    (h1 : nn1 = true ∨ nn2 = true → R none) (h2 : nn1 = false → nn2 = false → ∀ x, Norm (sg neg1 * magR ns1 low1 + sg (neg2) * magR ns2 low2) x → R x) :
    Calls Tryd.prog 38 #[.agg #[.slice a1 ns1.length c1, .int .i64 low1, .bool neg1, .bool nn1], .agg #[.slice a2 ns2.length c2, .int .i64 low2, .bool neg2, .bool nn2]] w fun e w' => OpR w w' R e := by
  have HB0 : Hid (Below w.heap.size w (((w.alloc (.cells #[.slice a1 ns1.length c1, .int .i64 low1, .bool neg1, .bool nn1] 35)).alloc (.cells #[.slice a2 ns2.length c2, .int .i64 low2, .bool neg2, .bool nn2] 35)).alloc (.cells #[.slice none 0 0, .int .i64 0, .bool false, .bool false] 35))) := (((Below.refl _ _).alloc (Nat.le_refl _) _).alloc (by simp) _).alloc (by simp; omega) _
  have M1 : Hid (IsMag w (.slice a1 ns1.length c1) ns1 low1) := m1
  have M2 : Hid (IsMag w (.slice a2 ns2.length c2) ns2 low2) := m2
  have HT : Hid (Tab w) := hT
  have H1 : Hid (nn1 = true ∨ nn2 = true → R none) := h1
  have H2 : Hid (nn1 = false → nn2 = false → ∀ x, Norm (sg neg1 * magR ns1 low1 + sg (neg2) * magR ns2 low2) x → R x) := h2
  clear m1 m2 hT h1 h2
  go_enter Tryd.func38, Tryd.ntmps38
  go_wp2_with fail
  refine (sum_num _ _ _ _ ns1 ns2 _ _ _ _ _ _ _ _ (M1.out.later HB0.out) (M2.out.later HB0.out) (HT.out.later HB0.out) R H1.out H2.out).mono ?_
  rintro e w6 ⟨v9, x9, rfl, ⟨a9, ns9, c9, low9, neg9, nn9, rfl, hws9, hrest⟩, hN9, hB6⟩
  have t0 : w6.cell? ⟨w.heap.size + 1 + 1, 0, none⟩ = some (.slice none 0 0) := cell_later hB6 (by go_simp)
  have t1 : w6.cell? ⟨w.heap.size + 1 + 1, 1, none⟩ = some (.int .i64 0) := cell_later hB6 (by go_simp)
  have t2 : w6.cell? ⟨w.heap.size + 1 + 1, 2, none⟩ = some (.bool false) := cell_later hB6 (by go_simp)
  have t3 : w6.cell? ⟨w.heap.size + 1 + 1, 3, none⟩ = some (.bool false) := cell_later hB6 (by go_simp)
  have u0 : ∀ i, w6.frozen? ⟨w.heap.size + 1 + 1, i, none⟩ = false := fun i => frozen_later hB6 (by go_simp) (by simp)
  have HB6 : Hid (Below w.heap.size w w6) := thru HB0.out hB6
  have HN9 : Hid (R x9) := hN9
  clear hB6 hN9 HB0
  have HRST : Hid _ := hrest
  clear hrest
  go_wp2
  refine bodyPost_ret (v := .agg #[.slice a9 ns9.length c9, .int .i64 low9, .bool neg9, .bool nn9]) (by simp [results, Tryd.results38, go_sem, t0, t1, t2, t3]) rfl ?_
  have hw9 := ws4 hws9 t0 t1 t2 t3 (.slice a9 ns9.length c9) (.int .i64 low9) (.bool neg9) (.bool nn9)
  refine ⟨_, x9, rfl, ⟨a9, ns9, c9, low9, neg9, nn9, rfl, hw9, HRST.out⟩, HN9.out, ?_⟩
  repeat (first | exact HB6.out | refine Below.drew ?_ | refine Below.setCell ?_ (by simp; omega) _)

/-- Add. -/
theorem add_any (va vb : Value) (a b : Option Rat) (w : World) (ha : IsNum w va a) (hb : IsNum w vb b) (hT : Tab w) :
    Calls Tryd.prog 38 #[va, vb] w fun e w' => OpR w w' (Op2 (fun p q => p + q) a b) e := by
  obtain ⟨a1, ns1, c1, low1, neg1, nn1, rfl, p2, p3, p4, p5, p6, p7, p8⟩ := ha
  obtain ⟨a2, ns2, c2, low2, neg2, nn2, rfl, r2, r3, r4, r5, r6, r7, r8⟩ := hb
  refine add_walk a1 a2 c1 c2 ns1 ns2 low1 low2 neg1 nn1 neg2 nn2 w ⟨p2, p3, p4, p5⟩ ⟨r2, r3, r4, r5⟩ hT _ ?_ ?_
  · intro h
    refine Or.inr ⟨?_, rfl⟩
    rcases h with h | h
    · exact Or.inl (p7 h).2
    · exact Or.inr (r7 h).2
  · intro h1 h2 x hx
    refine Or.inl ⟨_, _, p8 h1, r8 h2, ?_⟩
    have e : sg neg1 * magR ns1 low1 + sg neg2 * magR ns2 low2 = sg neg1 * magR ns1 low1 + sg neg2 * magR ns2 low2 := by rfl
    rw [← e] at hx; exact hx

set_option maxHeartbeats 1000000 in
theorem sub_walk (a1 a2 : Option Addr) (c1 c2 : Nat) (ns1 ns2 : List Nat) (low1 low2 : Int) (neg1 nn1 neg2 nn2 : Bool) (w : World) (m1 : IsMag w (.slice a1 ns1.length c1) ns1 low1) (m2 : IsMag w (.slice a2 ns2.length c2) ns2 low2) (hT : Tab w) (R : Option Rat → Prop)
    (h1 : nn1 = true ∨ nn2 = true → R none) (h2 : nn1 = false → nn2 = false → ∀ x, Norm (sg neg1 * magR ns1 low1 + sg (!neg2) * magR ns2 low2) x → R x) :
    Calls Tryd.prog 11 #[.agg #[.slice a1 ns1.length c1, .int .i64 low1, .bool neg1, .bool nn1], .agg #[.slice a2 ns2.length c2, .int .i64 low2, .bool neg2, .bool nn2]] w fun e w' => OpR w w' R e := by
  have HB0 : Hid (Below w.heap.size w (((w.alloc (.cells #[.slice a1 ns1.length c1, .int .i64 low1, .bool neg1, .bool nn1] 35)).alloc (.cells #[.slice a2 ns2.length c2, .int .i64 low2, .bool neg2, .bool nn2] 35)).alloc (.cells #[.slice none 0 0, .int .i64 0, .bool false, .bool false] 35))) := (((Below.refl _ _).alloc (Nat.le_refl _) _).alloc (by simp) _).alloc (by simp; omega) _
  have M1 : Hid (IsMag w (.slice a1 ns1.length c1) ns1 low1) := m1
  have M2 : Hid (IsMag w (.slice a2 ns2.length c2) ns2 low2) := m2
  have HT : Hid (Tab w) := hT
  have H1 : Hid (nn1 = true ∨ nn2 = true → R none) := h1
  have H2 : Hid (nn1 = false → nn2 = false → ∀ x, Norm (sg neg1 * magR ns1 low1 + sg (!neg2) * magR ns2 low2) x → R x) := h2
  clear m1 m2 hT h1 h2
  go_enter Tryd.func11, Tryd.ntmps11
  go_wp2_with fail
  refine (sum_num _ _ _ _ ns1 ns2 _ _ _ _ _ _ _ _ (M1.out.later HB0.out) (M2.out.later HB0.out) (HT.out.later HB0.out) R H1.out H2.out).mono ?_
  rintro e w6 ⟨v9, x9, rfl, ⟨a9, ns9, c9, low9, neg9, nn9, rfl, hws9, hrest⟩, hN9, hB6⟩
  have t0 : w6.cell? ⟨w.heap.size + 1 + 1, 0, none⟩ = some (.slice none 0 0) := cell_later hB6 (by go_simp)
  have t1 : w6.cell? ⟨w.heap.size + 1 + 1, 1, none⟩ = some (.int .i64 0) := cell_later hB6 (by go_simp)
  have t2 : w6.cell? ⟨w.heap.size + 1 + 1, 2, none⟩ = some (.bool false) := cell_later hB6 (by go_simp)
  have t3 : w6.cell? ⟨w.heap.size + 1 + 1, 3, none⟩ = some (.bool false) := cell_later hB6 (by go_simp)
  have u0 : ∀ i, w6.frozen? ⟨w.heap.size + 1 + 1, i, none⟩ = false := fun i => frozen_later hB6 (by go_simp) (by simp)
  have HB6 : Hid (Below w.heap.size w w6) := thru HB0.out hB6
  have HN9 : Hid (R x9) := hN9
  clear hB6 hN9 HB0
  have HRST : Hid _ := hrest
  clear hrest
  go_wp2
  refine bodyPost_ret (v := .agg #[.slice a9 ns9.length c9, .int .i64 low9, .bool neg9, .bool nn9]) (by simp [results, Tryd.results11, go_sem, t0, t1, t2, t3]) rfl ?_
  have hw9 := ws4 hws9 t0 t1 t2 t3 (.slice a9 ns9.length c9) (.int .i64 low9) (.bool neg9) (.bool nn9)
  refine ⟨_, x9, rfl, ⟨a9, ns9, c9, low9, neg9, nn9, rfl, hw9, HRST.out⟩, HN9.out, ?_⟩
  repeat (first | exact HB6.out | refine Below.drew ?_ | refine Below.setCell ?_ (by simp; omega) _)

/-- Sub. -/
theorem sub_any (va vb : Value) (a b : Option Rat) (w : World) (ha : IsNum w va a) (hb : IsNum w vb b) (hT : Tab w) :
    Calls Tryd.prog 11 #[va, vb] w fun e w' => OpR w w' (Op2 (fun p q => p - q) a b) e := by
  obtain ⟨a1, ns1, c1, low1, neg1, nn1, rfl, p2, p3, p4, p5, p6, p7, p8⟩ := ha
  obtain ⟨a2, ns2, c2, low2, neg2, nn2, rfl, r2, r3, r4, r5, r6, r7, r8⟩ := hb
  refine sub_walk a1 a2 c1 c2 ns1 ns2 low1 low2 neg1 nn1 neg2 nn2 w ⟨p2, p3, p4, p5⟩ ⟨r2, r3, r4, r5⟩ hT _ ?_ ?_
  · intro h
    refine Or.inr ⟨?_, rfl⟩
    rcases h with h | h
    · exact Or.inl (p7 h).2
    · exact Or.inr (r7 h).2
  · intro h1 h2 x hx
    refine Or.inl ⟨_, _, p8 h1, r8 h2, ?_⟩
    have e : sg neg1 * magR ns1 low1 - sg neg2 * magR ns2 low2 = sg neg1 * magR ns1 low1 + sg (!neg2) * magR ns2 low2 := by cases neg2 <;> simp [sg] <;> grind
    rw [← e] at hx; exact hx

end Go.Proofs.YtfcgndgmbmkdgaaDoor

/- Mul, Shift and Neg. -/
namespace Go.Proofs.YtfcgndgmbmkdgaaDoor
open Go.RowKit
attribute [local go_sem ↓] Go.wp_at_zero Go.wp_at_succ

theorem keep6 {w W W' : World} {p1 p2 p3 p4 p5 p6 : Addr} {x1 x2 x3 x4 x5 x6 : Value} (h : W.cell? p1 = some x1 ∧ W.cell? p2 = some x2 ∧ W.cell? p3 = some x3 ∧ W.cell? p4 = some x4 ∧ W.cell? p5 = some x5 ∧ W.cell? p6 = some x6 ∧ Below w.heap.size w W) (hb : Below W.heap.size W W') :
    W'.cell? p1 = some x1 ∧ W'.cell? p2 = some x2 ∧ W'.cell? p3 = some x3 ∧ W'.cell? p4 = some x4 ∧ W'.cell? p5 = some x5 ∧ W'.cell? p6 = some x6 ∧ Below w.heap.size w W' :=
  ⟨cell_later hb h.1, cell_later hb h.2.1, cell_later hb h.2.2.1, cell_later hb h.2.2.2.1, cell_later hb h.2.2.2.2.1, cell_later hb h.2.2.2.2.2.1, h.2.2.2.2.2.2.trans (hb.mono h.2.2.2.2.2.2.size)⟩

theorem keep6_set {w W : World} {b1 b2 : Nat} {o1 o2 o3 o4 o5 o6 : Nat} {x1 x2 x3 x4 x5 x6 : Value} (h : W.cell? ⟨b1, o1, none⟩ = some x1 ∧ W.cell? ⟨b1, o2, none⟩ = some x2 ∧ W.cell? ⟨b1, o3, none⟩ = some x3 ∧ W.cell? ⟨b2, o4, none⟩ = some x4 ∧ W.cell? ⟨b2, o5, none⟩ = some x5 ∧ W.cell? ⟨b2, o6, none⟩ = some x6 ∧ Below w.heap.size w W) (a : Addr) (v : Value) (h1 : b1 ≠ a.block) (h2 : b2 ≠ a.block) (h3 : w.heap.size ≤ a.block) :
    (W.setCell a v).cell? ⟨b1, o1, none⟩ = some x1 ∧ (W.setCell a v).cell? ⟨b1, o2, none⟩ = some x2 ∧ (W.setCell a v).cell? ⟨b1, o3, none⟩ = some x3 ∧ (W.setCell a v).cell? ⟨b2, o4, none⟩ = some x4 ∧ (W.setCell a v).cell? ⟨b2, o5, none⟩ = some x5 ∧ (W.setCell a v).cell? ⟨b2, o6, none⟩ = some x6 ∧ Below w.heap.size w (W.setCell a v) :=
  ⟨cell_other h.1 h1 v, cell_other h.2.1 h1 v, cell_other h.2.2.1 h1 v, cell_other h.2.2.2.1 h2 v, cell_other h.2.2.2.2.1 h2 v, cell_other h.2.2.2.2.2.1 h2 v, h.2.2.2.2.2.2.setCell h3 v⟩

theorem keep3_set {w W : World} {b1 : Nat} {o1 o2 o3 : Nat} {x1 x2 x3 : Value} (h : W.cell? ⟨b1, o1, none⟩ = some x1 ∧ W.cell? ⟨b1, o2, none⟩ = some x2 ∧ W.cell? ⟨b1, o3, none⟩ = some x3 ∧ Below w.heap.size w W) (a : Addr) (v : Value) (h1 : b1 ≠ a.block) (h3 : w.heap.size ≤ a.block) :
    (W.setCell a v).cell? ⟨b1, o1, none⟩ = some x1 ∧ (W.setCell a v).cell? ⟨b1, o2, none⟩ = some x2 ∧ (W.setCell a v).cell? ⟨b1, o3, none⟩ = some x3 ∧ Below w.heap.size w (W.setCell a v) :=
  ⟨cell_other h.1 h1 v, cell_other h.2.1 h1 v, cell_other h.2.2.1 h1 v, h.2.2.2.setCell h3 v⟩

set_option maxHeartbeats 1000000 in
theorem mul_none1 (a1 a2 : Option Addr) (n1 n2 c1 c2 : Nat) (low1 low2 : Int) (neg1 neg2 nn2 : Bool) (w : World) :
    Calls Tryd.prog 12 #[.agg #[.slice a1 n1 c1, .int .i64 low1, .bool neg1, .bool true], .agg #[.slice a2 n2 c2, .int .i64 low2, .bool neg2, .bool nn2]] w fun e w' => e = .returned (.agg #[.slice none 0 0, .int .i64 0, .bool false, .bool true]) ∧ Below w.heap.size w w' := by
  go_enter Tryd.func12, Tryd.ntmps12
  go_wp2
  refine bodyPost_ret (v := .agg #[.slice none 0 0, .int .i64 0, .bool false, .bool true]) (by simp [results, Tryd.results12, go_sem]) rfl ⟨rfl, ?_⟩
  exact (((Below.refl _ _).alloc (Nat.le_refl _) _).alloc (by simp) _).alloc (by simp; omega) _

set_option maxHeartbeats 1000000 in
theorem mul_none2 (a1 a2 : Option Addr) (n1 n2 c1 c2 : Nat) (low1 low2 : Int) (neg1 neg2 : Bool) (w : World) :
    Calls Tryd.prog 12 #[.agg #[.slice a1 n1 c1, .int .i64 low1, .bool neg1, .bool false], .agg #[.slice a2 n2 c2, .int .i64 low2, .bool neg2, .bool true]] w fun e w' => e = .returned (.agg #[.slice none 0 0, .int .i64 0, .bool false, .bool true]) ∧ Below w.heap.size w w' := by
  go_enter Tryd.func12, Tryd.ntmps12
  go_wp2
  refine bodyPost_ret (v := .agg #[.slice none 0 0, .int .i64 0, .bool false, .bool true]) (by simp [results, Tryd.results12, go_sem]) rfl ⟨rfl, ?_⟩
  exact (((Below.refl _ _).alloc (Nat.le_refl _) _).alloc (by simp) _).alloc (by simp; omega) _

set_option maxHeartbeats 2000000 in
theorem mul_walk (a1 a2 : Option Addr) (c1 c2 : Nat) (ns1 ns2 : List Nat) (low1 low2 : Int) (neg1 neg2 : Bool) (w : World) (m1 : IsMag w (.slice a1 ns1.length c1) ns1 low1) (m2 : IsMag w (.slice a2 ns2.length c2) ns2 low2) (hT : Tab w) :
    Calls Tryd.prog 12 #[.agg #[.slice a1 ns1.length c1, .int .i64 low1, .bool neg1, .bool false], .agg #[.slice a2 ns2.length c2, .int .i64 low2, .bool neg2, .bool false]] w fun e w' => NumR w w' (sg neg1 * magR ns1 low1 * (sg neg2 * magR ns2 low2)) e := by
  have HB0 : Hid (Below w.heap.size w (((w.alloc (.cells #[.slice a1 ns1.length c1, .int .i64 low1, .bool neg1, .bool false] 35)).alloc (.cells #[.slice a2 ns2.length c2, .int .i64 low2, .bool neg2, .bool false] 35)).alloc (.cells #[.slice none 0 0, .int .i64 0, .bool false, .bool false] 35))) := (((Below.refl _ _).alloc (Nat.le_refl _) _).alloc (by simp) _).alloc (by simp; omega) _
  have M1 : Hid (IsMag w (.slice a1 ns1.length c1) ns1 low1) := m1
  have M2 : Hid (IsMag w (.slice a2 ns2.length c2) ns2 low2) := m2
  have HT : Hid (Tab w) := hT
  have HQ : Hid (sg neg1 * magR ns1 low1 * (sg neg2 * magR ns2 low2) = sg (!(neg1 == neg2)) * (magR ns1 low1 * magR ns2 low2)) := by
    show _ = _
    cases neg1 <;> cases neg2 <;> simp [sg] <;> grind
  clear m1 m2 hT
  go_enter Tryd.func12, Tryd.ntmps12
  go_wp2
  go_region_held3 (fun W => W.cell? ⟨w.heap.size, 0, none⟩ = some (.slice a1 ns1.length c1) ∧ W.cell? ⟨w.heap.size, 1, none⟩ = some (.int .i64 low1) ∧ W.cell? ⟨w.heap.size, 2, none⟩ = some (.bool neg1) ∧ W.cell? ⟨w.heap.size + 1, 0, none⟩ = some (.slice a2 ns2.length c2) ∧ W.cell? ⟨w.heap.size + 1, 1, none⟩ = some (.int .i64 low2) ∧ W.cell? ⟨w.heap.size + 1, 2, none⟩ = some (.bool neg2) ∧ Below w.heap.size w W)
    (first
      | assumption
      | exact ⟨by go_simp, by go_simp, by go_simp, by go_simp, by go_simp, by go_simp, HB0.out.drew⟩
      | exact keep6 (by assumption) (by assumption)
      | exact keep6_set (keep6_set (keep6_set (keep6_set (by assumption) _ _ (by show w.heap.size ≠ w.heap.size + 1 + 1; omega) (by show w.heap.size + 1 ≠ w.heap.size + 1 + 1; omega) (by show w.heap.size ≤ w.heap.size + 1 + 1; omega)) _ _ (by show w.heap.size ≠ w.heap.size + 1 + 1; omega) (by show w.heap.size + 1 ≠ w.heap.size + 1 + 1; omega) (by show w.heap.size ≤ w.heap.size + 1 + 1; omega)) _ _ (by show w.heap.size ≠ w.heap.size + 1 + 1; omega) (by show w.heap.size + 1 ≠ w.heap.size + 1 + 1; omega) (by show w.heap.size ≤ w.heap.size + 1 + 1; omega)) _ _ (by show w.heap.size ≠ w.heap.size + 1 + 1; omega) (by show w.heap.size + 1 ≠ w.heap.size + 1 + 1; omega) (by show w.heap.size ≤ w.heap.size + 1 + 1; omega))
    (first
      | (go_at_call 34; refine (times_any _ _ ns1 ns2 _ _ _ (M1.out.later HB0.out.drew) (M2.out.later HB0.out.drew) (HT.out.later HB0.out.drew)).mono ?_; rintro e w5 ⟨s5, ns5, low5, rfl, hws5, ho5, hq5, hlo5, hb5⟩)
      | (go_at_call 27; refine (number_any _ ns5 _ _ _ hws5 ho5 hlo5.1 hlo5.2).mono ?_; rintro e w6 ⟨v9, x9, rfl, ⟨a9, ns9, c9, low9, neg9, nn9, rfl, hws9, hrest⟩, hN9, hb6⟩; have hB6 := thru hb5 hb6; have t0 : w6.cell? ⟨w.heap.size + 1 + 1, 0, none⟩ = some (.slice none 0 0) := cell_later hB6 (by go_simp); have t1 : w6.cell? ⟨w.heap.size + 1 + 1, 1, none⟩ = some (.int .i64 0) := cell_later hB6 (by go_simp); have t2 : w6.cell? ⟨w.heap.size + 1 + 1, 2, none⟩ = some (.bool false) := cell_later hB6 (by go_simp); have t3 : w6.cell? ⟨w.heap.size + 1 + 1, 3, none⟩ = some (.bool false) := cell_later hB6 (by go_simp); have u0 : ∀ i, w6.frozen? ⟨w.heap.size + 1 + 1, i, none⟩ = false := fun i => frozen_later hB6 (by go_simp) (by simp)))
  have hBf := (by assumption : _ ∧ _ ∧ _ ∧ _ ∧ _ ∧ _ ∧ Below w.heap.size w _).2.2.2.2.2.2
  have HBF : Hid _ := hBf
  rw [hq5, ← HQ.out] at hN9
  have HN9 : Hid _ := hN9
  clear hb5 hb6 hB6 hq5 hlo5 hws5 ho5 hN9 hBf
  have HRST : Hid _ := hrest
  clear hrest
  go_wp2
  refine bodyPost_ret (v := .agg #[.slice a9 ns9.length c9, .int .i64 low9, .bool neg9, .bool nn9]) (by simp [results, Tryd.results12, go_sem, t0, t1, t2, t3]) rfl ?_
  have hw9 := ws4 hws9 t0 t1 t2 t3 (.slice a9 ns9.length c9) (.int .i64 low9) (.bool neg9) (.bool nn9)
  refine ⟨_, x9, rfl, ⟨a9, ns9, c9, low9, neg9, nn9, rfl, hw9, HRST.out⟩, HN9.out, HBF.out⟩

/-- Mul. -/
theorem mul_any (va vb : Value) (a b : Option Rat) (w : World) (ha : IsNum w va a) (hb : IsNum w vb b) (hT : Tab w) :
    Calls Tryd.prog 12 #[va, vb] w fun e w' => OpR w w' (Op2 (fun p q => p * q) a b) e := by
  obtain ⟨a1, ns1, c1, low1, neg1, nn1, rfl, p2, p3, p4, p5, p6, p7, p8⟩ := ha
  obtain ⟨a2, ns2, c2, low2, neg2, nn2, rfl, r2, r3, r4, r5, r6, r7, r8⟩ := hb
  cases nn1 with
  | true =>
    refine (mul_none1 a1 a2 _ _ c1 c2 low1 low2 neg1 neg2 nn2 w).mono ?_
    rintro e w' ⟨rfl, hb⟩
    exact ⟨_, none, rfl, isNum_none w', Or.inr ⟨Or.inl (p7 rfl).2, rfl⟩, hb⟩
  | false =>
    cases nn2 with
    | true =>
      refine (mul_none2 a1 a2 _ _ c1 c2 low1 low2 neg1 neg2 w).mono ?_
      rintro e w' ⟨rfl, hb⟩
      exact ⟨_, none, rfl, isNum_none w', Or.inr ⟨Or.inr (r7 rfl).2, rfl⟩, hb⟩
    | false =>
      refine (mul_walk a1 a2 c1 c2 ns1 ns2 low1 low2 neg1 neg2 w ⟨p2, p3, p4, p5⟩ ⟨r2, r3, r4, r5⟩ hT).mono ?_
      rintro e w' ⟨v, x, he, hn, hN, hb⟩
      exact ⟨v, x, he, hn, Or.inl ⟨_, _, p8 rfl, r8 rfl, hN⟩, hb⟩

end Go.Proofs.YtfcgndgmbmkdgaaDoor

/- Shift: a number times a power of two. -/
namespace Go.Proofs.YtfcgndgmbmkdgaaDoor
open Go.RowKit
attribute [local go_sem ↓] Go.wp_at_zero Go.wp_at_succ

theorem may_zero : May 0 := by
  have := p2_pos 65537
  exact ⟨this, by grind, 0, by simp⟩

theorem isNum_zero (w : World) : IsNum w (.agg #[.slice none 0 0, .int .i64 0, .bool false, .bool false]) (some 0) :=
  ⟨none, [], 0, 0, false, false, rfl, ⟨⟨_, _, rfl, Nat.le_refl _, Or.inl rfl⟩, fun n hn => by simp at hn, by simp⟩, Or.inl ⟨rfl, rfl⟩, by omega, by simp [hiB], fun _ => rfl, fun h => (by cases h), fun _ => by simp [magR_nil]⟩

theorem far_not {ns : List Nat} {low k : Int} {neg : Bool} (h : OwnF ns low) (hne : ns ≠ []) (lo : -65536 ≤ low) (hi : hiB ns low ≤ 65536) (hk : k < -131072 ∨ 131072 < k) : ¬ May (sg neg * magR ns low * p2 k) := by
  have e : sg neg * magR ns low * p2 k = sg neg * magR ns (low + k) := by unfold magR; rw [p2_add]; grind
  rw [e]
  intro hm
  have ho : OwnF ns (low + k) := by
    rcases h with ⟨h, _⟩ | ⟨h, h'⟩
    · exact absurd h hne
    · exact Or.inr ⟨h, h'⟩
  have := (may_iff ho).2 (may_sg.1 hm)
  have hlh := own_low_hi h
  have e2 : hiB ns (low + k) = hiB ns low + k := by unfold hiB; rw [if_neg hne, if_neg hne]; omega
  omega

/-- What comes of a number shifted. -/
def ShiftX (k : Int) (a x : Option Rat) : Prop := (∃ p, a = some p ∧ Norm (p * p2 k) x) ∨ (a = none ∧ x = none)

end Go.Proofs.YtfcgndgmbmkdgaaDoor
