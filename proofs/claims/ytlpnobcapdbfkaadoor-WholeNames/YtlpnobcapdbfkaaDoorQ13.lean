/- Own texts, put together: Nb Nc Nd. -/
import Derived.Test.YtlpnobcapdbfkaaDoorQ12
namespace Go.Proofs.YtlpnobcapdbfkaaDoor
/- Magnitudes of numbers: sums, differences, products, and which is greater, as rationals. -/
section
open Go.RowKit
structure IsMag (w : World) (s : Value) (ns : List Nat) (low : Int) : Prop where
 ws : Ws w s ns
 own : OwnF ns low
 lo : -65536 ≤ low
 hi : hiB ns low ≤ 65536
theorem IsMag.later {w w' : World} {s : Value} {ns : List Nat} {low : Int} (h : IsMag w s ns low) (hb : Below w.heap.size w w') : IsMag w' s ns low := ⟨h.ws.later hb (Nat.le_refl _), h.own, h.lo, h.hi⟩
theorem IsMag.low_le {w : World} {s : Value} {ns : List Nat} {low : Int} (h : IsMag w s ns low) : low ≤ 65536 := by
 have := own_low_hi h.own; have := h.hi; omega
theorem IsMag.len {w : World} {s : Value} {ns : List Nat} {low : Int} (h : IsMag w s ns low) : ns.length ≤ 10000 := by
 by_cases hne : ns = []
 · subst hne; simp
 · have h1 := log2_val h.ws.small hne (own_topped h.own hne)
   have h2 := h.hi
   have h3 := h.lo
   unfold hiB at h2
   rw [if_neg hne] at h2
   omega
def MagR (w w' : World) (q : Rat) (e : Ending) : Prop := ∃ s ns low, e = .returned (.agg #[s, .int .i64 low]) ∧ Ws w' s ns ∧ OwnF ns low ∧ magR ns low = q ∧ (-200000000 ≤ low ∧ low ≤ 200000000) ∧ Below w.heap.size w w'
theorem made_magR {w w' : World} {V : Nat} {low : Int} {e : Ending} (h : Made w w' V low e) : MagR w w' ((V : Nat) * p2 low) e := by
 obtain ⟨s, ns, low', he, hw, ho, ht, hl, hb⟩ := h
 exact ⟨s, ns, low', he, hw, ho, tells_magR ht, hl, hb⟩
theorem two_at (low1 low2 : Int) : ∃ (L : Int) (k1 k2 : Nat), min low1 low2 = L ∧ low1 = L + (k1 : Nat) ∧ low2 = L + (k2 : Nat) :=
 ⟨min low1 low2, (low1 - min low1 low2).toNat, (low2 - min low1 low2).toNat, rfl, by omega, by omega⟩
theorem joined_any (fid : Nat) (f : Nat → Nat → Nat) (pre : Nat → Nat → Nat → Prop) (hop : BringOK fid f pre) (s1 s2 : Value) (ns1 ns2 : List Nat) (low1 low2 : Int) (w : World) (m1 : IsMag w s1 ns1 low1) (m2 : IsMag w s2 ns2 low2) (hT : Tab w)
   (hpre : ∀ (L : Int) (k1 k2 n : Nat), low1 = L + (k1 : Nat) → low2 = L + (k2 : Nat) → val ns1 * 2 ^ k1 < 2 ^ (64 * n - 1) → val ns2 * 2 ^ k2 < 2 ^ (64 * n - 1) → 0 < n → pre (val ns1 * 2 ^ k1) (val ns2 * 2 ^ k2) n) (q : Rat)
   (hq : ∀ (L : Int) (k1 k2 : Nat), low1 = L + (k1 : Nat) → low2 = L + (k2 : Nat) → ((f (val ns1 * 2 ^ k1) (val ns2 * 2 ^ k2) : Nat) : Rat) * p2 L = q) :
   Calls Tryd.prog 53 #[.agg #[s1, .int .i64 low1], .agg #[s2, .int .i64 low2], .func (.func fid) #[] #[]] w fun e w' => MagR w w' q e := by
 obtain ⟨a1, c1, rfl, _, _⟩ := m1.ws.shape
 obtain ⟨a2, c2, rfl, _, _⟩ := m2.ws.shape
 obtain ⟨L, k1, k2, hL, hk1, hk2⟩ := two_at low1 low2
 have i1 := own_low_hi m1.own
 have i2 := own_low_hi m2.own
 have j1 := m1.lo
 have j2 := m2.lo
 have j3 := m1.hi
 have j4 := m2.hi
 obtain ⟨d1, hd1⟩ : ∃ d : Nat, max (hiB ns1 low1) (hiB ns2 low2) + 1 = L + (d : Int) := ⟨(max (hiB ns1 low1) (hiB ns2 low2) + 1 - L).toNat, by omega⟩
 obtain ⟨d2, hd2⟩ : ∃ d : Nat, hiB ns2 low2 = L + (d : Int) := ⟨(hiB ns2 low2 - L).toNat, by omega⟩
 have hv1 : val ns1 * 2 ^ k1 < 2 ^ d1 := val_hi m1.own k1 hk1 d1 (by omega)
 have hv2 : val ns2 * 2 ^ k2 < 2 ^ d1 := val_hi m2.own k2 hk2 d1 (by omega)
 have hv3 : val ns2 * 2 ^ k2 < 2 ^ (d2 + 1) := val_hi m2.own k2 hk2 (d2 + 1) (by omega)
 have hmono : ∀ {X a b : Nat}, X < 2 ^ a → a ≤ b → X < 2 ^ b := fun h1 h2 => Nat.lt_of_lt_of_le h1 (Nat.pow_le_pow_right (by omega) h2)
 refine (joined_walk fid f pre hop a1 a2 c1 c2 ns1 ns2 low1 low2 L k1 k2 (d1 / 64) (d2 / 64) (d1 % 64) (d2 % 64) w m1.ws m2.ws hT m1.own m2.own hL hk1 hk2 (by omega) (by omega) (by omega) (by rw [hd1]; omega) (by rw [hd2]; omega) (Nat.mod_lt _ (by omega)) (Nat.mod_lt _ (by omega)) (by omega) (by omega) ?_ (hmono hv1 (by omega)) (hmono hv3 (by omega))).mono ?_
 · exact hpre L k1 k2 _ hk1 hk2 (hmono hv1 (by omega)) (hmono hv2 (by omega)) (by omega)
 · intro e w' h
   have := made_magR h
   rwa [hq L k1 k2 hk1 hk2] at this
theorem pow_half {a b n : Nat} (h1 : a < 2 ^ (64 * n - 1)) (h2 : b < 2 ^ (64 * n - 1)) (hn : 0 < n) : a + b < 2 ^ (64 * n) := by
 rw [show 64 * n = 64 * n - 1 + 1 by omega, Nat.pow_succ]; omega
theorem joined_add (s1 s2 : Value) (ns1 ns2 : List Nat) (low1 low2 : Int) (w : World) (m1 : IsMag w s1 ns1 low1) (m2 : IsMag w s2 ns2 low2) (hT : Tab w) :
   Calls Tryd.prog 53 #[.agg #[s1, .int .i64 low1], .agg #[s2, .int .i64 low2], .func (.func 54) #[] #[]] w fun e w' => MagR w w' (magR ns1 low1 + magR ns2 low2) e := by
 refine joined_any _ _ _ add_bring s1 s2 ns1 ns2 low1 low2 w m1 m2 hT (fun L k1 k2 n _ _ h1 h2 h3 => pow_half h1 h2 h3) _ ?_
 intro L k1 k2 h1 h2
 rw [magR_at ns1 low1 L k1 h1, magR_at ns2 low2 L k2 h2, Rat.natCast_add]; grind
theorem joined_sub (s1 s2 : Value) (ns1 ns2 : List Nat) (low1 low2 : Int) (w : World) (m1 : IsMag w s1 ns1 low1) (m2 : IsMag w s2 ns2 low2) (hT : Tab w) (hle : magR ns2 low2 ≤ magR ns1 low1) :
   Calls Tryd.prog 53 #[.agg #[s1, .int .i64 low1], .agg #[s2, .int .i64 low2], .func (.func 55) #[] #[]] w fun e w' => MagR w w' (magR ns1 low1 - magR ns2 low2) e := by
 have key : ∀ (L : Int) (k1 k2 : Nat), low1 = L + (k1 : Nat) → low2 = L + (k2 : Nat) → val ns2 * 2 ^ k2 ≤ val ns1 * 2 ^ k1 := by
   intro L k1 k2 h1 h2
   rw [magR_at ns1 low1 L k1 h1, magR_at ns2 low2 L k2 h2] at hle
   exact Rat.natCast_le_natCast.1 (Rat.le_of_mul_le_mul_right hle (p2_pos L))
 refine joined_any _ _ _ sub_bring s1 s2 ns1 ns2 low1 low2 w m1 m2 hT (fun L k1 k2 n h1 h2 _ _ _ => key L k1 k2 h1 h2) _ ?_
 intro L k1 k2 h1 h2
 have h3 := key L k1 k2 h1 h2
 have e1 : ((val ns1 * 2 ^ k1 - val ns2 * 2 ^ k2 : Nat) : Rat) = ((val ns1 * 2 ^ k1 : Nat) : Rat) - ((val ns2 * 2 ^ k2 : Nat) : Rat) := by
   have := Rat.natCast_add (val ns1 * 2 ^ k1 - val ns2 * 2 ^ k2) (val ns2 * 2 ^ k2)
   rw [Nat.sub_add_cancel h3] at this
   grind
 rw [magR_at ns1 low1 L k1 h1, magR_at ns2 low2 L k2 h2, e1]; grind
theorem times_any (s1 s2 : Value) (ns1 ns2 : List Nat) (low1 low2 : Int) (w : World) (m1 : IsMag w s1 ns1 low1) (m2 : IsMag w s2 ns2 low2) (hT : Tab w) :
   Calls Tryd.prog 29 #[.agg #[s1, .int .i64 low1], .agg #[s2, .int .i64 low2]] w fun e w' => MagR w w' (magR ns1 low1 * magR ns2 low2) e := by
 have l1 := m1.len
 have l2 := m2.len
 have i1 := m1.low_le
 have i2 := m2.low_le
 have j1 := m1.lo
 have j2 := m2.lo
 obtain ⟨a1, c1, rfl, _, _⟩ := m1.ws.shape
 obtain ⟨a2, c2, rfl, _, _⟩ := m2.ws.shape
 refine (times_walk a1 a2 c1 c2 ns1 ns2 low1 low2 w m1.ws m2.ws hT l1 l2 (by omega) (by omega) (by omega) (by omega)).mono ?_
 intro e w' h
 have := made_magR h
 have e1 : ((val ns1 * val ns2 : Nat) : Rat) * p2 (low1 + low2) = magR ns1 low1 * magR ns2 low2 := by
   rw [Rat.natCast_mul, p2_add]; unfold magR; grind
 rwa [e1] at this
def cmpR (p q : Rat) : Int := if p < q then -1 else if q < p then 1 else 0
theorem cmp_nat (A C : Nat) (L : Int) : cmpI (A : Int) (C : Int) = cmpR ((A : Nat) * p2 L) ((C : Nat) * p2 L) := by
 have hp := p2_pos L
 unfold cmpI cmpR
 have e1 : ((A : Nat) : Rat) * p2 L < (C : Nat) * p2 L ↔ (A : Int) < (C : Int) := by
   rw [Rat.mul_lt_mul_right hp, Rat.natCast_lt_natCast]; omega
 have e2 : ((C : Nat) : Rat) * p2 L < (A : Nat) * p2 L ↔ (C : Int) < (A : Int) := by
   rw [Rat.mul_lt_mul_right hp, Rat.natCast_lt_natCast]; omega
 simp only [e1, e2]
theorem magR_pos {ns : List Nat} {low : Int} (h : OwnF ns low) (hne : ns ≠ []) : 0 < magR ns low := by
 have := (own_lo h hne).1
 have := p2_pos (hiB ns low)
 grind
theorem against_any (s1 s2 : Value) (ns1 ns2 : List Nat) (low1 low2 : Int) (w : World) (m1 : IsMag w s1 ns1 low1) (m2 : IsMag w s2 ns2 low2) :
   Calls Tryd.prog 28 #[.agg #[s1, .int .i64 low1], .agg #[s2, .int .i64 low2]] w fun e w' => e = .returned (.int .i64 (cmpR (magR ns1 low1) (magR ns2 low2))) ∧ Below w.heap.size w w' := by
 obtain ⟨a1, c1, rfl, _, _⟩ := m1.ws.shape
 obtain ⟨a2, c2, rfl, _, _⟩ := m2.ws.shape
 by_cases n1 : ns1 = []
 · subst n1
   have e1 : cmpR (magR [] low1) (magR ns2 low2) = cmpI 0 ns2.length := by
     rw [magR_nil]
     by_cases n2 : ns2 = []
     · subst n2; rw [magR_nil]; simp [cmpR, cmpI]
     · have h1 := magR_pos m2.own n2
       have h2 := List.length_pos_iff.2 n2
       unfold cmpR cmpI
       rw [if_pos h1, if_pos (by omega)]
   rw [e1]
   exact against_zero1 a1 a2 c1 c2 ns2.length low1 low2 w
 · by_cases n2 : ns2 = []
   · subst n2
     have h2 := List.length_pos_iff.2 n1
     have e1 : cmpR (magR ns1 low1) (magR [] low2) = cmpI ns1.length 0 := by
       rw [magR_nil]
       have h1 := magR_pos m1.own n1
       unfold cmpR cmpI
       rw [if_neg (by grind), if_pos h1, if_neg (by omega), if_pos (by omega)]
     rw [e1]
     exact against_zero2 a1 a2 c1 c2 ns1.length low1 low2 w (by rw [beq_eq_false_iff_ne]; omega)
   · obtain ⟨L, k1, k2, hL, hk1, hk2⟩ := two_at low1 low2
     have i1 := own_low_hi m1.own
     have j1 := m1.lo
     have j2 := m2.lo
     have j3 := m1.hi
     have i3 := m1.low_le
     have i4 := m2.low_le
     obtain ⟨E, hE⟩ : ∃ E : Nat, hiB ns1 low1 + 1 = L + (E : Int) := ⟨(hiB ns1 low1 + 1 - L).toNat, by omega⟩
     have := against_walk a1 a2 c1 c2 ns1 ns2 low1 low2 L k1 k2 E _ _ w rfl rfl m1.ws m2.ws m1.own m2.own n1 n2 hL hk1 hk2 (by omega) (by omega) (by omega) hE (by omega)
     rw [cmp_nat _ _ L, ← magR_at ns1 low1 L k1 hk1, ← magR_at ns2 low2 L k2 hk2] at this
     exact this
end

/- The walks of plus and minus, and of the small calls on numbers. -/
section
open Go.RowKit
attribute [local go_sem ↓] Go.wp_at_zero Go.wp_at_succ
set_option maxHeartbeats 1000000 in
theorem plus_any (s1 s2 : Value) (ns1 ns2 : List Nat) (low1 low2 : Int) (w : World) (m1 : IsMag w s1 ns1 low1) (m2 : IsMag w s2 ns2 low2) (hT : Tab w) :
   Calls Tryd.prog 41 #[.agg #[s1, .int .i64 low1], .agg #[s2, .int .i64 low2]] w fun e w' => MagR w w' (magR ns1 low1 + magR ns2 low2) e := by
 have M1 : Hid (IsMag w s1 ns1 low1) := m1
 have M2 : Hid (IsMag w s2 ns2 low2) := m2
 have HT : Hid (Tab w) := hT
 obtain ⟨a1, c1, rfl, _, _⟩ := m1.ws.shape
 obtain ⟨a2, c2, rfl, _, _⟩ := m2.ws.shape
 have HB0 : Hid (Below w.heap.size w (((w.alloc (.cells #[.slice a1 ns1.length c1, .int .i64 low1] 25)).alloc (.cells #[.slice a2 ns2.length c2, .int .i64 low2] 25)).alloc (.cells #[.slice none 0 0, .int .i64 0] 25))) := (((Below.refl _ _).alloc (Nat.le_refl _) _).alloc (by simp) _).alloc (by simp; omega) _
 clear m1 m2 hT
 go_enter Tryd.func41, Tryd.ntmps41
 go_wp2_with fail
 refine (joined_add _ _ ns1 ns2 _ _ _ (M1.out.later HB0.out) (M2.out.later HB0.out) (HT.out.later HB0.out)).mono ?_
 rintro e w5 ⟨s5, ns5, low5, rfl, hws5, ho5, hq5, hlo5, hb5⟩
 obtain ⟨a5, c5, rfl, hc5, hx5⟩ := hws5.shape
 have p0 : w5.cell? ⟨w.heap.size + 1 + 1, 0, none⟩ = some (.slice none 0 0) := cell_later hb5 (by go_simp)
 have p1 : w5.cell? ⟨w.heap.size + 1 + 1, 1, none⟩ = some (.int .i64 0) := cell_later hb5 (by go_simp)
 have p2' : w5.frozen? ⟨w.heap.size + 1 + 1, 0, none⟩ = false := frozen_later hb5 (by go_simp) (by simp)
 have p3 : w5.frozen? ⟨w.heap.size + 1 + 1, 1, none⟩ = false := frozen_later hb5 (by go_simp) (by simp)
 have HQ : Hid (magR ns5 low5 = magR ns1 low1 + magR ns2 low2) := hq5
 have HLO5 : Hid (-200000000 ≤ low5 ∧ low5 ≤ 200000000) := hlo5
 clear hx5 hlo5 hq5
 go_wp2
 refine bodyPost_ret (v := .agg #[.slice a5 ns5.length c5, .int .i64 low5]) (by simp [results, Tryd.results41, go_sem, p0, p1]) rfl ?_
 have hws6 := (hws5.set p0 (by intro n; simp) (.slice a5 ns5.length c5)).set (cell_ne p1 p0 (by simp) (.slice a5 ns5.length c5)) (by intro n; simp) (.int .i64 low5)
 refine ⟨_, ns5, low5, rfl, hws6, ho5, HQ.out, HLO5.out, ?_⟩
 exact ((thru HB0.out hb5).setCell (by simp; omega) _).setCell (by simp; omega) _
set_option maxHeartbeats 1000000 in
theorem minus_any (s1 s2 : Value) (ns1 ns2 : List Nat) (low1 low2 : Int) (w : World) (m1 : IsMag w s1 ns1 low1) (m2 : IsMag w s2 ns2 low2) (hT : Tab w) (hle : magR ns2 low2 ≤ magR ns1 low1) :
   Calls Tryd.prog 42 #[.agg #[s1, .int .i64 low1], .agg #[s2, .int .i64 low2]] w fun e w' => MagR w w' (magR ns1 low1 - magR ns2 low2) e := by
 have M1 : Hid (IsMag w s1 ns1 low1) := m1
 have M2 : Hid (IsMag w s2 ns2 low2) := m2
 have HT : Hid (Tab w) := hT
 obtain ⟨a1, c1, rfl, _, _⟩ := m1.ws.shape
 obtain ⟨a2, c2, rfl, _, _⟩ := m2.ws.shape
 have HB0 : Hid (Below w.heap.size w (((w.alloc (.cells #[.slice a1 ns1.length c1, .int .i64 low1] 25)).alloc (.cells #[.slice a2 ns2.length c2, .int .i64 low2] 25)).alloc (.cells #[.slice none 0 0, .int .i64 0] 25))) := (((Below.refl _ _).alloc (Nat.le_refl _) _).alloc (by simp) _).alloc (by simp; omega) _
 clear m1 m2 hT
 go_enter Tryd.func42, Tryd.ntmps42
 go_wp2_with fail
 refine (joined_sub _ _ ns1 ns2 _ _ _ (M1.out.later HB0.out) (M2.out.later HB0.out) (HT.out.later HB0.out) hle).mono ?_
 rintro e w5 ⟨s5, ns5, low5, rfl, hws5, ho5, hq5, hlo5, hb5⟩
 obtain ⟨a5, c5, rfl, hc5, hx5⟩ := hws5.shape
 have p0 : w5.cell? ⟨w.heap.size + 1 + 1, 0, none⟩ = some (.slice none 0 0) := cell_later hb5 (by go_simp)
 have p1 : w5.cell? ⟨w.heap.size + 1 + 1, 1, none⟩ = some (.int .i64 0) := cell_later hb5 (by go_simp)
 have p2' : w5.frozen? ⟨w.heap.size + 1 + 1, 0, none⟩ = false := frozen_later hb5 (by go_simp) (by simp)
 have p3 : w5.frozen? ⟨w.heap.size + 1 + 1, 1, none⟩ = false := frozen_later hb5 (by go_simp) (by simp)
 have HQ : Hid (magR ns5 low5 = magR ns1 low1 - magR ns2 low2) := hq5
 have HLO5 : Hid (-200000000 ≤ low5 ∧ low5 ≤ 200000000) := hlo5
 clear hx5 hlo5 hq5
 go_wp2
 refine bodyPost_ret (v := .agg #[.slice a5 ns5.length c5, .int .i64 low5]) (by simp [results, Tryd.results42, go_sem, p0, p1]) rfl ?_
 have hws6 := (hws5.set p0 (by intro n; simp) (.slice a5 ns5.length c5)).set (cell_ne p1 p0 (by simp) (.slice a5 ns5.length c5)) (by intro n; simp) (.int .i64 low5)
 refine ⟨_, ns5, low5, rfl, hws6, ho5, HQ.out, HLO5.out, ?_⟩
 exact ((thru HB0.out hb5).setCell (by simp; omega) _).setCell (by simp; omega) _
def sgnR (q : Rat) : Int := cmpR q 0
set_option maxHeartbeats 400000 in
theorem ok_walk (a : Option Addr) (n c : Nat) (low : Int) (neg nn : Bool) (w : World) :
   Calls Tryd.prog 7 #[.agg #[.slice a n c, .int .i64 low, .bool neg, .bool nn]] w fun e w' => e = .returned (.bool (!nn)) ∧ Below w.heap.size w w' := by
 go_enter Tryd.func7, Tryd.ntmps7
 go_wp2
 go_ret
 exact ⟨rfl, (Below.refl _ _).alloc (Nat.le_refl _) _⟩
theorem ok_any (v : Value) (x : Option Rat) (w : World) (h : IsNum w v x) :
   Calls Tryd.prog 7 #[v] w fun e w' => e = .returned (.bool x.isSome) ∧ Below w.heap.size w w' := by
 obtain ⟨a, ns, c, low, neg, nn, rfl, h2, h3, h4, h5, h6, h7, h8⟩ := h
 have e : x.isSome = !nn := by
   cases nn
   · rw [h8 rfl]; rfl
   · rw [(h7 rfl).2]; rfl
 rw [e]
 exact ok_walk a _ c low neg nn w
set_option maxHeartbeats 400000 in
theorem sign_walk (a : Option Addr) (n c : Nat) (low : Int) (neg nn : Bool) (w : World) :
   Calls Tryd.prog 8 #[.agg #[.slice a n c, .int .i64 low, .bool neg, .bool nn]] w fun e w' => e = .returned (.int .i64 (if n = 0 then 0 else if neg then -1 else 1)) ∧ Below w.heap.size w w' := by
 have HB0 : Hid (Below w.heap.size w (w.alloc (.cells #[.slice a n c, .int .i64 low, .bool neg, .bool nn] 27))) := (Below.refl _ _).alloc (Nat.le_refl _) _
 go_enter Tryd.func8, Tryd.ntmps8
 go_wp2_with fail
 refine (isZero_any _ _ _ _ _).mono ?_
 rintro e w1 ⟨rfl, hb1⟩
 have x2 : w1.cell? ⟨w.heap.size, 2, none⟩ = some (.bool neg) := cell_later hb1 (by go_simp)
 have HB1 : Hid (Below w.heap.size w w1) := thru HB0.out hb1
 clear hb1
 by_cases hn : n = 0
 · subst hn
   go_wp2
   go_ret
   exact ⟨rfl, HB1.out⟩
 · have hz : ((n : Int) == 0) = false := by rw [beq_eq_false_iff_ne]; omega
   cases neg with
   | true =>
     go_wp2
     go_ret
     exact ⟨ret_int (by simp), HB1.out⟩
   | false =>
     go_wp2
     go_ret
     exact ⟨ret_int (by simp), HB1.out⟩
theorem sgn_num {ns : List Nat} {low : Int} {neg : Bool} (o : OwnF ns low) : (if ns.length = 0 then (0 : Int) else if neg then -1 else 1) = sgnR (sg neg * magR ns low) := by
 by_cases hne : ns = []
 · subst hne; rw [magR_nil]; simp [sgnR, cmpR]
 · have h1 := magR_pos o hne
   have h2 := List.length_pos_iff.2 hne
   rw [if_neg (by omega)]
   unfold sgnR cmpR sg
   cases neg
   · simp only [Bool.false_eq_true, if_false]
     rw [if_neg (by grind), if_pos (by grind)]
   · simp only [if_true]
     rw [if_pos (by grind)]
theorem sign_any (v : Value) (x : Option Rat) (w : World) (h : IsNum w v x) :
   Calls Tryd.prog 8 #[v] w fun e w' => e = .returned (.int .i64 (sgnR (x.getD 0))) ∧ Below w.heap.size w w' := by
 obtain ⟨a, ns, c, low, neg, nn, rfl, h2, h3, h4, h5, h6, h7, h8⟩ := h
 have e : (if ns.length = 0 then (0 : Int) else if neg then -1 else 1) = sgnR (x.getD 0) := by
   cases nn
   · rw [h8 rfl]; exact sgn_num h3
   · obtain ⟨h9, h10⟩ := h7 rfl
     rw [h10, h9]; simp [sgnR, cmpR]
 rw [← e]
 exact sign_walk a _ c low neg nn w
end

/- The walk of sum: two numbers added, the second one with the sign that is handed. -/
section
open Go.RowKit
attribute [local go_sem ↓] Go.wp_at_zero Go.wp_at_succ
theorem ws4 {W : World} {s : Value} {ns : List Nat} {r : Nat} (h : Ws W s ns) (t0 : W.cell? ⟨r, 0, none⟩ = some (.slice none 0 0)) (t1 : W.cell? ⟨r, 1, none⟩ = some (.int .i64 0)) (t2 : W.cell? ⟨r, 2, none⟩ = some (.bool false)) (t3 : W.cell? ⟨r, 3, none⟩ = some (.bool false)) (v0 v1 v2 v3 : Value) :
   Ws ((((W.setCell ⟨r, 0, none⟩ v0).setCell ⟨r, 1, none⟩ v1).setCell ⟨r, 2, none⟩ v2).setCell ⟨r, 3, none⟩ v3) s ns := by
 have o : ∀ (W : World) (i j : Nat) (x : Value) (v : Value), i ≠ j → W.cell? ⟨r, i, none⟩ = some x → (W.setCell ⟨r, j, none⟩ v).cell? ⟨r, i, none⟩ = some x := fun W i j x v hij hx => by
   rw [World.cell?_setCell_other W _ _ v (by intro e; cases e; exact hij rfl)]; exact hx
 have a1 := h.set t0 (by intro n; simp) v0
 have a2 := a1.set (o _ 1 0 _ v0 (by omega) t1) (by intro n; simp) v1
 have a3 := a2.set (o _ 2 1 _ v1 (by omega) (o _ 2 0 _ v0 (by omega) t2)) (by intro n; simp) v2
 exact a3.set (o _ 3 2 _ v2 (by omega) (o _ 3 1 _ v1 (by omega) (o _ 3 0 _ v0 (by omega) t3))) (by intro n; simp) v3
theorem keep5 {w W W' : World} {p1 p2 p3 p4 p5 : Addr} {x1 x2 x3 x4 x5 : Value} (h : W.cell? p1 = some x1 ∧ W.cell? p2 = some x2 ∧ W.cell? p3 = some x3 ∧ W.cell? p4 = some x4 ∧ W.cell? p5 = some x5 ∧ Below w.heap.size w W) (hb : Below W.heap.size W W') :
   W'.cell? p1 = some x1 ∧ W'.cell? p2 = some x2 ∧ W'.cell? p3 = some x3 ∧ W'.cell? p4 = some x4 ∧ W'.cell? p5 = some x5 ∧ Below w.heap.size w W' :=
 ⟨cell_later hb h.1, cell_later hb h.2.1, cell_later hb h.2.2.1, cell_later hb h.2.2.2.1, cell_later hb h.2.2.2.2.1, h.2.2.2.2.2.trans (hb.mono h.2.2.2.2.2.size)⟩
theorem keep5_set {w W : World} {b1 b2 : Nat} {o1 o2 o3 o4 o5 : Nat} {x1 x2 x3 x4 x5 : Value} (h : W.cell? ⟨b1, o1, none⟩ = some x1 ∧ W.cell? ⟨b1, o2, none⟩ = some x2 ∧ W.cell? ⟨b1, o3, none⟩ = some x3 ∧ W.cell? ⟨b2, o4, none⟩ = some x4 ∧ W.cell? ⟨b2, o5, none⟩ = some x5 ∧ Below w.heap.size w W) (a : Addr) (v : Value) (h1 : b1 ≠ a.block) (h2 : b2 ≠ a.block) (h3 : w.heap.size ≤ a.block) :
   (W.setCell a v).cell? ⟨b1, o1, none⟩ = some x1 ∧ (W.setCell a v).cell? ⟨b1, o2, none⟩ = some x2 ∧ (W.setCell a v).cell? ⟨b1, o3, none⟩ = some x3 ∧ (W.setCell a v).cell? ⟨b2, o4, none⟩ = some x4 ∧ (W.setCell a v).cell? ⟨b2, o5, none⟩ = some x5 ∧ Below w.heap.size w (W.setCell a v) :=
 ⟨cell_other h.1 h1 v, cell_other h.2.1 h1 v, cell_other h.2.2.1 h1 v, cell_other h.2.2.2.1 h2 v, cell_other h.2.2.2.2.1 h2 v, h.2.2.2.2.2.setCell h3 v⟩
set_option maxHeartbeats 1000000 in
theorem sum_none1 (a1 a2 : Option Addr) (n1 n2 c1 c2 : Nat) (low1 low2 : Int) (neg1 neg2 nn2 neg : Bool) (w : World) :
   Calls Tryd.prog 26 #[.agg #[.slice a1 n1 c1, .int .i64 low1, .bool neg1, .bool true], .agg #[.slice a2 n2 c2, .int .i64 low2, .bool neg2, .bool nn2], .bool neg] w fun e w' => e = .returned (.agg #[.slice none 0 0, .int .i64 0, .bool false, .bool true]) ∧ Below w.heap.size w w' := by
 have HB0 : Hid (Below w.heap.size w (((w.alloc (.cells #[.slice a1 n1 c1, .int .i64 low1, .bool neg1, .bool true] 27)).alloc (.cells #[.slice a2 n2 c2, .int .i64 low2, .bool neg2, .bool nn2] 27)).alloc (.cells #[.slice none 0 0, .int .i64 0, .bool false, .bool false] 27))) := (((Below.refl _ _).alloc (Nat.le_refl _) _).alloc (by simp) _).alloc (by simp; omega) _
 go_enter Tryd.func26, Tryd.ntmps26
 go_wp2
 refine bodyPost_ret (v := .agg #[.slice none 0 0, .int .i64 0, .bool false, .bool true]) (by simp [results, Tryd.results26, go_sem]) rfl ⟨rfl, ?_⟩
 exact (((Below.refl _ _).alloc (Nat.le_refl _) _).alloc (by simp) _).alloc (by simp; omega) _
set_option maxHeartbeats 1000000 in
theorem sum_none2 (a1 a2 : Option Addr) (n1 n2 c1 c2 : Nat) (low1 low2 : Int) (neg1 neg2 neg : Bool) (w : World) :
   Calls Tryd.prog 26 #[.agg #[.slice a1 n1 c1, .int .i64 low1, .bool neg1, .bool false], .agg #[.slice a2 n2 c2, .int .i64 low2, .bool neg2, .bool true], .bool neg] w fun e w' => e = .returned (.agg #[.slice none 0 0, .int .i64 0, .bool false, .bool true]) ∧ Below w.heap.size w w' := by
 have HB0 : Hid (Below w.heap.size w (((w.alloc (.cells #[.slice a1 n1 c1, .int .i64 low1, .bool neg1, .bool false] 27)).alloc (.cells #[.slice a2 n2 c2, .int .i64 low2, .bool neg2, .bool true] 27)).alloc (.cells #[.slice none 0 0, .int .i64 0, .bool false, .bool false] 27))) := (((Below.refl _ _).alloc (Nat.le_refl _) _).alloc (by simp) _).alloc (by simp; omega) _
 go_enter Tryd.func26, Tryd.ntmps26
 go_wp2
 refine bodyPost_ret (v := .agg #[.slice none 0 0, .int .i64 0, .bool false, .bool true]) (by simp [results, Tryd.results26, go_sem]) rfl ⟨rfl, ?_⟩
 exact (((Below.refl _ _).alloc (Nat.le_refl _) _).alloc (by simp) _).alloc (by simp; omega) _
set_option maxHeartbeats 2000000 in
theorem sum_walk (a1 a2 : Option Addr) (c1 c2 : Nat) (ns1 ns2 : List Nat) (low1 low2 : Int) (neg1 neg2 neg : Bool) (w : World) (m1 : IsMag w (.slice a1 ns1.length c1) ns1 low1) (m2 : IsMag w (.slice a2 ns2.length c2) ns2 low2) (hT : Tab w) :
   Calls Tryd.prog 26 #[.agg #[.slice a1 ns1.length c1, .int .i64 low1, .bool neg1, .bool false], .agg #[.slice a2 ns2.length c2, .int .i64 low2, .bool neg2, .bool false], .bool neg] w fun e w' => NumR w w' (sg neg1 * magR ns1 low1 + sg neg * magR ns2 low2) e := by
 have HB0 : Hid (Below w.heap.size w (((w.alloc (.cells #[.slice a1 ns1.length c1, .int .i64 low1, .bool neg1, .bool false] 27)).alloc (.cells #[.slice a2 ns2.length c2, .int .i64 low2, .bool neg2, .bool false] 27)).alloc (.cells #[.slice none 0 0, .int .i64 0, .bool false, .bool false] 27))) := (((Below.refl _ _).alloc (Nat.le_refl _) _).alloc (by simp) _).alloc (by simp; omega) _
 have M1 : Hid (IsMag w (.slice a1 ns1.length c1) ns1 low1) := m1
 have M2 : Hid (IsMag w (.slice a2 ns2.length c2) ns2 low2) := m2
 have HT : Hid (Tab w) := hT
 clear m1 m2 hT
 by_cases hs : neg1 = neg
 · subst hs
   have hsb : (neg1 == neg1) = true := by simp
   have HQ : Hid (sg neg1 * magR ns1 low1 + sg neg1 * magR ns2 low2 = sg neg1 * (magR ns1 low1 + magR ns2 low2)) := by rw [Rat.mul_add]; exact rfl
   go_enter Tryd.func26, Tryd.ntmps26
   go_wp2_with fail
   refine (plus_any _ _ ns1 ns2 _ _ _ (M1.out.later HB0.out) (M2.out.later HB0.out) (HT.out.later HB0.out)).mono ?_
   rintro e w5 ⟨s5, ns5, low5, rfl, hws5, ho5, hq5, hlo5, hb5⟩
   go_wp2_with fail
   refine (number_any _ ns5 _ _ _ hws5 ho5 hlo5.1 hlo5.2).mono ?_
   rintro e w6 ⟨v9, x9, rfl, ⟨a9, ns9, c9, low9, neg9, nn9, rfl, hws9, hrest⟩, hN9, hb6⟩
   have hB6 := thru hb5 hb6
   have t0 : w6.cell? ⟨w.heap.size + 1 + 1, 0, none⟩ = some (.slice none 0 0) := cell_later hB6 (by go_simp)
   have t1 : w6.cell? ⟨w.heap.size + 1 + 1, 1, none⟩ = some (.int .i64 0) := cell_later hB6 (by go_simp)
   have t2 : w6.cell? ⟨w.heap.size + 1 + 1, 2, none⟩ = some (.bool false) := cell_later hB6 (by go_simp)
   have t3 : w6.cell? ⟨w.heap.size + 1 + 1, 3, none⟩ = some (.bool false) := cell_later hB6 (by go_simp)
   have u0 : ∀ i, w6.frozen? ⟨w.heap.size + 1 + 1, i, none⟩ = false := fun i => frozen_later hB6 (by go_simp) (by simp)
   have HB6 : Hid (Below w.heap.size w w6) := thru HB0.out hB6
   rw [hq5, ← HQ.out] at hN9
   have HN9 : Hid _ := hN9
   clear hb5 hb6 hB6 hq5 hlo5 hws5 ho5 hN9 HB0
   have HRST : Hid _ := hrest
   clear hrest
   go_wp2
   refine bodyPost_ret (v := .agg #[.slice a9 ns9.length c9, .int .i64 low9, .bool neg9, .bool nn9]) (by simp [results, Tryd.results26, go_sem, t0, t1, t2, t3]) rfl ?_
   have hw9 := ws4 hws9 t0 t1 t2 t3 (.slice a9 ns9.length c9) (.int .i64 low9) (.bool neg9) (.bool nn9)
   refine ⟨_, x9, rfl, ⟨a9, ns9, c9, low9, neg9, nn9, rfl, hw9, HRST.out⟩, HN9.out, ?_⟩
   repeat (first | exact HB6.out | refine Below.drew ?_ | refine Below.setCell ?_ (by simp; omega) _)
 · have hsb : (neg1 == neg) = false := by simpa using hs
   have hsg : sg neg1 = -sg neg := by
     revert hs; cases neg1 <;> cases neg <;> simp [sg]
   go_enter Tryd.func26, Tryd.ntmps26
   go_wp2_with fail
   refine (against_any _ _ ns1 ns2 _ _ _ (M1.out.later HB0.out) (M2.out.later HB0.out)).mono ?_
   rintro e w4 ⟨rfl, hb4⟩
   have x0 : w4.cell? ⟨w.heap.size, 0, none⟩ = some (.slice a1 ns1.length c1) := cell_later hb4 (by go_simp)
   have x1 : w4.cell? ⟨w.heap.size, 1, none⟩ = some (.int .i64 low1) := cell_later hb4 (by go_simp)
   have x2 : w4.cell? ⟨w.heap.size, 2, none⟩ = some (.bool neg1) := cell_later hb4 (by go_simp)
   have y0 : w4.cell? ⟨w.heap.size + 1, 0, none⟩ = some (.slice a2 ns2.length c2) := cell_later hb4 (by go_simp)
   have y1 : w4.cell? ⟨w.heap.size + 1, 1, none⟩ = some (.int .i64 low2) := cell_later hb4 (by go_simp)
   have k0 : w4.cell? ⟨w.heap.size + 1 + 1, 0, none⟩ = some (.slice none 0 0) := cell_later hb4 (by go_simp)
   have k1 : w4.cell? ⟨w.heap.size + 1 + 1, 1, none⟩ = some (.int .i64 0) := cell_later hb4 (by go_simp)
   have k2 : w4.cell? ⟨w.heap.size + 1 + 1, 2, none⟩ = some (.bool false) := cell_later hb4 (by go_simp)
   have k3 : w4.cell? ⟨w.heap.size + 1 + 1, 3, none⟩ = some (.bool false) := cell_later hb4 (by go_simp)
   have u4 : ∀ i, w4.frozen? ⟨w.heap.size + 1 + 1, i, none⟩ = false := fun i => frozen_later hb4 (by go_simp) (by simp)
   have hsz4 : w.heap.size + 1 + 1 < w4.heap.size := by have := hb4.size; simp at this; omega
   have HB4 : Hid (Below w.heap.size w w4) := thru HB0.out hb4
   clear hb4 HB0
   by_cases hlt : magR ns1 low1 < magR ns2 low2
   · have hc : decide (cmpR (magR ns1 low1) (magR ns2 low2) < 0) = true := by unfold cmpR; rw [if_pos hlt]; decide
     have hc' : cmpR (magR ns1 low1) (magR ns2 low2) < 0 := by unfold cmpR; rw [if_pos hlt]; decide
     have HQ : Hid (sg neg1 * magR ns1 low1 + sg neg * magR ns2 low2 = sg neg * (magR ns2 low2 - magR ns1 low1)) := by rw [hsg]; show _ = _; grind
     have HLE : Hid (magR ns1 low1 ≤ magR ns2 low2) := Rat.le_of_lt hlt
     clear hsg hlt
     generalize cmpR (magR ns1 low1) (magR ns2 low2) = cc at *
     go_wp2_with fail
     refine (minus_any _ _ ns2 ns1 _ _ _ (M2.out.later HB4.out) (M1.out.later HB4.out) (HT.out.later HB4.out) HLE.out).mono ?_
     rintro e w5 ⟨s5, ns5, low5, rfl, hws5, ho5, hq5, hlo5, hb5⟩
     go_wp2_with fail
     refine (number_any _ ns5 _ _ _ hws5 ho5 hlo5.1 hlo5.2).mono ?_
     rintro e w6 ⟨v9, x9, rfl, ⟨a9, ns9, c9, low9, neg9, nn9, rfl, hws9, hrest⟩, hN9, hb6⟩
     have hB6 := thru hb5 hb6
     have t0 := cell_later hB6 k0
     have t1 := cell_later hB6 k1
     have t2 := cell_later hB6 k2
     have t3 := cell_later hB6 k3
     have u0 : ∀ i, w6.frozen? ⟨w.heap.size + 1 + 1, i, none⟩ = false := fun i => frozen_later hB6 (u4 i) hsz4
     have HB6 : Hid (Below w.heap.size w w6) := thru HB4.out hB6
     rw [hq5, ← HQ.out] at hN9
     have HN9 : Hid _ := hN9
     clear hb5 hb6 hB6 hq5 hlo5 hws5 ho5 hN9
     have HRST : Hid _ := hrest
     clear hrest
     go_wp2
     refine bodyPost_ret (v := .agg #[.slice a9 ns9.length c9, .int .i64 low9, .bool neg9, .bool nn9]) (by simp [results, Tryd.results26, go_sem, t0, t1, t2, t3]) rfl ?_
     have hw9 := ws4 hws9 t0 t1 t2 t3 (.slice a9 ns9.length c9) (.int .i64 low9) (.bool neg9) (.bool nn9)
     refine ⟨_, x9, rfl, ⟨a9, ns9, c9, low9, neg9, nn9, rfl, hw9, HRST.out⟩, HN9.out, ?_⟩
     repeat (first | exact HB6.out | refine Below.drew ?_ | refine Below.setCell ?_ (by simp; omega) _)
   · have hc' : ¬ cmpR (magR ns1 low1) (magR ns2 low2) < 0 := by unfold cmpR; rw [if_neg hlt]; split <;> decide
     have HQ : Hid (sg neg1 * magR ns1 low1 + sg neg * magR ns2 low2 = sg neg1 * (magR ns1 low1 - magR ns2 low2)) := by rw [show sg neg = -sg neg1 by rw [hsg]; grind]; show _ = _; grind
     have HLE : Hid (magR ns2 low2 ≤ magR ns1 low1) := Rat.not_lt.1 hlt
     clear hsg hlt
     generalize cmpR (magR ns1 low1) (magR ns2 low2) = cc at *
     go_wp2
     go_region_held3 (fun W => W.cell? ⟨w.heap.size, 0, none⟩ = some (.slice a1 ns1.length c1) ∧ W.cell? ⟨w.heap.size, 1, none⟩ = some (.int .i64 low1) ∧ W.cell? ⟨w.heap.size, 2, none⟩ = some (.bool neg1) ∧ W.cell? ⟨w.heap.size + 1, 0, none⟩ = some (.slice a2 ns2.length c2) ∧ W.cell? ⟨w.heap.size + 1, 1, none⟩ = some (.int .i64 low2) ∧ Below w.heap.size w W)
       (first
         | assumption
         | exact ⟨x0, x1, x2, y0, y1, HB4.out.drew⟩
         | exact keep5 (by assumption) (by assumption)
         | exact keep5_set (keep5_set (keep5_set (keep5_set (by assumption) _ _ (by show w.heap.size ≠ w.heap.size + 1 + 1; omega) (by show w.heap.size + 1 ≠ w.heap.size + 1 + 1; omega) (by show w.heap.size ≤ w.heap.size + 1 + 1; omega)) _ _ (by show w.heap.size ≠ w.heap.size + 1 + 1; omega) (by show w.heap.size + 1 ≠ w.heap.size + 1 + 1; omega) (by show w.heap.size ≤ w.heap.size + 1 + 1; omega)) _ _ (by show w.heap.size ≠ w.heap.size + 1 + 1; omega) (by show w.heap.size + 1 ≠ w.heap.size + 1 + 1; omega) (by show w.heap.size ≤ w.heap.size + 1 + 1; omega)) _ _ (by show w.heap.size ≠ w.heap.size + 1 + 1; omega) (by show w.heap.size + 1 ≠ w.heap.size + 1 + 1; omega) (by show w.heap.size ≤ w.heap.size + 1 + 1; omega))
       (first
         | (go_at_call 42; refine (minus_any _ _ ns1 ns2 _ _ _ (M1.out.later HB4.out.drew) (M2.out.later HB4.out.drew) (HT.out.later HB4.out.drew) HLE.out).mono ?_; rintro e w5 ⟨s5, ns5, low5, rfl, hws5, ho5, hq5, hlo5, hb5⟩)
         | (go_at_call 21; refine (number_any _ ns5 _ _ _ hws5 ho5 hlo5.1 hlo5.2).mono ?_; rintro e w6 ⟨v9, x9, rfl, ⟨a9, ns9, c9, low9, neg9, nn9, rfl, hws9, hrest⟩, hN9, hb6⟩; have hB6 := thru hb5 hb6; have t0 : w6.cell? ⟨w.heap.size + 1 + 1, 0, none⟩ = some (.slice none 0 0) := cell_later hB6 k0; have t1 : w6.cell? ⟨w.heap.size + 1 + 1, 1, none⟩ = some (.int .i64 0) := cell_later hB6 k1; have t2 : w6.cell? ⟨w.heap.size + 1 + 1, 2, none⟩ = some (.bool false) := cell_later hB6 k2; have t3 : w6.cell? ⟨w.heap.size + 1 + 1, 3, none⟩ = some (.bool false) := cell_later hB6 k3; have u0 : ∀ i, w6.frozen? ⟨w.heap.size + 1 + 1, i, none⟩ = false := fun i => frozen_later hB6 (u4 i) hsz4))
     have hBf := (by assumption : _ ∧ _ ∧ _ ∧ _ ∧ _ ∧ Below w.heap.size w _).2.2.2.2.2
     have HBF : Hid _ := hBf
     rw [hq5, ← HQ.out] at hN9
     have HN9 : Hid _ := hN9
     clear hb5 hb6 hB6 hq5 hlo5 hws5 ho5 hN9 hBf
     have HRST : Hid _ := hrest
     clear hrest
     go_wp2
     refine bodyPost_ret (v := .agg #[.slice a9 ns9.length c9, .int .i64 low9, .bool neg9, .bool nn9]) (by simp [results, Tryd.results26, go_sem, t0, t1, t2, t3]) rfl ?_
     have hw9 := ws4 hws9 t0 t1 t2 t3 (.slice a9 ns9.length c9) (.int .i64 low9) (.bool neg9) (.bool nn9)
     refine ⟨_, x9, rfl, ⟨a9, ns9, c9, low9, neg9, nn9, rfl, hw9, HRST.out⟩, HN9.out, HBF.out⟩
end
end Go.Proofs.YtlpnobcapdbfkaaDoor
