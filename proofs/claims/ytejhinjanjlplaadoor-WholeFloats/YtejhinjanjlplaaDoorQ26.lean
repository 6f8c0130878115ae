/- Own texts, put together: Nb Nc. -/
import Derived.Test.YtejhinjanjlplaaDoorQ23
namespace Go.Proofs.YtejhinjanjlplaaDoor
/- Magnitudes of numbers: sums, differences, products, and which is greater, as rationals. -/
section
open Go.RowKit
structure IsMag (w : World) (s : Value) (ns : List Nat) (low : Int) : Prop where
 ws : Ws w s ns
 own : OwnF ns low
 lo : -65536 ≤ low
 hi : hiB ns low ≤ 65536
theorem IsMag.later {w w' : World} {s : Value} {ns : List Nat} {low : Int} (h : IsMag w s ns low) (hb : Below w.heap.size w w') : IsMag w' s ns low := ⟨h.ws.later hb (Nat.le_refl _), h.own, h.lo, h.hi⟩
theorem IsMag.low_le {w : World} {s : Value} {ns : List Nat} {low : Int} (h : IsMag w s ns low) : low ≤ 65536 := by
 have := own_low_hi h.own; have := h.hi; omega
theorem IsMag.len {w : World} {s : Value} {ns : List Nat} {low : Int} (h : IsMag w s ns low) : ns.length ≤ 10000 := by
 by_cases hne : ns = []
 · subst hne; simp
 · have h1 := log2_val h.ws.small hne (own_topped h.own hne)
   have h2 := h.hi
   have h3 := h.lo
   unfold hiB at h2
   rw [if_neg hne] at h2
   omega
def MagR (w w' : World) (q : Rat) (e : Ending) : Prop := ∃ s ns low, e = .returned (.agg #[s, .int .i64 low]) ∧ Ws w' s ns ∧ OwnF ns low ∧ magR ns low = q ∧ (-200000000 ≤ low ∧ low ≤ 200000000) ∧ Below w.heap.size w w'
theorem made_magR {w w' : World} {V : Nat} {low : Int} {e : Ending} (h : Made w w' V low e) : MagR w w' ((V : Nat) * p2 low) e := by
 obtain ⟨s, ns, low', he, hw, ho, ht, hl, hb⟩ := h
 exact ⟨s, ns, low', he, hw, ho, tells_magR ht, hl, hb⟩
theorem two_at (low1 low2 : Int) : ∃ (L : Int) (k1 k2 : Nat), min low1 low2 = L ∧ low1 = L + (k1 : Nat) ∧ low2 = L + (k2 : Nat) :=
 ⟨min low1 low2, (low1 - min low1 low2).toNat, (low2 - min low1 low2).toNat, rfl, by omega, by omega⟩
theorem joined_any (fid : Nat) (f : Nat → Nat → Nat) (pre : Nat → Nat → Nat → Prop) (hop : BringOK fid f pre) (s1 s2 : Value) (ns1 ns2 : List Nat) (low1 low2 : Int) (w : World) (m1 : IsMag w s1 ns1 low1) (m2 : IsMag w s2 ns2 low2) (hT : Tab w)
   (hpre : ∀ (L : Int) (k1 k2 n : Nat), low1 = L + (k1 : Nat) → low2 = L + (k2 : Nat) → val ns1 * 2 ^ k1 < 2 ^ (64 * n - 1) → val ns2 * 2 ^ k2 < 2 ^ (64 * n - 1) → 0 < n → pre (val ns1 * 2 ^ k1) (val ns2 * 2 ^ k2) n) (q : Rat)
   (hq : ∀ (L : Int) (k1 k2 : Nat), low1 = L + (k1 : Nat) → low2 = L + (k2 : Nat) → ((f (val ns1 * 2 ^ k1) (val ns2 * 2 ^ k2) : Nat) : Rat) * p2 L = q) :
   Calls Tryd.prog 58 #[.agg #[s1, .int .i64 low1], .agg #[s2, .int .i64 low2], .func (.func fid) #[] #[]] w fun e w' => MagR w w' q e := by
 obtain ⟨a1, c1, rfl, _, _⟩ := m1.ws.shape
 obtain ⟨a2, c2, rfl, _, _⟩ := m2.ws.shape
 obtain ⟨L, k1, k2, hL, hk1, hk2⟩ := two_at low1 low2
 have i1 := own_low_hi m1.own
 have i2 := own_low_hi m2.own
 have j1 := m1.lo
 have j2 := m2.lo
 have j3 := m1.hi
 have j4 := m2.hi
 obtain ⟨d1, hd1⟩ : ∃ d : Nat, max (hiB ns1 low1) (hiB ns2 low2) + 1 = L + (d : Int) := ⟨(max (hiB ns1 low1) (hiB ns2 low2) + 1 - L).toNat, by omega⟩
 obtain ⟨d2, hd2⟩ : ∃ d : Nat, hiB ns2 low2 = L + (d : Int) := ⟨(hiB ns2 low2 - L).toNat, by omega⟩
 have hv1 : val ns1 * 2 ^ k1 < 2 ^ d1 := val_hi m1.own k1 hk1 d1 (by omega)
 have hv2 : val ns2 * 2 ^ k2 < 2 ^ d1 := val_hi m2.own k2 hk2 d1 (by omega)
 have hv3 : val ns2 * 2 ^ k2 < 2 ^ (d2 + 1) := val_hi m2.own k2 hk2 (d2 + 1) (by omega)
 have hmono : ∀ {X a b : Nat}, X < 2 ^ a → a ≤ b → X < 2 ^ b := fun h1 h2 => Nat.lt_of_lt_of_le h1 (Nat.pow_le_pow_right (by omega) h2)
 refine (joined_walk fid f pre hop a1 a2 c1 c2 ns1 ns2 low1 low2 L k1 k2 (d1 / 64) (d2 / 64) (d1 % 64) (d2 % 64) w m1.ws m2.ws hT m1.own m2.own hL hk1 hk2 (by omega) (by omega) (by omega) (by rw [hd1]; omega) (by rw [hd2]; omega) (Nat.mod_lt _ (by omega)) (Nat.mod_lt _ (by omega)) (by omega) (by omega) ?_ (hmono hv1 (by omega)) (hmono hv3 (by omega))).mono ?_
 · exact hpre L k1 k2 _ hk1 hk2 (hmono hv1 (by omega)) (hmono hv2 (by omega)) (by omega)
 · intro e w' h
   have := made_magR h
   rwa [hq L k1 k2 hk1 hk2] at this
theorem pow_half {a b n : Nat} (h1 : a < 2 ^ (64 * n - 1)) (h2 : b < 2 ^ (64 * n - 1)) (hn : 0 < n) : a + b < 2 ^ (64 * n) := by
 rw [show 64 * n = 64 * n - 1 + 1 by omega, Nat.pow_succ]; omega
theorem joined_add (s1 s2 : Value) (ns1 ns2 : List Nat) (low1 low2 : Int) (w : World) (m1 : IsMag w s1 ns1 low1) (m2 : IsMag w s2 ns2 low2) (hT : Tab w) :
   Calls Tryd.prog 58 #[.agg #[s1, .int .i64 low1], .agg #[s2, .int .i64 low2], .func (.func 59) #[] #[]] w fun e w' => MagR w w' (magR ns1 low1 + magR ns2 low2) e := by
 refine joined_any _ _ _ add_bring s1 s2 ns1 ns2 low1 low2 w m1 m2 hT (fun L k1 k2 n _ _ h1 h2 h3 => pow_half h1 h2 h3) _ ?_
 intro L k1 k2 h1 h2
 rw [magR_at ns1 low1 L k1 h1, magR_at ns2 low2 L k2 h2, Rat.natCast_add]; grind
theorem joined_sub (s1 s2 : Value) (ns1 ns2 : List Nat) (low1 low2 : Int) (w : World) (m1 : IsMag w s1 ns1 low1) (m2 : IsMag w s2 ns2 low2) (hT : Tab w) (hle : magR ns2 low2 ≤ magR ns1 low1) :
   Calls Tryd.prog 58 #[.agg #[s1, .int .i64 low1], .agg #[s2, .int .i64 low2], .func (.func 60) #[] #[]] w fun e w' => MagR w w' (magR ns1 low1 - magR ns2 low2) e := by
 have key : ∀ (L : Int) (k1 k2 : Nat), low1 = L + (k1 : Nat) → low2 = L + (k2 : Nat) → val ns2 * 2 ^ k2 ≤ val ns1 * 2 ^ k1 := by
   intro L k1 k2 h1 h2
   rw [magR_at ns1 low1 L k1 h1, magR_at ns2 low2 L k2 h2] at hle
   exact Rat.natCast_le_natCast.1 (Rat.le_of_mul_le_mul_right hle (p2_pos L))
 refine joined_any _ _ _ sub_bring s1 s2 ns1 ns2 low1 low2 w m1 m2 hT (fun L k1 k2 n h1 h2 _ _ _ => key L k1 k2 h1 h2) _ ?_
 intro L k1 k2 h1 h2
 have h3 := key L k1 k2 h1 h2
 have e1 : ((val ns1 * 2 ^ k1 - val ns2 * 2 ^ k2 : Nat) : Rat) = ((val ns1 * 2 ^ k1 : Nat) : Rat) - ((val ns2 * 2 ^ k2 : Nat) : Rat) := by
   have := Rat.natCast_add (val ns1 * 2 ^ k1 - val ns2 * 2 ^ k2) (val ns2 * 2 ^ k2)
   rw [Nat.sub_add_cancel h3] at this
   grind
 rw [magR_at ns1 low1 L k1 h1, magR_at ns2 low2 L k2 h2, e1]; grind
theorem times_any (s1 s2 : Value) (ns1 ns2 : List Nat) (low1 low2 : Int) (w : World) (m1 : IsMag w s1 ns1 low1) (m2 : IsMag w s2 ns2 low2) (hT : Tab w) :
   Calls Tryd.prog 23 #[.agg #[s1, .int .i64 low1], .agg #[s2, .int .i64 low2]] w fun e w' => MagR w w' (magR ns1 low1 * magR ns2 low2) e := by
 have l1 := m1.len
 have l2 := m2.len
 have i1 := m1.low_le
 have i2 := m2.low_le
 have j1 := m1.lo
 have j2 := m2.lo
 obtain ⟨a1, c1, rfl, _, _⟩ := m1.ws.shape
 obtain ⟨a2, c2, rfl, _, _⟩ := m2.ws.shape
 refine (times_walk a1 a2 c1 c2 ns1 ns2 low1 low2 w m1.ws m2.ws hT l1 l2 (by omega) (by omega) (by omega) (by omega)).mono ?_
 intro e w' h
 have := made_magR h
 have e1 : ((val ns1 * val ns2 : Nat) : Rat) * p2 (low1 + low2) = magR ns1 low1 * magR ns2 low2 := by
   rw [Rat.natCast_mul, p2_add]; unfold magR; grind
 rwa [e1] at this
def cmpR (p q : Rat) : Int := if p < q then -1 else if q < p then 1 else 0
theorem cmp_nat (A C : Nat) (L : Int) : cmpI (A : Int) (C : Int) = cmpR ((A : Nat) * p2 L) ((C : Nat) * p2 L) := by
 have hp := p2_pos L
 unfold cmpI cmpR
 have e1 : ((A : Nat) : Rat) * p2 L < (C : Nat) * p2 L ↔ (A : Int) < (C : Int) := by
   rw [Rat.mul_lt_mul_right hp, Rat.natCast_lt_natCast]; omega
 have e2 : ((C : Nat) : Rat) * p2 L < (A : Nat) * p2 L ↔ (C : Int) < (A : Int) := by
   rw [Rat.mul_lt_mul_right hp, Rat.natCast_lt_natCast]; omega
 simp only [e1, e2]
theorem magR_pos {ns : List Nat} {low : Int} (h : OwnF ns low) (hne : ns ≠ []) : 0 < magR ns low := by
 have := (own_lo h hne).1
 have := p2_pos (hiB ns low)
 grind
theorem against_any (s1 s2 : Value) (ns1 ns2 : List Nat) (low1 low2 : Int) (w : World) (m1 : IsMag w s1 ns1 low1) (m2 : IsMag w s2 ns2 low2) :
   Calls Tryd.prog 27 #[.agg #[s1, .int .i64 low1], .agg #[s2, .int .i64 low2]] w fun e w' => e = .returned (.int .i64 (cmpR (magR ns1 low1) (magR ns2 low2))) ∧ Below w.heap.size w w' := by
 obtain ⟨a1, c1, rfl, _, _⟩ := m1.ws.shape
 obtain ⟨a2, c2, rfl, _, _⟩ := m2.ws.shape
 by_cases n1 : ns1 = []
 · subst n1
   have e1 : cmpR (magR [] low1) (magR ns2 low2) = cmpI 0 ns2.length := by
     rw [magR_nil]
     by_cases n2 : ns2 = []
     · subst n2; rw [magR_nil]; simp [cmpR, cmpI]
     · have h1 := magR_pos m2.own n2
       have h2 := List.length_pos_iff.2 n2
       unfold cmpR cmpI
       rw [if_pos h1, if_pos (by omega)]
   rw [e1]
   exact against_zero1 a1 a2 c1 c2 ns2.length low1 low2 w
 · by_cases n2 : ns2 = []
   · subst n2
     have h2 := List.length_pos_iff.2 n1
     have e1 : cmpR (magR ns1 low1) (magR [] low2) = cmpI ns1.length 0 := by
       rw [magR_nil]
       have h1 := magR_pos m1.own n1
       unfold cmpR cmpI
       rw [if_neg (by grind), if_pos h1, if_neg (by omega), if_pos (by omega)]
     rw [e1]
     exact against_zero2 a1 a2 c1 c2 ns1.length low1 low2 w (by rw [beq_eq_false_iff_ne]; omega)
   · obtain ⟨L, k1, k2, hL, hk1, hk2⟩ := two_at low1 low2
     have i1 := own_low_hi m1.own
     have j1 := m1.lo
     have j2 := m2.lo
     have j3 := m1.hi
     have i3 := m1.low_le
     have i4 := m2.low_le
     obtain ⟨E, hE⟩ : ∃ E : Nat, hiB ns1 low1 + 1 = L + (E : Int) := ⟨(hiB ns1 low1 + 1 - L).toNat, by omega⟩
     have := against_walk a1 a2 c1 c2 ns1 ns2 low1 low2 L k1 k2 E _ _ w rfl rfl m1.ws m2.ws m1.own m2.own n1 n2 hL hk1 hk2 (by omega) (by omega) (by omega) hE (by omega)
     rw [cmp_nat _ _ L, ← magR_at ns1 low1 L k1 hk1, ← magR_at ns2 low2 L k2 hk2] at this
     exact this
end

/- The walks of plus and minus, and of the small calls on numbers. -/
section
open Go.RowKit
attribute [local go_sem ↓] Go.wp_at_zero Go.wp_at_succ
set_option maxHeartbeats 1000000 in
theorem plus_any (s1 s2 : Value) (ns1 ns2 : List Nat) (low1 low2 : Int) (w : World) (m1 : IsMag w s1 ns1 low1) (m2 : IsMag w s2 ns2 low2) (hT : Tab w) :
   Calls Tryd.prog 46 #[.agg #[s1, .int .i64 low1], .agg #[s2, .int .i64 low2]] w fun e w' => MagR w w' (magR ns1 low1 + magR ns2 low2) e := by
 have M1 : Hid (IsMag w s1 ns1 low1) := m1
 have M2 : Hid (IsMag w s2 ns2 low2) := m2
 have HT : Hid (Tab w) := hT
 obtain ⟨a1, c1, rfl, _, _⟩ := m1.ws.shape
 obtain ⟨a2, c2, rfl, _, _⟩ := m2.ws.shape
 have HB0 : Hid (Below w.heap.size w (((w.alloc (.cells #[.slice a1 ns1.length c1, .int .i64 low1] 25)).alloc (.cells #[.slice a2 ns2.length c2, .int .i64 low2] 25)).alloc (.cells #[.slice none 0 0, .int .i64 0] 25))) := (((Below.refl _ _).alloc (Nat.le_refl _) _).alloc (by simp) _).alloc (by simp; omega) _
 clear m1 m2 hT
 go_enter Tryd.func46, Tryd.ntmps46
 go_wp2_with fail
 refine (joined_add _ _ ns1 ns2 _ _ _ (M1.out.later HB0.out) (M2.out.later HB0.out) (HT.out.later HB0.out)).mono ?_
 rintro e w5 ⟨s5, ns5, low5, rfl, hws5, ho5, hq5, hlo5, hb5⟩
 obtain ⟨a5, c5, rfl, hc5, hx5⟩ := hws5.shape
 have p0 : w5.cell? ⟨w.heap.size + 1 + 1, 0, none⟩ = some (.slice none 0 0) := cell_later hb5 (by go_simp)
 have p1 : w5.cell? ⟨w.heap.size + 1 + 1, 1, none⟩ = some (.int .i64 0) := cell_later hb5 (by go_simp)
 have p2' : w5.frozen? ⟨w.heap.size + 1 + 1, 0, none⟩ = false := frozen_later hb5 (by go_simp) (by simp)
 have p3 : w5.frozen? ⟨w.heap.size + 1 + 1, 1, none⟩ = false := frozen_later hb5 (by go_simp) (by simp)
 have HQ : Hid (magR ns5 low5 = magR ns1 low1 + magR ns2 low2) := hq5
 have HLO5 : Hid (-200000000 ≤ low5 ∧ low5 ≤ 200000000) := hlo5
 clear hx5 hlo5 hq5
 go_wp2
 refine bodyPost_ret (v := .agg #[.slice a5 ns5.length c5, .int .i64 low5]) (by simp [results, Tryd.results46, go_sem, p0, p1]) rfl ?_
 have hws6 := (hws5.set p0 (by intro n; simp) (.slice a5 ns5.length c5)).set (cell_ne p1 p0 (by simp) (.slice a5 ns5.length c5)) (by intro n; simp) (.int .i64 low5)
 refine ⟨_, ns5, low5, rfl, hws6, ho5, HQ.out, HLO5.out, ?_⟩
 exact ((thru HB0.out hb5).setCell (by simp; omega) _).setCell (by simp; omega) _
set_option maxHeartbeats 1000000 in
theorem minus_any (s1 s2 : Value) (ns1 ns2 : List Nat) (low1 low2 : Int) (w : World) (m1 : IsMag w s1 ns1 low1) (m2 : IsMag w s2 ns2 low2) (hT : Tab w) (hle : magR ns2 low2 ≤ magR ns1 low1) :
   Calls Tryd.prog 47 #[.agg #[s1, .int .i64 low1], .agg #[s2, .int .i64 low2]] w fun e w' => MagR w w' (magR ns1 low1 - magR ns2 low2) e := by
 have M1 : Hid (IsMag w s1 ns1 low1) := m1
 have M2 : Hid (IsMag w s2 ns2 low2) := m2
 have HT : Hid (Tab w) := hT
 obtain ⟨a1, c1, rfl, _, _⟩ := m1.ws.shape
 obtain ⟨a2, c2, rfl, _, _⟩ := m2.ws.shape
 have HB0 : Hid (Below w.heap.size w (((w.alloc (.cells #[.slice a1 ns1.length c1, .int .i64 low1] 25)).alloc (.cells #[.slice a2 ns2.length c2, .int .i64 low2] 25)).alloc (.cells #[.slice none 0 0, .int .i64 0] 25))) := (((Below.refl _ _).alloc (Nat.le_refl _) _).alloc (by simp) _).alloc (by simp; omega) _
 clear m1 m2 hT
 go_enter Tryd.func47, Tryd.ntmps47
 go_wp2_with fail
 refine (joined_sub _ _ ns1 ns2 _ _ _ (M1.out.later HB0.out) (M2.out.later HB0.out) (HT.out.later HB0.out) hle).mono ?_
 rintro e w5 ⟨s5, ns5, low5, rfl, hws5, ho5, hq5, hlo5, hb5⟩
 obtain ⟨a5, c5, rfl, hc5, hx5⟩ := hws5.shape
 have p0 : w5.cell? ⟨w.heap.size + 1 + 1, 0, none⟩ = some (.slice none 0 0) := cell_later hb5 (by go_simp)
 have p1 : w5.cell? ⟨w.heap.size + 1 + 1, 1, none⟩ = some (.int .i64 0) := cell_later hb5 (by go_simp)
 have p2' : w5.frozen? ⟨w.heap.size + 1 + 1, 0, none⟩ = false := frozen_later hb5 (by go_simp) (by simp)
 have p3 : w5.frozen? ⟨w.heap.size + 1 + 1, 1, none⟩ = false := frozen_later hb5 (by go_simp) (by simp)
 have HQ : Hid (magR ns5 low5 = magR ns1 low1 - magR ns2 low2) := hq5
 have HLO5 : Hid (-200000000 ≤ low5 ∧ low5 ≤ 200000000) := hlo5
 clear hx5 hlo5 hq5
 go_wp2
 refine bodyPost_ret (v := .agg #[.slice a5 ns5.length c5, .int .i64 low5]) (by simp [results, Tryd.results47, go_sem, p0, p1]) rfl ?_
 have hws6 := (hws5.set p0 (by intro n; simp) (.slice a5 ns5.length c5)).set (cell_ne p1 p0 (by simp) (.slice a5 ns5.length c5)) (by intro n; simp) (.int .i64 low5)
 refine ⟨_, ns5, low5, rfl, hws6, ho5, HQ.out, HLO5.out, ?_⟩
 exact ((thru HB0.out hb5).setCell (by simp; omega) _).setCell (by simp; omega) _
def sgnR (q : Rat) : Int := cmpR q 0
set_option maxHeartbeats 400000 in
theorem ok_walk (a : Option Addr) (n c : Nat) (low : Int) (neg nn : Bool) (w : World) :
   Calls Tryd.prog 5 #[.agg #[.slice a n c, .int .i64 low, .bool neg, .bool nn]] w fun e w' => e = .returned (.bool (!nn)) ∧ Below w.heap.size w w' := by
 go_enter Tryd.func5, Tryd.ntmps5
 go_wp2
 go_ret
 exact ⟨rfl, (Below.refl _ _).alloc (Nat.le_refl _) _⟩
theorem ok_any (v : Value) (x : Option Rat) (w : World) (h : IsNum w v x) :
   Calls Tryd.prog 5 #[v] w fun e w' => e = .returned (.bool x.isSome) ∧ Below w.heap.size w w' := by
 obtain ⟨a, ns, c, low, neg, nn, rfl, h2, h3, h4, h5, h6, h7, h8⟩ := h
 have e : x.isSome = !nn := by
   cases nn
   · rw [h8 rfl]; rfl
   · rw [(h7 rfl).2]; rfl
 rw [e]
 exact ok_walk a _ c low neg nn w
set_option maxHeartbeats 400000 in
theorem sign_walk (a : Option Addr) (n c : Nat) (low : Int) (neg nn : Bool) (w : World) :
   Calls Tryd.prog 26 #[.agg #[.slice a n c, .int .i64 low, .bool neg, .bool nn]] w fun e w' => e = .returned (.int .i64 (if n = 0 then 0 else if neg then -1 else 1)) ∧ Below w.heap.size w w' := by
 have HB0 : Hid (Below w.heap.size w (w.alloc (.cells #[.slice a n c, .int .i64 low, .bool neg, .bool nn] 27))) := (Below.refl _ _).alloc (Nat.le_refl _) _
 go_enter Tryd.func26, Tryd.ntmps26
 go_wp2_with fail
 refine (isZero_any _ _ _ _ _).mono ?_
 rintro e w1 ⟨rfl, hb1⟩
 have x2 : w1.cell? ⟨w.heap.size, 2, none⟩ = some (.bool neg) := cell_later hb1 (by go_simp)
 have HB1 : Hid (Below w.heap.size w w1) := thru HB0.out hb1
 clear hb1
 by_cases hn : n = 0
 · subst hn
   go_wp2
   go_ret
   exact ⟨rfl, HB1.out⟩
 · have hz : ((n : Int) == 0) = false := by rw [beq_eq_false_iff_ne]; omega
   cases neg with
   | true =>
     go_wp2
     go_ret
     exact ⟨ret_int (by simp), HB1.out⟩
   | false =>
     go_wp2
     go_ret
     exact ⟨ret_int (by simp), HB1.out⟩
theorem sgn_num {ns : List Nat} {low : Int} {neg : Bool} (o : OwnF ns low) : (if ns.length = 0 then (0 : Int) else if neg then -1 else 1) = sgnR (sg neg * magR ns low) := by
 by_cases hne : ns = []
 · subst hne; rw [magR_nil]; simp [sgnR, cmpR]
 · have h1 := magR_pos o hne
   have h2 := List.length_pos_iff.2 hne
   rw [if_neg (by omega)]
   unfold sgnR cmpR sg
   cases neg
   · simp only [Bool.false_eq_true, if_false]
     rw [if_neg (by grind), if_pos (by grind)]
   · simp only [if_true]
     rw [if_pos (by grind)]
end
end Go.Proofs.YtejhinjanjlplaaDoor
