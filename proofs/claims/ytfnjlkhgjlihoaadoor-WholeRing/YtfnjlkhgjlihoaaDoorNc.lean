/- The walks of plus and minus, and of the small calls on numbers. -/
import Derived.Test.YtfnjlkhgjlihoaaDoorNb
namespace Go.Proofs.YtfnjlkhgjlihoaaDoor
open Go.RowKit
attribute [local go_sem ↓] Go.wp_at_zero Go.wp_at_succ

set_option maxHeartbeats 1000000 in
theorem plus_any (s1 s2 : Value) (ns1 ns2 : List Nat) (low1 low2 : Int) (w : World) (m1 : IsMag w s1 ns1 low1) (m2 : IsMag w s2 ns2 low2) (hT : Tab w) :
    Calls Tryd.prog 64 #[.agg #[s1, .int .i64 low1], .agg #[s2, .int .i64 low2]] w fun e w' => MagR w w' (magR ns1 low1 + magR ns2 low2) e := by
  have M1 : Hid (IsMag w s1 ns1 low1) := m1
  have M2 : Hid (IsMag w s2 ns2 low2) := m2
  have HT : Hid (Tab w) := hT
  obtain ⟨a1, c1, rfl, _, _⟩ := m1.ws.shape
  obtain ⟨a2, c2, rfl, _, _⟩ := m2.ws.shape
  have HB0 : Hid (Below w.heap.size w (((w.alloc (.cells #[.slice a1 ns1.length c1, .int .i64 low1] 25)).alloc (.cells #[.slice a2 ns2.length c2, .int .i64 low2] 25)).alloc (.cells #[.slice none 0 0, .int .i64 0] 25))) := (((Below.refl _ _).alloc (Nat.le_refl _) _).alloc (by simp) _).alloc (by simp; omega) _
  clear m1 m2 hT
  go_enter Tryd.func64, Tryd.ntmps64
  go_wp2_with fail
  refine (joined_add _ _ ns1 ns2 _ _ _ (M1.out.later HB0.out) (M2.out.later HB0.out) (HT.out.later HB0.out)).mono ?_
  rintro e w5 ⟨s5, ns5, low5, rfl, hws5, ho5, hq5, hlo5, hb5⟩
  obtain ⟨a5, c5, rfl, hc5, hx5⟩ := hws5.shape
  have p0 : w5.cell? ⟨w.heap.size + 1 + 1, 0, none⟩ = some (.slice none 0 0) := cell_later hb5 (by go_simp)
  have p1 : w5.cell? ⟨w.heap.size + 1 + 1, 1, none⟩ = some (.int .i64 0) := cell_later hb5 (by go_simp)
  have p2' : w5.frozen? ⟨w.heap.size + 1 + 1, 0, none⟩ = false := frozen_later hb5 (by go_simp) (by simp)
  have p3 : w5.frozen? ⟨w.heap.size + 1 + 1, 1, none⟩ = false := frozen_later hb5 (by go_simp) (by simp)
  have HQ : Hid (magR ns5 low5 = magR ns1 low1 + magR ns2 low2) := hq5
  have HLO5 : Hid (-200000000 ≤ low5 ∧ low5 ≤ 200000000) := hlo5
  clear hx5 hlo5 hq5
  go_wp2
  refine bodyPost_ret (v := .agg #[.slice a5 ns5.length c5, .int .i64 low5]) (by simp [results, Tryd.results64, go_sem, p0, p1]) rfl ?_
  have hws6 := (hws5.set p0 (by intro n; simp) (.slice a5 ns5.length c5)).set (cell_ne p1 p0 (by simp) (.slice a5 ns5.length c5)) (by intro n; simp) (.int .i64 low5)
  refine ⟨_, ns5, low5, rfl, hws6, ho5, HQ.out, HLO5.out, ?_⟩
  exact ((thru HB0.out hb5).setCell (by simp; omega) _).setCell (by simp; omega) _

set_option maxHeartbeats 1000000 in
theorem minus_any (s1 s2 : Value) (ns1 ns2 : List Nat) (low1 low2 : Int) (w : World) (m1 : IsMag w s1 ns1 low1) (m2 : IsMag w s2 ns2 low2) (hT : Tab w) (hle : magR ns2 low2 ≤ magR ns1 low1) :
    Calls Tryd.prog 65 #[.agg #[s1, .int .i64 low1], .agg #[s2, .int .i64 low2]] w fun e w' => MagR w w' (magR ns1 low1 - magR ns2 low2) e := by
  have M1 : Hid (IsMag w s1 ns1 low1) := m1
  have M2 : Hid (IsMag w s2 ns2 low2) := m2
  have HT : Hid (Tab w) := hT
  obtain ⟨a1, c1, rfl, _, _⟩ := m1.ws.shape
  obtain ⟨a2, c2, rfl, _, _⟩ := m2.ws.shape
  have HB0 : Hid (Below w.heap.size w (((w.alloc (.cells #[.slice a1 ns1.length c1, .int .i64 low1] 25)).alloc (.cells #[.slice a2 ns2.length c2, .int .i64 low2] 25)).alloc (.cells #[.slice none 0 0, .int .i64 0] 25))) := (((Below.refl _ _).alloc (Nat.le_refl _) _).alloc (by simp) _).alloc (by simp; omega) _
  clear m1 m2 hT
  go_enter Tryd.func65, Tryd.ntmps65
  go_wp2_with fail
  refine (joined_sub _ _ ns1 ns2 _ _ _ (M1.out.later HB0.out) (M2.out.later HB0.out) (HT.out.later HB0.out) hle).mono ?_
  rintro e w5 ⟨s5, ns5, low5, rfl, hws5, ho5, hq5, hlo5, hb5⟩
  obtain ⟨a5, c5, rfl, hc5, hx5⟩ := hws5.shape
  have p0 : w5.cell? ⟨w.heap.size + 1 + 1, 0, none⟩ = some (.slice none 0 0) := cell_later hb5 (by go_simp)
  have p1 : w5.cell? ⟨w.heap.size + 1 + 1, 1, none⟩ = some (.int .i64 0) := cell_later hb5 (by go_simp)
  have p2' : w5.frozen? ⟨w.heap.size + 1 + 1, 0, none⟩ = false := frozen_later hb5 (by go_simp) (by simp)
  have p3 : w5.frozen? ⟨w.heap.size + 1 + 1, 1, none⟩ = false := frozen_later hb5 (by go_simp) (by simp)
  have HQ : Hid (magR ns5 low5 = magR ns1 low1 - magR ns2 low2) := hq5
  have HLO5 : Hid (-200000000 ≤ low5 ∧ low5 ≤ 200000000) := hlo5
  clear hx5 hlo5 hq5
  go_wp2
  refine bodyPost_ret (v := .agg #[.slice a5 ns5.length c5, .int .i64 low5]) (by simp [results, Tryd.results65, go_sem, p0, p1]) rfl ?_
  have hws6 := (hws5.set p0 (by intro n; simp) (.slice a5 ns5.length c5)).set (cell_ne p1 p0 (by simp) (.slice a5 ns5.length c5)) (by intro n; simp) (.int .i64 low5)
  refine ⟨_, ns5, low5, rfl, hws6, ho5, HQ.out, HLO5.out, ?_⟩
  exact ((thru HB0.out hb5).setCell (by simp; omega) _).setCell (by simp; omega) _

/-- The sign of a number. -/
def sgnR (q : Rat) : Int := cmpR q 0

set_option maxHeartbeats 400000 in
theorem ok_walk (a : Option Addr) (n c : Nat) (low : Int) (neg nn : Bool) (w : World) :
    Calls Tryd.prog 11 #[.agg #[.slice a n c, .int .i64 low, .bool neg, .bool nn]] w fun e w' => e = .returned (.bool (!nn)) ∧ Below w.heap.size w w' := by
  go_enter Tryd.func11, Tryd.ntmps11
  go_wp2
  go_ret
  exact ⟨rfl, (Below.refl _ _).alloc (Nat.le_refl _) _⟩

/-- OK: whether it is a number. -/
theorem ok_any (v : Value) (x : Option Rat) (w : World) (h : IsNum w v x) :
    Calls Tryd.prog 11 #[v] w fun e w' => e = .returned (.bool x.isSome) ∧ Below w.heap.size w w' := by
  obtain ⟨a, ns, c, low, neg, nn, rfl, h2, h3, h4, h5, h6, h7, h8⟩ := h
  have e : x.isSome = !nn := by
    cases nn
    · rw [h8 rfl]; rfl
    · rw [(h7 rfl).2]; rfl
  rw [e]
  exact ok_walk a _ c low neg nn w

set_option maxHeartbeats 400000 in
theorem sign_walk (a : Option Addr) (n c : Nat) (low : Int) (neg nn : Bool) (w : World) :
    Calls Tryd.prog 12 #[.agg #[.slice a n c, .int .i64 low, .bool neg, .bool nn]] w fun e w' => e = .returned (.int .i64 (if n = 0 then 0 else if neg then -1 else 1)) ∧ Below w.heap.size w w' := by
  have HB0 : Hid (Below w.heap.size w (w.alloc (.cells #[.slice a n c, .int .i64 low, .bool neg, .bool nn] 27))) := (Below.refl _ _).alloc (Nat.le_refl _) _
  go_enter Tryd.func12, Tryd.ntmps12
  go_wp2_with fail
  refine (isZero_any _ _ _ _ _).mono ?_
  rintro e w1 ⟨rfl, hb1⟩
  have x2 : w1.cell? ⟨w.heap.size, 2, none⟩ = some (.bool neg) := cell_later hb1 (by go_simp)
  have HB1 : Hid (Below w.heap.size w w1) := thru HB0.out hb1
  clear hb1
  by_cases hn : n = 0
  · subst hn
    go_wp2
    go_ret
    exact ⟨rfl, HB1.out⟩
  · have hz : ((n : Int) == 0) = false := by rw [beq_eq_false_iff_ne]; omega
    cases neg with
    | true =>
      go_wp2
      go_ret
      exact ⟨ret_int (by simp), HB1.out⟩
    | false =>
      go_wp2
      go_ret
      exact ⟨ret_int (by simp), HB1.out⟩

theorem sgn_num {ns : List Nat} {low : Int} {neg : Bool} (o : OwnF ns low) : (if ns.length = 0 then (0 : Int) else if neg then -1 else 1) = sgnR (sg neg * magR ns low) := by
  by_cases hne : ns = []
  · subst hne; rw [magR_nil]; simp [sgnR, cmpR]
  · have h1 := magR_pos o hne
    have h2 := List.length_pos_iff.2 hne
    rw [if_neg (by omega)]
    unfold sgnR cmpR sg
    cases neg
    · simp only [Bool.false_eq_true, if_false]
      rw [if_neg (by grind), if_pos (by grind)]
    · simp only [if_true]
      rw [if_pos (by grind)]

/-- Sign: the sign; 0 of none. -/
theorem sign_any (v : Value) (x : Option Rat) (w : World) (h : IsNum w v x) :
    Calls Tryd.prog 12 #[v] w fun e w' => e = .returned (.int .i64 (sgnR (x.getD 0))) ∧ Below w.heap.size w w' := by
  obtain ⟨a, ns, c, low, neg, nn, rfl, h2, h3, h4, h5, h6, h7, h8⟩ := h
  have e : (if ns.length = 0 then (0 : Int) else if neg then -1 else 1) = sgnR (x.getD 0) := by
    cases nn
    · rw [h8 rfl]; exact sgn_num h3
    · obtain ⟨h9, h10⟩ := h7 rfl
      rw [h10, h9]; simp [sgnR, cmpR]
  rw [← e]
  exact sign_walk a _ c low neg nn w

end Go.Proofs.YtfnjlkhgjlihoaaDoor
