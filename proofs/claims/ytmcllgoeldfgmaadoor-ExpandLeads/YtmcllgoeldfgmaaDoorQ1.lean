/- Own texts, put together: B0 Za Zb Zc Zd Ze Zf M M2 M3 M5. -/
import Derived.Test.YtmcllgoeldfgmaaDoorProg
import Derived.WalkKit
import Derived.WalkSpells
import Derived.WalkLawsBesides
import Derived.Laws.FloatArith
import Derived.Below
import Derived.Laws.BitsAllLaws
/- What all walks share: numbers that do not wrap; a float and its word. -/
namespace Go.Proofs.YtmcllgoeldfgmaaDoor
open Go.RowKit

theorem wrapE (x : Int) (h : -4611686018427387904 ≤ x) (h' : x ≤ 4611686018427387904) : IntKind.i64.wrap x = x := by
  rw [IntKind.wrap_i64]; omega

theorem run_bits (b : Nat) (w : World) : (callFunc 67 #[.float .f64 b]).run Tryd.prog w = .ok (.value (.int .u64 (b : Nat))) w := by
  rw [run_callFunc_extern Tryd.func67 (by kernel_rfl) (by kernel_rfl) (by kernel_rfl) (e := Extern.MathFloatBits.float64bits) (by kernel_rfl)]
  rfl

theorem run_frombits (b : Nat) (w : World) : (callFunc 58 #[.int .u64 (b : Nat)]).run Tryd.prog w = .ok (.value (.float .f64 b)) w := by
  rw [run_callFunc_extern Tryd.func58 (by kernel_rfl) (by kernel_rfl) (by kernel_rfl) (e := Extern.MathFloatBits.float64frombits) (by kernel_rfl)]
  rfl

theorem andNot_sign (b : Nat) (hb : b < 18446744073709551616) : bits .andNot .u64 (b : Int) 9223372036854775808 = ((b % 9223372036854775808 : Nat) : Int) := by
  rw [show (9223372036854775808 : Int) = ((9223372036854775808 : Nat) : Int) from rfl, u64_andNot_nat b _ hb (by omega)]
  rw [show (18446744073709551615 - 9223372036854775808 : Nat) = 2 ^ 63 - 1 by decide, Nat.and_two_pow_sub_one_eq_mod]

set_option maxHeartbeats 1000000 in
theorem abs_any (b : Nat) (w : World) (hb : b < 18446744073709551616) :
    Calls Tryd.prog 37 #[.float .f64 b] w fun e w' => e = .returned (.float .f64 (b % 9223372036854775808)) ∧ w' = w := by
  have h1 := run_bits b
  have h2 := run_frombits (b % 9223372036854775808)
  have h3 := andNot_sign b hb
  generalize b % 9223372036854775808 = c at *
  go_enter Tryd.func37, Tryd.ntmps37
  go_wp2
  go_ret
  exact ⟨rfl, rfl⟩

end Go.Proofs.YtmcllgoeldfgmaaDoor

/- The reference's digit. -/
namespace Go.Proofs.YtmcllgoeldfgmaaDoor
open Go.RowKit

set_option maxHeartbeats 1000000 in
theorem digit_in (g off n c k : Nat) (S E d : Int) (w : World) (hcell : w.cell? ⟨g, off + k, none⟩ = some (.int .i64 d)) (hk : k < n) (hn : n ≤ 1000000) (h1 : -1000000 ≤ E) (h2 : E ≤ 1000000) :
    Calls Tryd.prog 62 #[.agg #[.int .i64 S, .slice (some ⟨g, off, none⟩) n c, .int .i64 E], .int .i64 (E + (k : Int))] w fun e w' => e = .returned (.int .i64 d) ∧ Below w.heap.size w w' := by
  have hg : g < w.heap.size := World.block_lt_of_cell? _ _ hcell
  have hk' : (k : Int) < (n : Int) := by omega
  have hn' : (n : Int) ≤ 1000000 := by omega
  have t1 : decide (E + (k : Int) < E) = false := decide_eq_false (by omega)
  have t2 : decide (E + (n : Int) ≤ E + (k : Int)) = false := decide_eq_false (by omega)
  have w1 : IntKind.i64.wrap (E + (n : Int)) = E + (n : Int) := wrapE _ (by omega) (by omega)
  have w2 : IntKind.i64.wrap (E + (k : Int) - E) = (k : Int) := by rw [show E + (k : Int) - E = (k : Int) by omega]; exact wrapE _ (by omega) (by omega)
  have hk0 : (0 : Int) ≤ (k : Int) := by omega
  go_enter Tryd.func62, Tryd.ntmps62
  go_wp2
  go_ret
  exact ⟨rfl, (Below.refl _ _).alloc (Nat.le_refl _) _⟩

set_option maxHeartbeats 1000000 in
theorem digit_out (a : Option Addr) (n c : Nat) (S E i : Int) (w : World) (hi : i < E ∨ E + (n : Int) ≤ i) (hn : n ≤ 1000000) (h1 : -1000000 ≤ E) (h2 : E ≤ 1000000) :
    Calls Tryd.prog 62 #[.agg #[.int .i64 S, .slice a n c, .int .i64 E], .int .i64 i] w fun e w' => e = .returned (.int .i64 0) ∧ Below w.heap.size w w' := by
  have hn' : (n : Int) ≤ 1000000 := by omega
  have w1 : IntKind.i64.wrap (E + (n : Int)) = E + (n : Int) := wrapE _ (by omega) (by omega)
  by_cases h : i < E
  · have t1 : decide (i < E) = true := decide_eq_true h
    clear hi
    go_enter Tryd.func62, Tryd.ntmps62
    go_wp2
    go_ret
    exact ⟨rfl, (Below.refl _ _).alloc (Nat.le_refl _) _⟩
  · have t1 : decide (i < E) = false := decide_eq_false h
    have t2 : decide (E + (n : Int) ≤ i) = true := decide_eq_true (by omega)
    clear hi h
    go_enter Tryd.func62, Tryd.ntmps62
    go_wp2
    go_ret
    exact ⟨rfl, (Below.refl _ _).alloc (Nat.le_refl _) _⟩

/-- A block of int64. -/
def IntRow (w : World) (g : Nat) : Prop := ∃ cur fr, w.heap[g]? = some (.cells cur 2 fr)
theorem IntRow.lt {w : World} {g : Nat} (h : IntRow w g) : g < w.heap.size := by
  obtain ⟨cur, fr, h⟩ := h
  exact (Array.getElem?_eq_some_iff.1 h).1
theorem IntRow.block {w w' : World} {g : Nat} (h : IntRow w g) (he : w'.heap[g]? = w.heap[g]?) : IntRow w' g := by
  obtain ⟨cur, fr, h⟩ := h
  exact ⟨cur, fr, by rw [he]; exact h⟩
theorem IntRow.alloc {w : World} {g : Nat} (h : IntRow w g) (o : Obj) : IntRow (w.alloc o) g := h.block (Below.heap_alloc w o g h.lt)

/-- A number of the reference, in memory: its sign, its digits (the lowest first), its place. -/
structure Dig (w : World) (v : Value) (S : Int) (ds : List Nat) (E : Int) : Prop where
  form : ∃ a c, v = .agg #[.int .i64 S, .slice a ds.length c, .int .i64 E] ∧ ds.length ≤ c ∧ (ds = [] ∨ ∃ g off, a = some ⟨g, off, none⟩ ∧ (∀ k, k < ds.length → w.cell? ⟨g, off + k, none⟩ = some (.int .i64 (ds.getD k 0 : Nat))) ∧ IntRow w g)
  small : ∀ d ∈ ds, d < 16777216
  len : ds.length ≤ 1000000
  e1 : -1000000 ≤ E
  e2 : E ≤ 1000000

theorem Dig.later {w w' : World} {v : Value} {S E : Int} {ds : List Nat} (h : Dig w v S ds E) (hb : Below w.heap.size w w') : Dig w' v S ds E := by
  obtain ⟨⟨a, c, hv, hcap, hf⟩, h2, h3, h4, h5⟩ := h
  refine ⟨⟨a, c, hv, hcap, ?_⟩, h2, h3, h4, h5⟩
  rcases hf with hf | ⟨g, off, ha, hf, hr⟩
  · exact Or.inl hf
  · refine Or.inr ⟨g, off, ha, fun k hk => ?_, hr.block (hb.block g hr.lt)⟩
    have := hf k hk
    rw [hb.cell (World.block_lt_of_cell? _ _ this)]; exact this

/-- The digit at a place. -/
def dgt (ds : List Nat) (E i : Int) : Nat := if E ≤ i ∧ i < E + (ds.length : Int) then ds.getD (i - E).toNat 0 else 0

theorem digit_any (v : Value) (S E i : Int) (ds : List Nat) (w : World) (h : Dig w v S ds E) :
    Calls Tryd.prog 62 #[v, .int .i64 i] w fun e w' => e = .returned (.int .i64 (dgt ds E i : Nat)) ∧ Below w.heap.size w w' := by
  obtain ⟨⟨a, c, rfl, _, hf⟩, _, h3, h4, h5⟩ := h
  by_cases hi : E ≤ i ∧ i < E + (ds.length : Int)
  · rcases hf with rfl | ⟨g, off, rfl, hf, _⟩
    · simp at hi; omega
    · obtain ⟨k, rfl⟩ : ∃ k : Nat, i = E + (k : Int) := ⟨(i - E).toNat, by omega⟩
      have e : dgt ds E (E + (k : Int)) = ds.getD k 0 := by
        unfold dgt
        rw [if_pos hi, show (E + (k : Int) - E).toNat = k by omega]
      rw [e]
      exact digit_in g off ds.length c k S E _ w (hf k (by omega)) (by omega) h3 h4 h5
  · have e : dgt ds E i = 0 := by unfold dgt; rw [if_neg hi]
    rw [e]
    exact digit_out a ds.length c S E i w (by omega) h3 h4 h5

end Go.Proofs.YtmcllgoeldfgmaaDoor

/- The reference's size. -/
namespace Go.Proofs.YtmcllgoeldfgmaaDoor
open Go.RowKit

/-- Two magnitudes against each other, digit by digit from the top. -/
def SizeOf (ds1 : List Nat) (E1 : Int) (ds2 : List Nat) (E2 : Int) (r : Int) : Prop :=
  (r = 0 ∧ ∀ j, dgt ds1 E1 j = dgt ds2 E2 j) ∨ ∃ i, (∀ j, i < j → dgt ds1 E1 j = dgt ds2 E2 j) ∧ ((dgt ds2 E2 i < dgt ds1 E1 i ∧ r = 1) ∨ (dgt ds1 E1 i < dgt ds2 E2 i ∧ r = -1))

theorem dgt_above {ds : List Nat} {E j : Int} (h : E + (ds.length : Int) ≤ j) : dgt ds E j = 0 := by unfold dgt; rw [if_neg (by omega)]
theorem dgt_below {ds : List Nat} {E j : Int} (h : j < E) : dgt ds E j = 0 := by unfold dgt; rw [if_neg (by omega)]
theorem box_cell {w w' : World} (hb : Below w.heap.size w w') {p : Addr} {x : Value} (h : w.cell? p = some x) : w'.cell? p = some x := by
  rw [hb.cell (World.block_lt_of_cell? _ _ h)]; exact h

set_option maxHeartbeats 2000000 in
theorem size_walk (a1 a2 : Option Addr) (c1 c2 : Nat) (S1 S2 E1 E2 : Int) (ds1 ds2 : List Nat) (w : World) (hd1 : Dig w (.agg #[.int .i64 S1, .slice a1 ds1.length c1, .int .i64 E1]) S1 ds1 E1) (hd2 : Dig w (.agg #[.int .i64 S2, .slice a2 ds2.length c2, .int .i64 E2]) S2 ds2 E2) :
    Calls Tryd.prog 61 #[.agg #[.int .i64 S1, .slice a1 ds1.length c1, .int .i64 E1], .agg #[.int .i64 S2, .slice a2 ds2.length c2, .int .i64 E2]] w fun e w' => (∃ r, e = .returned (.int .i64 r) ∧ SizeOf ds1 E1 ds2 E2 r) ∧ Below w.heap.size w w' := by
  have D1 : Hid (Dig w (.agg #[.int .i64 S1, .slice a1 ds1.length c1, .int .i64 E1]) S1 ds1 E1) := hd1
  have D2 : Hid (Dig w (.agg #[.int .i64 S2, .slice a2 ds2.length c2, .int .i64 E2]) S2 ds2 E2) := hd2
  have l1 : (ds1.length : Int) ≤ 1000000 := by have := hd1.len; omega
  have l2 : (ds2.length : Int) ≤ 1000000 := by have := hd2.len; omega
  have p1 := hd1.e1
  have p2' := hd1.e2
  have p3 := hd2.e1
  have p4 := hd2.e2
  have w1 : IntKind.i64.wrap (E1 + (ds1.length : Int)) = E1 + (ds1.length : Int) := wrapE _ (by omega) (by omega)
  have w2 : IntKind.i64.wrap (E2 + (ds2.length : Int)) = E2 + (ds2.length : Int) := wrapE _ (by omega) (by omega)
  clear hd1 hd2
  go_enter Tryd.func61, Tryd.ntmps61
  go_wp2
  · go_loopw [7] (fun i wr => ∃ k : Int, i = .int .i64 k ∧ -3000000 ≤ k ∧ k ≤ 3000000 ∧ Hid (∀ j, k < j → dgt ds1 E1 j = dgt ds2 E2 j) ∧ wr.cell? ⟨w.heap.size, 0, none⟩ = some (.int .i64 S1) ∧ wr.cell? ⟨w.heap.size, 1, none⟩ = some (.slice a1 ds1.length c1) ∧ wr.cell? ⟨w.heap.size, 2, none⟩ = some (.int .i64 E1) ∧ wr.cell? ⟨w.heap.size + 1, 0, none⟩ = some (.int .i64 S2) ∧ wr.cell? ⟨w.heap.size + 1, 1, none⟩ = some (.slice a2 ds2.length c2) ∧ wr.cell? ⟨w.heap.size + 1, 2, none⟩ = some (.int .i64 E2) ∧ Hid (Below w.heap.size w wr)) (fun i _ => (intOf i + 4000000).toNat)
    case atStart => exact ⟨_, rfl, by omega, by omega, fun j hj => by rw [dgt_above (by omega), dgt_above (by omega)], by go_simp, by go_simp, by go_simp, by go_simp, by go_simp, by go_simp, (((Below.refl _ _).alloc (Nat.le_refl _) _).alloc (by simp) _)⟩
    case round =>
      obtain ⟨k, rfl, hk1, hk2, heq, z0, z1, z2, z3, z4, z5, hbk⟩ := hrel
      by_cases hlt : E2 ≤ k
      · go_wp2_with fail
        refine (digit_any _ S1 E1 k ds1 _ (D1.out.later hbk.out)).mono ?_
        rintro e w1' ⟨rfl, hb1⟩
        have y0 := box_cell hb1 z0
        have y1 := box_cell hb1 z1
        have y2 := box_cell hb1 z2
        have y3 := box_cell hb1 z3
        have y4 := box_cell hb1 z4
        have y5 := box_cell hb1 z5
        have HB1 : Hid (Below w.heap.size w w1') := hbk.out.trans (hb1.mono hbk.out.size)
        clear z0 z1 z2 z3 z4 z5 hbk hb1
        go_wp2_with fail
        refine (digit_any _ S2 E2 k ds2 _ (D2.out.later HB1.out)).mono ?_
        rintro e w2' ⟨rfl, hb2⟩
        have z0 := box_cell hb2 y0
        have z1 := box_cell hb2 y1
        have z2 := box_cell hb2 y2
        have z3 := box_cell hb2 y3
        have z4 := box_cell hb2 y4
        have z5 := box_cell hb2 y5
        have HB2 : Hid (Below w.heap.size w w2') := HB1.out.trans (hb2.mono HB1.out.size)
        clear y0 y1 y2 y3 y4 y5 HB1 hb2
        obtain ⟨x, hx⟩ : ∃ x, Hid (dgt ds1 E1 k = x) := ⟨_, rfl⟩
        obtain ⟨y, hy⟩ : ∃ y, Hid (dgt ds2 E2 k = y) := ⟨_, rfl⟩
        rw [hx.out, hy.out]
        have wk : IntKind.i64.wrap (k - 1) = k - 1 := wrapE _ (by omega) (by omega)
        rcases Nat.lt_trichotomy x y with h | h | h
        · have t1 : decide ((y : Int) < (x : Int)) = false := decide_eq_false (by omega)
          have t2 : decide ((x : Int) < (y : Int)) = true := decide_eq_true (by omega)
          go_wp2
          go_ret
          exact ⟨⟨_, rfl, Or.inr ⟨k, heq.out, Or.inr ⟨by rw [hx.out, hy.out]; exact h, rfl⟩⟩⟩, HB2.out⟩
        · subst h
          go_wp2
          go_roundw
          case rel => exact ⟨k - 1, by simp, by omega, by omega, fun j hj => by
            by_cases e : j = k
            · rw [e, hx.out, hy.out]
            · exact heq.out j (by omega), z0, z1, z2, z3, z4, z5, HB2.out⟩
          case measure => simp [intOf]; omega
        · have t1 : decide ((y : Int) < (x : Int)) = true := decide_eq_true (by omega)
          go_wp2
          go_ret
          exact ⟨⟨_, rfl, Or.inr ⟨k, heq.out, Or.inl ⟨by rw [hx.out, hy.out]; exact h, rfl⟩⟩⟩, HB2.out⟩
      · go_wp2
        go_ret
        exact ⟨⟨_, rfl, Or.inl ⟨rfl, fun j => by
          by_cases e : k < j
          · exact heq.out j e
          · rw [dgt_below (by omega), dgt_below (by omega)]⟩⟩, hbk.out⟩
  · go_loopw [7] (fun i wr => ∃ k : Int, i = .int .i64 k ∧ -3000000 ≤ k ∧ k ≤ 3000000 ∧ Hid (∀ j, k < j → dgt ds1 E1 j = dgt ds2 E2 j) ∧ wr.cell? ⟨w.heap.size, 0, none⟩ = some (.int .i64 S1) ∧ wr.cell? ⟨w.heap.size, 1, none⟩ = some (.slice a1 ds1.length c1) ∧ wr.cell? ⟨w.heap.size, 2, none⟩ = some (.int .i64 E1) ∧ wr.cell? ⟨w.heap.size + 1, 0, none⟩ = some (.int .i64 S2) ∧ wr.cell? ⟨w.heap.size + 1, 1, none⟩ = some (.slice a2 ds2.length c2) ∧ wr.cell? ⟨w.heap.size + 1, 2, none⟩ = some (.int .i64 E2) ∧ Hid (Below w.heap.size w wr)) (fun i _ => (intOf i + 4000000).toNat)
    case atStart => exact ⟨_, rfl, by omega, by omega, fun j hj => by rw [dgt_above (by omega), dgt_above (by omega)], by go_simp, by go_simp, by go_simp, by go_simp, by go_simp, by go_simp, (((Below.refl _ _).alloc (Nat.le_refl _) _).alloc (by simp) _)⟩
    case round =>
      obtain ⟨k, rfl, hk1, hk2, heq, z0, z1, z2, z3, z4, z5, hbk⟩ := hrel
      by_cases hlt : E1 ≤ k
      · go_wp2_with fail
        refine (digit_any _ S1 E1 k ds1 _ (D1.out.later hbk.out)).mono ?_
        rintro e w1' ⟨rfl, hb1⟩
        have y0 := box_cell hb1 z0
        have y1 := box_cell hb1 z1
        have y2 := box_cell hb1 z2
        have y3 := box_cell hb1 z3
        have y4 := box_cell hb1 z4
        have y5 := box_cell hb1 z5
        have HB1 : Hid (Below w.heap.size w w1') := hbk.out.trans (hb1.mono hbk.out.size)
        clear z0 z1 z2 z3 z4 z5 hbk hb1
        go_wp2_with fail
        refine (digit_any _ S2 E2 k ds2 _ (D2.out.later HB1.out)).mono ?_
        rintro e w2' ⟨rfl, hb2⟩
        have z0 := box_cell hb2 y0
        have z1 := box_cell hb2 y1
        have z2 := box_cell hb2 y2
        have z3 := box_cell hb2 y3
        have z4 := box_cell hb2 y4
        have z5 := box_cell hb2 y5
        have HB2 : Hid (Below w.heap.size w w2') := HB1.out.trans (hb2.mono HB1.out.size)
        clear y0 y1 y2 y3 y4 y5 HB1 hb2
        obtain ⟨x, hx⟩ : ∃ x, Hid (dgt ds1 E1 k = x) := ⟨_, rfl⟩
        obtain ⟨y, hy⟩ : ∃ y, Hid (dgt ds2 E2 k = y) := ⟨_, rfl⟩
        rw [hx.out, hy.out]
        have wk : IntKind.i64.wrap (k - 1) = k - 1 := wrapE _ (by omega) (by omega)
        rcases Nat.lt_trichotomy x y with h | h | h
        · have t1 : decide ((y : Int) < (x : Int)) = false := decide_eq_false (by omega)
          have t2 : decide ((x : Int) < (y : Int)) = true := decide_eq_true (by omega)
          go_wp2
          go_ret
          exact ⟨⟨_, rfl, Or.inr ⟨k, heq.out, Or.inr ⟨by rw [hx.out, hy.out]; exact h, rfl⟩⟩⟩, HB2.out⟩
        · subst h
          go_wp2
          go_roundw
          case rel => exact ⟨k - 1, by simp, by omega, by omega, fun j hj => by
            by_cases e : j = k
            · rw [e, hx.out, hy.out]
            · exact heq.out j (by omega), z0, z1, z2, z3, z4, z5, HB2.out⟩
          case measure => simp [intOf]; omega
        · have t1 : decide ((y : Int) < (x : Int)) = true := decide_eq_true (by omega)
          go_wp2
          go_ret
          exact ⟨⟨_, rfl, Or.inr ⟨k, heq.out, Or.inl ⟨by rw [hx.out, hy.out]; exact h, rfl⟩⟩⟩, HB2.out⟩
      · go_wp2
        go_ret
        exact ⟨⟨_, rfl, Or.inl ⟨rfl, fun j => by
          by_cases e : k < j
          · exact heq.out j e
          · rw [dgt_below (by omega), dgt_below (by omega)]⟩⟩, hbk.out⟩
  · go_loopw [7] (fun i wr => ∃ k : Int, i = .int .i64 k ∧ -3000000 ≤ k ∧ k ≤ 3000000 ∧ Hid (∀ j, k < j → dgt ds1 E1 j = dgt ds2 E2 j) ∧ wr.cell? ⟨w.heap.size, 0, none⟩ = some (.int .i64 S1) ∧ wr.cell? ⟨w.heap.size, 1, none⟩ = some (.slice a1 ds1.length c1) ∧ wr.cell? ⟨w.heap.size, 2, none⟩ = some (.int .i64 E1) ∧ wr.cell? ⟨w.heap.size + 1, 0, none⟩ = some (.int .i64 S2) ∧ wr.cell? ⟨w.heap.size + 1, 1, none⟩ = some (.slice a2 ds2.length c2) ∧ wr.cell? ⟨w.heap.size + 1, 2, none⟩ = some (.int .i64 E2) ∧ Hid (Below w.heap.size w wr)) (fun i _ => (intOf i + 4000000).toNat)
    case atStart => exact ⟨_, rfl, by omega, by omega, fun j hj => by rw [dgt_above (by omega), dgt_above (by omega)], by go_simp, by go_simp, by go_simp, by go_simp, by go_simp, by go_simp, (((Below.refl _ _).alloc (Nat.le_refl _) _).alloc (by simp) _)⟩
    case round =>
      obtain ⟨k, rfl, hk1, hk2, heq, z0, z1, z2, z3, z4, z5, hbk⟩ := hrel
      by_cases hlt : E2 ≤ k
      · go_wp2_with fail
        refine (digit_any _ S1 E1 k ds1 _ (D1.out.later hbk.out)).mono ?_
        rintro e w1' ⟨rfl, hb1⟩
        have y0 := box_cell hb1 z0
        have y1 := box_cell hb1 z1
        have y2 := box_cell hb1 z2
        have y3 := box_cell hb1 z3
        have y4 := box_cell hb1 z4
        have y5 := box_cell hb1 z5
        have HB1 : Hid (Below w.heap.size w w1') := hbk.out.trans (hb1.mono hbk.out.size)
        clear z0 z1 z2 z3 z4 z5 hbk hb1
        go_wp2_with fail
        refine (digit_any _ S2 E2 k ds2 _ (D2.out.later HB1.out)).mono ?_
        rintro e w2' ⟨rfl, hb2⟩
        have z0 := box_cell hb2 y0
        have z1 := box_cell hb2 y1
        have z2 := box_cell hb2 y2
        have z3 := box_cell hb2 y3
        have z4 := box_cell hb2 y4
        have z5 := box_cell hb2 y5
        have HB2 : Hid (Below w.heap.size w w2') := HB1.out.trans (hb2.mono HB1.out.size)
        clear y0 y1 y2 y3 y4 y5 HB1 hb2
        obtain ⟨x, hx⟩ : ∃ x, Hid (dgt ds1 E1 k = x) := ⟨_, rfl⟩
        obtain ⟨y, hy⟩ : ∃ y, Hid (dgt ds2 E2 k = y) := ⟨_, rfl⟩
        rw [hx.out, hy.out]
        have wk : IntKind.i64.wrap (k - 1) = k - 1 := wrapE _ (by omega) (by omega)
        rcases Nat.lt_trichotomy x y with h | h | h
        · have t1 : decide ((y : Int) < (x : Int)) = false := decide_eq_false (by omega)
          have t2 : decide ((x : Int) < (y : Int)) = true := decide_eq_true (by omega)
          go_wp2
          go_ret
          exact ⟨⟨_, rfl, Or.inr ⟨k, heq.out, Or.inr ⟨by rw [hx.out, hy.out]; exact h, rfl⟩⟩⟩, HB2.out⟩
        · subst h
          go_wp2
          go_roundw
          case rel => exact ⟨k - 1, by simp, by omega, by omega, fun j hj => by
            by_cases e : j = k
            · rw [e, hx.out, hy.out]
            · exact heq.out j (by omega), z0, z1, z2, z3, z4, z5, HB2.out⟩
          case measure => simp [intOf]; omega
        · have t1 : decide ((y : Int) < (x : Int)) = true := decide_eq_true (by omega)
          go_wp2
          go_ret
          exact ⟨⟨_, rfl, Or.inr ⟨k, heq.out, Or.inl ⟨by rw [hx.out, hy.out]; exact h, rfl⟩⟩⟩, HB2.out⟩
      · go_wp2
        go_ret
        exact ⟨⟨_, rfl, Or.inl ⟨rfl, fun j => by
          by_cases e : k < j
          · exact heq.out j e
          · rw [dgt_below (by omega), dgt_below (by omega)]⟩⟩, hbk.out⟩
  · go_loopw [7] (fun i wr => ∃ k : Int, i = .int .i64 k ∧ -3000000 ≤ k ∧ k ≤ 3000000 ∧ Hid (∀ j, k < j → dgt ds1 E1 j = dgt ds2 E2 j) ∧ wr.cell? ⟨w.heap.size, 0, none⟩ = some (.int .i64 S1) ∧ wr.cell? ⟨w.heap.size, 1, none⟩ = some (.slice a1 ds1.length c1) ∧ wr.cell? ⟨w.heap.size, 2, none⟩ = some (.int .i64 E1) ∧ wr.cell? ⟨w.heap.size + 1, 0, none⟩ = some (.int .i64 S2) ∧ wr.cell? ⟨w.heap.size + 1, 1, none⟩ = some (.slice a2 ds2.length c2) ∧ wr.cell? ⟨w.heap.size + 1, 2, none⟩ = some (.int .i64 E2) ∧ Hid (Below w.heap.size w wr)) (fun i _ => (intOf i + 4000000).toNat)
    case atStart => exact ⟨_, rfl, by omega, by omega, fun j hj => by rw [dgt_above (by omega), dgt_above (by omega)], by go_simp, by go_simp, by go_simp, by go_simp, by go_simp, by go_simp, (((Below.refl _ _).alloc (Nat.le_refl _) _).alloc (by simp) _)⟩
    case round =>
      obtain ⟨k, rfl, hk1, hk2, heq, z0, z1, z2, z3, z4, z5, hbk⟩ := hrel
      by_cases hlt : E1 ≤ k
      · go_wp2_with fail
        refine (digit_any _ S1 E1 k ds1 _ (D1.out.later hbk.out)).mono ?_
        rintro e w1' ⟨rfl, hb1⟩
        have y0 := box_cell hb1 z0
        have y1 := box_cell hb1 z1
        have y2 := box_cell hb1 z2
        have y3 := box_cell hb1 z3
        have y4 := box_cell hb1 z4
        have y5 := box_cell hb1 z5
        have HB1 : Hid (Below w.heap.size w w1') := hbk.out.trans (hb1.mono hbk.out.size)
        clear z0 z1 z2 z3 z4 z5 hbk hb1
        go_wp2_with fail
        refine (digit_any _ S2 E2 k ds2 _ (D2.out.later HB1.out)).mono ?_
        rintro e w2' ⟨rfl, hb2⟩
        have z0 := box_cell hb2 y0
        have z1 := box_cell hb2 y1
        have z2 := box_cell hb2 y2
        have z3 := box_cell hb2 y3
        have z4 := box_cell hb2 y4
        have z5 := box_cell hb2 y5
        have HB2 : Hid (Below w.heap.size w w2') := HB1.out.trans (hb2.mono HB1.out.size)
        clear y0 y1 y2 y3 y4 y5 HB1 hb2
        obtain ⟨x, hx⟩ : ∃ x, Hid (dgt ds1 E1 k = x) := ⟨_, rfl⟩
        obtain ⟨y, hy⟩ : ∃ y, Hid (dgt ds2 E2 k = y) := ⟨_, rfl⟩
        rw [hx.out, hy.out]
        have wk : IntKind.i64.wrap (k - 1) = k - 1 := wrapE _ (by omega) (by omega)
        rcases Nat.lt_trichotomy x y with h | h | h
        · have t1 : decide ((y : Int) < (x : Int)) = false := decide_eq_false (by omega)
          have t2 : decide ((x : Int) < (y : Int)) = true := decide_eq_true (by omega)
          go_wp2
          go_ret
          exact ⟨⟨_, rfl, Or.inr ⟨k, heq.out, Or.inr ⟨by rw [hx.out, hy.out]; exact h, rfl⟩⟩⟩, HB2.out⟩
        · subst h
          go_wp2
          go_roundw
          case rel => exact ⟨k - 1, by simp, by omega, by omega, fun j hj => by
            by_cases e : j = k
            · rw [e, hx.out, hy.out]
            · exact heq.out j (by omega), z0, z1, z2, z3, z4, z5, HB2.out⟩
          case measure => simp [intOf]; omega
        · have t1 : decide ((y : Int) < (x : Int)) = true := decide_eq_true (by omega)
          go_wp2
          go_ret
          exact ⟨⟨_, rfl, Or.inr ⟨k, heq.out, Or.inl ⟨by rw [hx.out, hy.out]; exact h, rfl⟩⟩⟩, HB2.out⟩
      · go_wp2
        go_ret
        exact ⟨⟨_, rfl, Or.inl ⟨rfl, fun j => by
          by_cases e : k < j
          · exact heq.out j e
          · rw [dgt_below (by omega), dgt_below (by omega)]⟩⟩, hbk.out⟩

end Go.Proofs.YtmcllgoeldfgmaaDoor

/- The reference's trim. -/
namespace Go.Proofs.YtmcllgoeldfgmaaDoor
open Go.RowKit

theorem dgt_eq (ds : List Nat) (E j : Int) : dgt ds E j = if E ≤ j then ds.getD (j - E).toNat 0 else 0 := by
  unfold dgt
  by_cases h : E ≤ j
  · by_cases h2 : j < E + (ds.length : Int)
    · rw [if_pos ⟨h, h2⟩, if_pos h]
    · rw [if_neg (by omega), if_pos h]
      simp [List.getD, List.getElem?_eq_none (by omega : ds.length ≤ (j - E).toNat)]
  · rw [if_neg (by omega), if_neg h]
theorem dgt_nil (E j : Int) : dgt [] E j = 0 := by rw [dgt_eq]; split <;> simp
theorem dgt_zero {ds : List Nat} {E j : Int} (h : ∀ i, ds.getD i 0 = 0) : dgt ds E j = 0 := by rw [dgt_eq]; split; exact h _; rfl
theorem cut_getD {ds : List Nat} {n k i : Nat} (h : k + i < n) : ((ds.take n).drop k).getD i 0 = ds.getD (k + i) 0 := by
  simp [List.getD, List.getElem?_drop, h]
theorem dgt_cut {ds : List Nat} {E : Int} {n k : Nat} (_hk : k ≤ n) (h1 : ∀ j, j < k → ds.getD j 0 = 0) (h2 : ∀ j, n ≤ j → ds.getD j 0 = 0) (j : Int) : dgt ((ds.take n).drop k) (E + (k : Int)) j = dgt ds E j := by
  rw [dgt_eq, dgt_eq]
  by_cases a : E ≤ j
  · by_cases b : E + (k : Int) ≤ j
    · rw [if_pos a, if_pos b]
      by_cases c : (j - E).toNat < n
      · rw [cut_getD (by omega)]; congr 1; omega
      · rw [h2 _ (by omega)]
        simp [List.getD, List.getElem?_drop, List.getElem?_take]
        rw [if_neg (by omega)]; rfl
    · rw [if_pos a, if_neg b, h1 _ (by omega)]
  · rw [if_neg a, if_neg (by omega)]

/-- What trim hands back. -/
def TrimR (w w' : World) (S : Int) (ds : List Nat) (E : Int) (e : Ending) : Prop :=
  ∃ v S' ds' E', e = .returned v ∧ Dig w' v S' ds' E' ∧ (∀ j, dgt ds' E' j = dgt ds E j) ∧ ((ds' = [] ∧ S' = 0 ∧ E' = 0) ∨ (ds' ≠ [] ∧ S' = S ∧ ds'.getD 0 0 ≠ 0 ∧ ds'.getD (ds'.length - 1) 0 ≠ 0)) ∧ Below w.heap.size w w'

set_option maxHeartbeats 4000000 in
theorem trim_walk (g off c : Nat) (S E : Int) (ds : List Nat) (w : World) (hc : ∀ k, k < ds.length → w.cell? ⟨g, off + k, none⟩ = some (.int .i64 (ds.getD k 0 : Nat))) (hsm : ∀ d ∈ ds, d < 16777216) (hlen : ds.length ≤ 1000000) (hcap : ds.length ≤ c) (h1 : -1000000 ≤ E) (h2 : E + (ds.length : Int) ≤ 1000000) (hir : IntRow w g) :
    Calls Tryd.prog 63 #[.agg #[.int .i64 S, .slice (some ⟨g, off, none⟩) ds.length c, .int .i64 E]] w fun e w' => TrimR w w' S ds E e := by
  have hg : g < w.heap.size := hir.lt
  have HIR : Hid (IntRow w g) := hir
  clear hir
  have HC : Hid (∀ k, k < ds.length → w.cell? ⟨g, off + k, none⟩ = some (.int .i64 (ds.getD k 0 : Nat))) := hc
  have l1 : (ds.length : Int) ≤ 1000000 := by omega
  clear hc
  go_enter Tryd.func63, Tryd.ntmps63
  go_wp2
  go_loop [3] (fun s => ∃ n : Nat, n ≤ ds.length ∧ s = .slice (some ⟨g, off, none⟩) n c ∧ Hid (∀ j, n ≤ j → ds.getD j 0 = 0)) (fun s => match s with | .slice _ n _ => n | _ => 0)
  case atStart => exact ⟨_, Nat.le_refl _, rfl, fun j hj => by simp [List.getD, List.getElem?_eq_none hj]⟩
  case round =>
    obtain ⟨n, hn, rfl, hz⟩ := hrel
    by_cases h0 : n = 0
    · subst h0
      have HL : Hid (0 < 0 → ds.getD (0 - 1) 0 ≠ 0) := fun h => by omega
      go_wp2
      go_loop [3, 4] (fun s e => ∃ (k m cc : Nat) (ad : Option Addr), k + m = 0 ∧ m ≤ cc ∧ (m = 0 ∨ ad = some ⟨g, off + k, none⟩) ∧ s = .slice ad m cc ∧ e = .int .i64 (E + (k : Int)) ∧ Hid (∀ j, j < k → ds.getD j 0 = 0)) (fun s _ => match s with | .slice _ n _ => n | _ => 0)
      case atStart => exact ⟨0, 0, c, _, by omega, by omega, Or.inr rfl, rfl, by simp, fun j hj => by omega⟩
      case round =>
        obtain ⟨k, m, cc, ad, hkm, hmc, had, rfl, rfl, hy⟩ := hrel
        by_cases m0 : m = 0
        · subst m0
          clear had
          go_wp2
          refine bodyPost_ret (v := .agg #[.int .i64 0, .slice none 0 0, .int .i64 0]) (by simp [results, Tryd.results63, go_sem]) rfl ?_
          refine ⟨_, 0, [], 0, rfl, ⟨⟨none, 0, rfl, by simp, Or.inl rfl⟩, by simp, by simp, by omega, by omega⟩, ?_, Or.inl ⟨rfl, rfl, rfl⟩, ?_⟩
          · intro j
            rw [dgt_nil]
            exact (dgt_zero (fun i => by
              by_cases hi : i < k
              · exact hy.out i hi
              · exact hz.out i (by omega))).symm
          · repeat (first | exact Below.refl _ _ | refine Below.alloc ?_ (by simp) _ | refine Below.setCell ?_ (by simp) _)
        · exact absurd hkm (by omega)

    · obtain ⟨q, rfl⟩ : ∃ q, n = q + 1 := ⟨n - 1, by omega⟩
      have hcq : ((w.alloc (.cells #[.int .i64 S, .slice (some ⟨g, off, none⟩) ds.length c, .int .i64 E] 47)).alloc (.cells #[.int .i64 0, .slice none 0 0, .int .i64 0] 47)).cell? ⟨g, off + q, none⟩ = some (.int .i64 (ds.getD q 0 : Nat)) := by
        rw [World.cell?_alloc_lt _ _ _ (by simp; omega), World.cell?_alloc_lt _ _ _ hg]; exact HC.out q (by omega)
      by_cases hw : ds.getD q 0 = 0
      · rw [hw] at hcq
        have hz' : Hid (∀ j, q ≤ j → ds.getD j 0 = 0) := fun j hj => by
          by_cases e : j = q
          · rw [e]; exact hw
          · exact hz.out j (by omega)
        clear hw hz
        go_wp2
        go_round
        case rel => exact ⟨q, by omega, by go_num, hz'⟩
        case measure => simp
      · have HL : Hid (0 < q + 1 → ds.getD (q + 1 - 1) 0 ≠ 0) := fun _ => hw
        have hwq : (((ds.getD q 0 : Nat) : Int) == 0) = false := by rw [beq_eq_false_iff_ne]; omega
        obtain ⟨x0, hx0⟩ : ∃ x, Hid (ds.getD q 0 = x) := ⟨_, rfl⟩
        rw [hx0.out] at hcq hwq
        clear hw
        go_wp2
        clear hcq hwq
        go_loop [3, 4] (fun s e => ∃ (k m cc : Nat) (ad : Option Addr), k + m = (q + 1) ∧ m ≤ cc ∧ (m = 0 ∨ ad = some ⟨g, off + k, none⟩) ∧ s = .slice ad m cc ∧ e = .int .i64 (E + (k : Int)) ∧ Hid (∀ j, j < k → ds.getD j 0 = 0)) (fun s _ => match s with | .slice _ n _ => n | _ => 0)
        case atStart => exact ⟨0, (q + 1), c, _, by omega, by omega, Or.inr rfl, rfl, by simp, fun j hj => by omega⟩
        case round =>
          obtain ⟨k, m, cc, ad, hkm, hmc, had, rfl, rfl, hy⟩ := hrel
          by_cases m0 : m = 0
          · subst m0
            clear had
            go_wp2
            refine bodyPost_ret (v := .agg #[.int .i64 0, .slice none 0 0, .int .i64 0]) (by simp [results, Tryd.results63, go_sem]) rfl ?_
            refine ⟨_, 0, [], 0, rfl, ⟨⟨none, 0, rfl, by simp, Or.inl rfl⟩, by simp, by simp, by omega, by omega⟩, ?_, Or.inl ⟨rfl, rfl, rfl⟩, ?_⟩
            · intro j
              rw [dgt_nil]
              exact (dgt_zero (fun i => by
                by_cases hi : i < k
                · exact hy.out i hi
                · exact hz.out i (by omega))).symm
            · repeat (first | exact Below.refl _ _ | refine Below.alloc ?_ (by simp) _ | refine Below.setCell ?_ (by simp) _)
          · obtain ⟨p, rfl⟩ : ∃ p, m = p + 1 := ⟨m - 1, by omega⟩
            obtain rfl : ad = some ⟨g, off + k, none⟩ := had.resolve_left m0
            clear had
            have hck : ((w.alloc (.cells #[.int .i64 S, .slice (some ⟨g, off, none⟩) ds.length c, .int .i64 E] 47)).alloc (.cells #[.int .i64 0, .slice none 0 0, .int .i64 0] 47)).cell? ⟨g, off + k, none⟩ = some (.int .i64 (ds.getD k 0 : Nat)) := by
              rw [World.cell?_alloc_lt _ _ _ (by simp; omega), World.cell?_alloc_lt _ _ _ hg]; exact HC.out k (by omega)
            by_cases hw : ds.getD k 0 = 0
            · rw [hw] at hck
              have hki : (k : Int) ≤ 1000000 := by omega
              have hy' : Hid (∀ j, j < k + 1 → ds.getD j 0 = 0) := fun j hj => by
                by_cases e : j = k
                · rw [e]; exact hw
                · exact hy.out j (by omega)
              have wk : IntKind.i64.wrap (E + (k : Int) + 1) = E + ((k + 1 : Nat) : Int) := by rw [show E + (k : Int) + 1 = E + ((k + 1 : Nat) : Int) by omega]; exact wrapE _ (by omega) (by omega)
              have hcc : (1 : Int) ≤ (cc : Int) := by omega
              have hpp : (p : Int) + 1 ≤ (cc : Int) := by omega
              clear hw hy
              go_wp2
              go_round
              case rel =>
                refine ⟨k + 1, p, cc - 1, _, by omega, by omega, ?_, rfl, by simp, hy'⟩
                by_cases e : cc = 1
                · left; omega
                · right; rw [if_neg e]; rfl
              case measure => simp
            · have hwq : (((ds.getD k 0 : Nat) : Int) == 0) = false := by rw [beq_eq_false_iff_ne]; omega
              have HW : Hid (ds.getD k 0 ≠ 0) := hw
              obtain ⟨x, hx⟩ : ∃ x, Hid (ds.getD k 0 = x) := ⟨_, rfl⟩
              rw [hx.out] at hck hwq
              clear hw
              go_wp2
              refine bodyPost_ret (v := .agg #[.int .i64 S, .slice (some ⟨g, off + k, none⟩) (p + 1) cc, .int .i64 (E + (k : Int))]) (by simp [results, Tryd.results63, go_sem]) rfl ?_
              have hl : ((ds.take ((q + 1))).drop k).length = p + 1 := by simp; omega
              refine ⟨_, S, (ds.take ((q + 1))).drop k, E + (k : Int), rfl, ⟨⟨some ⟨g, off + k, none⟩, cc, by rw [hl], by rw [hl]; exact hmc, Or.inr ⟨g, off + k, rfl, ?_, (HIR.out.alloc _).alloc _⟩⟩, fun d hd => hsm d (List.mem_of_mem_take (List.mem_of_mem_drop hd)), by omega, by omega, by omega⟩, fun j => dgt_cut (by omega) hy.out hz.out j, Or.inr ⟨by intro h; rw [h] at hl; simp at hl, rfl, ?_, ?_⟩, ?_⟩
              · intro i hi
                rw [cut_getD (by omega), show off + k + i = off + (k + i) by omega]
                rw [World.cell?_alloc_lt _ _ _ (by simp; omega), World.cell?_alloc_lt _ _ _ hg]; exact HC.out (k + i) (by omega)
              · rw [cut_getD (by omega)]; exact HW.out
              · rw [hl, cut_getD (by omega), show k + (p + 1 - 1) = (q + 1) - 1 by omega]; exact HL.out (by omega)
              · repeat (first | exact Below.refl _ _ | refine Below.alloc ?_ (by simp) _ | refine Below.setCell ?_ (by simp) _)

end Go.Proofs.YtmcllgoeldfgmaaDoor

/- The reference's Neg; trim of any number. -/
namespace Go.Proofs.YtmcllgoeldfgmaaDoor
open Go.RowKit

theorem wrap_neg1 {S : Int} (h : S = -1 ∨ S = 0 ∨ S = 1) : IntKind.i64.wrap (-S) = -S := wrapE _ (by omega) (by omega)

set_option maxHeartbeats 1000000 in
theorem refNeg_walk (a : Option Addr) (n c : Nat) (S E : Int) (w : World) (hS : S = -1 ∨ S = 0 ∨ S = 1) :
    Calls Tryd.prog 31 #[.agg #[.int .i64 S, .slice a n c, .int .i64 E]] w fun e w' => e = .returned (.agg #[.int .i64 (-S), .slice a n c, .int .i64 E]) ∧ Below w.heap.size w w' := by
  have hw := wrap_neg1 hS
  clear hS
  go_enter Tryd.func31, Tryd.ntmps31
  go_wp2
  refine bodyPost_ret (v := .agg #[.int .i64 (-S), .slice a n c, .int .i64 E]) (by simp [results, Tryd.results31, go_sem]) rfl ?_
  refine ⟨rfl, ?_⟩
  repeat (first | exact Below.refl _ _ | refine Below.drew ?_ | refine Below.alloc ?_ (by simp) _ | refine Below.setCell ?_ (by simp) _)

set_option maxHeartbeats 1000000 in
theorem trim_nil (a : Option Addr) (c : Nat) (S E : Int) (w : World) :
    Calls Tryd.prog 63 #[.agg #[.int .i64 S, .slice a 0 c, .int .i64 E]] w fun e w' => TrimR w w' S [] E e := by
  go_enter Tryd.func63, Tryd.ntmps63
  go_wp2
  go_loop [3] (fun s => s = .slice a 0 c) (fun _ => 0)
  case atStart => rfl
  case round =>
    subst hrel
    go_wp2
    go_loop [3, 4] (fun s e => s = .slice a 0 c ∧ e = .int .i64 E) (fun _ _ => 0)
    case atStart => exact ⟨rfl, rfl⟩
    case round =>
      obtain ⟨rfl, rfl⟩ := hrel
      go_wp2
      refine bodyPost_ret (v := .agg #[.int .i64 0, .slice none 0 0, .int .i64 0]) (by simp [results, Tryd.results63, go_sem]) rfl ?_
      refine ⟨_, 0, [], 0, rfl, ⟨⟨none, 0, rfl, by simp, Or.inl rfl⟩, by simp, by simp, by omega, by omega⟩, fun j => by rw [dgt_nil, dgt_nil], Or.inl ⟨rfl, rfl, rfl⟩, ?_⟩
      repeat (first | exact Below.refl _ _ | refine Below.alloc ?_ (by simp) _ | refine Below.setCell ?_ (by simp) _)

/-- trim, of whatever number. -/
theorem trim_any (v : Value) (S E : Int) (ds : List Nat) (w : World) (h : Dig w v S ds E) (hE : E + (ds.length : Int) ≤ 1000000) :
    Calls Tryd.prog 63 #[v] w fun e w' => TrimR w w' S ds E e := by
  obtain ⟨⟨a, c, rfl, hcap, hf⟩, h2, h3, h4, h5⟩ := h
  by_cases h0 : ds = []
  · subst h0
    exact trim_nil a c S E w
  · rcases hf with hf | ⟨g, off, rfl, hf, hr⟩
    · exact absurd hf h0
    · have hl : 0 < ds.length := List.length_pos_iff.2 h0
      exact trim_walk g off c S E ds w hf h2 h3 hcap h4 hE hr

theorem refNeg_any (v : Value) (S E : Int) (ds : List Nat) (w : World) (h : Dig w v S ds E) (hS : S = -1 ∨ S = 0 ∨ S = 1) :
    Calls Tryd.prog 31 #[v] w fun e w' => (∃ v', e = .returned v' ∧ Dig w' v' (-S) ds E) ∧ Below w.heap.size w w' := by
  obtain ⟨⟨a, c, rfl, hcap, hf⟩, h2, h3, h4, h5⟩ := h
  refine (refNeg_walk a ds.length c S E w hS).mono ?_
  rintro e w' ⟨rfl, hb⟩
  have hd : Dig w (.agg #[.int .i64 (-S), .slice a ds.length c, .int .i64 E]) (-S) ds E := ⟨⟨a, c, rfl, hcap, hf⟩, h2, h3, h4, h5⟩
  exact ⟨⟨_, rfl, hd.later hb⟩, hb⟩

end Go.Proofs.YtmcllgoeldfgmaaDoor

/- The reference's Low. -/
namespace Go.Proofs.YtmcllgoeldfgmaaDoor
open Go.RowKit

/-- What Low hands back. -/
def LowR (ds : List Nat) (E : Int) (e : Ending) : Prop := ∃ (ds' : List Nat) (E' : Int) (t x : Nat), e = .returned (.int .i64 (24 * E' + (t : Int))) ∧ (∀ j, dgt ds' E' j = dgt ds E j) ∧ ds'.getD 0 0 = x * 2 ^ t ∧ x % 2 = 1

set_option maxHeartbeats 2000000 in
theorem refLow_walk (a : Option Addr) (c : Nat) (S E : Int) (ds : List Nat) (w : World) (hd : Dig w (.agg #[.int .i64 S, .slice a ds.length c, .int .i64 E]) S ds E) (hE : E + (ds.length : Int) ≤ 1000000) (hS : (S == 0) = false) (hne : ∃ j, dgt ds E j ≠ 0) :
    Calls Tryd.prog 65 #[.agg #[.int .i64 S, .slice a ds.length c, .int .i64 E]] w fun e w' => LowR ds E e ∧ Below w.heap.size w w' := by
  have HD : Hid (Dig w (.agg #[.int .i64 S, .slice a ds.length c, .int .i64 E]) S ds E) := hd
  have HN : Hid (∃ j, dgt ds E j ≠ 0) := hne
  have HA : Hid (Below w.heap.size w (w.alloc (.cells #[.int .i64 S, .slice a ds.length c, .int .i64 E] 47))) := (Below.refl _ _).alloc (Nat.le_refl _) _
  clear hd hne
  go_enter Tryd.func65, Tryd.ntmps65
  go_wp2_with fail
  refine (trim_any _ S E ds _ (HD.out.later HA.out) hE).mono ?_
  rintro e w1 ⟨v1, S1, ds1, E1, rfl, hd1, heq, hcase, hb1⟩
  rcases hcase with ⟨rfl, _, _⟩ | ⟨hn1, rfl, hf0, _⟩
  · exfalso
    obtain ⟨j, hj⟩ := HN.out
    rw [← heq j, dgt_nil] at hj
    exact hj rfl
  obtain ⟨⟨a1, c1, rfl, hcap, hf⟩, hsm, hl1, he1, he2⟩ := hd1
  rcases hf with hf | ⟨g, off, rfl, hf, _⟩
  · exact absurd hf hn1
  have hlen : 0 < ds1.length := List.length_pos_iff.2 hn1
  have hc0 : w1.cell? ⟨g, off, none⟩ = some (.int .i64 (ds1.getD 0 0 : Nat)) := hf 0 hlen
  have hg : g < w1.heap.size := World.block_lt_of_cell? _ _ hc0
  have hlen' : (0 : Int) < (ds1.length : Int) := by omega
  have HB1 : Hid (Below w.heap.size w w1) := HA.out.trans (hb1.mono HA.out.size)
  have HQ : Hid (∀ j, dgt ds1 E1 j = dgt ds E j) := heq
  obtain ⟨x0, hx0⟩ : ∃ x, Hid (ds1.getD 0 0 = x) := ⟨_, rfl⟩
  have hxs : x0 < 16777216 := by
    have := hsm (ds1.getD 0 0) (by rw [List.getD_eq_getElem?_getD, List.getElem?_eq_getElem hlen]; simp)
    rwa [hx0.out] at this
  have hxp : x0 ≠ 0 := by rw [← hx0.out]; exact hf0
  rw [hx0.out] at hc0
  have hw24 : IntKind.i64.wrap (24 * E1) = 24 * E1 := wrapE _ (by omega) (by omega)
  clear hf hsm heq hf0 hb1
  go_wp2
  go_loop [4, 5] (fun n d => ∃ x t : Nat, x ≠ 0 ∧ Hid (x0 = x * 2 ^ t) ∧ t ≤ 24 ∧ x < 16777216 ∧ n = .int .i64 (24 * E1 + (t : Int)) ∧ d = .int .i64 (x : Int)) (fun _ d => (intOf d).toNat)
  case atStart => exact ⟨x0, 0, hxp, by simp [Hid], by omega, hxs, by simp, rfl⟩
  case round =>
    obtain ⟨x, t, hx, hxt, ht, hxl, rfl, rfl⟩ := hrel
    by_cases he : x % 2 = 0
    · have t1 : (((x : Nat) : Int) % 2 == 0) = true := by simp; omega
      have ht2 : t + 1 ≤ 24 := by
        have e1 : 2 ^ (t + 1) ≤ x * 2 ^ t := by rw [Nat.pow_succ, Nat.mul_comm]; exact Nat.mul_le_mul_right _ (by omega)
        rw [← hxt.out] at e1
        have : 2 ^ (t + 1) < 2 ^ 24 := Nat.lt_of_le_of_lt e1 hxs
        have := (Nat.pow_lt_pow_iff_right (by omega : 1 < 2)).1 this
        omega
      have hxt' : Hid (x0 = x / 2 * 2 ^ (t + 1)) := by
        have h2 : x = x / 2 * 2 := by omega
        show x0 = x / 2 * 2 ^ (t + 1)
        rw [hxt.out, Nat.pow_succ, Nat.mul_comm (2 ^ t) 2, ← Nat.mul_assoc, ← h2]
      have wk : IntKind.i64.wrap (24 * E1 + (t : Int) + 1) = 24 * E1 + ((t + 1 : Nat) : Int) := by rw [show 24 * E1 + (t : Int) + 1 = 24 * E1 + ((t + 1 : Nat) : Int) by omega]; exact wrapE _ (by omega) (by omega)
      clear hxt
      go_wp2
      go_round
      case rel => exact ⟨x / 2, t + 1, by omega, hxt', ht2, by omega, by first | rfl | simp, by simp⟩
      case measure => simp [intOf]; omega
    · have t1 : (((x : Nat) : Int) % 2 == 0) = false := by simp; omega
      go_wp2
      go_ret
      exact ⟨⟨ds1, E1, t, x, rfl, HQ.out, by rw [hx0.out]; exact hxt.out, by omega⟩, (HB1.out.trans (((Below.refl _ _).alloc (Nat.le_refl _) _).mono HB1.out.size))⟩

end Go.Proofs.YtmcllgoeldfgmaaDoor

/- The reference's High. -/
namespace Go.Proofs.YtmcllgoeldfgmaaDoor
open Go.RowKit

/-- What High hands back. -/
def HighR (ds : List Nat) (E : Int) (e : Ending) : Prop := ∃ (ds' : List Nat) (E' : Int) (t : Nat), e = .returned (.int .i64 (24 * (E' + (ds'.length : Int) - 1) + (t : Int))) ∧ (∀ j, dgt ds' E' j = dgt ds E j) ∧ ds' ≠ [] ∧ 2 ^ t ≤ ds'.getD (ds'.length - 1) 0 ∧ ds'.getD (ds'.length - 1) 0 < 2 ^ (t + 1)

set_option maxHeartbeats 2000000 in
theorem refHigh_walk (a : Option Addr) (c : Nat) (S E : Int) (ds : List Nat) (w : World) (hd : Dig w (.agg #[.int .i64 S, .slice a ds.length c, .int .i64 E]) S ds E) (hE : E + (ds.length : Int) ≤ 1000000) (hS : (S == 0) = false) (hne : ∃ j, dgt ds E j ≠ 0) :
    Calls Tryd.prog 64 #[.agg #[.int .i64 S, .slice a ds.length c, .int .i64 E]] w fun e w' => HighR ds E e ∧ Below w.heap.size w w' := by
  have HD : Hid (Dig w (.agg #[.int .i64 S, .slice a ds.length c, .int .i64 E]) S ds E) := hd
  have HN : Hid (∃ j, dgt ds E j ≠ 0) := hne
  have HA : Hid (Below w.heap.size w (w.alloc (.cells #[.int .i64 S, .slice a ds.length c, .int .i64 E] 47))) := (Below.refl _ _).alloc (Nat.le_refl _) _
  clear hd hne
  go_enter Tryd.func64, Tryd.ntmps64
  go_wp2_with fail
  refine (trim_any _ S E ds _ (HD.out.later HA.out) hE).mono ?_
  rintro e w1 ⟨v1, S1, ds1, E1, rfl, hd1, heq, hcase, hb1⟩
  rcases hcase with ⟨rfl, _, _⟩ | ⟨hn1, rfl, _, hf0⟩
  · exfalso
    obtain ⟨j, hj⟩ := HN.out
    rw [← heq j, dgt_nil] at hj
    exact hj rfl
  obtain ⟨⟨a1, c1, rfl, hcap, hf⟩, hsm, hl1, he1, he2⟩ := hd1
  rcases hf with hf | ⟨g, off, rfl, hf, _⟩
  · exact absurd hf hn1
  have hlen : 0 < ds1.length := List.length_pos_iff.2 hn1
  obtain ⟨L, hL⟩ : ∃ L, ds1.length = L + 1 := ⟨ds1.length - 1, by omega⟩
  have hc0 : w1.cell? ⟨g, off + L, none⟩ = some (.int .i64 (ds1.getD (ds1.length - 1) 0 : Nat)) := by have := hf (ds1.length - 1) (by omega); rwa [show off + (ds1.length - 1) = off + L by omega] at this
  have hg : g < w1.heap.size := World.block_lt_of_cell? _ _ hc0
  have hlen' : (0 : Int) < (ds1.length : Int) := by omega
  have HB1 : Hid (Below w.heap.size w w1) := HA.out.trans (hb1.mono HA.out.size)
  have HQ : Hid (∀ j, dgt ds1 E1 j = dgt ds E j) := heq
  obtain ⟨x0, hx0⟩ : ∃ x, Hid (ds1.getD (ds1.length - 1) 0 = x) := ⟨_, rfl⟩
  have hxs : x0 < 16777216 := by
    have := hsm (ds1.getD (ds1.length - 1) 0) (by rw [List.getD_eq_getElem?_getD, List.getElem?_eq_getElem (by omega)]; simp)
    rwa [hx0.out] at this
  have hxp : x0 ≠ 0 := by rw [← hx0.out]; exact hf0
  rw [hx0.out] at hc0
  have HLn : Hid (ds1.length = L + 1) := hL
  have hLi : (L : Int) ≤ 1000000 := by omega
  have q1 : IntKind.i64.wrap (E1 + ((L : Int) + 1)) = E1 + ((L : Int) + 1) := wrapE _ (by omega) (by omega)
  have q2 : IntKind.i64.wrap (E1 + ((L : Int) + 1) - 1) = E1 + (L : Int) := by rw [show E1 + ((L : Int) + 1) - 1 = E1 + (L : Int) by omega]; exact wrapE _ (by omega) (by omega)
  have hw24 : IntKind.i64.wrap (24 * (E1 + (L : Int))) = 24 * (E1 + (L : Int)) := wrapE _ (by omega) (by omega)
  rw [hL]
  clear hf hsm heq hf0 hb1 hL hlen' hlen hcap hl1
  go_wp2
  go_loop [4, 5] (fun n d => ∃ x t : Nat, x ≠ 0 ∧ Hid (x * 2 ^ t ≤ x0 ∧ x0 < (x + 1) * 2 ^ t) ∧ t ≤ 24 ∧ x < 16777216 ∧ n = .int .i64 (24 * (E1 + (L : Int)) + (t : Int)) ∧ d = .int .i64 (x : Int)) (fun _ d => (intOf d).toNat)
  case atStart => exact ⟨x0, 0, hxp, by simp [Hid], by omega, hxs, by simp, rfl⟩
  case round =>
    obtain ⟨x, t, hx, hxt, ht, hxl, rfl, rfl⟩ := hrel
    by_cases he : 1 < x
    · have t1 : decide ((1 : Int) < ((x : Nat) : Int)) = true := decide_eq_true (by omega)
      have ht2 : t + 1 ≤ 24 := by
        have e1 : 2 ^ (t + 1) ≤ x * 2 ^ t := by rw [Nat.pow_succ, Nat.mul_comm]; exact Nat.mul_le_mul_right _ (by omega)
        have : 2 ^ (t + 1) < 2 ^ 24 := Nat.lt_of_le_of_lt (Nat.le_trans e1 hxt.out.1) hxs
        have := (Nat.pow_lt_pow_iff_right (by omega : 1 < 2)).1 this
        omega
      have hxt' : Hid (x / 2 * 2 ^ (t + 1) ≤ x0 ∧ x0 < (x / 2 + 1) * 2 ^ (t + 1)) := by
        show x / 2 * 2 ^ (t + 1) ≤ x0 ∧ x0 < (x / 2 + 1) * 2 ^ (t + 1)
        rw [Nat.pow_succ, Nat.mul_comm (2 ^ t) 2, ← Nat.mul_assoc, ← Nat.mul_assoc]
        exact ⟨Nat.le_trans (Nat.mul_le_mul_right _ (by omega)) hxt.out.1, Nat.lt_of_lt_of_le hxt.out.2 (Nat.mul_le_mul_right _ (by omega))⟩
      have wk : IntKind.i64.wrap (24 * (E1 + (L : Int)) + (t : Int) + 1) = 24 * (E1 + (L : Int)) + ((t + 1 : Nat) : Int) := by rw [show 24 * (E1 + (L : Int)) + (t : Int) + 1 = 24 * (E1 + (L : Int)) + ((t + 1 : Nat) : Int) by omega]; exact wrapE _ (by omega) (by omega)
      clear hxt
      go_wp2
      go_round
      case rel => exact ⟨x / 2, t + 1, by omega, hxt', ht2, by omega, by first | rfl | simp, by simp⟩
      case measure => simp [intOf]; omega
    · have t1 : decide ((1 : Int) < ((x : Nat) : Int)) = false := decide_eq_false (by omega)
      have hx1 : Hid (x = 1) := (by omega : x = 1)
      go_wp2
      go_ret
      refine ⟨⟨ds1, E1, t, ?_, HQ.out, hn1, ?_, ?_⟩, (HB1.out.trans (((Below.refl _ _).alloc (Nat.le_refl _) _).mono HB1.out.size))⟩
      · have e : (ds1.length : Int) = (L : Int) + 1 := by have := HLn.out; omega
        rw [e, show E1 + ((L : Int) + 1) - 1 = E1 + (L : Int) by omega]; rfl
      · rw [hx0.out]; have := hxt.out.1; rw [hx1.out, Nat.one_mul] at this; exact this
      · rw [hx0.out, Nat.pow_succ, Nat.mul_comm]; have := hxt.out.2; rw [hx1.out] at this; exact this

end Go.Proofs.YtmcllgoeldfgmaaDoor

/- Plain facts on words of 64 bits: the number that a list of words tells, its windows, and how they come of the words. -/
namespace Go.Proofs.YtmcllgoeldfgmaaDoor

def val : List Nat → Nat
  | [] => 0
  | n :: r => n + 18446744073709551616 * val r

def Small (ns : List Nat) : Prop := ∀ n, n ∈ ns → n < 18446744073709551616

theorem small_getD {ns : List Nat} (h : Small ns) (i : Nat) : ns.getD i 0 < 18446744073709551616 := by
  by_cases hi : i < ns.length
  · have : ns.getD i 0 = ns[i] := by simp [List.getD, hi]
    rw [this]; exact h _ (List.getElem_mem hi)
  · simp [List.getD, List.getElem?_eq_none (Nat.le_of_not_lt hi)]

theorem small_drop {ns : List Nat} (h : Small ns) (p : Nat) : Small (ns.drop p) := fun n hn => h n (List.mem_of_mem_drop hn)

theorem val_split (ns : List Nat) : val ns = ns.getD 0 0 + 18446744073709551616 * val (ns.drop 1) := by
  cases ns <;> simp [val]

theorem b64 (p : Nat) : 2 ^ (64 * p) = 18446744073709551616 ^ p := by rw [Nat.pow_mul]

theorem val_div {ns : List Nat} (h : Small ns) (p : Nat) : val ns / 2 ^ (64 * p) = val (ns.drop p) := by
  induction p generalizing ns with
  | zero => simp
  | succ p ih =>
    have h0 := small_getD h 0
    rw [show 64 * (p + 1) = 64 + 64 * p by omega, Nat.pow_add, ← Nat.div_div_eq_div_mul, val_split ns]
    rw [show (2 : Nat) ^ 64 = 18446744073709551616 from rfl, Nat.add_mul_div_left _ _ (by omega), Nat.div_eq_of_lt h0, Nat.zero_add, ih (small_drop h 1), List.drop_drop, Nat.add_comm]

theorem getD_drop (ns : List Nat) (p i : Nat) : (ns.drop p).getD i 0 = ns.getD (p + i) 0 := by simp [List.getD]

theorem val_two {ns : List Nat} (p : Nat) : ∃ y, val (ns.drop p) = ns.getD p 0 + 18446744073709551616 * (ns.getD (p + 1) 0 + 18446744073709551616 * y) := by
  refine ⟨val (ns.drop (p + 2)), ?_⟩
  rw [val_split (ns.drop p), val_split ((ns.drop p).drop 1), getD_drop, List.drop_drop, List.drop_drop, getD_drop]
  rfl

/-- The word whose lowest bit is the bit 'at' of 'val ns * 2 ^ low'. -/
def win (ns : List Nat) (low at' : Int) : Nat :=
  if at' < low then val ns * 2 ^ (low - at').toNat % 18446744073709551616 else val ns / 2 ^ (at' - low).toNat % 18446744073709551616

theorem win_lt (ns : List Nat) (low at' : Int) : win ns low at' < 18446744073709551616 := by
  unfold win; split <;> exact Nat.mod_lt _ (by omega)

theorem mul_pow_mod (x k : Nat) : x * 2 ^ min k 64 % 18446744073709551616 = x * 2 ^ k % 18446744073709551616 := by
  by_cases hk : k ≤ 64
  · rw [Nat.min_eq_left hk]
  · rw [Nat.min_eq_right (by omega)]
    rw [show k = 64 + (k - 64) by omega, Nat.pow_add, ← Nat.mul_assoc]
    rw [show (2 : Nat) ^ 64 = 18446744073709551616 from rfl]
    rw [Nat.mul_mod_left, Nat.mul_right_comm, Nat.mul_mod_left]

theorem win_low_eq (ns : List Nat) (k : Nat) : ns.getD 0 0 * 2 ^ min k 64 % 18446744073709551616 = val ns * 2 ^ k % 18446744073709551616 := by
  rw [mul_pow_mod, val_split ns, Nat.add_mul, Nat.mul_right_comm, Nat.mul_comm 18446744073709551616, Nat.mul_right_comm, Nat.add_mul_mod_self_right]

theorem or_eq (x0 x1 y r : Nat) (hx0 : x0 < 18446744073709551616) (hr : r < 64) :
    (x0 / 2 ^ r) ||| (x1 * 2 ^ (64 - r) % 18446744073709551616) = (x0 + 18446744073709551616 * (x1 + 18446744073709551616 * y)) / 2 ^ r % 18446744073709551616 := by
  have hc : 0 < 2 ^ r := Nat.two_pow_pos r
  have hB : 18446744073709551616 = 2 ^ r * 2 ^ (64 - r) := by rw [← Nat.pow_add, show r + (64 - r) = 64 by omega]
  have hlt : x0 / 2 ^ r < 2 ^ (64 - r) := by rw [Nat.div_lt_iff_lt_mul hc, Nat.mul_comm, ← hB]; exact hx0
  have e1 : x1 * 2 ^ (64 - r) % 18446744073709551616 = 2 ^ (64 - r) * (x1 % 2 ^ r) := by
    rw [Nat.mul_comm x1, hB, Nat.mul_comm (2 ^ r), Nat.mul_mod_mul_left]
  have e2 : (x0 + 18446744073709551616 * (x1 + 18446744073709551616 * y)) / 2 ^ r = x0 / 2 ^ r + 2 ^ (64 - r) * (x1 + 18446744073709551616 * y) := by
    have : x0 + 18446744073709551616 * (x1 + 18446744073709551616 * y) = x0 + 2 ^ r * (2 ^ (64 - r) * (x1 + 18446744073709551616 * y)) := by
      rw [← Nat.mul_assoc (2 ^ r), ← hB]
    rw [this, Nat.add_mul_div_left _ _ hc]
  rw [e1, e2, Nat.or_comm, ← Nat.two_pow_add_eq_or_of_lt hlt]
  have e3 : x0 / 2 ^ r + 2 ^ (64 - r) * (x1 + 18446744073709551616 * y) = x0 / 2 ^ r + 2 ^ (64 - r) * x1 + 18446744073709551616 * (2 ^ (64 - r) * y) := by
    rw [Nat.mul_add, Nat.add_assoc]; congr 2; rw [← Nat.mul_assoc, Nat.mul_comm (2 ^ (64 - r)), Nat.mul_assoc]
  rw [e3, Nat.add_mul_mod_self_left]
  have hx1 : x1 = 2 ^ r * (x1 / 2 ^ r) + x1 % 2 ^ r := (Nat.div_add_mod x1 (2 ^ r)).symm
  have e4 : x0 / 2 ^ r + 2 ^ (64 - r) * x1 = (2 ^ (64 - r) * (x1 % 2 ^ r) + x0 / 2 ^ r) + 18446744073709551616 * (x1 / 2 ^ r) := by
    conv => lhs; rw [hx1]
    rw [Nat.mul_add, ← Nat.mul_assoc, Nat.mul_comm (2 ^ (64 - r)) (2 ^ r), ← hB]; omega
  rw [e4, Nat.add_mul_mod_self_left]
  refine (Nat.mod_eq_of_lt ?_).symm
  have hm : x1 % 2 ^ r + 1 ≤ 2 ^ r := Nat.mod_lt _ hc
  calc 2 ^ (64 - r) * (x1 % 2 ^ r) + x0 / 2 ^ r < 2 ^ (64 - r) * (x1 % 2 ^ r) + 2 ^ (64 - r) := by omega
    _ = 2 ^ (64 - r) * (x1 % 2 ^ r + 1) := by rw [Nat.mul_add, Nat.mul_one]
    _ ≤ 2 ^ (64 - r) * 2 ^ r := Nat.mul_le_mul_left _ hm
    _ = 18446744073709551616 := by rw [Nat.mul_comm, ← hB]

theorem win_high_eq {ns : List Nat} (h : Small ns) (k : Nat) :
    (ns.getD (k / 64) 0 / 2 ^ (k % 64)) ||| (ns.getD (k / 64 + 1) 0 * 2 ^ (64 - k % 64) % 18446744073709551616) = val ns / 2 ^ k % 18446744073709551616 := by
  obtain ⟨y, hy⟩ := val_two (ns := ns) (k / 64)
  rw [or_eq _ _ y _ (small_getD h _) (Nat.mod_lt _ (by omega)), ← hy, ← val_div h, Nat.div_div_eq_div_mul, ← Nat.pow_add, Nat.div_add_mod]

/-- The last word is not nought (or there is none). -/
def Topped (ns : List Nat) : Prop := ns ≠ [] → ns.getD (ns.length - 1) 0 ≠ 0

theorem val_lt {ns : List Nat} (h : Small ns) : val ns < 2 ^ (64 * ns.length) := by
  induction ns with
  | nil => simp [val]
  | cons a r ih =>
    have h0 : a < 18446744073709551616 := h a (by simp)
    have h1 := ih (fun n hn => h n (by simp [hn]))
    rw [List.length_cons, show 64 * (r.length + 1) = 64 + 64 * r.length by omega, Nat.pow_add, val, show (2 : Nat) ^ 64 = 18446744073709551616 from rfl]
    omega

theorem val_append (a b : List Nat) : val (a ++ b) = val a + 2 ^ (64 * a.length) * val b := by
  induction a with
  | nil => simp [val]
  | cons x r ih =>
    rw [List.cons_append, val, val, ih, List.length_cons, show 64 * (r.length + 1) = 64 + 64 * r.length by omega, Nat.pow_add, show (2 : Nat) ^ 64 = 18446744073709551616 from rfl, Nat.mul_add, Nat.mul_assoc, Nat.add_assoc]

theorem val_last {ns : List Nat} (hne : ns ≠ []) : val ns = val ns.dropLast + 2 ^ (64 * (ns.length - 1)) * ns.getD (ns.length - 1) 0 := by
  have h := List.dropLast_concat_getLast hne
  have hl : ns.getD (ns.length - 1) 0 = ns.getLast hne := by
    have hp := List.length_pos_iff.2 hne
    rw [List.getLast_eq_getElem, List.getD, List.getElem?_eq_getElem (by omega)]; rfl
  have h2 : val ns = val (ns.dropLast ++ [ns.getLast hne]) := by rw [h]
  rw [h2, val_append, hl]
  simp [val]

theorem log2_val {ns : List Nat} (h : Small ns) (hne : ns ≠ []) (ht : ns.getD (ns.length - 1) 0 ≠ 0) : Nat.log2 (val ns) = 64 * (ns.length - 1) + Nat.log2 (ns.getD (ns.length - 1) 0) := by
  have h1 : val ns.dropLast < 2 ^ (64 * (ns.length - 1)) := by
    have := val_lt (ns := ns.dropLast) (fun n hn => h n (List.dropLast_subset _ hn))
    simpa using this
  rw [val_last hne]
  generalize ns.getD (ns.length - 1) 0 = t at *
  generalize val ns.dropLast = v at *
  generalize 64 * (ns.length - 1) = e at *
  have h2 := Nat.log2_self_le ht
  have h3 : t < 2 ^ (Nat.log2 t + 1) := Nat.lt_log2_self
  have hp : 0 < 2 ^ e := Nat.two_pow_pos e
  have h5 : v + 2 ^ e * t ≠ 0 := by
    have := Nat.mul_pos hp (Nat.pos_of_ne_zero ht); omega
  rw [Nat.log2_eq_iff h5]
  refine ⟨?_, ?_⟩
  · rw [Nat.pow_add]
    exact Nat.le_trans (Nat.mul_le_mul_left _ h2) (Nat.le_add_left _ _)
  · have h6 : t + 1 ≤ 2 ^ (Nat.log2 t + 1) := h3
    have h7 := Nat.mul_le_mul_left (2 ^ e) h6
    rw [show e + Nat.log2 t + 1 = e + (Nat.log2 t + 1) by omega, Nat.pow_add]
    rw [Nat.mul_add, Nat.mul_one] at h7
    omega

theorem val_pos {ns : List Nat} (hne : ns ≠ []) (ht : ns.getD (ns.length - 1) 0 ≠ 0) : val ns ≠ 0 := by
  rw [val_last hne]
  have := Nat.mul_pos (Nat.two_pow_pos (64 * (ns.length - 1))) (Nat.pos_of_ne_zero ht)
  omega

/-- The highest bit (0 of nothing). -/
def hiB (ns : List Nat) (low : Int) : Int := if ns = [] then 0 else low + (Nat.log2 (val ns) : Nat)

theorem castMul (a b : Nat) : (a : Int) * 2 ^ b % 18446744073709551616 = ((a * 2 ^ b % 18446744073709551616 : Nat) : Int) := by
  rw [Int.natCast_emod, Int.natCast_mul, Int.natCast_pow]; rfl

theorem castDiv (a b : Nat) : (a : Int) / 2 ^ b = ((a / 2 ^ b : Nat) : Int) := by
  rw [Int.natCast_ediv, Int.natCast_pow]; rfl

end Go.Proofs.YtmcllgoeldfgmaaDoor

/- Plain facts: the words of a number, cut out at a bit; a magnitude in its own form. -/
namespace Go.Proofs.YtmcllgoeldfgmaaDoor

/-- n words of X, the lowest first. -/
def digs (X n : Nat) : List Nat := (List.range n).map fun i => X / 2 ^ (64 * i) % 18446744073709551616

theorem digs_length (X n : Nat) : (digs X n).length = n := by simp [digs]

theorem digs_small (X n : Nat) : Small (digs X n) := by
  intro m hm
  simp only [digs, List.mem_map] at hm
  obtain ⟨i, _, rfl⟩ := hm
  exact Nat.mod_lt _ (by omega)

theorem digs_getD (X n i : Nat) (h : i < n) : (digs X n).getD i 0 = X / 2 ^ (64 * i) % 18446744073709551616 := by
  simp [digs, List.getD, h]

theorem val_digs (X n : Nat) : val (digs X n) = X % 2 ^ (64 * n) := by
  induction n with
  | zero => simp [digs, val, Nat.mod_one]
  | succ n ih =>
    have e : digs X (n + 1) = digs X n ++ [X / 2 ^ (64 * n) % 18446744073709551616] := by simp [digs, List.range_succ]
    rw [e, val_append, ih, digs_length, show 64 * (n + 1) = 64 * n + 64 by omega, Nat.pow_add, Nat.mod_mul]
    simp [val]

theorem digs_topped (X n : Nat) (h0 : 2 ^ (64 * n) ≤ X) (h1 : X < 2 ^ (64 * (n + 1))) : Topped (digs X (n + 1)) := by
  intro _
  rw [digs_length, Nat.add_sub_cancel, digs_getD _ _ _ (by omega)]
  have hp : 0 < 2 ^ (64 * n) := Nat.two_pow_pos _
  have h2 : X / 2 ^ (64 * n) < 18446744073709551616 := by
    rw [Nat.div_lt_iff_lt_mul hp, show (18446744073709551616 : Nat) = 2 ^ 64 from rfl, ← Nat.pow_add, show 64 + 64 * n = 64 * (n + 1) by omega]
    exact h1
  rw [Nat.mod_eq_of_lt h2]
  have := Nat.div_le_div_right (c := 2 ^ (64 * n)) h0
  rw [Nat.div_self hp] at this
  omega

/-- A magnitude in its own form. -/
def OwnF (ns : List Nat) (low : Int) : Prop := (ns = [] ∧ low = 0) ∨ (ns ≠ [] ∧ val ns % 2 = 1 ∧ Topped ns)

/-- The words ns', from the bit low' on, tell the number that V does from the bit low on. -/
def Tells (V : Nat) (low : Int) (ns' : List Nat) (low' : Int) : Prop := (V = 0 ∧ ns' = [] ∧ low' = 0) ∨ (V ≠ 0 ∧ ∃ k : Nat, low' = low + (k : Nat) ∧ V = val ns' * 2 ^ k)

theorem val_zero {ns : List Nat} (h : ∀ j, ns.getD j 0 = 0) : val ns = 0 := by
  induction ns with
  | nil => rfl
  | cons a r ih =>
    have h0 : a = 0 := by simpa using h 0
    have h1 := ih (fun j => by have := h (j + 1); simpa using this)
    rw [val, h0, h1]

theorem val_take {ns : List Nat} (e : Nat) (h : ∀ j, e ≤ j → ns.getD j 0 = 0) : val (ns.take e) = val ns := by
  conv => rhs; rw [← List.take_append_drop e ns]
  rw [val_append, val_zero (ns := ns.drop e), Nat.mul_zero, Nat.add_zero]
  intro j
  rw [getD_drop]; exact h _ (by omega)

theorem take_getD {ns : List Nat} (e j : Nat) (h : j < e) : (ns.take e).getD j 0 = ns.getD j 0 := by
  simp [List.getD, h]

theorem val_low {ns : List Nat} (hs : Small ns) (f : Nat) (h : ∀ j, j < f → ns.getD j 0 = 0) : val ns = 2 ^ (64 * f) * val (ns.drop f) := by
  have h1 : val (ns.take f) = 0 := by
    refine val_zero fun j => ?_
    by_cases hj : j < f
    · rw [take_getD f j hj]; exact h j hj
    · simp [List.getD, List.getElem?_eq_none (show (ns.take f).length ≤ j by simp; omega)]
  by_cases hf : f ≤ ns.length
  · conv => lhs; rw [← List.take_append_drop f ns]
    rw [val_append, h1, Nat.zero_add, List.length_take, Nat.min_eq_left hf]
  · have h2 : val ns = 0 := by rw [List.take_of_length_le (by omega)] at h1; exact h1
    rw [h2, ← val_div hs, h2]; simp

/-- What ownForm makes: all of it. -/
theorem own_math {ns : List Nat} (hs : Small ns) (low : Int) (f e t m : Nat) (hfe : f < e) (hel : e ≤ ns.length) (hhi : ∀ j, e ≤ j → ns.getD j 0 = 0) (htop : ns.getD (e - 1) 0 ≠ 0) (hlo : ∀ j, j < f → ns.getD j 0 = 0) (hf : ns.getD f 0 = 2 ^ t * (2 * m + 1)) (ht : t < 64) :
    64 * f + t ≤ Nat.log2 (val ns) ∧ Nat.log2 (val ns) < 64 * e ∧ Topped (ns.take e) ∧ val (ns.take e) = val ns ∧
    (∀ n r, r < 64 → Nat.log2 (val ns) - (64 * f + t) = 64 * n + r →
      OwnF (digs (val ns / 2 ^ (64 * f + t)) (n + 1)) (low + (64 * f + t : Nat)) ∧ Tells (val ns) low (digs (val ns / 2 ^ (64 * f + t)) (n + 1)) (low + (64 * f + t : Nat)) ∧ n + 1 ≤ e) := by
  have hv1 := val_take e hhi
  have hlen : (ns.take e).length = e := by simp; omega
  have hne : ns.take e ≠ [] := by intro h; rw [h] at hlen; simp at hlen; omega
  have htp : (ns.take e).getD (e - 1) 0 ≠ 0 := by rw [take_getD _ _ (by omega)]; exact htop
  have hst : Small (ns.take e) := fun n hn => hs n (List.mem_of_mem_take hn)
  have hlog := log2_val hst hne (by rw [hlen]; exact htp)
  rw [hlen, hv1] at hlog
  have hlt : Nat.log2 ((ns.take e).getD (e - 1) 0) < 64 := (Nat.log2_lt htp).2 (small_getD hst _)
  have hv0 : val ns ≠ 0 := by rw [← hv1]; exact val_pos hne (by rw [hlen]; exact htp)
  -- the odd part
  have hv2 := val_low hs f hlo
  obtain ⟨y, hy⟩ : ∃ y, val (ns.drop f) = 2 ^ t * (2 * y + 1) := by
    rw [val_split (ns.drop f), getD_drop, Nat.add_zero, hf]
    refine ⟨m + 2 ^ (63 - t) * val ((ns.drop f).drop 1), ?_⟩
    have e1 : 18446744073709551616 = 2 ^ t * (2 * 2 ^ (63 - t)) := by
      rw [← Nat.pow_succ', ← Nat.pow_add, show t + (63 - t + 1) = 64 by omega]
    generalize val ((ns.drop f).drop 1) = z
    rw [e1]
    generalize 2 ^ t = p
    generalize 2 ^ (63 - t) = q
    grind
  have hodd : val ns = 2 ^ (64 * f + t) * (2 * y + 1) := by rw [hv2, hy, Nat.pow_add, Nat.mul_assoc]
  have hp : 0 < 2 ^ (64 * f + t) := Nat.two_pow_pos _
  have hX : val ns / 2 ^ (64 * f + t) = 2 * y + 1 := by rw [hodd, Nat.mul_div_cancel_left _ hp]
  have hle : 64 * f + t ≤ Nat.log2 (val ns) := by
    rw [Nat.le_log2 hv0, hodd]
    exact Nat.le_mul_of_pos_right _ (by omega)
  refine ⟨hle, by omega, fun _ => by rw [hlen]; exact htp, hv1, ?_⟩
  intro n r hr hn
  have hL1 := Nat.log2_self_le hv0
  have hL2 : val ns < 2 ^ (Nat.log2 (val ns) + 1) := Nat.lt_log2_self
  have hXlo : 2 ^ (64 * n) ≤ val ns / 2 ^ (64 * f + t) := by
    rw [Nat.le_div_iff_mul_le hp, ← Nat.pow_add]
    exact Nat.le_trans (Nat.pow_le_pow_right (by omega) (by omega)) hL1
  have hXhi : val ns / 2 ^ (64 * f + t) < 2 ^ (64 * (n + 1)) := by
    rw [Nat.div_lt_iff_lt_mul hp, ← Nat.pow_add]
    exact Nat.lt_of_lt_of_le hL2 (Nat.pow_le_pow_right (by omega) (by omega))
  have hval : val (digs (val ns / 2 ^ (64 * f + t)) (n + 1)) = 2 * y + 1 := by rw [val_digs, Nat.mod_eq_of_lt hXhi, hX]
  refine ⟨Or.inr ⟨?_, by rw [hval]; omega, digs_topped _ _ hXlo hXhi⟩, Or.inr ⟨hv0, 64 * f + t, rfl, ?_⟩, by omega⟩
  · intro h
    have := digs_length (val ns / 2 ^ (64 * f + t)) (n + 1)
    rw [h] at this; simp at this
  · rw [hval, hodd, Nat.mul_comm]

end Go.Proofs.YtmcllgoeldfgmaaDoor

/- Plain facts: two magnitudes brought to one lowest bit. -/
namespace Go.Proofs.YtmcllgoeldfgmaaDoor

theorem own_topped {ns : List Nat} {low : Int} (h : OwnF ns low) : Topped ns := by
  rcases h with ⟨rfl, _⟩ | ⟨_, _, h⟩
  · intro h; exact absurd rfl h
  · exact h

theorem own_val {ns : List Nat} {low : Int} (h : OwnF ns low) (hne : ns ≠ []) : val ns ≠ 0 := by
  rcases h with ⟨rfl, _⟩ | ⟨_, h, _⟩
  · exact absurd rfl hne
  · omega

theorem own_low_hi {ns : List Nat} {low : Int} (h : OwnF ns low) : low ≤ hiB ns low := by
  unfold hiB
  rcases h with ⟨rfl, rfl⟩ | ⟨hne, _, _⟩
  · simp
  · rw [if_neg hne]; omega

/-- A magnitude lies below the bit above its highest one. -/
theorem val_hi {ns : List Nat} {low L : Int} (h : OwnF ns low) (k : Nat) (hk : low = L + (k : Nat)) (e : Nat) (he : hiB ns low - L + 1 ≤ (e : Nat)) : val ns * 2 ^ k < 2 ^ e := by
  rcases h with ⟨rfl, _⟩ | ⟨hne, _, _⟩
  · simp only [val, Nat.zero_mul]; exact Nat.two_pow_pos e
  · unfold hiB at he
    rw [if_neg hne] at he
    have h1 : val ns < 2 ^ (Nat.log2 (val ns) + 1) := Nat.lt_log2_self
    have h2 : val ns * 2 ^ k < 2 ^ (Nat.log2 (val ns) + 1) * 2 ^ k := Nat.mul_lt_mul_of_pos_right h1 (Nat.two_pow_pos k)
    rw [← Nat.pow_add] at h2
    exact Nat.lt_of_lt_of_le h2 (Nat.pow_le_pow_right (by omega) (by omega))

theorem val_digs_of {X n : Nat} (h : X < 2 ^ (64 * n)) : val (digs X n) = X := by rw [val_digs, Nat.mod_eq_of_lt h]

end Go.Proofs.YtmcllgoeldfgmaaDoor

/- Plain facts: numbers as rationals; which may be. -/
namespace Go.Proofs.YtmcllgoeldfgmaaDoor

/-- A power of two. -/
def p2 (e : Int) : Rat := 2 ^ e

theorem p2_pos (e : Int) : 0 < p2 e := Rat.zpow_pos (by decide)
theorem p2_ne (e : Int) : p2 e ≠ 0 := Rat.ne_of_gt (p2_pos e)
theorem p2_add (a b : Int) : p2 (a + b) = p2 a * p2 b := Rat.zpow_add (by decide) a b
theorem p2_zero : p2 0 = 1 := Rat.zpow_zero 2
theorem p2_one : p2 1 = 2 := Rat.zpow_one 2
theorem p2_nat (n : Nat) : p2 (n : Int) = ((2 ^ n : Nat) : Rat) := by
  unfold p2; rw [Rat.zpow_natCast, Rat.natCast_pow]; rfl
theorem p2_neg (e : Int) : p2 (-e) * p2 e = 1 := by rw [← p2_add, Int.add_left_neg, p2_zero]

theorem p2_le_nat (n : Nat) : 1 ≤ p2 (n : Int) := by
  rw [p2_nat]
  have h : 1 ≤ 2 ^ n := Nat.two_pow_pos n
  have := (Rat.natCast_le_natCast (a := 1) (b := 2 ^ n)).2 h
  simpa using this

theorem p2_mono {a b : Int} (h : a ≤ b) : p2 a ≤ p2 b := by
  obtain ⟨n, rfl⟩ : ∃ n : Nat, b = a + (n : Int) := ⟨(b - a).toNat, by omega⟩
  rw [p2_add]
  have h1 := Rat.mul_le_mul_of_nonneg_left (p2_le_nat n) (Rat.le_of_lt (p2_pos a))
  grind

theorem p2_lt {a b : Int} (h : a < b) : p2 a < p2 b := by
  have h1 : p2 (a + 1) ≤ p2 b := p2_mono (by omega)
  have h2 := p2_pos a
  rw [p2_add, p2_one] at h1
  grind

theorem p2_le_iff {a b : Int} : p2 a ≤ p2 b ↔ a ≤ b := by
  refine ⟨fun h => ?_, p2_mono⟩
  rcases Int.lt_or_le b a with h1 | h1
  · have := p2_lt h1; grind
  · exact h1

theorem p2_lt_iff {a b : Int} : p2 a < p2 b ↔ a < b := by
  refine ⟨fun h => ?_, p2_lt⟩
  rcases Int.lt_or_le a b with h1 | h1
  · exact h1
  · have := p2_mono h1; grind

/-- What a magnitude tells. -/
def magR (ns : List Nat) (low : Int) : Rat := (val ns : Nat) * p2 low

theorem magR_nonneg (ns : List Nat) (low : Int) : 0 ≤ magR ns low := Rat.mul_nonneg Rat.natCast_nonneg (Rat.le_of_lt (p2_pos low))

theorem nat_mul_p2 (V k : Nat) : ((V * 2 ^ k : Nat) : Rat) = (V : Nat) * p2 (k : Nat) := by rw [p2_nat, Rat.natCast_mul]

theorem tells_magR {V : Nat} {low : Int} {ns' : List Nat} {low' : Int} (h : Tells V low ns' low') : magR ns' low' = (V : Nat) * p2 low := by
  rcases h with ⟨rfl, rfl, rfl⟩ | ⟨_, k, rfl, rfl⟩
  · simp [magR, val]
  · rw [magR, nat_mul_p2, p2_add]; grind

theorem magR_at (ns : List Nat) (low L : Int) (k : Nat) (h : low = L + (k : Nat)) : magR ns low = ((val ns * 2 ^ k : Nat) : Rat) * p2 L := by
  rw [magR, h, nat_mul_p2, p2_add]; grind

/-- A number that may be: its highest bit is at most 65536, its lowest at least -65536. -/
def May (q : Rat) : Prop := q < p2 65537 ∧ -p2 65537 < q ∧ ∃ n : Int, q = (n : Rat) * p2 (-65536)

theorem may_neg {q : Rat} (h : May q) : May (-q) := by
  obtain ⟨h1, h2, n, h3⟩ := h
  refine ⟨by grind, by grind, -n, ?_⟩
  rw [h3, Rat.intCast_neg]; grind

theorem own_lo {ns : List Nat} {low : Int} (h : OwnF ns low) (hne : ns ≠ []) : p2 (hiB ns low) ≤ magR ns low ∧ magR ns low < p2 (hiB ns low + 1) := by
  have hv := own_val h hne
  unfold hiB magR
  rw [if_neg hne]
  have h1 := Nat.log2_self_le hv
  have h2 : val ns < 2 ^ (Nat.log2 (val ns) + 1) := Nat.lt_log2_self
  have h1' := (Rat.natCast_le_natCast).2 h1
  have h2' := (Rat.natCast_lt_natCast).2 h2
  have hp := p2_pos low
  rw [show low + (Nat.log2 (val ns) : Int) = (Nat.log2 (val ns) : Int) + low by omega, p2_add, show (Nat.log2 (val ns) : Int) + low + 1 = ((Nat.log2 (val ns) + 1 : Nat) : Int) + low by omega, p2_add, p2_nat, p2_nat]
  exact ⟨Rat.mul_le_mul_of_nonneg_right h1' (Rat.le_of_lt hp), Rat.mul_lt_mul_of_pos_right h2' hp⟩

theorem may_iff {ns : List Nat} {low : Int} (h : OwnF ns low) : (hiB ns low ≤ 65536 ∧ -65536 ≤ low) ↔ May (magR ns low) := by
  by_cases hne : ns = []
  · have hl : low = 0 := by
      rcases h with ⟨_, h⟩ | ⟨h, _⟩
      · exact h
      · exact absurd hne h
    subst hl
    subst hne
    refine ⟨fun _ => ?_, fun _ => by simp [hiB]⟩
    have := p2_pos 65537
    refine ⟨by simp [magR, val]; exact this, by simp [magR, val]; grind, 0, by simp [magR, val]⟩
  · obtain ⟨h1, h2⟩ := own_lo h hne
    have hn := magR_nonneg ns low
    have hp := p2_pos 65537
    constructor
    · rintro ⟨ha, hb⟩
      refine ⟨?_, by grind, ?_⟩
      · have : p2 (hiB ns low + 1) ≤ p2 65537 := p2_mono (by omega)
        grind
      · obtain ⟨k, hk⟩ : ∃ k : Nat, low = -65536 + (k : Int) := ⟨(low + 65536).toNat, by omega⟩
        refine ⟨((val ns * 2 ^ k : Nat) : Int), ?_⟩
        rw [magR_at ns low (-65536) k hk]; rfl
    · rintro ⟨ha, _, n, hq⟩
      constructor
      · have : p2 (hiB ns low) < p2 65537 := by grind
        have := p2_lt_iff.1 this
        omega
      · rcases Int.lt_or_le low (-65536) with hlt | hge
        · exfalso
          obtain ⟨k, hk⟩ : ∃ k : Nat, (-65536 : Int) = low + ((k + 1 : Nat) : Int) := ⟨(-65536 - low - 1).toNat, by omega⟩
          have hodd : val ns % 2 = 1 := by
            rcases h with ⟨h, _⟩ | ⟨_, h, _⟩
            · exact absurd h hne
            · exact h
          have e1 : ((val ns : Nat) : Rat) * p2 low = (n : Rat) * p2 ((k + 1 : Nat) : Int) * p2 low := by
            have := hq
            rw [hk, p2_add, magR] at this
            grind
          have e2 : ((val ns : Nat) : Rat) = (n : Rat) * p2 ((k + 1 : Nat) : Int) := by
            have := p2_ne low
            grind
          rw [p2_nat] at e2
          have e3 : ((val ns : Nat) : Int) = n * ((2 ^ (k + 1) : Nat) : Int) := by
            have e4 : (((val ns : Nat) : Int) : Rat) = ((n * ((2 ^ (k + 1) : Nat) : Int) : Int) : Rat) := by
              rw [Rat.intCast_mul]; exact e2
            exact Rat.intCast_inj.1 e4
          have e5 : n * ((2 ^ (k + 1) : Nat) : Int) = 2 * (n * ((2 ^ k : Nat) : Int)) := by rw [Nat.pow_succ]; grind
          omega
        · exact hge

end Go.Proofs.YtmcllgoeldfgmaaDoor
