/- Own texts, put together: Zb Zc Zd Ze Zf Ya Zg. -/
import Derived.Test.YtghchejehlljkaaQ1
import Derived.Test.YtghchejehlljkaaQ2
/- The reference's size. -/
namespace Go.Proofs.Ytghchejehlljkaa
open Go.RowKit

/-- Two magnitudes against each other, digit by digit from the top. -/
def SizeOf (ds1 : List Nat) (E1 : Int) (ds2 : List Nat) (E2 : Int) (r : Int) : Prop :=
  (r = 0 ∧ ∀ j, dgt ds1 E1 j = dgt ds2 E2 j) ∨ ∃ i, (∀ j, i < j → dgt ds1 E1 j = dgt ds2 E2 j) ∧ ((dgt ds2 E2 i < dgt ds1 E1 i ∧ r = 1) ∨ (dgt ds1 E1 i < dgt ds2 E2 i ∧ r = -1))

theorem dgt_above {ds : List Nat} {E j : Int} (h : E + (ds.length : Int) ≤ j) : dgt ds E j = 0 := by unfold dgt; rw [if_neg (by omega)]
theorem dgt_below {ds : List Nat} {E j : Int} (h : j < E) : dgt ds E j = 0 := by unfold dgt; rw [if_neg (by omega)]
theorem box_cell {w w' : World} (hb : Below w.heap.size w w') {p : Addr} {x : Value} (h : w.cell? p = some x) : w'.cell? p = some x := by
  rw [hb.cell (World.block_lt_of_cell? _ _ h)]; exact h

set_option maxHeartbeats 2000000 in
theorem size_walk (a1 a2 : Option Addr) (c1 c2 : Nat) (S1 S2 E1 E2 : Int) (ds1 ds2 : List Nat) (w : World) (hd1 : Dig w (.agg #[.int .i64 S1, .slice a1 ds1.length c1, .int .i64 E1]) S1 ds1 E1) (hd2 : Dig w (.agg #[.int .i64 S2, .slice a2 ds2.length c2, .int .i64 E2]) S2 ds2 E2) :
    Calls Try.prog 77 #[.agg #[.int .i64 S1, .slice a1 ds1.length c1, .int .i64 E1], .agg #[.int .i64 S2, .slice a2 ds2.length c2, .int .i64 E2]] w fun e w' => (∃ r, e = .returned (.int .i64 r) ∧ SizeOf ds1 E1 ds2 E2 r) ∧ Below w.heap.size w w' := by
  have D1 : Hid (Dig w (.agg #[.int .i64 S1, .slice a1 ds1.length c1, .int .i64 E1]) S1 ds1 E1) := hd1
  have D2 : Hid (Dig w (.agg #[.int .i64 S2, .slice a2 ds2.length c2, .int .i64 E2]) S2 ds2 E2) := hd2
  have l1 : (ds1.length : Int) ≤ 1000000 := by have := hd1.len; omega
  have l2 : (ds2.length : Int) ≤ 1000000 := by have := hd2.len; omega
  have p1 := hd1.e1
  have p2' := hd1.e2
  have p3 := hd2.e1
  have p4 := hd2.e2
  have w1 : IntKind.i64.wrap (E1 + (ds1.length : Int)) = E1 + (ds1.length : Int) := wrapE _ (by omega) (by omega)
  have w2 : IntKind.i64.wrap (E2 + (ds2.length : Int)) = E2 + (ds2.length : Int) := wrapE _ (by omega) (by omega)
  clear hd1 hd2
  go_enter Try.func77, Try.ntmps77
  go_wp2
  · go_loopw [7] (fun i wr => ∃ k : Int, i = .int .i64 k ∧ -3000000 ≤ k ∧ k ≤ 3000000 ∧ Hid (∀ j, k < j → dgt ds1 E1 j = dgt ds2 E2 j) ∧ wr.cell? ⟨w.heap.size, 0, none⟩ = some (.int .i64 S1) ∧ wr.cell? ⟨w.heap.size, 1, none⟩ = some (.slice a1 ds1.length c1) ∧ wr.cell? ⟨w.heap.size, 2, none⟩ = some (.int .i64 E1) ∧ wr.cell? ⟨w.heap.size + 1, 0, none⟩ = some (.int .i64 S2) ∧ wr.cell? ⟨w.heap.size + 1, 1, none⟩ = some (.slice a2 ds2.length c2) ∧ wr.cell? ⟨w.heap.size + 1, 2, none⟩ = some (.int .i64 E2) ∧ Hid (Below w.heap.size w wr)) (fun i _ => (intOf i + 4000000).toNat)
    case atStart => exact ⟨_, rfl, by omega, by omega, fun j hj => by rw [dgt_above (by omega), dgt_above (by omega)], by go_simp, by go_simp, by go_simp, by go_simp, by go_simp, by go_simp, (((Below.refl _ _).alloc (Nat.le_refl _) _).alloc (by simp) _)⟩
    case round =>
      obtain ⟨k, rfl, hk1, hk2, heq, z0, z1, z2, z3, z4, z5, hbk⟩ := hrel
      by_cases hlt : E2 ≤ k
      · go_wp2_with fail
        refine (digit_any _ S1 E1 k ds1 _ (D1.out.later hbk.out)).mono ?_
        rintro e w1' ⟨rfl, hb1⟩
        have y0 := box_cell hb1 z0
        have y1 := box_cell hb1 z1
        have y2 := box_cell hb1 z2
        have y3 := box_cell hb1 z3
        have y4 := box_cell hb1 z4
        have y5 := box_cell hb1 z5
        have HB1 : Hid (Below w.heap.size w w1') := hbk.out.trans (hb1.mono hbk.out.size)
        clear z0 z1 z2 z3 z4 z5 hbk hb1
        go_wp2_with fail
        refine (digit_any _ S2 E2 k ds2 _ (D2.out.later HB1.out)).mono ?_
        rintro e w2' ⟨rfl, hb2⟩
        have z0 := box_cell hb2 y0
        have z1 := box_cell hb2 y1
        have z2 := box_cell hb2 y2
        have z3 := box_cell hb2 y3
        have z4 := box_cell hb2 y4
        have z5 := box_cell hb2 y5
        have HB2 : Hid (Below w.heap.size w w2') := HB1.out.trans (hb2.mono HB1.out.size)
        clear y0 y1 y2 y3 y4 y5 HB1 hb2
        obtain ⟨x, hx⟩ : ∃ x, Hid (dgt ds1 E1 k = x) := ⟨_, rfl⟩
        obtain ⟨y, hy⟩ : ∃ y, Hid (dgt ds2 E2 k = y) := ⟨_, rfl⟩
        rw [hx.out, hy.out]
        have wk : IntKind.i64.wrap (k - 1) = k - 1 := wrapE _ (by omega) (by omega)
        rcases Nat.lt_trichotomy x y with h | h | h
        · have t1 : decide ((y : Int) < (x : Int)) = false := decide_eq_false (by omega)
          have t2 : decide ((x : Int) < (y : Int)) = true := decide_eq_true (by omega)
          go_wp2
          go_ret
          exact ⟨⟨_, rfl, Or.inr ⟨k, heq.out, Or.inr ⟨by rw [hx.out, hy.out]; exact h, rfl⟩⟩⟩, HB2.out⟩
        · subst h
          go_wp2
          go_roundw
          case rel => exact ⟨k - 1, by simp, by omega, by omega, fun j hj => by
            by_cases e : j = k
            · rw [e, hx.out, hy.out]
            · exact heq.out j (by omega), z0, z1, z2, z3, z4, z5, HB2.out⟩
          case measure => simp [intOf]; omega
        · have t1 : decide ((y : Int) < (x : Int)) = true := decide_eq_true (by omega)
          go_wp2
          go_ret
          exact ⟨⟨_, rfl, Or.inr ⟨k, heq.out, Or.inl ⟨by rw [hx.out, hy.out]; exact h, rfl⟩⟩⟩, HB2.out⟩
      · go_wp2
        go_ret
        exact ⟨⟨_, rfl, Or.inl ⟨rfl, fun j => by
          by_cases e : k < j
          · exact heq.out j e
          · rw [dgt_below (by omega), dgt_below (by omega)]⟩⟩, hbk.out⟩
  · go_loopw [7] (fun i wr => ∃ k : Int, i = .int .i64 k ∧ -3000000 ≤ k ∧ k ≤ 3000000 ∧ Hid (∀ j, k < j → dgt ds1 E1 j = dgt ds2 E2 j) ∧ wr.cell? ⟨w.heap.size, 0, none⟩ = some (.int .i64 S1) ∧ wr.cell? ⟨w.heap.size, 1, none⟩ = some (.slice a1 ds1.length c1) ∧ wr.cell? ⟨w.heap.size, 2, none⟩ = some (.int .i64 E1) ∧ wr.cell? ⟨w.heap.size + 1, 0, none⟩ = some (.int .i64 S2) ∧ wr.cell? ⟨w.heap.size + 1, 1, none⟩ = some (.slice a2 ds2.length c2) ∧ wr.cell? ⟨w.heap.size + 1, 2, none⟩ = some (.int .i64 E2) ∧ Hid (Below w.heap.size w wr)) (fun i _ => (intOf i + 4000000).toNat)
    case atStart => exact ⟨_, rfl, by omega, by omega, fun j hj => by rw [dgt_above (by omega), dgt_above (by omega)], by go_simp, by go_simp, by go_simp, by go_simp, by go_simp, by go_simp, (((Below.refl _ _).alloc (Nat.le_refl _) _).alloc (by simp) _)⟩
    case round =>
      obtain ⟨k, rfl, hk1, hk2, heq, z0, z1, z2, z3, z4, z5, hbk⟩ := hrel
      by_cases hlt : E1 ≤ k
      · go_wp2_with fail
        refine (digit_any _ S1 E1 k ds1 _ (D1.out.later hbk.out)).mono ?_
        rintro e w1' ⟨rfl, hb1⟩
        have y0 := box_cell hb1 z0
        have y1 := box_cell hb1 z1
        have y2 := box_cell hb1 z2
        have y3 := box_cell hb1 z3
        have y4 := box_cell hb1 z4
        have y5 := box_cell hb1 z5
        have HB1 : Hid (Below w.heap.size w w1') := hbk.out.trans (hb1.mono hbk.out.size)
        clear z0 z1 z2 z3 z4 z5 hbk hb1
        go_wp2_with fail
        refine (digit_any _ S2 E2 k ds2 _ (D2.out.later HB1.out)).mono ?_
        rintro e w2' ⟨rfl, hb2⟩
        have z0 := box_cell hb2 y0
        have z1 := box_cell hb2 y1
        have z2 := box_cell hb2 y2
        have z3 := box_cell hb2 y3
        have z4 := box_cell hb2 y4
        have z5 := box_cell hb2 y5
        have HB2 : Hid (Below w.heap.size w w2') := HB1.out.trans (hb2.mono HB1.out.size)
        clear y0 y1 y2 y3 y4 y5 HB1 hb2
        obtain ⟨x, hx⟩ : ∃ x, Hid (dgt ds1 E1 k = x) := ⟨_, rfl⟩
        obtain ⟨y, hy⟩ : ∃ y, Hid (dgt ds2 E2 k = y) := ⟨_, rfl⟩
        rw [hx.out, hy.out]
        have wk : IntKind.i64.wrap (k - 1) = k - 1 := wrapE _ (by omega) (by omega)
        rcases Nat.lt_trichotomy x y with h | h | h
        · have t1 : decide ((y : Int) < (x : Int)) = false := decide_eq_false (by omega)
          have t2 : decide ((x : Int) < (y : Int)) = true := decide_eq_true (by omega)
          go_wp2
          go_ret
          exact ⟨⟨_, rfl, Or.inr ⟨k, heq.out, Or.inr ⟨by rw [hx.out, hy.out]; exact h, rfl⟩⟩⟩, HB2.out⟩
        · subst h
          go_wp2
          go_roundw
          case rel => exact ⟨k - 1, by simp, by omega, by omega, fun j hj => by
            by_cases e : j = k
            · rw [e, hx.out, hy.out]
            · exact heq.out j (by omega), z0, z1, z2, z3, z4, z5, HB2.out⟩
          case measure => simp [intOf]; omega
        · have t1 : decide ((y : Int) < (x : Int)) = true := decide_eq_true (by omega)
          go_wp2
          go_ret
          exact ⟨⟨_, rfl, Or.inr ⟨k, heq.out, Or.inl ⟨by rw [hx.out, hy.out]; exact h, rfl⟩⟩⟩, HB2.out⟩
      · go_wp2
        go_ret
        exact ⟨⟨_, rfl, Or.inl ⟨rfl, fun j => by
          by_cases e : k < j
          · exact heq.out j e
          · rw [dgt_below (by omega), dgt_below (by omega)]⟩⟩, hbk.out⟩
  · go_loopw [7] (fun i wr => ∃ k : Int, i = .int .i64 k ∧ -3000000 ≤ k ∧ k ≤ 3000000 ∧ Hid (∀ j, k < j → dgt ds1 E1 j = dgt ds2 E2 j) ∧ wr.cell? ⟨w.heap.size, 0, none⟩ = some (.int .i64 S1) ∧ wr.cell? ⟨w.heap.size, 1, none⟩ = some (.slice a1 ds1.length c1) ∧ wr.cell? ⟨w.heap.size, 2, none⟩ = some (.int .i64 E1) ∧ wr.cell? ⟨w.heap.size + 1, 0, none⟩ = some (.int .i64 S2) ∧ wr.cell? ⟨w.heap.size + 1, 1, none⟩ = some (.slice a2 ds2.length c2) ∧ wr.cell? ⟨w.heap.size + 1, 2, none⟩ = some (.int .i64 E2) ∧ Hid (Below w.heap.size w wr)) (fun i _ => (intOf i + 4000000).toNat)
    case atStart => exact ⟨_, rfl, by omega, by omega, fun j hj => by rw [dgt_above (by omega), dgt_above (by omega)], by go_simp, by go_simp, by go_simp, by go_simp, by go_simp, by go_simp, (((Below.refl _ _).alloc (Nat.le_refl _) _).alloc (by simp) _)⟩
    case round =>
      obtain ⟨k, rfl, hk1, hk2, heq, z0, z1, z2, z3, z4, z5, hbk⟩ := hrel
      by_cases hlt : E2 ≤ k
      · go_wp2_with fail
        refine (digit_any _ S1 E1 k ds1 _ (D1.out.later hbk.out)).mono ?_
        rintro e w1' ⟨rfl, hb1⟩
        have y0 := box_cell hb1 z0
        have y1 := box_cell hb1 z1
        have y2 := box_cell hb1 z2
        have y3 := box_cell hb1 z3
        have y4 := box_cell hb1 z4
        have y5 := box_cell hb1 z5
        have HB1 : Hid (Below w.heap.size w w1') := hbk.out.trans (hb1.mono hbk.out.size)
        clear z0 z1 z2 z3 z4 z5 hbk hb1
        go_wp2_with fail
        refine (digit_any _ S2 E2 k ds2 _ (D2.out.later HB1.out)).mono ?_
        rintro e w2' ⟨rfl, hb2⟩
        have z0 := box_cell hb2 y0
        have z1 := box_cell hb2 y1
        have z2 := box_cell hb2 y2
        have z3 := box_cell hb2 y3
        have z4 := box_cell hb2 y4
        have z5 := box_cell hb2 y5
        have HB2 : Hid (Below w.heap.size w w2') := HB1.out.trans (hb2.mono HB1.out.size)
        clear y0 y1 y2 y3 y4 y5 HB1 hb2
        obtain ⟨x, hx⟩ : ∃ x, Hid (dgt ds1 E1 k = x) := ⟨_, rfl⟩
        obtain ⟨y, hy⟩ : ∃ y, Hid (dgt ds2 E2 k = y) := ⟨_, rfl⟩
        rw [hx.out, hy.out]
        have wk : IntKind.i64.wrap (k - 1) = k - 1 := wrapE _ (by omega) (by omega)
        rcases Nat.lt_trichotomy x y with h | h | h
        · have t1 : decide ((y : Int) < (x : Int)) = false := decide_eq_false (by omega)
          have t2 : decide ((x : Int) < (y : Int)) = true := decide_eq_true (by omega)
          go_wp2
          go_ret
          exact ⟨⟨_, rfl, Or.inr ⟨k, heq.out, Or.inr ⟨by rw [hx.out, hy.out]; exact h, rfl⟩⟩⟩, HB2.out⟩
        · subst h
          go_wp2
          go_roundw
          case rel => exact ⟨k - 1, by simp, by omega, by omega, fun j hj => by
            by_cases e : j = k
            · rw [e, hx.out, hy.out]
            · exact heq.out j (by omega), z0, z1, z2, z3, z4, z5, HB2.out⟩
          case measure => simp [intOf]; omega
        · have t1 : decide ((y : Int) < (x : Int)) = true := decide_eq_true (by omega)
          go_wp2
          go_ret
          exact ⟨⟨_, rfl, Or.inr ⟨k, heq.out, Or.inl ⟨by rw [hx.out, hy.out]; exact h, rfl⟩⟩⟩, HB2.out⟩
      · go_wp2
        go_ret
        exact ⟨⟨_, rfl, Or.inl ⟨rfl, fun j => by
          by_cases e : k < j
          · exact heq.out j e
          · rw [dgt_below (by omega), dgt_below (by omega)]⟩⟩, hbk.out⟩
  · go_loopw [7] (fun i wr => ∃ k : Int, i = .int .i64 k ∧ -3000000 ≤ k ∧ k ≤ 3000000 ∧ Hid (∀ j, k < j → dgt ds1 E1 j = dgt ds2 E2 j) ∧ wr.cell? ⟨w.heap.size, 0, none⟩ = some (.int .i64 S1) ∧ wr.cell? ⟨w.heap.size, 1, none⟩ = some (.slice a1 ds1.length c1) ∧ wr.cell? ⟨w.heap.size, 2, none⟩ = some (.int .i64 E1) ∧ wr.cell? ⟨w.heap.size + 1, 0, none⟩ = some (.int .i64 S2) ∧ wr.cell? ⟨w.heap.size + 1, 1, none⟩ = some (.slice a2 ds2.length c2) ∧ wr.cell? ⟨w.heap.size + 1, 2, none⟩ = some (.int .i64 E2) ∧ Hid (Below w.heap.size w wr)) (fun i _ => (intOf i + 4000000).toNat)
    case atStart => exact ⟨_, rfl, by omega, by omega, fun j hj => by rw [dgt_above (by omega), dgt_above (by omega)], by go_simp, by go_simp, by go_simp, by go_simp, by go_simp, by go_simp, (((Below.refl _ _).alloc (Nat.le_refl _) _).alloc (by simp) _)⟩
    case round =>
      obtain ⟨k, rfl, hk1, hk2, heq, z0, z1, z2, z3, z4, z5, hbk⟩ := hrel
      by_cases hlt : E1 ≤ k
      · go_wp2_with fail
        refine (digit_any _ S1 E1 k ds1 _ (D1.out.later hbk.out)).mono ?_
        rintro e w1' ⟨rfl, hb1⟩
        have y0 := box_cell hb1 z0
        have y1 := box_cell hb1 z1
        have y2 := box_cell hb1 z2
        have y3 := box_cell hb1 z3
        have y4 := box_cell hb1 z4
        have y5 := box_cell hb1 z5
        have HB1 : Hid (Below w.heap.size w w1') := hbk.out.trans (hb1.mono hbk.out.size)
        clear z0 z1 z2 z3 z4 z5 hbk hb1
        go_wp2_with fail
        refine (digit_any _ S2 E2 k ds2 _ (D2.out.later HB1.out)).mono ?_
        rintro e w2' ⟨rfl, hb2⟩
        have z0 := box_cell hb2 y0
        have z1 := box_cell hb2 y1
        have z2 := box_cell hb2 y2
        have z3 := box_cell hb2 y3
        have z4 := box_cell hb2 y4
        have z5 := box_cell hb2 y5
        have HB2 : Hid (Below w.heap.size w w2') := HB1.out.trans (hb2.mono HB1.out.size)
        clear y0 y1 y2 y3 y4 y5 HB1 hb2
        obtain ⟨x, hx⟩ : ∃ x, Hid (dgt ds1 E1 k = x) := ⟨_, rfl⟩
        obtain ⟨y, hy⟩ : ∃ y, Hid (dgt ds2 E2 k = y) := ⟨_, rfl⟩
        rw [hx.out, hy.out]
        have wk : IntKind.i64.wrap (k - 1) = k - 1 := wrapE _ (by omega) (by omega)
        rcases Nat.lt_trichotomy x y with h | h | h
        · have t1 : decide ((y : Int) < (x : Int)) = false := decide_eq_false (by omega)
          have t2 : decide ((x : Int) < (y : Int)) = true := decide_eq_true (by omega)
          go_wp2
          go_ret
          exact ⟨⟨_, rfl, Or.inr ⟨k, heq.out, Or.inr ⟨by rw [hx.out, hy.out]; exact h, rfl⟩⟩⟩, HB2.out⟩
        · subst h
          go_wp2
          go_roundw
          case rel => exact ⟨k - 1, by simp, by omega, by omega, fun j hj => by
            by_cases e : j = k
            · rw [e, hx.out, hy.out]
            · exact heq.out j (by omega), z0, z1, z2, z3, z4, z5, HB2.out⟩
          case measure => simp [intOf]; omega
        · have t1 : decide ((y : Int) < (x : Int)) = true := decide_eq_true (by omega)
          go_wp2
          go_ret
          exact ⟨⟨_, rfl, Or.inr ⟨k, heq.out, Or.inl ⟨by rw [hx.out, hy.out]; exact h, rfl⟩⟩⟩, HB2.out⟩
      · go_wp2
        go_ret
        exact ⟨⟨_, rfl, Or.inl ⟨rfl, fun j => by
          by_cases e : k < j
          · exact heq.out j e
          · rw [dgt_below (by omega), dgt_below (by omega)]⟩⟩, hbk.out⟩

end Go.Proofs.Ytghchejehlljkaa

/- The reference's trim. -/
namespace Go.Proofs.Ytghchejehlljkaa
open Go.RowKit

theorem dgt_eq (ds : List Nat) (E j : Int) : dgt ds E j = if E ≤ j then ds.getD (j - E).toNat 0 else 0 := by
  unfold dgt
  by_cases h : E ≤ j
  · by_cases h2 : j < E + (ds.length : Int)
    · rw [if_pos ⟨h, h2⟩, if_pos h]
    · rw [if_neg (by omega), if_pos h]
      simp [List.getD, List.getElem?_eq_none (by omega : ds.length ≤ (j - E).toNat)]
  · rw [if_neg (by omega), if_neg h]
theorem dgt_nil (E j : Int) : dgt [] E j = 0 := by rw [dgt_eq]; split <;> simp
theorem dgt_zero {ds : List Nat} {E j : Int} (h : ∀ i, ds.getD i 0 = 0) : dgt ds E j = 0 := by rw [dgt_eq]; split; exact h _; rfl
theorem cut_getD {ds : List Nat} {n k i : Nat} (h : k + i < n) : ((ds.take n).drop k).getD i 0 = ds.getD (k + i) 0 := by
  simp [List.getD, List.getElem?_drop, h]
theorem dgt_cut {ds : List Nat} {E : Int} {n k : Nat} (_hk : k ≤ n) (h1 : ∀ j, j < k → ds.getD j 0 = 0) (h2 : ∀ j, n ≤ j → ds.getD j 0 = 0) (j : Int) : dgt ((ds.take n).drop k) (E + (k : Int)) j = dgt ds E j := by
  rw [dgt_eq, dgt_eq]
  by_cases a : E ≤ j
  · by_cases b : E + (k : Int) ≤ j
    · rw [if_pos a, if_pos b]
      by_cases c : (j - E).toNat < n
      · rw [cut_getD (by omega)]; congr 1; omega
      · rw [h2 _ (by omega)]
        simp [List.getD, List.getElem?_drop, List.getElem?_take]
        rw [if_neg (by omega)]; rfl
    · rw [if_pos a, if_neg b, h1 _ (by omega)]
  · rw [if_neg a, if_neg (by omega)]

/-- What trim hands back. -/
def TrimR (w w' : World) (S : Int) (ds : List Nat) (E : Int) (e : Ending) : Prop :=
  ∃ v S' ds' E', e = .returned v ∧ Dig w' v S' ds' E' ∧ (∀ j, dgt ds' E' j = dgt ds E j) ∧ ((ds' = [] ∧ S' = 0 ∧ E' = 0) ∨ (ds' ≠ [] ∧ S' = S ∧ ds'.getD 0 0 ≠ 0 ∧ ds'.getD (ds'.length - 1) 0 ≠ 0)) ∧ Below w.heap.size w w'

set_option maxHeartbeats 4000000 in
theorem trim_walk (g off c : Nat) (S E : Int) (ds : List Nat) (w : World) (hc : ∀ k, k < ds.length → w.cell? ⟨g, off + k, none⟩ = some (.int .i64 (ds.getD k 0 : Nat))) (hsm : ∀ d ∈ ds, d < 16777216) (hlen : ds.length ≤ 1000000) (hcap : ds.length ≤ c) (h1 : -1000000 ≤ E) (h2 : E + (ds.length : Int) ≤ 1000000) (hir : IntRow w g) :
    Calls Try.prog 79 #[.agg #[.int .i64 S, .slice (some ⟨g, off, none⟩) ds.length c, .int .i64 E]] w fun e w' => TrimR w w' S ds E e := by
  have hg : g < w.heap.size := hir.lt
  have HIR : Hid (IntRow w g) := hir
  clear hir
  have HC : Hid (∀ k, k < ds.length → w.cell? ⟨g, off + k, none⟩ = some (.int .i64 (ds.getD k 0 : Nat))) := hc
  have l1 : (ds.length : Int) ≤ 1000000 := by omega
  clear hc
  go_enter Try.func79, Try.ntmps79
  go_wp2
  go_loop [3] (fun s => ∃ n : Nat, n ≤ ds.length ∧ s = .slice (some ⟨g, off, none⟩) n c ∧ Hid (∀ j, n ≤ j → ds.getD j 0 = 0)) (fun s => match s with | .slice _ n _ => n | _ => 0)
  case atStart => exact ⟨_, Nat.le_refl _, rfl, fun j hj => by simp [List.getD, List.getElem?_eq_none hj]⟩
  case round =>
    obtain ⟨n, hn, rfl, hz⟩ := hrel
    by_cases h0 : n = 0
    · subst h0
      have HL : Hid (0 < 0 → ds.getD (0 - 1) 0 ≠ 0) := fun h => by omega
      go_wp2
      go_loop [3, 4] (fun s e => ∃ (k m cc : Nat) (ad : Option Addr), k + m = 0 ∧ m ≤ cc ∧ (m = 0 ∨ ad = some ⟨g, off + k, none⟩) ∧ s = .slice ad m cc ∧ e = .int .i64 (E + (k : Int)) ∧ Hid (∀ j, j < k → ds.getD j 0 = 0)) (fun s _ => match s with | .slice _ n _ => n | _ => 0)
      case atStart => exact ⟨0, 0, c, _, by omega, by omega, Or.inr rfl, rfl, by simp, fun j hj => by omega⟩
      case round =>
        obtain ⟨k, m, cc, ad, hkm, hmc, had, rfl, rfl, hy⟩ := hrel
        by_cases m0 : m = 0
        · subst m0
          clear had
          go_wp2
          refine bodyPost_ret (v := .agg #[.int .i64 0, .slice none 0 0, .int .i64 0]) (by simp [results, Try.results79, go_sem]) rfl ?_
          refine ⟨_, 0, [], 0, rfl, ⟨⟨none, 0, rfl, by simp, Or.inl rfl⟩, by simp, by simp, by omega, by omega⟩, ?_, Or.inl ⟨rfl, rfl, rfl⟩, ?_⟩
          · intro j
            rw [dgt_nil]
            exact (dgt_zero (fun i => by
              by_cases hi : i < k
              · exact hy.out i hi
              · exact hz.out i (by omega))).symm
          · repeat (first | exact Below.refl _ _ | refine Below.alloc ?_ (by simp) _ | refine Below.setCell ?_ (by simp) _)
        · exact absurd hkm (by omega)

    · obtain ⟨q, rfl⟩ : ∃ q, n = q + 1 := ⟨n - 1, by omega⟩
      have hcq : ((w.alloc (.cells #[.int .i64 S, .slice (some ⟨g, off, none⟩) ds.length c, .int .i64 E] 56)).alloc (.cells #[.int .i64 0, .slice none 0 0, .int .i64 0] 56)).cell? ⟨g, off + q, none⟩ = some (.int .i64 (ds.getD q 0 : Nat)) := by
        rw [World.cell?_alloc_lt _ _ _ (by simp; omega), World.cell?_alloc_lt _ _ _ hg]; exact HC.out q (by omega)
      by_cases hw : ds.getD q 0 = 0
      · rw [hw] at hcq
        have hz' : Hid (∀ j, q ≤ j → ds.getD j 0 = 0) := fun j hj => by
          by_cases e : j = q
          · rw [e]; exact hw
          · exact hz.out j (by omega)
        clear hw hz
        go_wp2
        go_round
        case rel => exact ⟨q, by omega, by go_num, hz'⟩
        case measure => simp
      · have HL : Hid (0 < q + 1 → ds.getD (q + 1 - 1) 0 ≠ 0) := fun _ => hw
        have hwq : (((ds.getD q 0 : Nat) : Int) == 0) = false := by rw [beq_eq_false_iff_ne]; omega
        obtain ⟨x0, hx0⟩ : ∃ x, Hid (ds.getD q 0 = x) := ⟨_, rfl⟩
        rw [hx0.out] at hcq hwq
        clear hw
        go_wp2
        clear hcq hwq
        go_loop [3, 4] (fun s e => ∃ (k m cc : Nat) (ad : Option Addr), k + m = (q + 1) ∧ m ≤ cc ∧ (m = 0 ∨ ad = some ⟨g, off + k, none⟩) ∧ s = .slice ad m cc ∧ e = .int .i64 (E + (k : Int)) ∧ Hid (∀ j, j < k → ds.getD j 0 = 0)) (fun s _ => match s with | .slice _ n _ => n | _ => 0)
        case atStart => exact ⟨0, (q + 1), c, _, by omega, by omega, Or.inr rfl, rfl, by simp, fun j hj => by omega⟩
        case round =>
          obtain ⟨k, m, cc, ad, hkm, hmc, had, rfl, rfl, hy⟩ := hrel
          by_cases m0 : m = 0
          · subst m0
            clear had
            go_wp2
            refine bodyPost_ret (v := .agg #[.int .i64 0, .slice none 0 0, .int .i64 0]) (by simp [results, Try.results79, go_sem]) rfl ?_
            refine ⟨_, 0, [], 0, rfl, ⟨⟨none, 0, rfl, by simp, Or.inl rfl⟩, by simp, by simp, by omega, by omega⟩, ?_, Or.inl ⟨rfl, rfl, rfl⟩, ?_⟩
            · intro j
              rw [dgt_nil]
              exact (dgt_zero (fun i => by
                by_cases hi : i < k
                · exact hy.out i hi
                · exact hz.out i (by omega))).symm
            · repeat (first | exact Below.refl _ _ | refine Below.alloc ?_ (by simp) _ | refine Below.setCell ?_ (by simp) _)
          · obtain ⟨p, rfl⟩ : ∃ p, m = p + 1 := ⟨m - 1, by omega⟩
            obtain rfl : ad = some ⟨g, off + k, none⟩ := had.resolve_left m0
            clear had
            have hck : ((w.alloc (.cells #[.int .i64 S, .slice (some ⟨g, off, none⟩) ds.length c, .int .i64 E] 56)).alloc (.cells #[.int .i64 0, .slice none 0 0, .int .i64 0] 56)).cell? ⟨g, off + k, none⟩ = some (.int .i64 (ds.getD k 0 : Nat)) := by
              rw [World.cell?_alloc_lt _ _ _ (by simp; omega), World.cell?_alloc_lt _ _ _ hg]; exact HC.out k (by omega)
            by_cases hw : ds.getD k 0 = 0
            · rw [hw] at hck
              have hki : (k : Int) ≤ 1000000 := by omega
              have hy' : Hid (∀ j, j < k + 1 → ds.getD j 0 = 0) := fun j hj => by
                by_cases e : j = k
                · rw [e]; exact hw
                · exact hy.out j (by omega)
              have wk : IntKind.i64.wrap (E + (k : Int) + 1) = E + ((k + 1 : Nat) : Int) := by rw [show E + (k : Int) + 1 = E + ((k + 1 : Nat) : Int) by omega]; exact wrapE _ (by omega) (by omega)
              have hcc : (1 : Int) ≤ (cc : Int) := by omega
              have hpp : (p : Int) + 1 ≤ (cc : Int) := by omega
              clear hw hy
              go_wp2
              go_round
              case rel =>
                refine ⟨k + 1, p, cc - 1, _, by omega, by omega, ?_, rfl, by simp, hy'⟩
                by_cases e : cc = 1
                · left; omega
                · right; rw [if_neg e]; rfl
              case measure => simp
            · have hwq : (((ds.getD k 0 : Nat) : Int) == 0) = false := by rw [beq_eq_false_iff_ne]; omega
              have HW : Hid (ds.getD k 0 ≠ 0) := hw
              obtain ⟨x, hx⟩ : ∃ x, Hid (ds.getD k 0 = x) := ⟨_, rfl⟩
              rw [hx.out] at hck hwq
              clear hw
              go_wp2
              refine bodyPost_ret (v := .agg #[.int .i64 S, .slice (some ⟨g, off + k, none⟩) (p + 1) cc, .int .i64 (E + (k : Int))]) (by simp [results, Try.results79, go_sem]) rfl ?_
              have hl : ((ds.take ((q + 1))).drop k).length = p + 1 := by simp; omega
              refine ⟨_, S, (ds.take ((q + 1))).drop k, E + (k : Int), rfl, ⟨⟨some ⟨g, off + k, none⟩, cc, by rw [hl], by rw [hl]; exact hmc, Or.inr ⟨g, off + k, rfl, ?_, (HIR.out.alloc _).alloc _⟩⟩, fun d hd => hsm d (List.mem_of_mem_take (List.mem_of_mem_drop hd)), by omega, by omega, by omega⟩, fun j => dgt_cut (by omega) hy.out hz.out j, Or.inr ⟨by intro h; rw [h] at hl; simp at hl, rfl, ?_, ?_⟩, ?_⟩
              · intro i hi
                rw [cut_getD (by omega), show off + k + i = off + (k + i) by omega]
                rw [World.cell?_alloc_lt _ _ _ (by simp; omega), World.cell?_alloc_lt _ _ _ hg]; exact HC.out (k + i) (by omega)
              · rw [cut_getD (by omega)]; exact HW.out
              · rw [hl, cut_getD (by omega), show k + (p + 1 - 1) = (q + 1) - 1 by omega]; exact HL.out (by omega)
              · repeat (first | exact Below.refl _ _ | refine Below.alloc ?_ (by simp) _ | refine Below.setCell ?_ (by simp) _)

end Go.Proofs.Ytghchejehlljkaa

/- The reference's Neg; trim of any number. -/
namespace Go.Proofs.Ytghchejehlljkaa
open Go.RowKit

theorem wrap_neg1 {S : Int} (h : S = -1 ∨ S = 0 ∨ S = 1) : IntKind.i64.wrap (-S) = -S := wrapE _ (by omega) (by omega)

set_option maxHeartbeats 1000000 in
theorem refNeg_walk (a : Option Addr) (n c : Nat) (S E : Int) (w : World) (hS : S = -1 ∨ S = 0 ∨ S = 1) :
    Calls Try.prog 80 #[.agg #[.int .i64 S, .slice a n c, .int .i64 E]] w fun e w' => e = .returned (.agg #[.int .i64 (-S), .slice a n c, .int .i64 E]) ∧ Below w.heap.size w w' := by
  have hw := wrap_neg1 hS
  clear hS
  go_enter Try.func80, Try.ntmps80
  go_wp2
  refine bodyPost_ret (v := .agg #[.int .i64 (-S), .slice a n c, .int .i64 E]) (by simp [results, Try.results80, go_sem]) rfl ?_
  refine ⟨rfl, ?_⟩
  repeat (first | exact Below.refl _ _ | refine Below.drew ?_ | refine Below.alloc ?_ (by simp) _ | refine Below.setCell ?_ (by simp) _)

set_option maxHeartbeats 1000000 in
theorem trim_nil (a : Option Addr) (c : Nat) (S E : Int) (w : World) :
    Calls Try.prog 79 #[.agg #[.int .i64 S, .slice a 0 c, .int .i64 E]] w fun e w' => TrimR w w' S [] E e := by
  go_enter Try.func79, Try.ntmps79
  go_wp2
  go_loop [3] (fun s => s = .slice a 0 c) (fun _ => 0)
  case atStart => rfl
  case round =>
    subst hrel
    go_wp2
    go_loop [3, 4] (fun s e => s = .slice a 0 c ∧ e = .int .i64 E) (fun _ _ => 0)
    case atStart => exact ⟨rfl, rfl⟩
    case round =>
      obtain ⟨rfl, rfl⟩ := hrel
      go_wp2
      refine bodyPost_ret (v := .agg #[.int .i64 0, .slice none 0 0, .int .i64 0]) (by simp [results, Try.results79, go_sem]) rfl ?_
      refine ⟨_, 0, [], 0, rfl, ⟨⟨none, 0, rfl, by simp, Or.inl rfl⟩, by simp, by simp, by omega, by omega⟩, fun j => by rw [dgt_nil, dgt_nil], Or.inl ⟨rfl, rfl, rfl⟩, ?_⟩
      repeat (first | exact Below.refl _ _ | refine Below.alloc ?_ (by simp) _ | refine Below.setCell ?_ (by simp) _)

/-- trim, of whatever number. -/
theorem trim_any (v : Value) (S E : Int) (ds : List Nat) (w : World) (h : Dig w v S ds E) (hE : E + (ds.length : Int) ≤ 1000000) :
    Calls Try.prog 79 #[v] w fun e w' => TrimR w w' S ds E e := by
  obtain ⟨⟨a, c, rfl, hcap, hf⟩, h2, h3, h4, h5⟩ := h
  by_cases h0 : ds = []
  · subst h0
    exact trim_nil a c S E w
  · rcases hf with hf | ⟨g, off, rfl, hf, hr⟩
    · exact absurd hf h0
    · have hl : 0 < ds.length := List.length_pos_iff.2 h0
      exact trim_walk g off c S E ds w hf h2 h3 hcap h4 hE hr

theorem refNeg_any (v : Value) (S E : Int) (ds : List Nat) (w : World) (h : Dig w v S ds E) (hS : S = -1 ∨ S = 0 ∨ S = 1) :
    Calls Try.prog 80 #[v] w fun e w' => (∃ v', e = .returned v' ∧ Dig w' v' (-S) ds E) ∧ Below w.heap.size w w' := by
  obtain ⟨⟨a, c, rfl, hcap, hf⟩, h2, h3, h4, h5⟩ := h
  refine (refNeg_walk a ds.length c S E w hS).mono ?_
  rintro e w' ⟨rfl, hb⟩
  have hd : Dig w (.agg #[.int .i64 (-S), .slice a ds.length c, .int .i64 E]) (-S) ds E := ⟨⟨a, c, rfl, hcap, hf⟩, h2, h3, h4, h5⟩
  exact ⟨⟨_, rfl, hd.later hb⟩, hb⟩

end Go.Proofs.Ytghchejehlljkaa

/- The reference's Low. -/
namespace Go.Proofs.Ytghchejehlljkaa
open Go.RowKit

/-- What Low hands back. -/
def LowR (ds : List Nat) (E : Int) (e : Ending) : Prop := ∃ (ds' : List Nat) (E' : Int) (t x : Nat), e = .returned (.int .i64 (24 * E' + (t : Int))) ∧ (∀ j, dgt ds' E' j = dgt ds E j) ∧ ds'.getD 0 0 = x * 2 ^ t ∧ x % 2 = 1

set_option maxHeartbeats 2000000 in
theorem refLow_walk (a : Option Addr) (c : Nat) (S E : Int) (ds : List Nat) (w : World) (hd : Dig w (.agg #[.int .i64 S, .slice a ds.length c, .int .i64 E]) S ds E) (hE : E + (ds.length : Int) ≤ 1000000) (hS : (S == 0) = false) (hne : ∃ j, dgt ds E j ≠ 0) :
    Calls Try.prog 76 #[.agg #[.int .i64 S, .slice a ds.length c, .int .i64 E]] w fun e w' => LowR ds E e ∧ Below w.heap.size w w' := by
  have HD : Hid (Dig w (.agg #[.int .i64 S, .slice a ds.length c, .int .i64 E]) S ds E) := hd
  have HN : Hid (∃ j, dgt ds E j ≠ 0) := hne
  have HA : Hid (Below w.heap.size w (w.alloc (.cells #[.int .i64 S, .slice a ds.length c, .int .i64 E] 56))) := (Below.refl _ _).alloc (Nat.le_refl _) _
  clear hd hne
  go_enter Try.func76, Try.ntmps76
  go_wp2_with fail
  refine (trim_any _ S E ds _ (HD.out.later HA.out) hE).mono ?_
  rintro e w1 ⟨v1, S1, ds1, E1, rfl, hd1, heq, hcase, hb1⟩
  rcases hcase with ⟨rfl, _, _⟩ | ⟨hn1, rfl, hf0, _⟩
  · exfalso
    obtain ⟨j, hj⟩ := HN.out
    rw [← heq j, dgt_nil] at hj
    exact hj rfl
  obtain ⟨⟨a1, c1, rfl, hcap, hf⟩, hsm, hl1, he1, he2⟩ := hd1
  rcases hf with hf | ⟨g, off, rfl, hf, _⟩
  · exact absurd hf hn1
  have hlen : 0 < ds1.length := List.length_pos_iff.2 hn1
  have hc0 : w1.cell? ⟨g, off, none⟩ = some (.int .i64 (ds1.getD 0 0 : Nat)) := hf 0 hlen
  have hg : g < w1.heap.size := World.block_lt_of_cell? _ _ hc0
  have hlen' : (0 : Int) < (ds1.length : Int) := by omega
  have HB1 : Hid (Below w.heap.size w w1) := HA.out.trans (hb1.mono HA.out.size)
  have HQ : Hid (∀ j, dgt ds1 E1 j = dgt ds E j) := heq
  obtain ⟨x0, hx0⟩ : ∃ x, Hid (ds1.getD 0 0 = x) := ⟨_, rfl⟩
  have hxs : x0 < 16777216 := by
    have := hsm (ds1.getD 0 0) (by rw [List.getD_eq_getElem?_getD, List.getElem?_eq_getElem hlen]; simp)
    rwa [hx0.out] at this
  have hxp : x0 ≠ 0 := by rw [← hx0.out]; exact hf0
  rw [hx0.out] at hc0
  have hw24 : IntKind.i64.wrap (24 * E1) = 24 * E1 := wrapE _ (by omega) (by omega)
  clear hf hsm heq hf0 hb1
  go_wp2
  go_loop [4, 5] (fun n d => ∃ x t : Nat, x ≠ 0 ∧ Hid (x0 = x * 2 ^ t) ∧ t ≤ 24 ∧ x < 16777216 ∧ n = .int .i64 (24 * E1 + (t : Int)) ∧ d = .int .i64 (x : Int)) (fun _ d => (intOf d).toNat)
  case atStart => exact ⟨x0, 0, hxp, by simp [Hid], by omega, hxs, by simp, rfl⟩
  case round =>
    obtain ⟨x, t, hx, hxt, ht, hxl, rfl, rfl⟩ := hrel
    by_cases he : x % 2 = 0
    · have t1 : (((x : Nat) : Int) % 2 == 0) = true := by simp; omega
      have ht2 : t + 1 ≤ 24 := by
        have e1 : 2 ^ (t + 1) ≤ x * 2 ^ t := by rw [Nat.pow_succ, Nat.mul_comm]; exact Nat.mul_le_mul_right _ (by omega)
        rw [← hxt.out] at e1
        have : 2 ^ (t + 1) < 2 ^ 24 := Nat.lt_of_le_of_lt e1 hxs
        have := (Nat.pow_lt_pow_iff_right (by omega : 1 < 2)).1 this
        omega
      have hxt' : Hid (x0 = x / 2 * 2 ^ (t + 1)) := by
        have h2 : x = x / 2 * 2 := by omega
        show x0 = x / 2 * 2 ^ (t + 1)
        rw [hxt.out, Nat.pow_succ, Nat.mul_comm (2 ^ t) 2, ← Nat.mul_assoc, ← h2]
      have wk : IntKind.i64.wrap (24 * E1 + (t : Int) + 1) = 24 * E1 + ((t + 1 : Nat) : Int) := by rw [show 24 * E1 + (t : Int) + 1 = 24 * E1 + ((t + 1 : Nat) : Int) by omega]; exact wrapE _ (by omega) (by omega)
      clear hxt
      go_wp2
      go_round
      case rel => exact ⟨x / 2, t + 1, by omega, hxt', ht2, by omega, by first | rfl | simp, by simp⟩
      case measure => simp [intOf]; omega
    · have t1 : (((x : Nat) : Int) % 2 == 0) = false := by simp; omega
      go_wp2
      go_ret
      exact ⟨⟨ds1, E1, t, x, rfl, HQ.out, by rw [hx0.out]; exact hxt.out, by omega⟩, (HB1.out.trans (((Below.refl _ _).alloc (Nat.le_refl _) _).mono HB1.out.size))⟩

end Go.Proofs.Ytghchejehlljkaa

/- The reference's High. -/
namespace Go.Proofs.Ytghchejehlljkaa
open Go.RowKit

/-- What High hands back. -/
def HighR (ds : List Nat) (E : Int) (e : Ending) : Prop := ∃ (ds' : List Nat) (E' : Int) (t : Nat), e = .returned (.int .i64 (24 * (E' + (ds'.length : Int) - 1) + (t : Int))) ∧ (∀ j, dgt ds' E' j = dgt ds E j) ∧ ds' ≠ [] ∧ 2 ^ t ≤ ds'.getD (ds'.length - 1) 0 ∧ ds'.getD (ds'.length - 1) 0 < 2 ^ (t + 1)

end Go.Proofs.Ytghchejehlljkaa

/- The number that digits below 2^24 tell, plainly. -/
namespace Go.Proofs.Ytghchejehlljkaa

def v24 : List Nat → Nat
  | [] => 0
  | n :: r => n + 16777216 * v24 r

theorem p24 (k : Nat) : 2 ^ (24 * (k + 1)) = 16777216 * 2 ^ (24 * k) := by
  rw [show 24 * (k + 1) = 24 + 24 * k by omega, Nat.pow_add]
theorem v24_append (a b : List Nat) : v24 (a ++ b) = v24 a + 2 ^ (24 * a.length) * v24 b := by
  induction a with
  | nil => simp [v24]
  | cons x r ih => rw [List.cons_append, v24, v24, ih, List.length_cons, p24]; grind
theorem v24_snoc (a : List Nat) (x : Nat) : v24 (a ++ [x]) = v24 a + 2 ^ (24 * a.length) * x := by
  rw [v24_append]; simp [v24]
theorem v24_take_succ (l : List Nat) (k : Nat) : v24 (l.take (k + 1)) = v24 (l.take k) + 2 ^ (24 * k) * l.getD k 0 := by
  by_cases hk : k < l.length
  · rw [List.take_succ_eq_append_getElem hk, v24_append, List.length_take, Nat.min_eq_left (by omega)]
    simp [v24, List.getD, hk]
  · rw [List.take_of_length_le (by omega), List.take_of_length_le (by omega)]
    simp [List.getD, List.getElem?_eq_none (Nat.le_of_not_lt hk)]
theorem v24_lt {ds : List Nat} (h : ∀ d ∈ ds, d < 16777216) : v24 ds < 2 ^ (24 * ds.length) := by
  induction ds with
  | nil => simp [v24]
  | cons x r ih =>
    have h0 : x < 16777216 := h x (by simp)
    have h1 := ih (fun d hd => h d (by simp [hd]))
    rw [v24, List.length_cons, p24]
    omega
theorem v24_mod {ds : List Nat} (h : ∀ d ∈ ds, d < 16777216) : v24 ds % 16777216 = ds.getD 0 0 := by
  cases ds with
  | nil => simp [v24]
  | cons x r =>
    have h0 : x < 16777216 := h x (by simp)
    simp only [v24, List.getD_cons_zero]
    omega

/-- The digits f from the place L on, n of them. -/
def ms (f : Int → Nat) (L : Int) : Nat → Nat
  | 0 => 0
  | n + 1 => ms f L n + 2 ^ (24 * n) * f (L + (n : Int))

theorem ms_congr {f g : Int → Nat} (h : ∀ j, f j = g j) (L : Int) (n : Nat) : ms f L n = ms g L n := by
  induction n with
  | zero => rfl
  | succ n ih => rw [ms, ms, ih, h]
theorem ms_add (f : Int → Nat) (L : Int) (k n : Nat) : ms f L (k + n) = ms f L k + 2 ^ (24 * k) * ms f (L + (k : Int)) n := by
  induction n with
  | zero => simp [ms]
  | succ n ih =>
    rw [← Nat.add_assoc, ms, ih, ms, show 24 * (k + n) = 24 * k + 24 * n by omega, Nat.pow_add, show L + (k : Int) + (n : Int) = L + ((k + n : Nat) : Int) by omega]
    grind
theorem ms_zero {f : Int → Nat} {L : Int} {n : Nat} (h : ∀ i, L ≤ i → i < L + (n : Int) → f i = 0) : ms f L n = 0 := by
  induction n with
  | zero => rfl
  | succ n ih => rw [ms, ih (fun i h1 h2 => h i h1 (by omega)), h _ (by omega) (by omega)]; simp
theorem ms_lt {f : Int → Nat} (h : ∀ i, f i < 16777216) (L : Int) (n : Nat) : ms f L n < 2 ^ (24 * n) := by
  induction n with
  | zero => simp [ms]
  | succ n ih =>
    rw [ms, p24]
    have h1 : f (L + (n : Int)) + 1 ≤ 16777216 := h _
    have h2 := Nat.mul_le_mul_left (2 ^ (24 * n)) h1
    rw [Nat.mul_add, Nat.mul_one, Nat.mul_comm _ 16777216] at h2
    omega
/-- Which is greater is told by the first digit from above that is not the same. -/
theorem ms_less {f g : Int → Nat} (hg : ∀ i, g i < 16777216) {L i : Int} {n : Nat} (h1 : L ≤ i) (h2 : i < L + (n : Int)) (heq : ∀ j, i < j → f j = g j) (hlt : g i < f i) : ms g L n < ms f L n := by
  obtain ⟨k, rfl⟩ : ∃ k : Nat, i = L + (k : Int) := ⟨(i - L).toNat, by omega⟩
  obtain ⟨m, rfl⟩ : ∃ m, n = k + 1 + m := ⟨n - k - 1, by omega⟩
  rw [ms_add, ms_add f]
  have e : ms g (L + ((k + 1 : Nat) : Int)) m = ms f (L + ((k + 1 : Nat) : Int)) m := by
    have : ∀ q : Nat, ms g (L + ((k + 1 : Nat) : Int)) q = ms f (L + ((k + 1 : Nat) : Int)) q := by
      intro q
      induction q with
      | zero => rfl
      | succ q ih => rw [ms, ms, ih, heq _ (by omega)]
    exact this m
  rw [e, ms, ms]
  have h3 := ms_lt hg L k
  have h4 : g (L + (k : Int)) + 1 ≤ f (L + (k : Int)) := hlt
  have h5 := Nat.mul_le_mul_left (2 ^ (24 * k)) h4
  rw [Nat.mul_add, Nat.mul_one] at h5
  omega

/-- The digit at a place (as dgt has it). -/
def dg (ds : List Nat) (E j : Int) : Nat := if E ≤ j then ds.getD (j - E).toNat 0 else 0
theorem dg_small {ds : List Nat} (h : ∀ d ∈ ds, d < 16777216) (E j : Int) : dg ds E j < 16777216 := by
  unfold dg
  split
  · by_cases hi : (j - E).toNat < ds.length
    · have e : ds.getD (j - E).toNat 0 = ds[(j - E).toNat] := by simp [List.getD, hi]
      rw [e]; exact h _ (List.getElem_mem hi)
    · simp [List.getD, List.getElem?_eq_none (Nat.le_of_not_lt hi)]
  · omega
theorem ms_dg (ds : List Nat) (E : Int) (k : Nat) : ms (dg ds E) E k = v24 (ds.take k) := by
  induction k with
  | zero => simp [ms, v24]
  | succ k ih =>
    rw [ms, ih, v24_take_succ]
    unfold dg
    rw [if_pos (by omega), show (E + (k : Int) - E).toNat = k by omega]

/-- The number. -/
def mag (ds : List Nat) (E : Int) : Rat := (v24 ds : Nat) * p2 (24 * E)

theorem mag_ms {ds : List Nat} {E L : Int} {n : Nat} (h1 : L ≤ E) (h2 : E + (ds.length : Int) ≤ L + (n : Int)) : mag ds E = (ms (dg ds E) L n : Nat) * p2 (24 * L) := by
  obtain ⟨k, rfl⟩ : ∃ k : Nat, E = L + (k : Int) := ⟨(E - L).toNat, by omega⟩
  obtain ⟨m, rfl⟩ : ∃ m, n = k + m := ⟨n - k, by omega⟩
  rw [ms_add, ms_zero (n := k) (fun i a b => by unfold dg; rw [if_neg (by omega)]), ms_dg, List.take_of_length_le (by omega), Nat.zero_add]
  unfold mag
  rw [show 24 * (L + (k : Int)) = ((24 * k : Nat) : Int) + 24 * L by omega, p2_add, p2_nat, Rat.natCast_mul]
  grind
theorem mag_congr {ds ds' : List Nat} {E E' : Int} (h : ∀ j, dg ds' E' j = dg ds E j) : mag ds' E' = mag ds E := by
  have a1 : min E E' ≤ E := by omega
  have a2 : min E E' ≤ E' := by omega
  have b1 : E + (ds.length : Int) ≤ min E E' + (((E - min E E').toNat + (E' - min E E').toNat + ds.length + ds'.length : Nat) : Int) := by omega
  have b2 : E' + (ds'.length : Int) ≤ min E E' + (((E - min E E').toNat + (E' - min E E').toNat + ds.length + ds'.length : Nat) : Int) := by omega
  rw [mag_ms a1 b1, mag_ms a2 b2, ms_congr h]
theorem mag_nonneg (ds : List Nat) (E : Int) : 0 ≤ mag ds E := Rat.mul_nonneg Rat.natCast_nonneg (Rat.le_of_lt (p2_pos _))
theorem mag_nil (E : Int) : mag [] E = 0 := by unfold mag; simp [v24]

theorem v24_last {ds : List Nat} (hne : ds ≠ []) (ht : ds.getD (ds.length - 1) 0 ≠ 0) : 2 ^ (24 * (ds.length - 1)) ≤ v24 ds := by
  have hl := List.length_pos_iff.2 hne
  have e := v24_take_succ ds (ds.length - 1)
  rw [show ds.length - 1 + 1 = ds.length by omega, List.take_length] at e
  rw [e]
  have := Nat.mul_le_mul_left (2 ^ (24 * (ds.length - 1))) (Nat.pos_of_ne_zero ht)
  omega
theorem mag_pos {ds : List Nat} {E : Int} (hne : ds ≠ []) (ht : ds.getD (ds.length - 1) 0 ≠ 0) : 0 < mag ds E := by
  have h := v24_last hne ht
  have h2 := Nat.two_pow_pos (24 * (ds.length - 1))
  unfold mag
  refine Rat.mul_pos ?_ (p2_pos _)
  have : 0 < v24 ds := by omega
  exact_mod_cast this
/-- The highest digit's place, by a bound of the number. -/
theorem mag_top {ds : List Nat} {E h : Int} (hne : ds ≠ []) (ht : ds.getD (ds.length - 1) 0 ≠ 0) (hb : mag ds E < p2 h) : 24 * (E + (ds.length : Int)) < h + 24 := by
  have h1 := v24_last hne ht
  have hl := List.length_pos_iff.2 hne
  have h2 : p2 (24 * (E + (ds.length : Int) - 1)) ≤ mag ds E := by
    rw [show 24 * (E + (ds.length : Int) - 1) = ((24 * (ds.length - 1) : Nat) : Int) + 24 * E by omega, p2_add, p2_nat]
    unfold mag
    exact Rat.mul_le_mul_of_nonneg_right (Rat.natCast_le_natCast.2 h1) (Rat.le_of_lt (p2_pos _))
  have h3 : p2 (24 * (E + (ds.length : Int) - 1)) < p2 h := by grind
  have := p2_lt_iff.1 h3
  omega
/-- The lowest digit's place, by a power that the number is a multiple of. -/
theorem mag_low {ds : List Nat} {E l : Int} (hs : ∀ d ∈ ds, d < 16777216) (hf : ds.getD 0 0 ≠ 0) (hm : ∃ n : Int, mag ds E = (n : Rat) * p2 l) : l < 24 * E + 24 := by
  rcases Int.lt_or_le l (24 * E + 24) with h | h
  · exact h
  · exfalso
    obtain ⟨n, hn⟩ := hm
    obtain ⟨k, rfl⟩ : ∃ k : Nat, l = 24 * E + 24 + (k : Int) := ⟨(l - (24 * E + 24)).toNat, by omega⟩
    rw [show 24 * E + 24 + (k : Int) = ((24 + k : Nat) : Int) + 24 * E by omega, p2_add, p2_nat, ← Rat.mul_assoc] at hn
    unfold mag at hn
    have h1 : ((v24 ds : Nat) : Rat) = (n : Rat) * ((2 ^ (24 + k) : Nat) : Rat) := by
      have hp := p2_ne (24 * E)
      have := congrArg (· / p2 (24 * E)) hn
      simp only [Rat.mul_div_cancel hp] at this
      exact this
    have h2 : ((v24 ds : Nat) : Int) = n * ((2 ^ (24 + k) : Nat) : Int) := by exact_mod_cast h1
    have h3 := v24_mod hs
    rw [Nat.pow_add, show (2 : Nat) ^ 24 = 16777216 from rfl] at h2
    have h4 : ((v24 ds : Nat) : Int) % 16777216 = 0 := by
      rw [h2, Int.natCast_mul, show n * (((16777216 : Nat) : Int) * ((2 ^ k : Nat) : Int)) = n * ((2 ^ k : Nat) : Int) * 16777216 by grind]
      exact Int.mul_emod_left _ _
    omega
end Go.Proofs.Ytghchejehlljkaa

/- A number of the reference stands for a rational number. -/
namespace Go.Proofs.Ytghchejehlljkaa
open Go.RowKit

theorem dgt_dg (ds : List Nat) (E j : Int) : dgt ds E j = dg ds E j := by rw [dgt_eq]; rfl

/-- No nought at either end; nothing has the sign 0. -/
def Canon (S : Int) (ds : List Nat) (E : Int) : Prop := (ds = [] ∧ S = 0 ∧ E = 0) ∨ (ds ≠ [] ∧ (S = 1 ∨ S = -1) ∧ ds.getD 0 0 ≠ 0 ∧ ds.getD (ds.length - 1) 0 ≠ 0)

/-- The value v stands for q. -/
def Rf (w : World) (v : Value) (q : Rat) : Prop := ∃ S ds E, Dig w v S ds E ∧ Canon S ds E ∧ q = (S : Rat) * mag ds E

theorem Rf.later {w w' : World} {v : Value} {q : Rat} (h : Rf w v q) (hb : Below w.heap.size w w') : Rf w' v q := by
  obtain ⟨S, ds, E, h1, h2, h3⟩ := h
  exact ⟨S, ds, E, h1.later hb, h2, h3⟩

/-- What a call hands back that answers a number of the reference. -/
def RfR (w w' : World) (q : Rat) (e : Ending) : Prop := ∃ v, e = .returned v ∧ Rf w' v q ∧ Below w.heap.size w w'

theorem trim_rf {w w' : World} {S E : Int} {ds : List Nat} {e : Ending} (hS : S = 1 ∨ S = -1) (h : TrimR w w' S ds E e) : RfR w w' ((S : Rat) * mag ds E) e := by
  obtain ⟨v, S', ds', E', he, hd, heq, hc, hb⟩ := h
  have hm : mag ds' E' = mag ds E := mag_congr (fun j => by rw [← dgt_dg, ← dgt_dg]; exact heq j)
  refine ⟨v, he, ⟨S', ds', E', hd, ?_, ?_⟩, hb⟩
  · rcases hc with h | ⟨a, rfl, b, c⟩
    · exact Or.inl h
    · exact Or.inr ⟨a, hS, b, c⟩
  · rw [hm]
    rcases hc with ⟨rfl, rfl, rfl⟩ | ⟨_, rfl, _⟩
    · rw [mag_nil] at hm
      rw [← hm]; grind
    · rfl

theorem canon_sign {S E : Int} {ds : List Nat} (h : Canon S ds E) : S = 0 ∨ S = 1 ∨ S = -1 := by
  rcases h with ⟨_, h, _⟩ | ⟨_, h, _⟩
  · exact Or.inl h
  · exact Or.inr h
/-- The sign is the number's. -/
theorem canon_sgn {S E : Int} {ds : List Nat} (h : Canon S ds E) : (S = 0 ∧ (S : Rat) * mag ds E = 0) ∨ (S = 1 ∧ 0 < (S : Rat) * mag ds E) ∨ (S = -1 ∧ (S : Rat) * mag ds E < 0) := by
  rcases h with ⟨rfl, rfl, rfl⟩ | ⟨a, h, _, b⟩
  · left; exact ⟨rfl, by rw [mag_nil]; grind⟩
  · have := mag_pos (E := E) a b
    rcases h with rfl | rfl
    · right; left; exact ⟨rfl, by rw [show ((1 : Int) : Rat) = 1 from rfl]; grind⟩
    · right; right; exact ⟨rfl, by rw [show ((-1 : Int) : Rat) = -1 from rfl]; grind⟩
/-- Where the digits lie, by a bound of the number. -/
theorem canon_place {S E h l : Int} {ds : List Nat} (hc : Canon S ds E) (hs : ∀ d ∈ ds, d < 16777216) (hb : Bd h l ((S : Rat) * mag ds E)) (h0 : ds ≠ []) : 24 * (E + (ds.length : Int)) < h + 24 ∧ l < 24 * E + 24 := by
  rcases hc with ⟨h, _⟩ | ⟨hne, hS, hf, ht⟩
  · exact absurd h h0
  · obtain ⟨b1, b2, n, b3⟩ := hb
    rcases hS with rfl | rfl
    · rw [show ((1 : Int) : Rat) * mag ds E = mag ds E by rw [show ((1 : Int) : Rat) = 1 from rfl]; grind] at b1 b2 b3
      exact ⟨mag_top hne ht b1, mag_low hs hf ⟨n, b3⟩⟩
    · rw [show ((-1 : Int) : Rat) * mag ds E = -mag ds E by rw [show ((-1 : Int) : Rat) = -1 from rfl]; grind] at b1 b2 b3
      exact ⟨mag_top hne ht (by grind), mag_low hs hf ⟨-n, by rw [Rat.intCast_neg]; grind⟩⟩

/-- A box of a number. -/
def BoxN (w : World) (b : Nat) (S : Int) (sv : Value) (E : Int) : Prop := w.heap[b]? = some (.cells #[.int .i64 S, sv, .int .i64 E] 56 (0, 0))
theorem BoxN.cells {w : World} {b : Nat} {S E : Int} {sv : Value} (h : BoxN w b S sv E) : w.cell? ⟨b, 0, none⟩ = some (.int .i64 S) ∧ w.cell? ⟨b, 1, none⟩ = some sv ∧ w.cell? ⟨b, 2, none⟩ = some (.int .i64 E) ∧ (∀ i, w.frozen? ⟨b, i, none⟩ = false) ∧ b < w.heap.size := by
  unfold BoxN at h
  refine ⟨by simp [World.cell?, h], by simp [World.cell?, h], by simp [World.cell?, h], fun i => by simp [World.frozen?, h], ?_⟩
  exact (Array.getElem?_eq_some_iff.1 h).1
theorem BoxN.set {w : World} {b : Nat} {S E : Int} {sv sv' : Value} (h : BoxN w b S sv E) : BoxN (w.setCell ⟨b, 1, none⟩ sv') b S sv' E := by
  unfold BoxN at *
  simp [World.setCell, Array.getElem?_modify, h]
theorem BoxN.block {w w' : World} {b : Nat} {S E : Int} {sv : Value} (h : BoxN w b S sv E) (he : w'.heap[b]? = w.heap[b]?) : BoxN w' b S sv E := by
  unfold BoxN at *; rw [he]; exact h
theorem BoxN.alloc {w : World} {b : Nat} {S E : Int} {sv : Value} (h : BoxN w b S sv E) (o : Obj) : BoxN (w.alloc o) b S sv E := h.block (Below.heap_alloc w o b h.cells.2.2.2.2)
theorem BoxN.grown {w w' : World} {b : Nat} {S E : Int} {sv : Value} {row : Option Nat} (h : BoxN w b S sv E) (hg : w.grownBy w' row) (hne : some b ≠ row) : BoxN w' b S sv E := h.block (hg.block b h.cells.2.2.2.2 hne)
theorem BoxN.other {w : World} {b : Nat} {S E : Int} {sv : Value} (h : BoxN w b S sv E) {a : Addr} (hn : b ≠ a.block) (v : Value) : BoxN (w.setCell a v) b S sv E := h.block (Below.heap_setCell w a v b hn)

/-- A row of int64 that a call owns. -/
def i64s (ds : List Nat) : List Value := ds.map (fun d => .int .i64 (d : Nat))
theorem i64s_length (ds : List Nat) : (i64s ds).length = ds.length := by simp [i64s]
theorem i64s_snoc (ds : List Nat) (d : Nat) : i64s ds ++ [.int .i64 (d : Nat)] = i64s (ds ++ [d]) := by simp [i64s]

theorem own_cell {w : World} {base : Nat} {g cap : Nat} {ds : List Nat} (h : w.ownsRow base 2 1 (.slice (some ⟨g, 0, none⟩) ds.length cap) ds.length (i64s ds)) (k : Nat) (hk : k < ds.length) : w.cell? ⟨g, k, none⟩ = some (.int .i64 (ds.getD k 0 : Nat)) := by
  have := h.cells (g := g) rfl k (.int .i64 (ds.getD k 0 : Nat)) (by simp [i64s, List.getD, hk])
  rwa [show (⟨g, 0, none⟩ : Addr).add k = ⟨g, k, none⟩ by unfold Addr.add; split <;> simp_all] at this
theorem own_form {w : World} {base : Nat} {sv : Value} {ds : List Nat} (h : w.ownsRow base 2 1 sv ds.length (i64s ds)) : (ds = [] ∧ ∃ a c, sv = .slice a 0 c ∧ (a = none ∨ ∃ g, a = some ⟨g, 0, none⟩)) ∨ (ds ≠ [] ∧ ∃ g cap, sv = .slice (some ⟨g, 0, none⟩) ds.length cap ∧ ds.length ≤ cap ∧ base ≤ g ∧ g < w.heap.size ∧ w.frozen? ⟨g, 0, none⟩ = false) := by
  rcases h.2 with ⟨h1, h2⟩ | ⟨g, cap, cur, h1, h2, h3, h4, _⟩
  · left
    exact ⟨List.eq_nil_of_length_eq_zero h2, none, 0, h1, Or.inl rfl⟩
  · by_cases e : ds = []
    · left
      subst e
      exact ⟨rfl, _, cap, h1, Or.inr ⟨g, rfl⟩⟩
    · right
      exact ⟨e, g, cap, h1, h4, h2, (Array.getElem?_eq_some_iff.1 h3).1, by simp [World.frozen?, h3]⟩
theorem own_frozen {w : World} {base : Nat} {g cap : Nat} {ds : List Nat} (h : w.ownsRow base 2 1 (.slice (some ⟨g, 0, none⟩) ds.length cap) ds.length (i64s ds)) (k : Nat) : w.frozen? ⟨g, k, none⟩ = false := by
  rcases h.2 with ⟨h1, _⟩ | ⟨g', cap', cur, h1, h2, h3, h4, _⟩
  · cases h1
  · cases h1
    simp [World.frozen?, h3]
theorem own_set {w : World} {base : Nat} {g cap : Nat} {ds : List Nat} (h : w.ownsRow base 2 1 (.slice (some ⟨g, 0, none⟩) ds.length cap) ds.length (i64s ds)) (k d : Nat) (_hk : k < ds.length) : (w.setCell ⟨g, k, none⟩ (.int .i64 (d : Nat))).ownsRow base 2 1 (.slice (some ⟨g, 0, none⟩) (ds.set k d).length cap) (ds.set k d).length (i64s (ds.set k d)) := by
  refine ⟨by simp [i64s], ?_⟩
  rcases h.2 with ⟨h1, _⟩ | ⟨g', cap', cur, h1, h2, h3, h4, h5, h6, h7⟩
  · cases h1
  · cases h1
    refine Or.inr ⟨g, cap, cur.set! k (.int .i64 (d : Nat)), by simp, h2, ?_, by simpa using h4, h5, by simpa using h6, ?_⟩
    · simp [World.setCell, Array.getElem?_modify, h3]
    · rw [Nat.mul_one] at h7
      have : i64s (ds.set k d) = (i64s ds).set k (.int .i64 (d : Nat)) := by simp [i64s, List.map_set]
      rw [this, ← h7]
      simp [List.take_set]
theorem own_int {w : World} {base : Nat} {g cap : Nat} {ds : List Nat} (h : w.ownsRow base 2 1 (.slice (some ⟨g, 0, none⟩) ds.length cap) ds.length (i64s ds)) : IntRow w g := by
  rcases h.2 with ⟨h1, _⟩ | ⟨g', cap', cur, h1, h2, h3, h4, _⟩
  · cases h1
  · cases h1
    exact ⟨cur, _, h3⟩
theorem own_dig {w : World} {base : Nat} {sv : Value} {S E : Int} {ds : List Nat} (h : w.ownsRow base 2 1 sv ds.length (i64s ds)) (hs : ∀ d ∈ ds, d < 16777216) (hl : ds.length ≤ 1000000) (e1 : -1000000 ≤ E) (e2 : E ≤ 1000000) : Dig w (.agg #[.int .i64 S, sv, .int .i64 E]) S ds E := by
  rcases own_form h with ⟨rfl, a, c, rfl, _⟩ | ⟨hne, g, cap, rfl, hcap, _, _⟩
  · exact ⟨⟨a, c, rfl, by simp, Or.inl rfl⟩, hs, hl, e1, e2⟩
  · exact ⟨⟨_, cap, rfl, hcap, Or.inr ⟨g, 0, rfl, fun k hk => by rw [Nat.zero_add]; exact own_cell h k hk, own_int h⟩⟩, hs, hl, e1, e2⟩
theorem own_apart {w : World} {base b : Nat} {sv : Value} {n : Nat} {xs : List Value} (h : w.ownsRow base 2 1 sv n xs) (hb : b < base) : some b ≠ sv.ownBlock := fun e => by
  have := (h.lt b e.symm).1
  omega
theorem own_other {w : World} {base : Nat} {sv : Value} {n : Nat} {xs : List Value} (h : w.ownsRow base 2 1 sv n xs) {a : Addr} (hb : a.block < base) (v : Value) : (w.setCell a v).ownsRow base 2 1 sv n xs :=
  h.kept (row := some a.block) ⟨rfl, rfl, rfl, by simp [World.setCell], fun k _ hne => Below.heap_setCell w a v k (by intro e; exact hne (by rw [e]))⟩ (Or.inr (Ne.symm (own_apart h hb)))
theorem own_drew {w : World} {base : Nat} {sv : Value} {n : Nat} {xs : List Value} (h : w.ownsRow base 2 1 sv n xs) : w.drew.ownsRow base 2 1 sv n xs := h

/-- A block of another type of elements. -/
def OtherRow (w : World) (b : Nat) : Prop := ∃ cur t fr, w.heap[b]? = some (.cells cur t fr) ∧ t ≠ 2
theorem OtherRow.apart {w : World} {b g : Nat} (h : OtherRow w b) (h2 : IntRow w g) : g ≠ b := by
  rintro rfl
  obtain ⟨cur, t, fr, h, ht⟩ := h
  obtain ⟨cur', fr', h2⟩ := h2
  rw [h] at h2
  simp at h2
  exact ht h2.2.1
theorem OtherRow.set {w : World} {b : Nat} (h : OtherRow w b) (i : Nat) (v : Value) : OtherRow (w.setCell ⟨b, i, none⟩ v) b := by
  obtain ⟨cur, t, fr, h, ht⟩ := h
  exact ⟨cur.set! i v, t, fr, by simp [World.setCell, Array.getElem?_modify, h], ht⟩
theorem Dig.set {w : World} {v : Value} {S E : Int} {ds : List Nat} {b : Nat} (h : Dig w v S ds E) (ho : OtherRow w b) (i : Nat) (u : Value) : Dig (w.setCell ⟨b, i, none⟩ u) v S ds E := by
  obtain ⟨⟨a, c, hv, hcap, hf⟩, h2, h3, h4, h5⟩ := h
  refine ⟨⟨a, c, hv, hcap, ?_⟩, h2, h3, h4, h5⟩
  rcases hf with hf | ⟨g, off, ha, hf, hr⟩
  · exact Or.inl hf
  · have hne := ho.apart hr
    have hh := Below.heap_setCell w ⟨b, i, none⟩ u g hne
    exact Or.inr ⟨g, off, ha, fun k hk => by rw [World.cell?_of_block (a := ⟨g, off + k, none⟩) hh]; exact hf k hk, hr.block hh⟩
theorem Rf.set {w : World} {v : Value} {q : Rat} {b : Nat} (h : Rf w v q) (ho : OtherRow w b) (i : Nat) (u : Value) : Rf (w.setCell ⟨b, i, none⟩ u) v q := by
  obtain ⟨S, ds, E, h1, h2, h3⟩ := h
  exact ⟨S, ds, E, h1.set ho i u, h2, h3⟩
/-- The result's box is written. -/
theorem Rf.boxed {w : World} {v : Value} {q : Rat} {b : Nat} (h : Rf w v q) (ho : OtherRow w b) (x y z : Value) : Rf (((w.setCell ⟨b, 0, none⟩ x).setCell ⟨b, 1, none⟩ y).setCell ⟨b, 2, none⟩ z) v q :=
  ((h.set ho 0 x).set (ho.set 0 x) 1 y).set ((ho.set 0 x).set 1 y) 2 z
theorem other_box {w : World} {b : Nat} {cs : Array Value} {fr : Nat × Nat} (h : w.heap[b]? = some (.cells cs 56 fr)) : OtherRow w b := ⟨_, _, _, h, by decide⟩

end Go.Proofs.Ytghchejehlljkaa
