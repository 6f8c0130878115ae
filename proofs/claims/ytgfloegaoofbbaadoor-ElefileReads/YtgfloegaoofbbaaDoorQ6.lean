/- Own texts, put together: Za Zb. -/
import Derived.Test.YtgfloegaoofbbaaDoorQ1
import Derived.Below
namespace Go.Proofs.YtgfloegaoofbbaaDoor
/- The reference's digit. -/
section
open Go.RowKit
set_option maxHeartbeats 1000000 in
theorem digit_in (g off n c k : Nat) (S E d : Int) (w : World) (hcell : w.cell? ⟨g, off + k, none⟩ = some (.int .i64 d)) (hk : k < n) (hn : n ≤ 1000000) (h1 : -1000000 ≤ E) (h2 : E ≤ 1000000) :
   Calls Tryd.prog 47 #[.agg #[.int .i64 S, .slice (some ⟨g, off, none⟩) n c, .int .i64 E], .int .i64 (E + (k : Int))] w fun e w' => e = .returned (.int .i64 d) ∧ Below w.heap.size w w' := by
 have hg : g < w.heap.size := World.block_lt_of_cell? _ _ hcell
 have hk' : (k : Int) < (n : Int) := by omega
 have hn' : (n : Int) ≤ 1000000 := by omega
 have t1 : decide (E + (k : Int) < E) = false := decide_eq_false (by omega)
 have t2 : decide (E + (n : Int) ≤ E + (k : Int)) = false := decide_eq_false (by omega)
 have w1 : IntKind.i64.wrap (E + (n : Int)) = E + (n : Int) := wrapE _ (by omega) (by omega)
 have w2 : IntKind.i64.wrap (E + (k : Int) - E) = (k : Int) := by rw [show E + (k : Int) - E = (k : Int) by omega]; exact wrapE _ (by omega) (by omega)
 have hk0 : (0 : Int) ≤ (k : Int) := by omega
 go_enter Tryd.func47, Tryd.ntmps47
 go_wp2
 go_ret
 exact ⟨rfl, (Below.refl _ _).alloc (Nat.le_refl _) _⟩
set_option maxHeartbeats 1000000 in
theorem digit_out (a : Option Addr) (n c : Nat) (S E i : Int) (w : World) (hi : i < E ∨ E + (n : Int) ≤ i) (hn : n ≤ 1000000) (h1 : -1000000 ≤ E) (h2 : E ≤ 1000000) :
   Calls Tryd.prog 47 #[.agg #[.int .i64 S, .slice a n c, .int .i64 E], .int .i64 i] w fun e w' => e = .returned (.int .i64 0) ∧ Below w.heap.size w w' := by
 have hn' : (n : Int) ≤ 1000000 := by omega
 have w1 : IntKind.i64.wrap (E + (n : Int)) = E + (n : Int) := wrapE _ (by omega) (by omega)
 by_cases h : i < E
 · have t1 : decide (i < E) = true := decide_eq_true h
   clear hi
   go_enter Tryd.func47, Tryd.ntmps47
   go_wp2
   go_ret
   exact ⟨rfl, (Below.refl _ _).alloc (Nat.le_refl _) _⟩
 · have t1 : decide (i < E) = false := decide_eq_false h
   have t2 : decide (E + (n : Int) ≤ i) = true := decide_eq_true (by omega)
   clear hi h
   go_enter Tryd.func47, Tryd.ntmps47
   go_wp2
   go_ret
   exact ⟨rfl, (Below.refl _ _).alloc (Nat.le_refl _) _⟩
def IntRow (w : World) (g : Nat) : Prop := ∃ cur fr, w.heap[g]? = some (.cells cur 2 fr)
theorem IntRow.lt {w : World} {g : Nat} (h : IntRow w g) : g < w.heap.size := by
 obtain ⟨cur, fr, h⟩ := h
 exact (Array.getElem?_eq_some_iff.1 h).1
theorem IntRow.block {w w' : World} {g : Nat} (h : IntRow w g) (he : w'.heap[g]? = w.heap[g]?) : IntRow w' g := by
 obtain ⟨cur, fr, h⟩ := h
 exact ⟨cur, fr, by rw [he]; exact h⟩
theorem IntRow.alloc {w : World} {g : Nat} (h : IntRow w g) (o : Obj) : IntRow (w.alloc o) g := h.block (Below.heap_alloc w o g h.lt)
structure Dig (w : World) (v : Value) (S : Int) (ds : List Nat) (E : Int) : Prop where
 form : ∃ a c, v = .agg #[.int .i64 S, .slice a ds.length c, .int .i64 E] ∧ ds.length ≤ c ∧ (ds = [] ∨ ∃ g off, a = some ⟨g, off, none⟩ ∧ (∀ k, k < ds.length → w.cell? ⟨g, off + k, none⟩ = some (.int .i64 (ds.getD k 0 : Nat))) ∧ IntRow w g)
 small : ∀ d ∈ ds, d < 16777216
 len : ds.length ≤ 1000000
 e1 : -1000000 ≤ E
 e2 : E ≤ 1000000
theorem Dig.later {w w' : World} {v : Value} {S E : Int} {ds : List Nat} (h : Dig w v S ds E) (hb : Below w.heap.size w w') : Dig w' v S ds E := by
 obtain ⟨⟨a, c, hv, hcap, hf⟩, h2, h3, h4, h5⟩ := h
 refine ⟨⟨a, c, hv, hcap, ?_⟩, h2, h3, h4, h5⟩
 rcases hf with hf | ⟨g, off, ha, hf, hr⟩
 · exact Or.inl hf
 · refine Or.inr ⟨g, off, ha, fun k hk => ?_, hr.block (hb.block g hr.lt)⟩
   have := hf k hk
   rw [hb.cell (World.block_lt_of_cell? _ _ this)]; exact this
def dgt (ds : List Nat) (E i : Int) : Nat := if E ≤ i ∧ i < E + (ds.length : Int) then ds.getD (i - E).toNat 0 else 0
theorem digit_any (v : Value) (S E i : Int) (ds : List Nat) (w : World) (h : Dig w v S ds E) :
   Calls Tryd.prog 47 #[v, .int .i64 i] w fun e w' => e = .returned (.int .i64 (dgt ds E i : Nat)) ∧ Below w.heap.size w w' := by
 obtain ⟨⟨a, c, rfl, _, hf⟩, _, h3, h4, h5⟩ := h
 by_cases hi : E ≤ i ∧ i < E + (ds.length : Int)
 · rcases hf with rfl | ⟨g, off, rfl, hf, _⟩
   · simp at hi; omega
   · obtain ⟨k, rfl⟩ : ∃ k : Nat, i = E + (k : Int) := ⟨(i - E).toNat, by omega⟩
     have e : dgt ds E (E + (k : Int)) = ds.getD k 0 := by
       unfold dgt
       rw [if_pos hi, show (E + (k : Int) - E).toNat = k by omega]
     rw [e]
     exact digit_in g off ds.length c k S E _ w (hf k (by omega)) (by omega) h3 h4 h5
 · have e : dgt ds E i = 0 := by unfold dgt; rw [if_neg hi]
   rw [e]
   exact digit_out a ds.length c S E i w (by omega) h3 h4 h5
end

/- The reference's size. -/
section
open Go.RowKit
def SizeOf (ds1 : List Nat) (E1 : Int) (ds2 : List Nat) (E2 : Int) (r : Int) : Prop :=
 (r = 0 ∧ ∀ j, dgt ds1 E1 j = dgt ds2 E2 j) ∨ ∃ i, (∀ j, i < j → dgt ds1 E1 j = dgt ds2 E2 j) ∧ ((dgt ds2 E2 i < dgt ds1 E1 i ∧ r = 1) ∨ (dgt ds1 E1 i < dgt ds2 E2 i ∧ r = -1))
theorem dgt_above {ds : List Nat} {E j : Int} (h : E + (ds.length : Int) ≤ j) : dgt ds E j = 0 := by unfold dgt; rw [if_neg (by omega)]
theorem dgt_below {ds : List Nat} {E j : Int} (h : j < E) : dgt ds E j = 0 := by unfold dgt; rw [if_neg (by omega)]
theorem box_cell {w w' : World} (hb : Below w.heap.size w w') {p : Addr} {x : Value} (h : w.cell? p = some x) : w'.cell? p = some x := by
 rw [hb.cell (World.block_lt_of_cell? _ _ h)]; exact h
set_option maxHeartbeats 2000000 in
theorem size_walk (a1 a2 : Option Addr) (c1 c2 : Nat) (S1 S2 E1 E2 : Int) (ds1 ds2 : List Nat) (w : World) (hd1 : Dig w (.agg #[.int .i64 S1, .slice a1 ds1.length c1, .int .i64 E1]) S1 ds1 E1) (hd2 : Dig w (.agg #[.int .i64 S2, .slice a2 ds2.length c2, .int .i64 E2]) S2 ds2 E2) :
   Calls Tryd.prog 46 #[.agg #[.int .i64 S1, .slice a1 ds1.length c1, .int .i64 E1], .agg #[.int .i64 S2, .slice a2 ds2.length c2, .int .i64 E2]] w fun e w' => (∃ r, e = .returned (.int .i64 r) ∧ SizeOf ds1 E1 ds2 E2 r) ∧ Below w.heap.size w w' := by
 have D1 : Hid (Dig w (.agg #[.int .i64 S1, .slice a1 ds1.length c1, .int .i64 E1]) S1 ds1 E1) := hd1
 have D2 : Hid (Dig w (.agg #[.int .i64 S2, .slice a2 ds2.length c2, .int .i64 E2]) S2 ds2 E2) := hd2
 have l1 : (ds1.length : Int) ≤ 1000000 := by have := hd1.len; omega
 have l2 : (ds2.length : Int) ≤ 1000000 := by have := hd2.len; omega
 have p1 := hd1.e1
 have p2' := hd1.e2
 have p3 := hd2.e1
 have p4 := hd2.e2
 have w1 : IntKind.i64.wrap (E1 + (ds1.length : Int)) = E1 + (ds1.length : Int) := wrapE _ (by omega) (by omega)
 have w2 : IntKind.i64.wrap (E2 + (ds2.length : Int)) = E2 + (ds2.length : Int) := wrapE _ (by omega) (by omega)
 clear hd1 hd2
 go_enter Tryd.func46, Tryd.ntmps46
 go_wp2
 · go_loopw [7] (fun i wr => ∃ k : Int, i = .int .i64 k ∧ -3000000 ≤ k ∧ k ≤ 3000000 ∧ Hid (∀ j, k < j → dgt ds1 E1 j = dgt ds2 E2 j) ∧ wr.cell? ⟨w.heap.size, 0, none⟩ = some (.int .i64 S1) ∧ wr.cell? ⟨w.heap.size, 1, none⟩ = some (.slice a1 ds1.length c1) ∧ wr.cell? ⟨w.heap.size, 2, none⟩ = some (.int .i64 E1) ∧ wr.cell? ⟨w.heap.size + 1, 0, none⟩ = some (.int .i64 S2) ∧ wr.cell? ⟨w.heap.size + 1, 1, none⟩ = some (.slice a2 ds2.length c2) ∧ wr.cell? ⟨w.heap.size + 1, 2, none⟩ = some (.int .i64 E2) ∧ Hid (Below w.heap.size w wr)) (fun i _ => (intOf i + 4000000).toNat)
   case atStart => exact ⟨_, rfl, by omega, by omega, fun j hj => by rw [dgt_above (by omega), dgt_above (by omega)], by go_simp, by go_simp, by go_simp, by go_simp, by go_simp, by go_simp, (((Below.refl _ _).alloc (Nat.le_refl _) _).alloc (by simp) _)⟩
   case round =>
     obtain ⟨k, rfl, hk1, hk2, heq, z0, z1, z2, z3, z4, z5, hbk⟩ := hrel
     by_cases hlt : E2 ≤ k
     · go_wp2_with fail
       refine (digit_any _ S1 E1 k ds1 _ (D1.out.later hbk.out)).mono ?_
       rintro e w1' ⟨rfl, hb1⟩
       have y0 := box_cell hb1 z0
       have y1 := box_cell hb1 z1
       have y2 := box_cell hb1 z2
       have y3 := box_cell hb1 z3
       have y4 := box_cell hb1 z4
       have y5 := box_cell hb1 z5
       have HB1 : Hid (Below w.heap.size w w1') := hbk.out.trans (hb1.mono hbk.out.size)
       clear z0 z1 z2 z3 z4 z5 hbk hb1
       go_wp2_with fail
       refine (digit_any _ S2 E2 k ds2 _ (D2.out.later HB1.out)).mono ?_
       rintro e w2' ⟨rfl, hb2⟩
       have z0 := box_cell hb2 y0
       have z1 := box_cell hb2 y1
       have z2 := box_cell hb2 y2
       have z3 := box_cell hb2 y3
       have z4 := box_cell hb2 y4
       have z5 := box_cell hb2 y5
       have HB2 : Hid (Below w.heap.size w w2') := HB1.out.trans (hb2.mono HB1.out.size)
       clear y0 y1 y2 y3 y4 y5 HB1 hb2
       obtain ⟨x, hx⟩ : ∃ x, Hid (dgt ds1 E1 k = x) := ⟨_, rfl⟩
       obtain ⟨y, hy⟩ : ∃ y, Hid (dgt ds2 E2 k = y) := ⟨_, rfl⟩
       rw [hx.out, hy.out]
       have wk : IntKind.i64.wrap (k - 1) = k - 1 := wrapE _ (by omega) (by omega)
       rcases Nat.lt_trichotomy x y with h | h | h
       · have t1 : decide ((y : Int) < (x : Int)) = false := decide_eq_false (by omega)
         have t2 : decide ((x : Int) < (y : Int)) = true := decide_eq_true (by omega)
         go_wp2
         go_ret
         exact ⟨⟨_, rfl, Or.inr ⟨k, heq.out, Or.inr ⟨by rw [hx.out, hy.out]; exact h, rfl⟩⟩⟩, HB2.out⟩
       · subst h
         go_wp2
         go_roundw
         case rel => exact ⟨k - 1, by simp, by omega, by omega, fun j hj => by
           by_cases e : j = k
           · rw [e, hx.out, hy.out]
           · exact heq.out j (by omega), z0, z1, z2, z3, z4, z5, HB2.out⟩
         case measure => simp [intOf]; omega
       · have t1 : decide ((y : Int) < (x : Int)) = true := decide_eq_true (by omega)
         go_wp2
         go_ret
         exact ⟨⟨_, rfl, Or.inr ⟨k, heq.out, Or.inl ⟨by rw [hx.out, hy.out]; exact h, rfl⟩⟩⟩, HB2.out⟩
     · go_wp2
       go_ret
       exact ⟨⟨_, rfl, Or.inl ⟨rfl, fun j => by
         by_cases e : k < j
         · exact heq.out j e
         · rw [dgt_below (by omega), dgt_below (by omega)]⟩⟩, hbk.out⟩
 · go_loopw [7] (fun i wr => ∃ k : Int, i = .int .i64 k ∧ -3000000 ≤ k ∧ k ≤ 3000000 ∧ Hid (∀ j, k < j → dgt ds1 E1 j = dgt ds2 E2 j) ∧ wr.cell? ⟨w.heap.size, 0, none⟩ = some (.int .i64 S1) ∧ wr.cell? ⟨w.heap.size, 1, none⟩ = some (.slice a1 ds1.length c1) ∧ wr.cell? ⟨w.heap.size, 2, none⟩ = some (.int .i64 E1) ∧ wr.cell? ⟨w.heap.size + 1, 0, none⟩ = some (.int .i64 S2) ∧ wr.cell? ⟨w.heap.size + 1, 1, none⟩ = some (.slice a2 ds2.length c2) ∧ wr.cell? ⟨w.heap.size + 1, 2, none⟩ = some (.int .i64 E2) ∧ Hid (Below w.heap.size w wr)) (fun i _ => (intOf i + 4000000).toNat)
   case atStart => exact ⟨_, rfl, by omega, by omega, fun j hj => by rw [dgt_above (by omega), dgt_above (by omega)], by go_simp, by go_simp, by go_simp, by go_simp, by go_simp, by go_simp, (((Below.refl _ _).alloc (Nat.le_refl _) _).alloc (by simp) _)⟩
   case round =>
     obtain ⟨k, rfl, hk1, hk2, heq, z0, z1, z2, z3, z4, z5, hbk⟩ := hrel
     by_cases hlt : E1 ≤ k
     · go_wp2_with fail
       refine (digit_any _ S1 E1 k ds1 _ (D1.out.later hbk.out)).mono ?_
       rintro e w1' ⟨rfl, hb1⟩
       have y0 := box_cell hb1 z0
       have y1 := box_cell hb1 z1
       have y2 := box_cell hb1 z2
       have y3 := box_cell hb1 z3
       have y4 := box_cell hb1 z4
       have y5 := box_cell hb1 z5
       have HB1 : Hid (Below w.heap.size w w1') := hbk.out.trans (hb1.mono hbk.out.size)
       clear z0 z1 z2 z3 z4 z5 hbk hb1
       go_wp2_with fail
       refine (digit_any _ S2 E2 k ds2 _ (D2.out.later HB1.out)).mono ?_
       rintro e w2' ⟨rfl, hb2⟩
       have z0 := box_cell hb2 y0
       have z1 := box_cell hb2 y1
       have z2 := box_cell hb2 y2
       have z3 := box_cell hb2 y3
       have z4 := box_cell hb2 y4
       have z5 := box_cell hb2 y5
       have HB2 : Hid (Below w.heap.size w w2') := HB1.out.trans (hb2.mono HB1.out.size)
       clear y0 y1 y2 y3 y4 y5 HB1 hb2
       obtain ⟨x, hx⟩ : ∃ x, Hid (dgt ds1 E1 k = x) := ⟨_, rfl⟩
       obtain ⟨y, hy⟩ : ∃ y, Hid (dgt ds2 E2 k = y) := ⟨_, rfl⟩
       rw [hx.out, hy.out]
       have wk : IntKind.i64.wrap (k - 1) = k - 1 := wrapE _ (by omega) (by omega)
       rcases Nat.lt_trichotomy x y with h | h | h
       · have t1 : decide ((y : Int) < (x : Int)) = false := decide_eq_false (by omega)
         have t2 : decide ((x : Int) < (y : Int)) = true := decide_eq_true (by omega)
         go_wp2
         go_ret
         exact ⟨⟨_, rfl, Or.inr ⟨k, heq.out, Or.inr ⟨by rw [hx.out, hy.out]; exact h, rfl⟩⟩⟩, HB2.out⟩
       · subst h
         go_wp2
         go_roundw
         case rel => exact ⟨k - 1, by simp, by omega, by omega, fun j hj => by
           by_cases e : j = k
           · rw [e, hx.out, hy.out]
           · exact heq.out j (by omega), z0, z1, z2, z3, z4, z5, HB2.out⟩
         case measure => simp [intOf]; omega
       · have t1 : decide ((y : Int) < (x : Int)) = true := decide_eq_true (by omega)
         go_wp2
         go_ret
         exact ⟨⟨_, rfl, Or.inr ⟨k, heq.out, Or.inl ⟨by rw [hx.out, hy.out]; exact h, rfl⟩⟩⟩, HB2.out⟩
     · go_wp2
       go_ret
       exact ⟨⟨_, rfl, Or.inl ⟨rfl, fun j => by
         by_cases e : k < j
         · exact heq.out j e
         · rw [dgt_below (by omega), dgt_below (by omega)]⟩⟩, hbk.out⟩
 · go_loopw [7] (fun i wr => ∃ k : Int, i = .int .i64 k ∧ -3000000 ≤ k ∧ k ≤ 3000000 ∧ Hid (∀ j, k < j → dgt ds1 E1 j = dgt ds2 E2 j) ∧ wr.cell? ⟨w.heap.size, 0, none⟩ = some (.int .i64 S1) ∧ wr.cell? ⟨w.heap.size, 1, none⟩ = some (.slice a1 ds1.length c1) ∧ wr.cell? ⟨w.heap.size, 2, none⟩ = some (.int .i64 E1) ∧ wr.cell? ⟨w.heap.size + 1, 0, none⟩ = some (.int .i64 S2) ∧ wr.cell? ⟨w.heap.size + 1, 1, none⟩ = some (.slice a2 ds2.length c2) ∧ wr.cell? ⟨w.heap.size + 1, 2, none⟩ = some (.int .i64 E2) ∧ Hid (Below w.heap.size w wr)) (fun i _ => (intOf i + 4000000).toNat)
   case atStart => exact ⟨_, rfl, by omega, by omega, fun j hj => by rw [dgt_above (by omega), dgt_above (by omega)], by go_simp, by go_simp, by go_simp, by go_simp, by go_simp, by go_simp, (((Below.refl _ _).alloc (Nat.le_refl _) _).alloc (by simp) _)⟩
   case round =>
     obtain ⟨k, rfl, hk1, hk2, heq, z0, z1, z2, z3, z4, z5, hbk⟩ := hrel
     by_cases hlt : E2 ≤ k
     · go_wp2_with fail
       refine (digit_any _ S1 E1 k ds1 _ (D1.out.later hbk.out)).mono ?_
       rintro e w1' ⟨rfl, hb1⟩
       have y0 := box_cell hb1 z0
       have y1 := box_cell hb1 z1
       have y2 := box_cell hb1 z2
       have y3 := box_cell hb1 z3
       have y4 := box_cell hb1 z4
       have y5 := box_cell hb1 z5
       have HB1 : Hid (Below w.heap.size w w1') := hbk.out.trans (hb1.mono hbk.out.size)
       clear z0 z1 z2 z3 z4 z5 hbk hb1
       go_wp2_with fail
       refine (digit_any _ S2 E2 k ds2 _ (D2.out.later HB1.out)).mono ?_
       rintro e w2' ⟨rfl, hb2⟩
       have z0 := box_cell hb2 y0
       have z1 := box_cell hb2 y1
       have z2 := box_cell hb2 y2
       have z3 := box_cell hb2 y3
       have z4 := box_cell hb2 y4
       have z5 := box_cell hb2 y5
       have HB2 : Hid (Below w.heap.size w w2') := HB1.out.trans (hb2.mono HB1.out.size)
       clear y0 y1 y2 y3 y4 y5 HB1 hb2
       obtain ⟨x, hx⟩ : ∃ x, Hid (dgt ds1 E1 k = x) := ⟨_, rfl⟩
       obtain ⟨y, hy⟩ : ∃ y, Hid (dgt ds2 E2 k = y) := ⟨_, rfl⟩
       rw [hx.out, hy.out]
       have wk : IntKind.i64.wrap (k - 1) = k - 1 := wrapE _ (by omega) (by omega)
       rcases Nat.lt_trichotomy x y with h | h | h
       · have t1 : decide ((y : Int) < (x : Int)) = false := decide_eq_false (by omega)
         have t2 : decide ((x : Int) < (y : Int)) = true := decide_eq_true (by omega)
         go_wp2
         go_ret
         exact ⟨⟨_, rfl, Or.inr ⟨k, heq.out, Or.inr ⟨by rw [hx.out, hy.out]; exact h, rfl⟩⟩⟩, HB2.out⟩
       · subst h
         go_wp2
         go_roundw
         case rel => exact ⟨k - 1, by simp, by omega, by omega, fun j hj => by
           by_cases e : j = k
           · rw [e, hx.out, hy.out]
           · exact heq.out j (by omega), z0, z1, z2, z3, z4, z5, HB2.out⟩
         case measure => simp [intOf]; omega
       · have t1 : decide ((y : Int) < (x : Int)) = true := decide_eq_true (by omega)
         go_wp2
         go_ret
         exact ⟨⟨_, rfl, Or.inr ⟨k, heq.out, Or.inl ⟨by rw [hx.out, hy.out]; exact h, rfl⟩⟩⟩, HB2.out⟩
     · go_wp2
       go_ret
       exact ⟨⟨_, rfl, Or.inl ⟨rfl, fun j => by
         by_cases e : k < j
         · exact heq.out j e
         · rw [dgt_below (by omega), dgt_below (by omega)]⟩⟩, hbk.out⟩
 · go_loopw [7] (fun i wr => ∃ k : Int, i = .int .i64 k ∧ -3000000 ≤ k ∧ k ≤ 3000000 ∧ Hid (∀ j, k < j → dgt ds1 E1 j = dgt ds2 E2 j) ∧ wr.cell? ⟨w.heap.size, 0, none⟩ = some (.int .i64 S1) ∧ wr.cell? ⟨w.heap.size, 1, none⟩ = some (.slice a1 ds1.length c1) ∧ wr.cell? ⟨w.heap.size, 2, none⟩ = some (.int .i64 E1) ∧ wr.cell? ⟨w.heap.size + 1, 0, none⟩ = some (.int .i64 S2) ∧ wr.cell? ⟨w.heap.size + 1, 1, none⟩ = some (.slice a2 ds2.length c2) ∧ wr.cell? ⟨w.heap.size + 1, 2, none⟩ = some (.int .i64 E2) ∧ Hid (Below w.heap.size w wr)) (fun i _ => (intOf i + 4000000).toNat)
   case atStart => exact ⟨_, rfl, by omega, by omega, fun j hj => by rw [dgt_above (by omega), dgt_above (by omega)], by go_simp, by go_simp, by go_simp, by go_simp, by go_simp, by go_simp, (((Below.refl _ _).alloc (Nat.le_refl _) _).alloc (by simp) _)⟩
   case round =>
     obtain ⟨k, rfl, hk1, hk2, heq, z0, z1, z2, z3, z4, z5, hbk⟩ := hrel
     by_cases hlt : E1 ≤ k
     · go_wp2_with fail
       refine (digit_any _ S1 E1 k ds1 _ (D1.out.later hbk.out)).mono ?_
       rintro e w1' ⟨rfl, hb1⟩
       have y0 := box_cell hb1 z0
       have y1 := box_cell hb1 z1
       have y2 := box_cell hb1 z2
       have y3 := box_cell hb1 z3
       have y4 := box_cell hb1 z4
       have y5 := box_cell hb1 z5
       have HB1 : Hid (Below w.heap.size w w1') := hbk.out.trans (hb1.mono hbk.out.size)
       clear z0 z1 z2 z3 z4 z5 hbk hb1
       go_wp2_with fail
       refine (digit_any _ S2 E2 k ds2 _ (D2.out.later HB1.out)).mono ?_
       rintro e w2' ⟨rfl, hb2⟩
       have z0 := box_cell hb2 y0
       have z1 := box_cell hb2 y1
       have z2 := box_cell hb2 y2
       have z3 := box_cell hb2 y3
       have z4 := box_cell hb2 y4
       have z5 := box_cell hb2 y5
       have HB2 : Hid (Below w.heap.size w w2') := HB1.out.trans (hb2.mono HB1.out.size)
       clear y0 y1 y2 y3 y4 y5 HB1 hb2
       obtain ⟨x, hx⟩ : ∃ x, Hid (dgt ds1 E1 k = x) := ⟨_, rfl⟩
       obtain ⟨y, hy⟩ : ∃ y, Hid (dgt ds2 E2 k = y) := ⟨_, rfl⟩
       rw [hx.out, hy.out]
       have wk : IntKind.i64.wrap (k - 1) = k - 1 := wrapE _ (by omega) (by omega)
       rcases Nat.lt_trichotomy x y with h | h | h
       · have t1 : decide ((y : Int) < (x : Int)) = false := decide_eq_false (by omega)
         have t2 : decide ((x : Int) < (y : Int)) = true := decide_eq_true (by omega)
         go_wp2
         go_ret
         exact ⟨⟨_, rfl, Or.inr ⟨k, heq.out, Or.inr ⟨by rw [hx.out, hy.out]; exact h, rfl⟩⟩⟩, HB2.out⟩
       · subst h
         go_wp2
         go_roundw
         case rel => exact ⟨k - 1, by simp, by omega, by omega, fun j hj => by
           by_cases e : j = k
           · rw [e, hx.out, hy.out]
           · exact heq.out j (by omega), z0, z1, z2, z3, z4, z5, HB2.out⟩
         case measure => simp [intOf]; omega
       · have t1 : decide ((y : Int) < (x : Int)) = true := decide_eq_true (by omega)
         go_wp2
         go_ret
         exact ⟨⟨_, rfl, Or.inr ⟨k, heq.out, Or.inl ⟨by rw [hx.out, hy.out]; exact h, rfl⟩⟩⟩, HB2.out⟩
     · go_wp2
       go_ret
       exact ⟨⟨_, rfl, Or.inl ⟨rfl, fun j => by
         by_cases e : k < j
         · exact heq.out j e
         · rw [dgt_below (by omega), dgt_below (by omega)]⟩⟩, hbk.out⟩
end
end Go.Proofs.YtgfloegaoofbbaaDoor
