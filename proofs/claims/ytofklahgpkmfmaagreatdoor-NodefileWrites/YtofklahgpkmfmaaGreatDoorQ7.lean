/- Own texts, put together: Za Zb Zc. -/
import Derived.Test.YtofklahgpkmfmaaGreatDoorQ1
import Derived.Below
namespace Go.Proofs.YtofklahgpkmfmaaGreatDoor
/- The reference's digit. -/
section
open Go.RowKit
set_option maxHeartbeats 1000000 in
theorem digit_in (g off n c k : Nat) (S E d : Int) (w : World) (hcell : w.cell? ⟨g, off + k, none⟩ = some (.int .i64 d)) (hk : k < n) (hn : n ≤ 1000000) (h1 : -1000000 ≤ E) (h2 : E ≤ 1000000) :
   Calls Tryz.prog 149 #[.agg #[.int .i64 S, .slice (some ⟨g, off, none⟩) n c, .int .i64 E], .int .i64 (E + (k : Int))] w fun e w' => e = .returned (.int .i64 d) ∧ Below w.heap.size w w' := by
 have hg : g < w.heap.size := World.block_lt_of_cell? _ _ hcell
 have hk' : (k : Int) < (n : Int) := by omega
 have hn' : (n : Int) ≤ 1000000 := by omega
 have t1 : decide (E + (k : Int) < E) = false := decide_eq_false (by omega)
 have t2 : decide (E + (n : Int) ≤ E + (k : Int)) = false := decide_eq_false (by omega)
 have w1 : IntKind.i64.wrap (E + (n : Int)) = E + (n : Int) := wrapE _ (by omega) (by omega)
 have w2 : IntKind.i64.wrap (E + (k : Int) - E) = (k : Int) := by rw [show E + (k : Int) - E = (k : Int) by omega]; exact wrapE _ (by omega) (by omega)
 have hk0 : (0 : Int) ≤ (k : Int) := by omega
 go_enter Tryz.func149, Tryz.ntmps149
 go_wp2
 go_ret
 exact ⟨rfl, (Below.refl _ _).alloc (Nat.le_refl _) _⟩
set_option maxHeartbeats 1000000 in
theorem digit_out (a : Option Addr) (n c : Nat) (S E i : Int) (w : World) (hi : i < E ∨ E + (n : Int) ≤ i) (hn : n ≤ 1000000) (h1 : -1000000 ≤ E) (h2 : E ≤ 1000000) :
   Calls Tryz.prog 149 #[.agg #[.int .i64 S, .slice a n c, .int .i64 E], .int .i64 i] w fun e w' => e = .returned (.int .i64 0) ∧ Below w.heap.size w w' := by
 have hn' : (n : Int) ≤ 1000000 := by omega
 have w1 : IntKind.i64.wrap (E + (n : Int)) = E + (n : Int) := wrapE _ (by omega) (by omega)
 by_cases h : i < E
 · have t1 : decide (i < E) = true := decide_eq_true h
   clear hi
   go_enter Tryz.func149, Tryz.ntmps149
   go_wp2
   go_ret
   exact ⟨rfl, (Below.refl _ _).alloc (Nat.le_refl _) _⟩
 · have t1 : decide (i < E) = false := decide_eq_false h
   have t2 : decide (E + (n : Int) ≤ i) = true := decide_eq_true (by omega)
   clear hi h
   go_enter Tryz.func149, Tryz.ntmps149
   go_wp2
   go_ret
   exact ⟨rfl, (Below.refl _ _).alloc (Nat.le_refl _) _⟩
def IntRow (w : World) (g : Nat) : Prop := ∃ cur fr, w.heap[g]? = some (.cells cur 2 fr)
theorem IntRow.lt {w : World} {g : Nat} (h : IntRow w g) : g < w.heap.size := by
 obtain ⟨cur, fr, h⟩ := h
 exact (Array.getElem?_eq_some_iff.1 h).1
theorem IntRow.block {w w' : World} {g : Nat} (h : IntRow w g) (he : w'.heap[g]? = w.heap[g]?) : IntRow w' g := by
 obtain ⟨cur, fr, h⟩ := h
 exact ⟨cur, fr, by rw [he]; exact h⟩
theorem IntRow.alloc {w : World} {g : Nat} (h : IntRow w g) (o : Obj) : IntRow (w.alloc o) g := h.block (Below.heap_alloc w o g h.lt)
structure Dig (w : World) (v : Value) (S : Int) (ds : List Nat) (E : Int) : Prop where
 form : ∃ a c, v = .agg #[.int .i64 S, .slice a ds.length c, .int .i64 E] ∧ ds.length ≤ c ∧ (ds = [] ∨ ∃ g off, a = some ⟨g, off, none⟩ ∧ (∀ k, k < ds.length → w.cell? ⟨g, off + k, none⟩ = some (.int .i64 (ds.getD k 0 : Nat))) ∧ IntRow w g)
 small : ∀ d ∈ ds, d < 16777216
 len : ds.length ≤ 1000000
 e1 : -1000000 ≤ E
 e2 : E ≤ 1000000
theorem Dig.later {w w' : World} {v : Value} {S E : Int} {ds : List Nat} (h : Dig w v S ds E) (hb : Below w.heap.size w w') : Dig w' v S ds E := by
 obtain ⟨⟨a, c, hv, hcap, hf⟩, h2, h3, h4, h5⟩ := h
 refine ⟨⟨a, c, hv, hcap, ?_⟩, h2, h3, h4, h5⟩
 rcases hf with hf | ⟨g, off, ha, hf, hr⟩
 · exact Or.inl hf
 · refine Or.inr ⟨g, off, ha, fun k hk => ?_, hr.block (hb.block g hr.lt)⟩
   have := hf k hk
   rw [hb.cell (World.block_lt_of_cell? _ _ this)]; exact this
def dgt (ds : List Nat) (E i : Int) : Nat := if E ≤ i ∧ i < E + (ds.length : Int) then ds.getD (i - E).toNat 0 else 0
theorem digit_any (v : Value) (S E i : Int) (ds : List Nat) (w : World) (h : Dig w v S ds E) :
   Calls Tryz.prog 149 #[v, .int .i64 i] w fun e w' => e = .returned (.int .i64 (dgt ds E i : Nat)) ∧ Below w.heap.size w w' := by
 obtain ⟨⟨a, c, rfl, _, hf⟩, _, h3, h4, h5⟩ := h
 by_cases hi : E ≤ i ∧ i < E + (ds.length : Int)
 · rcases hf with rfl | ⟨g, off, rfl, hf, _⟩
   · simp at hi; omega
   · obtain ⟨k, rfl⟩ : ∃ k : Nat, i = E + (k : Int) := ⟨(i - E).toNat, by omega⟩
     have e : dgt ds E (E + (k : Int)) = ds.getD k 0 := by
       unfold dgt
       rw [if_pos hi, show (E + (k : Int) - E).toNat = k by omega]
     rw [e]
     exact digit_in g off ds.length c k S E _ w (hf k (by omega)) (by omega) h3 h4 h5
 · have e : dgt ds E i = 0 := by unfold dgt; rw [if_neg hi]
   rw [e]
   exact digit_out a ds.length c S E i w (by omega) h3 h4 h5
end

/- The reference's size. -/
section
open Go.RowKit
def SizeOf (ds1 : List Nat) (E1 : Int) (ds2 : List Nat) (E2 : Int) (r : Int) : Prop :=
 (r = 0 ∧ ∀ j, dgt ds1 E1 j = dgt ds2 E2 j) ∨ ∃ i, (∀ j, i < j → dgt ds1 E1 j = dgt ds2 E2 j) ∧ ((dgt ds2 E2 i < dgt ds1 E1 i ∧ r = 1) ∨ (dgt ds1 E1 i < dgt ds2 E2 i ∧ r = -1))
theorem dgt_above {ds : List Nat} {E j : Int} (h : E + (ds.length : Int) ≤ j) : dgt ds E j = 0 := by unfold dgt; rw [if_neg (by omega)]
theorem dgt_below {ds : List Nat} {E j : Int} (h : j < E) : dgt ds E j = 0 := by unfold dgt; rw [if_neg (by omega)]
theorem box_cell {w w' : World} (hb : Below w.heap.size w w') {p : Addr} {x : Value} (h : w.cell? p = some x) : w'.cell? p = some x := by
 rw [hb.cell (World.block_lt_of_cell? _ _ h)]; exact h
set_option maxHeartbeats 2000000 in
theorem size_walk (a1 a2 : Option Addr) (c1 c2 : Nat) (S1 S2 E1 E2 : Int) (ds1 ds2 : List Nat) (w : World) (hd1 : Dig w (.agg #[.int .i64 S1, .slice a1 ds1.length c1, .int .i64 E1]) S1 ds1 E1) (hd2 : Dig w (.agg #[.int .i64 S2, .slice a2 ds2.length c2, .int .i64 E2]) S2 ds2 E2) :
   Calls Tryz.prog 148 #[.agg #[.int .i64 S1, .slice a1 ds1.length c1, .int .i64 E1], .agg #[.int .i64 S2, .slice a2 ds2.length c2, .int .i64 E2]] w fun e w' => (∃ r, e = .returned (.int .i64 r) ∧ SizeOf ds1 E1 ds2 E2 r) ∧ Below w.heap.size w w' := by
 have D1 : Hid (Dig w (.agg #[.int .i64 S1, .slice a1 ds1.length c1, .int .i64 E1]) S1 ds1 E1) := hd1
 have D2 : Hid (Dig w (.agg #[.int .i64 S2, .slice a2 ds2.length c2, .int .i64 E2]) S2 ds2 E2) := hd2
 have l1 : (ds1.length : Int) ≤ 1000000 := by have := hd1.len; omega
 have l2 : (ds2.length : Int) ≤ 1000000 := by have := hd2.len; omega
 have p1 := hd1.e1
 have p2' := hd1.e2
 have p3 := hd2.e1
 have p4 := hd2.e2
 have w1 : IntKind.i64.wrap (E1 + (ds1.length : Int)) = E1 + (ds1.length : Int) := wrapE _ (by omega) (by omega)
 have w2 : IntKind.i64.wrap (E2 + (ds2.length : Int)) = E2 + (ds2.length : Int) := wrapE _ (by omega) (by omega)
 clear hd1 hd2
 go_enter Tryz.func148, Tryz.ntmps148
 go_wp2
 · go_loopw [7] (fun i wr => ∃ k : Int, i = .int .i64 k ∧ -3000000 ≤ k ∧ k ≤ 3000000 ∧ Hid (∀ j, k < j → dgt ds1 E1 j = dgt ds2 E2 j) ∧ wr.cell? ⟨w.heap.size, 0, none⟩ = some (.int .i64 S1) ∧ wr.cell? ⟨w.heap.size, 1, none⟩ = some (.slice a1 ds1.length c1) ∧ wr.cell? ⟨w.heap.size, 2, none⟩ = some (.int .i64 E1) ∧ wr.cell? ⟨w.heap.size + 1, 0, none⟩ = some (.int .i64 S2) ∧ wr.cell? ⟨w.heap.size + 1, 1, none⟩ = some (.slice a2 ds2.length c2) ∧ wr.cell? ⟨w.heap.size + 1, 2, none⟩ = some (.int .i64 E2) ∧ Hid (Below w.heap.size w wr)) (fun i _ => (intOf i + 4000000).toNat)
   case atStart => exact ⟨_, rfl, by omega, by omega, fun j hj => by rw [dgt_above (by omega), dgt_above (by omega)], by go_simp, by go_simp, by go_simp, by go_simp, by go_simp, by go_simp, (((Below.refl _ _).alloc (Nat.le_refl _) _).alloc (by simp) _)⟩
   case round =>
     obtain ⟨k, rfl, hk1, hk2, heq, z0, z1, z2, z3, z4, z5, hbk⟩ := hrel
     by_cases hlt : E2 ≤ k
     · go_wp2_with fail
       refine (digit_any _ S1 E1 k ds1 _ (D1.out.later hbk.out)).mono ?_
       rintro e w1' ⟨rfl, hb1⟩
       have y0 := box_cell hb1 z0
       have y1 := box_cell hb1 z1
       have y2 := box_cell hb1 z2
       have y3 := box_cell hb1 z3
       have y4 := box_cell hb1 z4
       have y5 := box_cell hb1 z5
       have HB1 : Hid (Below w.heap.size w w1') := hbk.out.trans (hb1.mono hbk.out.size)
       clear z0 z1 z2 z3 z4 z5 hbk hb1
       go_wp2_with fail
       refine (digit_any _ S2 E2 k ds2 _ (D2.out.later HB1.out)).mono ?_
       rintro e w2' ⟨rfl, hb2⟩
       have z0 := box_cell hb2 y0
       have z1 := box_cell hb2 y1
       have z2 := box_cell hb2 y2
       have z3 := box_cell hb2 y3
       have z4 := box_cell hb2 y4
       have z5 := box_cell hb2 y5
       have HB2 : Hid (Below w.heap.size w w2') := HB1.out.trans (hb2.mono HB1.out.size)
       clear y0 y1 y2 y3 y4 y5 HB1 hb2
       obtain ⟨x, hx⟩ : ∃ x, Hid (dgt ds1 E1 k = x) := ⟨_, rfl⟩
       obtain ⟨y, hy⟩ : ∃ y, Hid (dgt ds2 E2 k = y) := ⟨_, rfl⟩
       rw [hx.out, hy.out]
       have wk : IntKind.i64.wrap (k - 1) = k - 1 := wrapE _ (by omega) (by omega)
       rcases Nat.lt_trichotomy x y with h | h | h
       · have t1 : decide ((y : Int) < (x : Int)) = false := decide_eq_false (by omega)
         have t2 : decide ((x : Int) < (y : Int)) = true := decide_eq_true (by omega)
         go_wp2
         go_ret
         exact ⟨⟨_, rfl, Or.inr ⟨k, heq.out, Or.inr ⟨by rw [hx.out, hy.out]; exact h, rfl⟩⟩⟩, HB2.out⟩
       · subst h
         go_wp2
         go_roundw
         case rel => exact ⟨k - 1, by simp, by omega, by omega, fun j hj => by
           by_cases e : j = k
           · rw [e, hx.out, hy.out]
           · exact heq.out j (by omega), z0, z1, z2, z3, z4, z5, HB2.out⟩
         case measure => simp [intOf]; omega
       · have t1 : decide ((y : Int) < (x : Int)) = true := decide_eq_true (by omega)
         go_wp2
         go_ret
         exact ⟨⟨_, rfl, Or.inr ⟨k, heq.out, Or.inl ⟨by rw [hx.out, hy.out]; exact h, rfl⟩⟩⟩, HB2.out⟩
     · go_wp2
       go_ret
       exact ⟨⟨_, rfl, Or.inl ⟨rfl, fun j => by
         by_cases e : k < j
         · exact heq.out j e
         · rw [dgt_below (by omega), dgt_below (by omega)]⟩⟩, hbk.out⟩
 · go_loopw [7] (fun i wr => ∃ k : Int, i = .int .i64 k ∧ -3000000 ≤ k ∧ k ≤ 3000000 ∧ Hid (∀ j, k < j → dgt ds1 E1 j = dgt ds2 E2 j) ∧ wr.cell? ⟨w.heap.size, 0, none⟩ = some (.int .i64 S1) ∧ wr.cell? ⟨w.heap.size, 1, none⟩ = some (.slice a1 ds1.length c1) ∧ wr.cell? ⟨w.heap.size, 2, none⟩ = some (.int .i64 E1) ∧ wr.cell? ⟨w.heap.size + 1, 0, none⟩ = some (.int .i64 S2) ∧ wr.cell? ⟨w.heap.size + 1, 1, none⟩ = some (.slice a2 ds2.length c2) ∧ wr.cell? ⟨w.heap.size + 1, 2, none⟩ = some (.int .i64 E2) ∧ Hid (Below w.heap.size w wr)) (fun i _ => (intOf i + 4000000).toNat)
   case atStart => exact ⟨_, rfl, by omega, by omega, fun j hj => by rw [dgt_above (by omega), dgt_above (by omega)], by go_simp, by go_simp, by go_simp, by go_simp, by go_simp, by go_simp, (((Below.refl _ _).alloc (Nat.le_refl _) _).alloc (by simp) _)⟩
   case round =>
     obtain ⟨k, rfl, hk1, hk2, heq, z0, z1, z2, z3, z4, z5, hbk⟩ := hrel
     by_cases hlt : E1 ≤ k
     · go_wp2_with fail
       refine (digit_any _ S1 E1 k ds1 _ (D1.out.later hbk.out)).mono ?_
       rintro e w1' ⟨rfl, hb1⟩
       have y0 := box_cell hb1 z0
       have y1 := box_cell hb1 z1
       have y2 := box_cell hb1 z2
       have y3 := box_cell hb1 z3
       have y4 := box_cell hb1 z4
       have y5 := box_cell hb1 z5
       have HB1 : Hid (Below w.heap.size w w1') := hbk.out.trans (hb1.mono hbk.out.size)
       clear z0 z1 z2 z3 z4 z5 hbk hb1
       go_wp2_with fail
       refine (digit_any _ S2 E2 k ds2 _ (D2.out.later HB1.out)).mono ?_
       rintro e w2' ⟨rfl, hb2⟩
       have z0 := box_cell hb2 y0
       have z1 := box_cell hb2 y1
       have z2 := box_cell hb2 y2
       have z3 := box_cell hb2 y3
       have z4 := box_cell hb2 y4
       have z5 := box_cell hb2 y5
       have HB2 : Hid (Below w.heap.size w w2') := HB1.out.trans (hb2.mono HB1.out.size)
       clear y0 y1 y2 y3 y4 y5 HB1 hb2
       obtain ⟨x, hx⟩ : ∃ x, Hid (dgt ds1 E1 k = x) := ⟨_, rfl⟩
       obtain ⟨y, hy⟩ : ∃ y, Hid (dgt ds2 E2 k = y) := ⟨_, rfl⟩
       rw [hx.out, hy.out]
       have wk : IntKind.i64.wrap (k - 1) = k - 1 := wrapE _ (by omega) (by omega)
       rcases Nat.lt_trichotomy x y with h | h | h
       · have t1 : decide ((y : Int) < (x : Int)) = false := decide_eq_false (by omega)
         have t2 : decide ((x : Int) < (y : Int)) = true := decide_eq_true (by omega)
         go_wp2
         go_ret
         exact ⟨⟨_, rfl, Or.inr ⟨k, heq.out, Or.inr ⟨by rw [hx.out, hy.out]; exact h, rfl⟩⟩⟩, HB2.out⟩
       · subst h
         go_wp2
         go_roundw
         case rel => exact ⟨k - 1, by simp, by omega, by omega, fun j hj => by
           by_cases e : j = k
           · rw [e, hx.out, hy.out]
           · exact heq.out j (by omega), z0, z1, z2, z3, z4, z5, HB2.out⟩
         case measure => simp [intOf]; omega
       · have t1 : decide ((y : Int) < (x : Int)) = true := decide_eq_true (by omega)
         go_wp2
         go_ret
         exact ⟨⟨_, rfl, Or.inr ⟨k, heq.out, Or.inl ⟨by rw [hx.out, hy.out]; exact h, rfl⟩⟩⟩, HB2.out⟩
     · go_wp2
       go_ret
       exact ⟨⟨_, rfl, Or.inl ⟨rfl, fun j => by
         by_cases e : k < j
         · exact heq.out j e
         · rw [dgt_below (by omega), dgt_below (by omega)]⟩⟩, hbk.out⟩
 · go_loopw [7] (fun i wr => ∃ k : Int, i = .int .i64 k ∧ -3000000 ≤ k ∧ k ≤ 3000000 ∧ Hid (∀ j, k < j → dgt ds1 E1 j = dgt ds2 E2 j) ∧ wr.cell? ⟨w.heap.size, 0, none⟩ = some (.int .i64 S1) ∧ wr.cell? ⟨w.heap.size, 1, none⟩ = some (.slice a1 ds1.length c1) ∧ wr.cell? ⟨w.heap.size, 2, none⟩ = some (.int .i64 E1) ∧ wr.cell? ⟨w.heap.size + 1, 0, none⟩ = some (.int .i64 S2) ∧ wr.cell? ⟨w.heap.size + 1, 1, none⟩ = some (.slice a2 ds2.length c2) ∧ wr.cell? ⟨w.heap.size + 1, 2, none⟩ = some (.int .i64 E2) ∧ Hid (Below w.heap.size w wr)) (fun i _ => (intOf i + 4000000).toNat)
   case atStart => exact ⟨_, rfl, by omega, by omega, fun j hj => by rw [dgt_above (by omega), dgt_above (by omega)], by go_simp, by go_simp, by go_simp, by go_simp, by go_simp, by go_simp, (((Below.refl _ _).alloc (Nat.le_refl _) _).alloc (by simp) _)⟩
   case round =>
     obtain ⟨k, rfl, hk1, hk2, heq, z0, z1, z2, z3, z4, z5, hbk⟩ := hrel
     by_cases hlt : E2 ≤ k
     · go_wp2_with fail
       refine (digit_any _ S1 E1 k ds1 _ (D1.out.later hbk.out)).mono ?_
       rintro e w1' ⟨rfl, hb1⟩
       have y0 := box_cell hb1 z0
       have y1 := box_cell hb1 z1
       have y2 := box_cell hb1 z2
       have y3 := box_cell hb1 z3
       have y4 := box_cell hb1 z4
       have y5 := box_cell hb1 z5
       have HB1 : Hid (Below w.heap.size w w1') := hbk.out.trans (hb1.mono hbk.out.size)
       clear z0 z1 z2 z3 z4 z5 hbk hb1
       go_wp2_with fail
       refine (digit_any _ S2 E2 k ds2 _ (D2.out.later HB1.out)).mono ?_
       rintro e w2' ⟨rfl, hb2⟩
       have z0 := box_cell hb2 y0
       have z1 := box_cell hb2 y1
       have z2 := box_cell hb2 y2
       have z3 := box_cell hb2 y3
       have z4 := box_cell hb2 y4
       have z5 := box_cell hb2 y5
       have HB2 : Hid (Below w.heap.size w w2') := HB1.out.trans (hb2.mono HB1.out.size)
       clear y0 y1 y2 y3 y4 y5 HB1 hb2
       obtain ⟨x, hx⟩ : ∃ x, Hid (dgt ds1 E1 k = x) := ⟨_, rfl⟩
       obtain ⟨y, hy⟩ : ∃ y, Hid (dgt ds2 E2 k = y) := ⟨_, rfl⟩
       rw [hx.out, hy.out]
       have wk : IntKind.i64.wrap (k - 1) = k - 1 := wrapE _ (by omega) (by omega)
       rcases Nat.lt_trichotomy x y with h | h | h
       · have t1 : decide ((y : Int) < (x : Int)) = false := decide_eq_false (by omega)
         have t2 : decide ((x : Int) < (y : Int)) = true := decide_eq_true (by omega)
         go_wp2
         go_ret
         exact ⟨⟨_, rfl, Or.inr ⟨k, heq.out, Or.inr ⟨by rw [hx.out, hy.out]; exact h, rfl⟩⟩⟩, HB2.out⟩
       · subst h
         go_wp2
         go_roundw
         case rel => exact ⟨k - 1, by simp, by omega, by omega, fun j hj => by
           by_cases e : j = k
           · rw [e, hx.out, hy.out]
           · exact heq.out j (by omega), z0, z1, z2, z3, z4, z5, HB2.out⟩
         case measure => simp [intOf]; omega
       · have t1 : decide ((y : Int) < (x : Int)) = true := decide_eq_true (by omega)
         go_wp2
         go_ret
         exact ⟨⟨_, rfl, Or.inr ⟨k, heq.out, Or.inl ⟨by rw [hx.out, hy.out]; exact h, rfl⟩⟩⟩, HB2.out⟩
     · go_wp2
       go_ret
       exact ⟨⟨_, rfl, Or.inl ⟨rfl, fun j => by
         by_cases e : k < j
         · exact heq.out j e
         · rw [dgt_below (by omega), dgt_below (by omega)]⟩⟩, hbk.out⟩
 · go_loopw [7] (fun i wr => ∃ k : Int, i = .int .i64 k ∧ -3000000 ≤ k ∧ k ≤ 3000000 ∧ Hid (∀ j, k < j → dgt ds1 E1 j = dgt ds2 E2 j) ∧ wr.cell? ⟨w.heap.size, 0, none⟩ = some (.int .i64 S1) ∧ wr.cell? ⟨w.heap.size, 1, none⟩ = some (.slice a1 ds1.length c1) ∧ wr.cell? ⟨w.heap.size, 2, none⟩ = some (.int .i64 E1) ∧ wr.cell? ⟨w.heap.size + 1, 0, none⟩ = some (.int .i64 S2) ∧ wr.cell? ⟨w.heap.size + 1, 1, none⟩ = some (.slice a2 ds2.length c2) ∧ wr.cell? ⟨w.heap.size + 1, 2, none⟩ = some (.int .i64 E2) ∧ Hid (Below w.heap.size w wr)) (fun i _ => (intOf i + 4000000).toNat)
   case atStart => exact ⟨_, rfl, by omega, by omega, fun j hj => by rw [dgt_above (by omega), dgt_above (by omega)], by go_simp, by go_simp, by go_simp, by go_simp, by go_simp, by go_simp, (((Below.refl _ _).alloc (Nat.le_refl _) _).alloc (by simp) _)⟩
   case round =>
     obtain ⟨k, rfl, hk1, hk2, heq, z0, z1, z2, z3, z4, z5, hbk⟩ := hrel
     by_cases hlt : E1 ≤ k
     · go_wp2_with fail
       refine (digit_any _ S1 E1 k ds1 _ (D1.out.later hbk.out)).mono ?_
       rintro e w1' ⟨rfl, hb1⟩
       have y0 := box_cell hb1 z0
       have y1 := box_cell hb1 z1
       have y2 := box_cell hb1 z2
       have y3 := box_cell hb1 z3
       have y4 := box_cell hb1 z4
       have y5 := box_cell hb1 z5
       have HB1 : Hid (Below w.heap.size w w1') := hbk.out.trans (hb1.mono hbk.out.size)
       clear z0 z1 z2 z3 z4 z5 hbk hb1
       go_wp2_with fail
       refine (digit_any _ S2 E2 k ds2 _ (D2.out.later HB1.out)).mono ?_
       rintro e w2' ⟨rfl, hb2⟩
       have z0 := box_cell hb2 y0
       have z1 := box_cell hb2 y1
       have z2 := box_cell hb2 y2
       have z3 := box_cell hb2 y3
       have z4 := box_cell hb2 y4
       have z5 := box_cell hb2 y5
       have HB2 : Hid (Below w.heap.size w w2') := HB1.out.trans (hb2.mono HB1.out.size)
       clear y0 y1 y2 y3 y4 y5 HB1 hb2
       obtain ⟨x, hx⟩ : ∃ x, Hid (dgt ds1 E1 k = x) := ⟨_, rfl⟩
       obtain ⟨y, hy⟩ : ∃ y, Hid (dgt ds2 E2 k = y) := ⟨_, rfl⟩
       rw [hx.out, hy.out]
       have wk : IntKind.i64.wrap (k - 1) = k - 1 := wrapE _ (by omega) (by omega)
       rcases Nat.lt_trichotomy x y with h | h | h
       · have t1 : decide ((y : Int) < (x : Int)) = false := decide_eq_false (by omega)
         have t2 : decide ((x : Int) < (y : Int)) = true := decide_eq_true (by omega)
         go_wp2
         go_ret
         exact ⟨⟨_, rfl, Or.inr ⟨k, heq.out, Or.inr ⟨by rw [hx.out, hy.out]; exact h, rfl⟩⟩⟩, HB2.out⟩
       · subst h
         go_wp2
         go_roundw
         case rel => exact ⟨k - 1, by simp, by omega, by omega, fun j hj => by
           by_cases e : j = k
           · rw [e, hx.out, hy.out]
           · exact heq.out j (by omega), z0, z1, z2, z3, z4, z5, HB2.out⟩
         case measure => simp [intOf]; omega
       · have t1 : decide ((y : Int) < (x : Int)) = true := decide_eq_true (by omega)
         go_wp2
         go_ret
         exact ⟨⟨_, rfl, Or.inr ⟨k, heq.out, Or.inl ⟨by rw [hx.out, hy.out]; exact h, rfl⟩⟩⟩, HB2.out⟩
     · go_wp2
       go_ret
       exact ⟨⟨_, rfl, Or.inl ⟨rfl, fun j => by
         by_cases e : k < j
         · exact heq.out j e
         · rw [dgt_below (by omega), dgt_below (by omega)]⟩⟩, hbk.out⟩
end

/- The reference's trim. -/
section
open Go.RowKit
theorem dgt_eq (ds : List Nat) (E j : Int) : dgt ds E j = if E ≤ j then ds.getD (j - E).toNat 0 else 0 := by
 unfold dgt
 by_cases h : E ≤ j
 · by_cases h2 : j < E + (ds.length : Int)
   · rw [if_pos ⟨h, h2⟩, if_pos h]
   · rw [if_neg (by omega), if_pos h]
     simp [List.getD, List.getElem?_eq_none (by omega : ds.length ≤ (j - E).toNat)]
 · rw [if_neg (by omega), if_neg h]
theorem dgt_nil (E j : Int) : dgt [] E j = 0 := by rw [dgt_eq]; split <;> simp
theorem dgt_zero {ds : List Nat} {E j : Int} (h : ∀ i, ds.getD i 0 = 0) : dgt ds E j = 0 := by rw [dgt_eq]; split; exact h _; rfl
theorem cut_getD {ds : List Nat} {n k i : Nat} (h : k + i < n) : ((ds.take n).drop k).getD i 0 = ds.getD (k + i) 0 := by
 simp [List.getD, List.getElem?_drop, h]
theorem dgt_cut {ds : List Nat} {E : Int} {n k : Nat} (_hk : k ≤ n) (h1 : ∀ j, j < k → ds.getD j 0 = 0) (h2 : ∀ j, n ≤ j → ds.getD j 0 = 0) (j : Int) : dgt ((ds.take n).drop k) (E + (k : Int)) j = dgt ds E j := by
 rw [dgt_eq, dgt_eq]
 by_cases a : E ≤ j
 · by_cases b : E + (k : Int) ≤ j
   · rw [if_pos a, if_pos b]
     by_cases c : (j - E).toNat < n
     · rw [cut_getD (by omega)]; congr 1; omega
     · rw [h2 _ (by omega)]
       simp [List.getD, List.getElem?_drop, List.getElem?_take]
       rw [if_neg (by omega)]; rfl
   · rw [if_pos a, if_neg b, h1 _ (by omega)]
 · rw [if_neg a, if_neg (by omega)]
def TrimR (w w' : World) (S : Int) (ds : List Nat) (E : Int) (e : Ending) : Prop :=
 ∃ v S' ds' E', e = .returned v ∧ Dig w' v S' ds' E' ∧ (∀ j, dgt ds' E' j = dgt ds E j) ∧ ((ds' = [] ∧ S' = 0 ∧ E' = 0) ∨ (ds' ≠ [] ∧ S' = S ∧ ds'.getD 0 0 ≠ 0 ∧ ds'.getD (ds'.length - 1) 0 ≠ 0)) ∧ Below w.heap.size w w'
set_option maxHeartbeats 4000000 in
theorem trim_walk (g off c : Nat) (S E : Int) (ds : List Nat) (w : World) (hc : ∀ k, k < ds.length → w.cell? ⟨g, off + k, none⟩ = some (.int .i64 (ds.getD k 0 : Nat))) (hsm : ∀ d ∈ ds, d < 16777216) (hlen : ds.length ≤ 1000000) (hcap : ds.length ≤ c) (h1 : -1000000 ≤ E) (h2 : E + (ds.length : Int) ≤ 1000000) (hir : IntRow w g) :
   Calls Tryz.prog 117 #[.agg #[.int .i64 S, .slice (some ⟨g, off, none⟩) ds.length c, .int .i64 E]] w fun e w' => TrimR w w' S ds E e := by
 have hg : g < w.heap.size := hir.lt
 have HIR : Hid (IntRow w g) := hir
 clear hir
 have HC : Hid (∀ k, k < ds.length → w.cell? ⟨g, off + k, none⟩ = some (.int .i64 (ds.getD k 0 : Nat))) := hc
 have l1 : (ds.length : Int) ≤ 1000000 := by omega
 clear hc
 go_enter Tryz.func117, Tryz.ntmps117
 go_wp2
 go_loop [3] (fun s => ∃ n : Nat, n ≤ ds.length ∧ s = .slice (some ⟨g, off, none⟩) n c ∧ Hid (∀ j, n ≤ j → ds.getD j 0 = 0)) (fun s => match s with | .slice _ n _ => n | _ => 0)
 case atStart => exact ⟨_, Nat.le_refl _, rfl, fun j hj => by simp [List.getD, List.getElem?_eq_none hj]⟩
 case round =>
   obtain ⟨n, hn, rfl, hz⟩ := hrel
   by_cases h0 : n = 0
   · subst h0
     have HL : Hid (0 < 0 → ds.getD (0 - 1) 0 ≠ 0) := fun h => by omega
     go_wp2
     go_loop [3, 4] (fun s e => ∃ (k m cc : Nat) (ad : Option Addr), k + m = 0 ∧ m ≤ cc ∧ (m = 0 ∨ ad = some ⟨g, off + k, none⟩) ∧ s = .slice ad m cc ∧ e = .int .i64 (E + (k : Int)) ∧ Hid (∀ j, j < k → ds.getD j 0 = 0)) (fun s _ => match s with | .slice _ n _ => n | _ => 0)
     case atStart => exact ⟨0, 0, c, _, by omega, by omega, Or.inr rfl, rfl, by simp, fun j hj => by omega⟩
     case round =>
       obtain ⟨k, m, cc, ad, hkm, hmc, had, rfl, rfl, hy⟩ := hrel
       by_cases m0 : m = 0
       · subst m0
         clear had
         go_wp2
         refine bodyPost_ret (v := .agg #[.int .i64 0, .slice none 0 0, .int .i64 0]) (by simp [results, Tryz.results117, go_sem]) rfl ?_
         refine ⟨_, 0, [], 0, rfl, ⟨⟨none, 0, rfl, by simp, Or.inl rfl⟩, by simp, by simp, by omega, by omega⟩, ?_, Or.inl ⟨rfl, rfl, rfl⟩, ?_⟩
         · intro j
           rw [dgt_nil]
           exact (dgt_zero (fun i => by
             by_cases hi : i < k
             · exact hy.out i hi
             · exact hz.out i (by omega))).symm
         · repeat (first | exact Below.refl _ _ | refine Below.alloc ?_ (by simp) _ | refine Below.setCell ?_ (by simp) _)
       · exact absurd hkm (by omega)
   · obtain ⟨q, rfl⟩ : ∃ q, n = q + 1 := ⟨n - 1, by omega⟩
     have hcq : ((w.alloc (.cells #[.int .i64 S, .slice (some ⟨g, off, none⟩) ds.length c, .int .i64 E] 138)).alloc (.cells #[.int .i64 0, .slice none 0 0, .int .i64 0] 138)).cell? ⟨g, off + q, none⟩ = some (.int .i64 (ds.getD q 0 : Nat)) := by
       rw [World.cell?_alloc_lt _ _ _ (by simp; omega), World.cell?_alloc_lt _ _ _ hg]; exact HC.out q (by omega)
     by_cases hw : ds.getD q 0 = 0
     · rw [hw] at hcq
       have hz' : Hid (∀ j, q ≤ j → ds.getD j 0 = 0) := fun j hj => by
         by_cases e : j = q
         · rw [e]; exact hw
         · exact hz.out j (by omega)
       clear hw hz
       go_wp2
       go_round
       case rel => exact ⟨q, by omega, by go_num, hz'⟩
       case measure => simp
     · have HL : Hid (0 < q + 1 → ds.getD (q + 1 - 1) 0 ≠ 0) := fun _ => hw
       have hwq : (((ds.getD q 0 : Nat) : Int) == 0) = false := by rw [beq_eq_false_iff_ne]; omega
       obtain ⟨x0, hx0⟩ : ∃ x, Hid (ds.getD q 0 = x) := ⟨_, rfl⟩
       rw [hx0.out] at hcq hwq
       clear hw
       go_wp2
       clear hcq hwq
       go_loop [3, 4] (fun s e => ∃ (k m cc : Nat) (ad : Option Addr), k + m = (q + 1) ∧ m ≤ cc ∧ (m = 0 ∨ ad = some ⟨g, off + k, none⟩) ∧ s = .slice ad m cc ∧ e = .int .i64 (E + (k : Int)) ∧ Hid (∀ j, j < k → ds.getD j 0 = 0)) (fun s _ => match s with | .slice _ n _ => n | _ => 0)
       case atStart => exact ⟨0, (q + 1), c, _, by omega, by omega, Or.inr rfl, rfl, by simp, fun j hj => by omega⟩
       case round =>
         obtain ⟨k, m, cc, ad, hkm, hmc, had, rfl, rfl, hy⟩ := hrel
         by_cases m0 : m = 0
         · subst m0
           clear had
           go_wp2
           refine bodyPost_ret (v := .agg #[.int .i64 0, .slice none 0 0, .int .i64 0]) (by simp [results, Tryz.results117, go_sem]) rfl ?_
           refine ⟨_, 0, [], 0, rfl, ⟨⟨none, 0, rfl, by simp, Or.inl rfl⟩, by simp, by simp, by omega, by omega⟩, ?_, Or.inl ⟨rfl, rfl, rfl⟩, ?_⟩
           · intro j
             rw [dgt_nil]
             exact (dgt_zero (fun i => by
               by_cases hi : i < k
               · exact hy.out i hi
               · exact hz.out i (by omega))).symm
           · repeat (first | exact Below.refl _ _ | refine Below.alloc ?_ (by simp) _ | refine Below.setCell ?_ (by simp) _)
         · obtain ⟨p, rfl⟩ : ∃ p, m = p + 1 := ⟨m - 1, by omega⟩
           obtain rfl : ad = some ⟨g, off + k, none⟩ := had.resolve_left m0
           clear had
           have hck : ((w.alloc (.cells #[.int .i64 S, .slice (some ⟨g, off, none⟩) ds.length c, .int .i64 E] 138)).alloc (.cells #[.int .i64 0, .slice none 0 0, .int .i64 0] 138)).cell? ⟨g, off + k, none⟩ = some (.int .i64 (ds.getD k 0 : Nat)) := by
             rw [World.cell?_alloc_lt _ _ _ (by simp; omega), World.cell?_alloc_lt _ _ _ hg]; exact HC.out k (by omega)
           by_cases hw : ds.getD k 0 = 0
           · rw [hw] at hck
             have hki : (k : Int) ≤ 1000000 := by omega
             have hy' : Hid (∀ j, j < k + 1 → ds.getD j 0 = 0) := fun j hj => by
               by_cases e : j = k
               · rw [e]; exact hw
               · exact hy.out j (by omega)
             have wk : IntKind.i64.wrap (E + (k : Int) + 1) = E + ((k + 1 : Nat) : Int) := by rw [show E + (k : Int) + 1 = E + ((k + 1 : Nat) : Int) by omega]; exact wrapE _ (by omega) (by omega)
             have hcc : (1 : Int) ≤ (cc : Int) := by omega
             have hpp : (p : Int) + 1 ≤ (cc : Int) := by omega
             clear hw hy
             go_wp2
             go_round
             case rel =>
               refine ⟨k + 1, p, cc - 1, _, by omega, by omega, ?_, rfl, by simp, hy'⟩
               by_cases e : cc = 1
               · left; omega
               · right; rw [if_neg e]; rfl
             case measure => simp
           · have hwq : (((ds.getD k 0 : Nat) : Int) == 0) = false := by rw [beq_eq_false_iff_ne]; omega
             have HW : Hid (ds.getD k 0 ≠ 0) := hw
             obtain ⟨x, hx⟩ : ∃ x, Hid (ds.getD k 0 = x) := ⟨_, rfl⟩
             rw [hx.out] at hck hwq
             clear hw
             go_wp2
             refine bodyPost_ret (v := .agg #[.int .i64 S, .slice (some ⟨g, off + k, none⟩) (p + 1) cc, .int .i64 (E + (k : Int))]) (by simp [results, Tryz.results117, go_sem]) rfl ?_
             have hl : ((ds.take ((q + 1))).drop k).length = p + 1 := by simp; omega
             refine ⟨_, S, (ds.take ((q + 1))).drop k, E + (k : Int), rfl, ⟨⟨some ⟨g, off + k, none⟩, cc, by rw [hl], by rw [hl]; exact hmc, Or.inr ⟨g, off + k, rfl, ?_, (HIR.out.alloc _).alloc _⟩⟩, fun d hd => hsm d (List.mem_of_mem_take (List.mem_of_mem_drop hd)), by omega, by omega, by omega⟩, fun j => dgt_cut (by omega) hy.out hz.out j, Or.inr ⟨by intro h; rw [h] at hl; simp at hl, rfl, ?_, ?_⟩, ?_⟩
             · intro i hi
               rw [cut_getD (by omega), show off + k + i = off + (k + i) by omega]
               rw [World.cell?_alloc_lt _ _ _ (by simp; omega), World.cell?_alloc_lt _ _ _ hg]; exact HC.out (k + i) (by omega)
             · rw [cut_getD (by omega)]; exact HW.out
             · rw [hl, cut_getD (by omega), show k + (p + 1 - 1) = (q + 1) - 1 by omega]; exact HL.out (by omega)
             · repeat (first | exact Below.refl _ _ | refine Below.alloc ?_ (by simp) _ | refine Below.setCell ?_ (by simp) _)
end
end Go.Proofs.YtofklahgpkmfmaaGreatDoor
