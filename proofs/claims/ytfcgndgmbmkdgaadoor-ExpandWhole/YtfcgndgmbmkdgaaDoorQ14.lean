/- Own texts, put together: Vc. -/
import Derived.Test.YtfcgndgmbmkdgaaDoorQ13
/- ExpandWhole: the law's walk. -/
namespace Go.Proofs.YtfcgndgmbmkdgaaDoor
open Go.RowKit Go.Shelf
attribute [local go_sem ↓] Go.wp_at_zero Go.wp_at_succ

def at6 (f0 f1 f2 f3 f4 f5 k : Nat) : Nat := if k = 0 then f0 else if k = 1 then f1 else if k = 2 then f2 else if k = 3 then f3 else if k = 4 then f4 else f5
theorem cell_row {B : Nat} {wx W W3 : World} {row : Option Nat} {p : Addr} {u : Value} (h : Below B wx W) (hg : W.grownBy W3 row) (hs : B ≤ W.heap.size) (hr : ∀ g, row = some g → B ≤ g) (hp : p.block < B) (hc : wx.cell? p = some u) : W3.cell? p = some u := by rw [(h.grown hg hs hr).cell hp]; exact hc
/-- What lies in memory between two rounds. -/
structure LX (w W : World) (B : Nat) (fs : Nat → Nat) (ze zn : Value) (k : Nat) (sv : Nat → Value) (dv : Nat → NumW) : Prop where
  arr : ∀ j, j < 6 → W.cell? ⟨w.heap.size, j, none⟩ = some (.float .f64 (fs j))
  er : ER B fs W ze k sv
  nr : NR B fs W zn k dv
  bel : Below w.heap.size w W
  tab : Tab W
  rng : ∀ j, j < k → In100 (fs j)
  low : w.heap.size < B ∧ B ≤ W.heap.size

set_option maxRecDepth 100000 in
set_option maxHeartbeats 16000000 in
theorem ewhole_law (f0 f1 f2 f3 f4 f5 : Nat) (w : World) (hT : Tab w) (hw : ∀ k, at6 f0 f1 f2 f3 f4 f5 k < 18446744073709551616) :
    Calls Tryd.prog 3 #[.agg #[.float .f64 f0, .float .f64 f1, .float .f64 f2, .float .f64 f3, .float .f64 f4, .float .f64 f5]] w fun e w' => e = .returned (.bool true) ∧ Below w.heap.size w w' := by
  have HW : Hid (∀ k, at6 f0 f1 f2 f3 f4 f5 k < 18446744073709551616) := hw
  have HT : Hid (Tab w) := hT
  clear hw hT
  have hA0 : Below w.heap.size w (w.alloc (.cells #[.float .f64 f0, .float .f64 f1, .float .f64 f2, .float .f64 f3, .float .f64 f4, .float .f64 f5] 23)) := (Below.refl _ w).alloc (Nat.le_refl _) _
  have hC0 : ∀ j, j < 6 → (w.alloc (.cells #[.float .f64 f0, .float .f64 f1, .float .f64 f2, .float .f64 f3, .float .f64 f4, .float .f64 f5] 23)).cell? ⟨w.heap.size, j, none⟩ = some (.float .f64 (at6 f0 f1 f2 f3 f4 f5 j)) := fun j hj => by
    have : j = 0 ∨ j = 1 ∨ j = 2 ∨ j = 3 ∨ j = 4 ∨ j = 5 := by omega
    rcases this with rfl | rfl | rfl | rfl | rfl | rfl <;> (go_simp; try rfl)
  go_enter Tryd.func3, Tryd.ntmps3
  go_wp2_with fail
  refine (worksE_any _).mono ?_
  rintro e w1 ⟨rfl, hb⟩
  have hlt0 : w.heap.size < (w.alloc (.cells #[.float .f64 f0, .float .f64 f1, .float .f64 f2, .float .f64 f3, .float .f64 f4, .float .f64 f5] 23)).heap.size := by simp
  have HL0 : Hid (LX w w1 w1.heap.size (at6 f0 f1 f2 f3 f4 f5) (.slice none 0 0) (.slice none 0 0) 0 (fun _ => undef) (fun _ => ⟨none, 0, 0, 0, false, false⟩)) := ⟨fun j hj => box_cell hb (hC0 j hj), ER.nil _ _ _ _, NR.nil _ _ _ _, below_step hA0 hb, HT.out.later (below_step hA0 hb), fun j hj => by omega, Nat.lt_of_lt_of_le hlt0 hb.size, Nat.le_refl _⟩
  clear hb hA0 hC0 hlt0
  generalize at6 f0 f1 f2 f3 f4 f5 = fs at *
  obtain ⟨B, hB⟩ : ∃ B, w1.heap.size = B := ⟨_, rfl⟩
  rw [hB] at HL0
  clear hB
  obtain ⟨i1, hi1, hz1a, hz1b, hz1c⟩ := info_parts infoSl
  obtain ⟨i2, hi2, hz2a, hz2b, hz2c⟩ := info_parts infoNw
  go_wp2_with fail
  go_loopw [3, 4, 5] (fun ze zn i wr => ∃ k sv dv, k ≤ 6 ∧ i = .int .i64 (k : Nat) ∧ Hid (LX w wr B fs ze zn k sv dv)) (fun _ _ i _ => 6 - (intOf i).toNat)
  case atStart => exact ⟨0, _, _, by omega, rfl, HL0.out⟩
  case round =>
    obtain ⟨k, sv, dv, hk, rfl, hB⟩ := hrel
    by_cases hlt : k < 6
    · have hlt' : (k : Int) < 6 := by omega
      have hk0 : (0 : Int) ≤ (k : Int) := by omega
      have c1 := hB.out.arr k hlt
      obtain ⟨x, hx⟩ : ∃ x : Nat, Hid (fs k = x) := ⟨_, rfl⟩
      rw [hx.out] at c1
      have HXW : Hid (x < 18446744073709551616) := by rw [← hx.out]; exact HW.out k
      have HA : Hid (∀ w, Calls Tryd.prog 5 #[.float .f64 x] w fun e w' => e = .returned (.float .f64 (frung x)) ∧ w' = w) := fun w => abs_any x w HXW.out
      have hfr : frung x < 9223372036854775808 := Nat.mod_lt _ (by omega)
      have q2 := leq_word (r := frung x) (c := 5057542381537067008) hfr (by omega)
      by_cases hin : In100 x
      · have q1 := geq_word (r := frung x) (c := 4156822456062967808) (by have := hin.2; omega) (by omega)
        rw [decide_eq_true hin.1] at q1
        rw [decide_eq_true hin.2] at q2
        have HIN : Hid (In100 x) := hin
        clear hin hfr
        go_wp2_with fail
        refine (HA.out _).mono ?_
        rintro e wx ⟨rfl, hbx⟩
        subst hbx
        generalize frung x = fx at *
        go_wp2_with fail
        refine (ofE_any x _ HXW.out).mono ?_
        rintro e w2 ⟨⟨v, bs, tt, rfl, hF, k1, k2, _⟩, hb⟩
        obtain rfl := k1.2 (by rw [HIN.out.may.1]; exact HIN.out.may.2.1)
        have hbs : bs = [x] := (k2 rfl).trans HIN.out.may.1
        subst hbs
        obtain ⟨⟨a1, c1', rfl, _⟩, _⟩ := id hF.fs
        have hS1 : Fs w2 (.slice a1 1 c1') [x] := hF.fs
        have hE := hB.out.er.later hb
        have hN := hB.out.nr.later hb
        have hAl : Below w2.heap.size w2 (w2.alloc (.cells #[.slice a1 1 c1'] 28)) := (Below.refl _ _).alloc (Nat.le_refl _) _
        have hE := hE.later hAl
        have hN := hN.later hAl
        have hS1 := hS1.later hAl
        have hBB : Below B wx (w2.alloc (.cells #[.slice a1 1 c1'] 28)) := (hb.mono hB.out.low.2).trans (hAl.mono (Nat.le_trans hB.out.low.2 hb.size))
        have HE : Hid (ER B fs (w2.alloc (.cells #[.slice a1 1 c1'] 28)) u3 k sv) := hE
        have HN : Hid (NR B fs (w2.alloc (.cells #[.slice a1 1 c1'] 28)) u4 k dv) := hN
        have HS1 : Hid (Fs (w2.alloc (.cells #[.slice a1 1 c1'] 28)) (.slice a1 1 c1') [x]) := hS1
        have HBB : Hid (Below B wx (w2.alloc (.cells #[.slice a1 1 c1'] 28))) := hBB
        clear hF k1 k2 hb hE hN hS1 hBB hAl
        go_wp2_with (at_builtin; refine wpList_append_good _ GoodU rfl _ _ _ rfl B 28 i1 _ 1 24 undSl hi1 hz1a hz1b hz1c rfl (by omega) u3 k ((List.range k).map sv) rfl HE.out.own ⟨w2.heap.size, 0, none⟩ 1 1 [.slice a1 1 c1'] rfl rfl (World.news_of_block (cs := #[.slice a1 1 c1']) (t := 28) (fr := (0, 0)) (heap_alloc_new w2 _)) (by simp [Value.oneCell']) (by unfold maxLen; omega) (by omega) (Nat.le_trans hB.out.low.2 HBB.out.size) HE.out.good (by simp [GoodU, Value.cells]) (by simp [GoodU]) ?_; intro v' w3 hown hgrow hgood; have c3 := cell_row (p := ⟨w.heap.size, k, none⟩) HBB.out hgrow (Nat.le_trans hB.out.low.2 HBB.out.size) (fun g hg => (HE.out.own.lt g hg).1) hB.out.low.1 c1)
        have hE2 := HE.out.push (s := .slice a1 1 c1') (by rw [hx.out]; exact HS1.out) hown hgrow hgood
        have hN2 := HN.out.kept HE.out.own (by decide) hgrow HE.out.good
        have hbw : Below B wx w3 := HBB.out.grown hgrow (Nat.le_trans hB.out.low.2 HBB.out.size) (fun g hg => (HE.out.own.lt g hg).1)
        have HE2 : Hid (ER B fs w3 v' (k + 1) (upd sv k (.slice a1 1 c1'))) := hE2
        have HN2 : Hid (NR B fs w3 u4 k dv) := hN2
        have HBW : Hid (Below B wx w3) := hbw
        have hlw := hB.out.low
        have HB3 : Hid (Below w.heap.size w w3) := hB.out.bel.trans (hbw.mono (by omega))
        have HT3 : Hid (Tab w3) := HT.out.later HB3.out
        clear hE2 hN2 hbw hown hgrow hgood HE HN HS1 HBB hlw
        refine (of_fin x _ HT3.out HXW.out HIN.out.fin).mono ?_
        rintro e w4 ⟨nv, ny, rfl, hnum, rfl, hb4⟩
        obtain ⟨d, rfl⟩ := isNum_parts hnum
        have hAl : Below w4.heap.size w4 (w4.alloc (.cells #[.slice d.a d.n d.c, .int .i64 d.low, .bool d.neg, .bool d.nn] 35)) := (Below.refl _ _).alloc (Nat.le_refl _) _
        have HE4 : Hid (ER B fs (w4.alloc (.cells #[.slice d.a d.n d.c, .int .i64 d.low, .bool d.neg, .bool d.nn] 35)) v' (k + 1) (upd sv k (.slice a1 1 c1'))) := (HE2.out.later hb4).later hAl
        have HN4 : Hid (NR B fs (w4.alloc (.cells #[.slice d.a d.n d.c, .int .i64 d.low, .bool d.neg, .bool d.nn] 35)) u4 k dv) := (HN2.out.later hb4).later hAl
        have HNM : Hid (IsNum (w4.alloc (.cells #[.slice d.a d.n d.c, .int .i64 d.low, .bool d.neg, .bool d.nn] 35)) d.ag (some (fval x))) := hnum.later hAl
        have hle3 : B ≤ w3.heap.size := Nat.le_trans hB.out.low.2 HBW.out.size
        have hle4 : B ≤ w4.heap.size := Nat.le_trans hle3 hb4.size
        have HB4 : Hid (Below B wx (w4.alloc (.cells #[.slice d.a d.n d.c, .int .i64 d.low, .bool d.neg, .bool d.nn] 35))) := (HBW.out.trans (hb4.mono hle3)).trans (hAl.mono hle4)
        have HLE : Hid (B ≤ (w4.alloc (.cells #[.slice d.a d.n d.c, .int .i64 d.low, .bool d.neg, .bool d.nn] 35)).heap.size) := Nat.le_trans hle4 hAl.size
        clear hnum hb4 hAl hle3 hle4 c3 HE2 HN2
        go_wp2_with (at_builtin; refine wpList_append_good _ GoodU rfl _ _ _ rfl B 35 i2 _ 4 40 undNw hi2 hz2a hz2b hz2c rfl (by omega) u4 k ((List.range k).flatMap fun i => (dv i).cs) rfl HN4.out.own ⟨w4.heap.size, 0, none⟩ 1 1 d.cs rfl rfl (World.news_of_block (cs := #[.slice d.a d.n d.c, .int .i64 d.low, .bool d.neg, .bool d.nn]) (t := 35) (fr := (0, 0)) (heap_alloc_new w4 _)) (by simp [Value.oneCell']) (by unfold maxLen; omega) (by omega) HLE.out HN4.out.good (by simp [GoodU, Value.cells]) (by simp [GoodU]) ?_; intro v2 w5 hown hgrow hgood)
        have hE5 := HE4.out.kept HN4.out.own (by decide) hgrow HN4.out.good
        have hN5 := HN4.out.push (d := d) (by rw [hx.out]; exact HNM.out) hown hgrow hgood
        have hbw : Below B wx w5 := HB4.out.grown hgrow HLE.out (fun g hg => (HN4.out.own.lt g hg).1)
        have hlw := hB.out.low
        have hbel : Below w.heap.size w w5 := hB.out.bel.trans (hbw.mono (by omega))
        refine ⟨⟨k + 1, _, _, by omega, by go_num, ⟨fun j hj => ?_, hE5, hN5, hbel, HT.out.later hbel, fun j hj => ?_, hlw.1, Nat.le_trans hlw.2 hbw.size⟩⟩, by simp [intOf]; omega⟩
        · rw [hbw.cell (p := ⟨w.heap.size, j, none⟩) (by show w.heap.size < B; omega)]
          exact hB.out.arr j hj
        · by_cases ej : j = k
          · rw [ej, hx.out]; exact HIN.out
          · exact hB.out.rng j (by omega)
      · have HR : Hid (Below w.heap.size w wr) := hB.out.bel
        rcases Nat.lt_or_ge 9218868437227405312 (frung x) with hn | hn
        · have q1 : FloatKind.f64.format.order (frung x) 4156822456062967808 = none := order_nan_left (by unfold frung at *; omega)
          clear q2 hin hfr hn
          go_wp2_with fail
          refine (HA.out _).mono ?_
          rintro e wx ⟨rfl, hbx⟩
          subst hbx
          generalize frung x = fx at *
          go_wp2
          go_ret
          exact ⟨rfl, HR.out⟩
        · have q1 := geq_word (r := frung x) (c := 4156822456062967808) hn (by omega)
          by_cases h1 : 4156822456062967808 ≤ frung x
          · rw [decide_eq_true h1] at q1
            rw [decide_eq_false (fun h2 => hin ⟨h1, h2⟩)] at q2
            clear hin hfr hn h1
            go_wp2_with fail
            refine (HA.out _).mono ?_
            rintro e wx ⟨rfl, hbx⟩
            subst hbx
            generalize frung x = fx at *
            go_wp2
            go_ret
            exact ⟨rfl, HR.out⟩
          · rw [decide_eq_false h1] at q1
            clear hin hfr hn h1 q2
            go_wp2_with fail
            refine (HA.out _).mono ?_
            rintro e wx ⟨rfl, hbx⟩
            subst hbx
            generalize frung x = fx at *
            go_wp2
            go_ret
            exact ⟨rfl, HR.out⟩
    · obtain rfl : k = 6 := by omega
      have HR : Hid (Below w.heap.size w wr) := hB.out.bel
      have NN : Hid (NR B fs wr u4 6 dv) := hB.out.nr
      have RG : Hid (∀ j, j < 6 → In100 (fs j)) := hB.out.rng
      obtain ⟨g, cap, rfl⟩ := row_form hB.out.er.own (by omega)
      obtain ⟨g2, cap2, rfl⟩ := row_form hB.out.nr.own (by omega)
      obtain ⟨a0, c0, e0⟩ := (hB.out.er.fe 0 (by omega)).one
      have z0 : wr.cell? ⟨g, 0, none⟩ = some (.slice a0 1 c0) := by rw [← e0]; exact row_cell hB.out.er.own 0 _ rfl
      have F0 : Hid (Fs wr (.slice a0 1 c0) [fs 0]) := by show Fs _ _ _; rw [← e0]; exact hB.out.er.fe 0 (by omega)
      have N0 : Hid (NM 922 1174 (fval (fs 0)) [fs 0]) := (hB.out.rng 0 (by omega)).nm
      clear e0
      obtain ⟨a1, c1, e1⟩ := (hB.out.er.fe 1 (by omega)).one
      have z1 : wr.cell? ⟨g, 1, none⟩ = some (.slice a1 1 c1) := by rw [← e1]; exact row_cell hB.out.er.own 1 _ rfl
      have F1 : Hid (Fs wr (.slice a1 1 c1) [fs 1]) := by show Fs _ _ _; rw [← e1]; exact hB.out.er.fe 1 (by omega)
      have N1 : Hid (NM 922 1174 (fval (fs 1)) [fs 1]) := (hB.out.rng 1 (by omega)).nm
      clear e1
      obtain ⟨a2, c2, e2⟩ := (hB.out.er.fe 2 (by omega)).one
      have z2 : wr.cell? ⟨g, 2, none⟩ = some (.slice a2 1 c2) := by rw [← e2]; exact row_cell hB.out.er.own 2 _ rfl
      have F2 : Hid (Fs wr (.slice a2 1 c2) [fs 2]) := by show Fs _ _ _; rw [← e2]; exact hB.out.er.fe 2 (by omega)
      have N2 : Hid (NM 922 1174 (fval (fs 2)) [fs 2]) := (hB.out.rng 2 (by omega)).nm
      clear e2
      obtain ⟨a3, c3, e3⟩ := (hB.out.er.fe 3 (by omega)).one
      have z3 : wr.cell? ⟨g, 3, none⟩ = some (.slice a3 1 c3) := by rw [← e3]; exact row_cell hB.out.er.own 3 _ rfl
      have F3 : Hid (Fs wr (.slice a3 1 c3) [fs 3]) := by show Fs _ _ _; rw [← e3]; exact hB.out.er.fe 3 (by omega)
      have N3 : Hid (NM 922 1174 (fval (fs 3)) [fs 3]) := (hB.out.rng 3 (by omega)).nm
      clear e3
      obtain ⟨a4, c4, e4⟩ := (hB.out.er.fe 4 (by omega)).one
      have z4 : wr.cell? ⟨g, 4, none⟩ = some (.slice a4 1 c4) := by rw [← e4]; exact row_cell hB.out.er.own 4 _ rfl
      have F4 : Hid (Fs wr (.slice a4 1 c4) [fs 4]) := by show Fs _ _ _; rw [← e4]; exact hB.out.er.fe 4 (by omega)
      have N4 : Hid (NM 922 1174 (fval (fs 4)) [fs 4]) := (hB.out.rng 4 (by omega)).nm
      clear e4
      obtain ⟨a5, c5, e5⟩ := (hB.out.er.fe 5 (by omega)).one
      have z5 : wr.cell? ⟨g, 5, none⟩ = some (.slice a5 1 c5) := by rw [← e5]; exact row_cell hB.out.er.own 5 _ rfl
      have F5 : Hid (Fs wr (.slice a5 1 c5) [fs 5]) := by show Fs _ _ _; rw [← e5]; exact hB.out.er.fe 5 (by omega)
      have N5 : Hid (NM 922 1174 (fval (fs 5)) [fs 5]) := (hB.out.rng 5 (by omega)).nm
      clear e5
      clear hB hk hlt
      go_wp2_with fail
      refine wp_region_held_drew (S := (fun W => W.cell? ⟨g, 0, none⟩ = some (.slice a0 1 c0) ∧ W.cell? ⟨g, 1, none⟩ = some (.slice a1 1 c1) ∧ W.cell? ⟨g, 2, none⟩ = some (.slice a2 1 c2) ∧ W.cell? ⟨g, 3, none⟩ = some (.slice a3 1 c3) ∧ W.cell? ⟨g, 4, none⟩ = some (.slice a4 1 c4) ∧ W.cell? ⟨g, 5, none⟩ = some (.slice a5 1 c5) ∧ Below wr.heap.size wr W)) (by kernel_rfl) ⟨z0, z1, z2, z3, z4, z5, (Below.refl _ _).drew⟩ (fun hS => ?_)
      refine take_at (i := 0) (d := some 58) (v := .slice (some ⟨g, 0, none⟩) 6 cap) (by kernel_rfl) (by kernel_rfl) (by kernel_rfl) (by kernel_rfl) (fun _ _ _ h => h) ?_ hS ?_
      · intro o ho
        simp only [List.getElem?_toArray, List.getElem?_cons_zero, Option.some.injEq] at ho
        subst ho
        refine Or.inl ⟨by rfl, ?_⟩
        intro w hSw
        (try dsimp only at hSw)
        go_simp
      simp only [Act.put, List.setIfInBounds_toArray, List.set_cons_zero, List.set_cons_succ]
      refine take_at (i := 1) (d := some 59) (v := .pointer (some ⟨g, 0, none⟩)) (by kernel_rfl) (by kernel_rfl) (by kernel_rfl) (by kernel_rfl) (fun _ _ _ h => h) ?_ hS ?_
      · intro o ho
        simp only [List.getElem?_toArray, List.getElem?_cons_succ, List.getElem?_cons_zero, Option.some.injEq] at ho
        subst ho
        refine Or.inl ⟨by rfl, ?_⟩
        intro w hSw
        (try dsimp only at hSw)
        go_simp
      simp only [Act.put, List.setIfInBounds_toArray, List.set_cons_zero, List.set_cons_succ]
      refine take_at (i := 2) (d := some 60) (v := .slice a0 1 c0) (by kernel_rfl) (by kernel_rfl) (by kernel_rfl) (by kernel_rfl) (fun _ _ _ h => h) ?_ hS ?_
      · intro o ho
        simp only [List.getElem?_toArray, List.getElem?_cons_succ, List.getElem?_cons_zero, Option.some.injEq] at ho
        subst ho
        refine Or.inl ⟨by rfl, ?_⟩
        intro w hSw
        (try dsimp only at hSw)
        go_simp
      simp only [Act.put, List.setIfInBounds_toArray, List.set_cons_zero, List.set_cons_succ]
      refine take_at (i := 3) (d := some 61) (v := .slice (some ⟨g, 0, none⟩) 6 cap) (by kernel_rfl) (by kernel_rfl) (by kernel_rfl) (by kernel_rfl) (fun _ _ _ h => h) ?_ hS ?_
      · intro o ho
        simp only [List.getElem?_toArray, List.getElem?_cons_succ, List.getElem?_cons_zero, Option.some.injEq] at ho
        subst ho
        refine Or.inl ⟨by rfl, ?_⟩
        intro w hSw
        (try dsimp only at hSw)
        go_simp
      simp only [Act.put, List.setIfInBounds_toArray, List.set_cons_zero, List.set_cons_succ]
      refine take_at (i := 4) (d := some 62) (v := .pointer (some ⟨g, 1, none⟩)) (by kernel_rfl) (by kernel_rfl) (by kernel_rfl) (by kernel_rfl) (fun _ _ _ h => h) ?_ hS ?_
      · intro o ho
        simp only [List.getElem?_toArray, List.getElem?_cons_succ, List.getElem?_cons_zero, Option.some.injEq] at ho
        subst ho
        refine Or.inl ⟨by rfl, ?_⟩
        intro w hSw
        (try dsimp only at hSw)
        go_simp
      simp only [Act.put, List.setIfInBounds_toArray, List.set_cons_zero, List.set_cons_succ]
      refine take_at (i := 5) (d := some 63) (v := .slice a1 1 c1) (by kernel_rfl) (by kernel_rfl) (by kernel_rfl) (by kernel_rfl) (fun _ _ _ h => h) ?_ hS ?_
      · intro o ho
        simp only [List.getElem?_toArray, List.getElem?_cons_succ, List.getElem?_cons_zero, Option.some.injEq] at ho
        subst ho
        refine Or.inl ⟨by rfl, ?_⟩
        intro w hSw
        (try dsimp only at hSw)
        go_simp
      simp only [Act.put, List.setIfInBounds_toArray, List.set_cons_zero, List.set_cons_succ]
      refine call_at 6 (by kernel_rfl) (by kernel_rfl) ?_
      intro o ho
      simp only [List.getElem?_toArray, List.getElem?_cons_succ, List.getElem?_cons_zero, Option.some.injEq] at ho
      subst ho
      intro KF hK
      go_simp
      refine (negM_any 922 1174 _ _ _ _ (F1.out.later hS.2.2.2.2.2.2) N1.out).mono ?_
      rintro e wx1 ⟨⟨v1, l1, rfl, hF, hN⟩, hbx⟩
      obtain ⟨m1, n1, k1, rfl⟩ := hF.shapeV
      have G1 : Hid (Fs wx1 (.slice m1 n1 k1) l1) := hF
      have P1 : Hid (NM 922 1174 (-fval (fs 1)) l1) := hN
      clear hF hN
      go_wp2_with fail
      refine hK.out _ _ ⟨box_cell hbx hS.1, box_cell hbx hS.2.1, box_cell hbx hS.2.2.1, box_cell hbx hS.2.2.2.1, box_cell hbx hS.2.2.2.2.1, box_cell hbx hS.2.2.2.2.2.1, below_step hS.2.2.2.2.2.2 hbx⟩ ?_
      clear hS hbx
      intro hS
      clear hK KF
      try simp only [Act.put, List.setIfInBounds_toArray, List.set_cons_zero, List.set_cons_succ]
      refine call_at 7 (by kernel_rfl) (by kernel_rfl) ?_
      intro o ho
      simp only [List.getElem?_toArray, List.getElem?_cons_succ, List.getElem?_cons_zero, Option.some.injEq] at ho
      subst ho
      intro KF hK
      go_simp
      refine (addM_any 922 1174 _ _ _ _ _ _ _ (F0.out.later hS.2.2.2.2.2.2) G1.out N0.out P1.out (by omega) (by omega)).mono ?_
      rintro e wx2 ⟨⟨v2, l2, rfl, hF, hN⟩, hbx⟩
      obtain ⟨m2, n2, k2, rfl⟩ := hF.shapeV
      have G2 : Hid (Fs wx2 (.slice m2 n2 k2) l2) := hF
      have P2 : Hid (NM 922 1175 (fval (fs 0) + -fval (fs 1)) l2) := hN
      clear hF hN
      go_wp2_with fail
      refine hK.out _ _ ⟨box_cell hbx hS.1, box_cell hbx hS.2.1, box_cell hbx hS.2.2.1, box_cell hbx hS.2.2.2.1, box_cell hbx hS.2.2.2.2.1, box_cell hbx hS.2.2.2.2.2.1, below_step hS.2.2.2.2.2.2 hbx⟩ ?_
      clear hS hbx
      intro hS
      clear hK KF
      try simp only [Act.put, List.setIfInBounds_toArray, List.set_cons_zero, List.set_cons_succ]
      refine take_at (i := 8) (d := some 57) (v := .tuple #[.slice m2 n2 k2, .bool true]) (by kernel_rfl) (by kernel_rfl) (by kernel_rfl) (by kernel_rfl) (fun _ _ _ h => h) ?_ hS ?_
      · intro o ho
        simp only [List.getElem?_toArray, List.getElem?_cons_succ, List.getElem?_cons_zero, Option.some.injEq] at ho
        subst ho
        refine Or.inl ⟨by rfl, ?_⟩
        intro w hSw
        (try dsimp only at hSw)
        go_simp
      simp only [Act.put, List.setIfInBounds_toArray, List.set_cons_zero, List.set_cons_succ]
      refine take_at (i := 9) (d := some 66) (v := .slice m2 n2 k2) (by kernel_rfl) (by kernel_rfl) (by kernel_rfl) (by kernel_rfl) (fun _ _ _ h => h) ?_ hS ?_
      · intro o ho
        simp only [List.getElem?_toArray, List.getElem?_cons_succ, List.getElem?_cons_zero, Option.some.injEq] at ho
        subst ho
        refine Or.inl ⟨by rfl, ?_⟩
        intro w hSw
        (try dsimp only at hSw)
        go_simp
      simp only [Act.put, List.setIfInBounds_toArray, List.set_cons_zero, List.set_cons_succ]
      refine take_at (i := 10) (d := some 67) (v := .bool true) (by kernel_rfl) (by kernel_rfl) (by kernel_rfl) (by kernel_rfl) (fun _ _ _ h => h) ?_ hS ?_
      · intro o ho
        simp only [List.getElem?_toArray, List.getElem?_cons_succ, List.getElem?_cons_zero, Option.some.injEq] at ho
        subst ho
        refine Or.inl ⟨by rfl, ?_⟩
        intro w hSw
        (try dsimp only at hSw)
        go_simp
      simp only [Act.put, List.setIfInBounds_toArray, List.set_cons_zero, List.set_cons_succ]
      refine take_at (i := 11) (d := some 9) (v := .slice m2 n2 k2) (by kernel_rfl) (by kernel_rfl) (by kernel_rfl) (by kernel_rfl) (fun _ _ _ h => h) ?_ hS ?_
      · intro o ho
        simp only [List.getElem?_toArray, List.getElem?_cons_succ, List.getElem?_cons_zero, Option.some.injEq] at ho
        subst ho
        refine Or.inl ⟨by rfl, ?_⟩
        intro w hSw
        (try dsimp only at hSw)
        go_simp
      simp only [Act.put, List.setIfInBounds_toArray, List.set_cons_zero, List.set_cons_succ]
      refine take_at (i := 12) (d := some 10) (v := .bool true) (by kernel_rfl) (by kernel_rfl) (by kernel_rfl) (by kernel_rfl) (fun _ _ _ h => h) ?_ hS ?_
      · intro o ho
        simp only [List.getElem?_toArray, List.getElem?_cons_succ, List.getElem?_cons_zero, Option.some.injEq] at ho
        subst ho
        refine Or.inl ⟨by rfl, ?_⟩
        intro w hSw
        (try dsimp only at hSw)
        go_simp
      simp only [Act.put, List.setIfInBounds_toArray, List.set_cons_zero, List.set_cons_succ]
      refine wpAnyH_done (by kernel_rfl) ?_ _
      have hbb := hS.2.2.2.2.2.2
      clear hS
      replace z0 : wx2.cell? ⟨g, 0, none⟩ = some (.slice a0 1 c0) := box_cell hbb z0
      replace F0 : Hid (Fs wx2 (.slice a0 1 c0) [fs 0]) := F0.out.later hbb
      replace z1 : wx2.cell? ⟨g, 1, none⟩ = some (.slice a1 1 c1) := box_cell hbb z1
      replace F1 : Hid (Fs wx2 (.slice a1 1 c1) [fs 1]) := F1.out.later hbb
      replace z2 : wx2.cell? ⟨g, 2, none⟩ = some (.slice a2 1 c2) := box_cell hbb z2
      replace F2 : Hid (Fs wx2 (.slice a2 1 c2) [fs 2]) := F2.out.later hbb
      replace z3 : wx2.cell? ⟨g, 3, none⟩ = some (.slice a3 1 c3) := box_cell hbb z3
      replace F3 : Hid (Fs wx2 (.slice a3 1 c3) [fs 3]) := F3.out.later hbb
      replace z4 : wx2.cell? ⟨g, 4, none⟩ = some (.slice a4 1 c4) := box_cell hbb z4
      replace F4 : Hid (Fs wx2 (.slice a4 1 c4) [fs 4]) := F4.out.later hbb
      replace z5 : wx2.cell? ⟨g, 5, none⟩ = some (.slice a5 1 c5) := box_cell hbb z5
      replace F5 : Hid (Fs wx2 (.slice a5 1 c5) [fs 5]) := F5.out.later hbb
      replace HR : Hid (Below w.heap.size w wx2) := below_step HR.out hbb
      replace NN : Hid (NR B fs wx2 (.slice (some ⟨g2, 0, none⟩) 6 cap2) 6 dv) := NN.out.later hbb
      clear hbb
      go_wp2_with fail
      refine wp_region_held_drew (S := (fun W => W.cell? ⟨g, 0, none⟩ = some (.slice a0 1 c0) ∧ W.cell? ⟨g, 1, none⟩ = some (.slice a1 1 c1) ∧ W.cell? ⟨g, 2, none⟩ = some (.slice a2 1 c2) ∧ W.cell? ⟨g, 3, none⟩ = some (.slice a3 1 c3) ∧ W.cell? ⟨g, 4, none⟩ = some (.slice a4 1 c4) ∧ W.cell? ⟨g, 5, none⟩ = some (.slice a5 1 c5) ∧ Below wx2.heap.size wx2 W)) (by kernel_rfl) ⟨z0, z1, z2, z3, z4, z5, (Below.refl _ _).drew⟩ (fun hS => ?_)
      refine take_at (i := 0) (d := some 69) (v := .slice (some ⟨g, 0, none⟩) 6 cap) (by kernel_rfl) (by kernel_rfl) (by kernel_rfl) (by kernel_rfl) (fun _ _ _ h => h) ?_ hS ?_
      · intro o ho
        simp only [List.getElem?_toArray, List.getElem?_cons_zero, Option.some.injEq] at ho
        subst ho
        refine Or.inl ⟨by rfl, ?_⟩
        intro w hSw
        (try dsimp only at hSw)
        go_simp
      simp only [Act.put, List.setIfInBounds_toArray, List.set_cons_zero, List.set_cons_succ]
      refine take_at (i := 1) (d := some 70) (v := .pointer (some ⟨g, 2, none⟩)) (by kernel_rfl) (by kernel_rfl) (by kernel_rfl) (by kernel_rfl) (fun _ _ _ h => h) ?_ hS ?_
      · intro o ho
        simp only [List.getElem?_toArray, List.getElem?_cons_succ, List.getElem?_cons_zero, Option.some.injEq] at ho
        subst ho
        refine Or.inl ⟨by rfl, ?_⟩
        intro w hSw
        (try dsimp only at hSw)
        go_simp
      simp only [Act.put, List.setIfInBounds_toArray, List.set_cons_zero, List.set_cons_succ]
      refine take_at (i := 2) (d := some 71) (v := .slice a2 1 c2) (by kernel_rfl) (by kernel_rfl) (by kernel_rfl) (by kernel_rfl) (fun _ _ _ h => h) ?_ hS ?_
      · intro o ho
        simp only [List.getElem?_toArray, List.getElem?_cons_succ, List.getElem?_cons_zero, Option.some.injEq] at ho
        subst ho
        refine Or.inl ⟨by rfl, ?_⟩
        intro w hSw
        (try dsimp only at hSw)
        go_simp
      simp only [Act.put, List.setIfInBounds_toArray, List.set_cons_zero, List.set_cons_succ]
      refine take_at (i := 3) (d := some 72) (v := .slice (some ⟨g, 0, none⟩) 6 cap) (by kernel_rfl) (by kernel_rfl) (by kernel_rfl) (by kernel_rfl) (fun _ _ _ h => h) ?_ hS ?_
      · intro o ho
        simp only [List.getElem?_toArray, List.getElem?_cons_succ, List.getElem?_cons_zero, Option.some.injEq] at ho
        subst ho
        refine Or.inl ⟨by rfl, ?_⟩
        intro w hSw
        (try dsimp only at hSw)
        go_simp
      simp only [Act.put, List.setIfInBounds_toArray, List.set_cons_zero, List.set_cons_succ]
      refine take_at (i := 4) (d := some 73) (v := .pointer (some ⟨g, 3, none⟩)) (by kernel_rfl) (by kernel_rfl) (by kernel_rfl) (by kernel_rfl) (fun _ _ _ h => h) ?_ hS ?_
      · intro o ho
        simp only [List.getElem?_toArray, List.getElem?_cons_succ, List.getElem?_cons_zero, Option.some.injEq] at ho
        subst ho
        refine Or.inl ⟨by rfl, ?_⟩
        intro w hSw
        (try dsimp only at hSw)
        go_simp
      simp only [Act.put, List.setIfInBounds_toArray, List.set_cons_zero, List.set_cons_succ]
      refine take_at (i := 5) (d := some 74) (v := .slice a3 1 c3) (by kernel_rfl) (by kernel_rfl) (by kernel_rfl) (by kernel_rfl) (fun _ _ _ h => h) ?_ hS ?_
      · intro o ho
        simp only [List.getElem?_toArray, List.getElem?_cons_succ, List.getElem?_cons_zero, Option.some.injEq] at ho
        subst ho
        refine Or.inl ⟨by rfl, ?_⟩
        intro w hSw
        (try dsimp only at hSw)
        go_simp
      simp only [Act.put, List.setIfInBounds_toArray, List.set_cons_zero, List.set_cons_succ]
      refine call_at 6 (by kernel_rfl) (by kernel_rfl) ?_
      intro o ho
      simp only [List.getElem?_toArray, List.getElem?_cons_succ, List.getElem?_cons_zero, Option.some.injEq] at ho
      subst ho
      intro KF hK
      go_simp
      refine (negM_any 922 1174 _ _ _ _ (F3.out.later hS.2.2.2.2.2.2) N3.out).mono ?_
      rintro e wx3 ⟨⟨v3, l3, rfl, hF, hN⟩, hbx⟩
      obtain ⟨m3, n3, k3, rfl⟩ := hF.shapeV
      have G3 : Hid (Fs wx3 (.slice m3 n3 k3) l3) := hF
      have P3 : Hid (NM 922 1174 (-fval (fs 3)) l3) := hN
      clear hF hN
      go_wp2_with fail
      refine hK.out _ _ ⟨box_cell hbx hS.1, box_cell hbx hS.2.1, box_cell hbx hS.2.2.1, box_cell hbx hS.2.2.2.1, box_cell hbx hS.2.2.2.2.1, box_cell hbx hS.2.2.2.2.2.1, below_step hS.2.2.2.2.2.2 hbx⟩ ?_
      clear hS hbx
      intro hS
      clear hK KF
      try simp only [Act.put, List.setIfInBounds_toArray, List.set_cons_zero, List.set_cons_succ]
      refine call_at 7 (by kernel_rfl) (by kernel_rfl) ?_
      intro o ho
      simp only [List.getElem?_toArray, List.getElem?_cons_succ, List.getElem?_cons_zero, Option.some.injEq] at ho
      subst ho
      intro KF hK
      go_simp
      refine (addM_any 922 1174 _ _ _ _ _ _ _ (F2.out.later hS.2.2.2.2.2.2) G3.out N2.out P3.out (by omega) (by omega)).mono ?_
      rintro e wx4 ⟨⟨v4, l4, rfl, hF, hN⟩, hbx⟩
      obtain ⟨m4, n4, k4, rfl⟩ := hF.shapeV
      have G4 : Hid (Fs wx4 (.slice m4 n4 k4) l4) := hF
      have P4 : Hid (NM 922 1175 (fval (fs 2) + -fval (fs 3)) l4) := hN
      clear hF hN
      go_wp2_with fail
      refine hK.out _ _ ⟨box_cell hbx hS.1, box_cell hbx hS.2.1, box_cell hbx hS.2.2.1, box_cell hbx hS.2.2.2.1, box_cell hbx hS.2.2.2.2.1, box_cell hbx hS.2.2.2.2.2.1, below_step hS.2.2.2.2.2.2 hbx⟩ ?_
      clear hS hbx
      intro hS
      clear hK KF
      try simp only [Act.put, List.setIfInBounds_toArray, List.set_cons_zero, List.set_cons_succ]
      refine take_at (i := 8) (d := some 68) (v := .tuple #[.slice m4 n4 k4, .bool true]) (by kernel_rfl) (by kernel_rfl) (by kernel_rfl) (by kernel_rfl) (fun _ _ _ h => h) ?_ hS ?_
      · intro o ho
        simp only [List.getElem?_toArray, List.getElem?_cons_succ, List.getElem?_cons_zero, Option.some.injEq] at ho
        subst ho
        refine Or.inl ⟨by rfl, ?_⟩
        intro w hSw
        (try dsimp only at hSw)
        go_simp
      simp only [Act.put, List.setIfInBounds_toArray, List.set_cons_zero, List.set_cons_succ]
      refine take_at (i := 9) (d := some 77) (v := .slice m4 n4 k4) (by kernel_rfl) (by kernel_rfl) (by kernel_rfl) (by kernel_rfl) (fun _ _ _ h => h) ?_ hS ?_
      · intro o ho
        simp only [List.getElem?_toArray, List.getElem?_cons_succ, List.getElem?_cons_zero, Option.some.injEq] at ho
        subst ho
        refine Or.inl ⟨by rfl, ?_⟩
        intro w hSw
        (try dsimp only at hSw)
        go_simp
      simp only [Act.put, List.setIfInBounds_toArray, List.set_cons_zero, List.set_cons_succ]
      refine take_at (i := 10) (d := some 78) (v := .bool true) (by kernel_rfl) (by kernel_rfl) (by kernel_rfl) (by kernel_rfl) (fun _ _ _ h => h) ?_ hS ?_
      · intro o ho
        simp only [List.getElem?_toArray, List.getElem?_cons_succ, List.getElem?_cons_zero, Option.some.injEq] at ho
        subst ho
        refine Or.inl ⟨by rfl, ?_⟩
        intro w hSw
        (try dsimp only at hSw)
        go_simp
      simp only [Act.put, List.setIfInBounds_toArray, List.set_cons_zero, List.set_cons_succ]
      refine take_at (i := 11) (d := some 11) (v := .slice m4 n4 k4) (by kernel_rfl) (by kernel_rfl) (by kernel_rfl) (by kernel_rfl) (fun _ _ _ h => h) ?_ hS ?_
      · intro o ho
        simp only [List.getElem?_toArray, List.getElem?_cons_succ, List.getElem?_cons_zero, Option.some.injEq] at ho
        subst ho
        refine Or.inl ⟨by rfl, ?_⟩
        intro w hSw
        (try dsimp only at hSw)
        go_simp
      simp only [Act.put, List.setIfInBounds_toArray, List.set_cons_zero, List.set_cons_succ]
      refine take_at (i := 12) (d := some 12) (v := .bool true) (by kernel_rfl) (by kernel_rfl) (by kernel_rfl) (by kernel_rfl) (fun _ _ _ h => h) ?_ hS ?_
      · intro o ho
        simp only [List.getElem?_toArray, List.getElem?_cons_succ, List.getElem?_cons_zero, Option.some.injEq] at ho
        subst ho
        refine Or.inl ⟨by rfl, ?_⟩
        intro w hSw
        (try dsimp only at hSw)
        go_simp
      simp only [Act.put, List.setIfInBounds_toArray, List.set_cons_zero, List.set_cons_succ]
      refine wpAnyH_done (by kernel_rfl) ?_ _
      have hbb := hS.2.2.2.2.2.2
      clear hS
      replace z0 : wx4.cell? ⟨g, 0, none⟩ = some (.slice a0 1 c0) := box_cell hbb z0
      replace F0 : Hid (Fs wx4 (.slice a0 1 c0) [fs 0]) := F0.out.later hbb
      replace z1 : wx4.cell? ⟨g, 1, none⟩ = some (.slice a1 1 c1) := box_cell hbb z1
      replace F1 : Hid (Fs wx4 (.slice a1 1 c1) [fs 1]) := F1.out.later hbb
      replace z2 : wx4.cell? ⟨g, 2, none⟩ = some (.slice a2 1 c2) := box_cell hbb z2
      replace F2 : Hid (Fs wx4 (.slice a2 1 c2) [fs 2]) := F2.out.later hbb
      replace z3 : wx4.cell? ⟨g, 3, none⟩ = some (.slice a3 1 c3) := box_cell hbb z3
      replace F3 : Hid (Fs wx4 (.slice a3 1 c3) [fs 3]) := F3.out.later hbb
      replace z4 : wx4.cell? ⟨g, 4, none⟩ = some (.slice a4 1 c4) := box_cell hbb z4
      replace F4 : Hid (Fs wx4 (.slice a4 1 c4) [fs 4]) := F4.out.later hbb
      replace z5 : wx4.cell? ⟨g, 5, none⟩ = some (.slice a5 1 c5) := box_cell hbb z5
      replace F5 : Hid (Fs wx4 (.slice a5 1 c5) [fs 5]) := F5.out.later hbb
      replace HR : Hid (Below w.heap.size w wx4) := below_step HR.out hbb
      replace NN : Hid (NR B fs wx4 (.slice (some ⟨g2, 0, none⟩) 6 cap2) 6 dv) := NN.out.later hbb
      replace G2 : Hid (Fs wx4 (.slice m2 n2 k2) l2) := G2.out.later hbb
      clear hbb
      go_wp2_with fail
      refine (mulM_any 922 1175 922 1175 770 1276 _ _ _ _ _ _ _ G2.out G4.out P2.out P4.out (by omega) (by omega) (by omega) (by omega)).mono ?_
      rintro e wx5 ⟨⟨v5, l5, rfl, hF, hN⟩, hbb⟩
      obtain ⟨m5, n5, k5, rfl⟩ := hF.shapeV
      have G5 : Hid (Fs wx5 (.slice m5 n5 k5) l5) := hF
      have P5 : Hid (NM 770 1276 ((fval (fs 0) + -fval (fs 1)) * (fval (fs 2) + -fval (fs 3))) l5) := hN
      clear hF hN
      replace z0 : wx5.cell? ⟨g, 0, none⟩ = some (.slice a0 1 c0) := box_cell hbb z0
      replace F0 : Hid (Fs wx5 (.slice a0 1 c0) [fs 0]) := F0.out.later hbb
      replace z1 : wx5.cell? ⟨g, 1, none⟩ = some (.slice a1 1 c1) := box_cell hbb z1
      replace F1 : Hid (Fs wx5 (.slice a1 1 c1) [fs 1]) := F1.out.later hbb
      replace z2 : wx5.cell? ⟨g, 2, none⟩ = some (.slice a2 1 c2) := box_cell hbb z2
      replace F2 : Hid (Fs wx5 (.slice a2 1 c2) [fs 2]) := F2.out.later hbb
      replace z3 : wx5.cell? ⟨g, 3, none⟩ = some (.slice a3 1 c3) := box_cell hbb z3
      replace F3 : Hid (Fs wx5 (.slice a3 1 c3) [fs 3]) := F3.out.later hbb
      replace z4 : wx5.cell? ⟨g, 4, none⟩ = some (.slice a4 1 c4) := box_cell hbb z4
      replace F4 : Hid (Fs wx5 (.slice a4 1 c4) [fs 4]) := F4.out.later hbb
      replace z5 : wx5.cell? ⟨g, 5, none⟩ = some (.slice a5 1 c5) := box_cell hbb z5
      replace F5 : Hid (Fs wx5 (.slice a5 1 c5) [fs 5]) := F5.out.later hbb
      replace HR : Hid (Below w.heap.size w wx5) := below_step HR.out hbb
      replace NN : Hid (NR B fs wx5 (.slice (some ⟨g2, 0, none⟩) 6 cap2) 6 dv) := NN.out.later hbb
      replace G2 : Hid (Fs wx5 (.slice m2 n2 k2) l2) := G2.out.later hbb
      replace G4 : Hid (Fs wx5 (.slice m4 n4 k4) l4) := G4.out.later hbb
      clear hbb
      go_wp2_with fail
      refine wp_region_held_drew (S := (fun W => W.cell? ⟨g, 0, none⟩ = some (.slice a0 1 c0) ∧ W.cell? ⟨g, 1, none⟩ = some (.slice a1 1 c1) ∧ W.cell? ⟨g, 2, none⟩ = some (.slice a2 1 c2) ∧ W.cell? ⟨g, 3, none⟩ = some (.slice a3 1 c3) ∧ W.cell? ⟨g, 4, none⟩ = some (.slice a4 1 c4) ∧ W.cell? ⟨g, 5, none⟩ = some (.slice a5 1 c5) ∧ Below wx5.heap.size wx5 W)) (by kernel_rfl) ⟨z0, z1, z2, z3, z4, z5, (Below.refl _ _).drew⟩ (fun hS => ?_)
      refine take_at (i := 0) (d := some 92) (v := .slice (some ⟨g, 0, none⟩) 6 cap) (by kernel_rfl) (by kernel_rfl) (by kernel_rfl) (by kernel_rfl) (fun _ _ _ h => h) ?_ hS ?_
      · intro o ho
        simp only [List.getElem?_toArray, List.getElem?_cons_zero, Option.some.injEq] at ho
        subst ho
        refine Or.inl ⟨by rfl, ?_⟩
        intro w hSw
        (try dsimp only at hSw)
        go_simp
      simp only [Act.put, List.setIfInBounds_toArray, List.set_cons_zero, List.set_cons_succ]
      refine take_at (i := 1) (d := some 93) (v := .pointer (some ⟨g, 4, none⟩)) (by kernel_rfl) (by kernel_rfl) (by kernel_rfl) (by kernel_rfl) (fun _ _ _ h => h) ?_ hS ?_
      · intro o ho
        simp only [List.getElem?_toArray, List.getElem?_cons_succ, List.getElem?_cons_zero, Option.some.injEq] at ho
        subst ho
        refine Or.inl ⟨by rfl, ?_⟩
        intro w hSw
        (try dsimp only at hSw)
        go_simp
      simp only [Act.put, List.setIfInBounds_toArray, List.set_cons_zero, List.set_cons_succ]
      refine take_at (i := 2) (d := some 94) (v := .slice a4 1 c4) (by kernel_rfl) (by kernel_rfl) (by kernel_rfl) (by kernel_rfl) (fun _ _ _ h => h) ?_ hS ?_
      · intro o ho
        simp only [List.getElem?_toArray, List.getElem?_cons_succ, List.getElem?_cons_zero, Option.some.injEq] at ho
        subst ho
        refine Or.inl ⟨by rfl, ?_⟩
        intro w hSw
        (try dsimp only at hSw)
        go_simp
      simp only [Act.put, List.setIfInBounds_toArray, List.set_cons_zero, List.set_cons_succ]
      refine take_at (i := 3) (d := some 95) (v := .slice (some ⟨g, 0, none⟩) 6 cap) (by kernel_rfl) (by kernel_rfl) (by kernel_rfl) (by kernel_rfl) (fun _ _ _ h => h) ?_ hS ?_
      · intro o ho
        simp only [List.getElem?_toArray, List.getElem?_cons_succ, List.getElem?_cons_zero, Option.some.injEq] at ho
        subst ho
        refine Or.inl ⟨by rfl, ?_⟩
        intro w hSw
        (try dsimp only at hSw)
        go_simp
      simp only [Act.put, List.setIfInBounds_toArray, List.set_cons_zero, List.set_cons_succ]
      refine take_at (i := 4) (d := some 96) (v := .pointer (some ⟨g, 5, none⟩)) (by kernel_rfl) (by kernel_rfl) (by kernel_rfl) (by kernel_rfl) (fun _ _ _ h => h) ?_ hS ?_
      · intro o ho
        simp only [List.getElem?_toArray, List.getElem?_cons_succ, List.getElem?_cons_zero, Option.some.injEq] at ho
        subst ho
        refine Or.inl ⟨by rfl, ?_⟩
        intro w hSw
        (try dsimp only at hSw)
        go_simp
      simp only [Act.put, List.setIfInBounds_toArray, List.set_cons_zero, List.set_cons_succ]
      refine take_at (i := 5) (d := some 97) (v := .slice a5 1 c5) (by kernel_rfl) (by kernel_rfl) (by kernel_rfl) (by kernel_rfl) (fun _ _ _ h => h) ?_ hS ?_
      · intro o ho
        simp only [List.getElem?_toArray, List.getElem?_cons_succ, List.getElem?_cons_zero, Option.some.injEq] at ho
        subst ho
        refine Or.inl ⟨by rfl, ?_⟩
        intro w hSw
        (try dsimp only at hSw)
        go_simp
      simp only [Act.put, List.setIfInBounds_toArray, List.set_cons_zero, List.set_cons_succ]
      refine call_at 6 (by kernel_rfl) (by kernel_rfl) ?_
      intro o ho
      simp only [List.getElem?_toArray, List.getElem?_cons_succ, List.getElem?_cons_zero, Option.some.injEq] at ho
      subst ho
      intro KF hK
      go_simp
      refine (mulM_any 922 1174 922 1174 770 1274 _ _ _ _ _ _ _ (F4.out.later hS.2.2.2.2.2.2) (F5.out.later hS.2.2.2.2.2.2) N4.out N5.out (by omega) (by omega) (by omega) (by omega)).mono ?_
      rintro e wx6 ⟨⟨v6, l6, rfl, hF, hN⟩, hbx⟩
      obtain ⟨m6, n6, k6, rfl⟩ := hF.shapeV
      have G6 : Hid (Fs wx6 (.slice m6 n6 k6) l6) := hF
      have P6 : Hid (NM 770 1274 (fval (fs 4) * fval (fs 5)) l6) := hN
      clear hF hN
      go_wp2_with fail
      refine hK.out _ _ ⟨box_cell hbx hS.1, box_cell hbx hS.2.1, box_cell hbx hS.2.2.1, box_cell hbx hS.2.2.2.1, box_cell hbx hS.2.2.2.2.1, box_cell hbx hS.2.2.2.2.2.1, below_step hS.2.2.2.2.2.2 hbx⟩ ?_
      clear hS hbx
      intro hS
      clear hK KF
      try simp only [Act.put, List.setIfInBounds_toArray, List.set_cons_zero, List.set_cons_succ]
      refine take_at (i := 7) (d := some 91) (v := .tuple #[.slice m6 n6 k6, .bool true]) (by kernel_rfl) (by kernel_rfl) (by kernel_rfl) (by kernel_rfl) (fun _ _ _ h => h) ?_ hS ?_
      · intro o ho
        simp only [List.getElem?_toArray, List.getElem?_cons_succ, List.getElem?_cons_zero, Option.some.injEq] at ho
        subst ho
        refine Or.inl ⟨by rfl, ?_⟩
        intro w hSw
        (try dsimp only at hSw)
        go_simp
      simp only [Act.put, List.setIfInBounds_toArray, List.set_cons_zero, List.set_cons_succ]
      refine take_at (i := 8) (d := some 99) (v := .slice m6 n6 k6) (by kernel_rfl) (by kernel_rfl) (by kernel_rfl) (by kernel_rfl) (fun _ _ _ h => h) ?_ hS ?_
      · intro o ho
        simp only [List.getElem?_toArray, List.getElem?_cons_succ, List.getElem?_cons_zero, Option.some.injEq] at ho
        subst ho
        refine Or.inl ⟨by rfl, ?_⟩
        intro w hSw
        (try dsimp only at hSw)
        go_simp
      simp only [Act.put, List.setIfInBounds_toArray, List.set_cons_zero, List.set_cons_succ]
      refine take_at (i := 9) (d := some 100) (v := .bool true) (by kernel_rfl) (by kernel_rfl) (by kernel_rfl) (by kernel_rfl) (fun _ _ _ h => h) ?_ hS ?_
      · intro o ho
        simp only [List.getElem?_toArray, List.getElem?_cons_succ, List.getElem?_cons_zero, Option.some.injEq] at ho
        subst ho
        refine Or.inl ⟨by rfl, ?_⟩
        intro w hSw
        (try dsimp only at hSw)
        go_simp
      simp only [Act.put, List.setIfInBounds_toArray, List.set_cons_zero, List.set_cons_succ]
      refine take_at (i := 10) (d := some 15) (v := .slice m6 n6 k6) (by kernel_rfl) (by kernel_rfl) (by kernel_rfl) (by kernel_rfl) (fun _ _ _ h => h) ?_ hS ?_
      · intro o ho
        simp only [List.getElem?_toArray, List.getElem?_cons_succ, List.getElem?_cons_zero, Option.some.injEq] at ho
        subst ho
        refine Or.inl ⟨by rfl, ?_⟩
        intro w hSw
        (try dsimp only at hSw)
        go_simp
      simp only [Act.put, List.setIfInBounds_toArray, List.set_cons_zero, List.set_cons_succ]
      refine take_at (i := 11) (d := some 16) (v := .bool true) (by kernel_rfl) (by kernel_rfl) (by kernel_rfl) (by kernel_rfl) (fun _ _ _ h => h) ?_ hS ?_
      · intro o ho
        simp only [List.getElem?_toArray, List.getElem?_cons_succ, List.getElem?_cons_zero, Option.some.injEq] at ho
        subst ho
        refine Or.inl ⟨by rfl, ?_⟩
        intro w hSw
        (try dsimp only at hSw)
        go_simp
      simp only [Act.put, List.setIfInBounds_toArray, List.set_cons_zero, List.set_cons_succ]
      refine wpAnyH_done (by kernel_rfl) ?_ _
      have hbb := hS.2.2.2.2.2.2
      clear hS
      replace z0 : wx6.cell? ⟨g, 0, none⟩ = some (.slice a0 1 c0) := box_cell hbb z0
      replace F0 : Hid (Fs wx6 (.slice a0 1 c0) [fs 0]) := F0.out.later hbb
      replace z1 : wx6.cell? ⟨g, 1, none⟩ = some (.slice a1 1 c1) := box_cell hbb z1
      replace F1 : Hid (Fs wx6 (.slice a1 1 c1) [fs 1]) := F1.out.later hbb
      replace z2 : wx6.cell? ⟨g, 2, none⟩ = some (.slice a2 1 c2) := box_cell hbb z2
      replace F2 : Hid (Fs wx6 (.slice a2 1 c2) [fs 2]) := F2.out.later hbb
      replace z3 : wx6.cell? ⟨g, 3, none⟩ = some (.slice a3 1 c3) := box_cell hbb z3
      replace F3 : Hid (Fs wx6 (.slice a3 1 c3) [fs 3]) := F3.out.later hbb
      replace z4 : wx6.cell? ⟨g, 4, none⟩ = some (.slice a4 1 c4) := box_cell hbb z4
      replace F4 : Hid (Fs wx6 (.slice a4 1 c4) [fs 4]) := F4.out.later hbb
      replace z5 : wx6.cell? ⟨g, 5, none⟩ = some (.slice a5 1 c5) := box_cell hbb z5
      replace F5 : Hid (Fs wx6 (.slice a5 1 c5) [fs 5]) := F5.out.later hbb
      replace HR : Hid (Below w.heap.size w wx6) := below_step HR.out hbb
      replace NN : Hid (NR B fs wx6 (.slice (some ⟨g2, 0, none⟩) 6 cap2) 6 dv) := NN.out.later hbb
      replace G2 : Hid (Fs wx6 (.slice m2 n2 k2) l2) := G2.out.later hbb
      replace G4 : Hid (Fs wx6 (.slice m4 n4 k4) l4) := G4.out.later hbb
      replace G5 : Hid (Fs wx6 (.slice m5 n5 k5) l5) := G5.out.later hbb
      clear hbb
      go_wp2_with fail
      refine (negM_any 770 1274 _ _ _ _ G6.out P6.out).mono ?_
      rintro e wx7 ⟨⟨v7, l7, rfl, hF, hN⟩, hbb⟩
      obtain ⟨m7, n7, k7, rfl⟩ := hF.shapeV
      have G7 : Hid (Fs wx7 (.slice m7 n7 k7) l7) := hF
      have P7 : Hid (NM 770 1274 (-(fval (fs 4) * fval (fs 5))) l7) := hN
      clear hF hN
      replace z0 : wx7.cell? ⟨g, 0, none⟩ = some (.slice a0 1 c0) := box_cell hbb z0
      replace F0 : Hid (Fs wx7 (.slice a0 1 c0) [fs 0]) := F0.out.later hbb
      replace z1 : wx7.cell? ⟨g, 1, none⟩ = some (.slice a1 1 c1) := box_cell hbb z1
      replace F1 : Hid (Fs wx7 (.slice a1 1 c1) [fs 1]) := F1.out.later hbb
      replace z2 : wx7.cell? ⟨g, 2, none⟩ = some (.slice a2 1 c2) := box_cell hbb z2
      replace F2 : Hid (Fs wx7 (.slice a2 1 c2) [fs 2]) := F2.out.later hbb
      replace z3 : wx7.cell? ⟨g, 3, none⟩ = some (.slice a3 1 c3) := box_cell hbb z3
      replace F3 : Hid (Fs wx7 (.slice a3 1 c3) [fs 3]) := F3.out.later hbb
      replace z4 : wx7.cell? ⟨g, 4, none⟩ = some (.slice a4 1 c4) := box_cell hbb z4
      replace F4 : Hid (Fs wx7 (.slice a4 1 c4) [fs 4]) := F4.out.later hbb
      replace z5 : wx7.cell? ⟨g, 5, none⟩ = some (.slice a5 1 c5) := box_cell hbb z5
      replace F5 : Hid (Fs wx7 (.slice a5 1 c5) [fs 5]) := F5.out.later hbb
      replace HR : Hid (Below w.heap.size w wx7) := below_step HR.out hbb
      replace NN : Hid (NR B fs wx7 (.slice (some ⟨g2, 0, none⟩) 6 cap2) 6 dv) := NN.out.later hbb
      replace G2 : Hid (Fs wx7 (.slice m2 n2 k2) l2) := G2.out.later hbb
      replace G4 : Hid (Fs wx7 (.slice m4 n4 k4) l4) := G4.out.later hbb
      replace G5 : Hid (Fs wx7 (.slice m5 n5 k5) l5) := G5.out.later hbb
      replace G6 : Hid (Fs wx7 (.slice m6 n6 k6) l6) := G6.out.later hbb
      clear hbb
      go_wp2_with fail
      refine (addM_any 770 1276 _ _ _ _ _ _ _ G5.out G7.out P5.out (P7.out.mono (by omega)) (by omega) (by omega)).mono ?_
      rintro e wx8 ⟨⟨v8, l8, rfl, hF, hN⟩, hbb⟩
      obtain ⟨m8, n8, k8, rfl⟩ := hF.shapeV
      have G8 : Hid (Fs wx8 (.slice m8 n8 k8) l8) := hF
      have P8 : Hid (NM 770 1277 ((fval (fs 0) + -fval (fs 1)) * (fval (fs 2) + -fval (fs 3)) + -(fval (fs 4) * fval (fs 5))) l8) := hN
      clear hF hN
      replace z0 : wx8.cell? ⟨g, 0, none⟩ = some (.slice a0 1 c0) := box_cell hbb z0
      replace F0 : Hid (Fs wx8 (.slice a0 1 c0) [fs 0]) := F0.out.later hbb
      replace z1 : wx8.cell? ⟨g, 1, none⟩ = some (.slice a1 1 c1) := box_cell hbb z1
      replace F1 : Hid (Fs wx8 (.slice a1 1 c1) [fs 1]) := F1.out.later hbb
      replace z2 : wx8.cell? ⟨g, 2, none⟩ = some (.slice a2 1 c2) := box_cell hbb z2
      replace F2 : Hid (Fs wx8 (.slice a2 1 c2) [fs 2]) := F2.out.later hbb
      replace z3 : wx8.cell? ⟨g, 3, none⟩ = some (.slice a3 1 c3) := box_cell hbb z3
      replace F3 : Hid (Fs wx8 (.slice a3 1 c3) [fs 3]) := F3.out.later hbb
      replace z4 : wx8.cell? ⟨g, 4, none⟩ = some (.slice a4 1 c4) := box_cell hbb z4
      replace F4 : Hid (Fs wx8 (.slice a4 1 c4) [fs 4]) := F4.out.later hbb
      replace z5 : wx8.cell? ⟨g, 5, none⟩ = some (.slice a5 1 c5) := box_cell hbb z5
      replace F5 : Hid (Fs wx8 (.slice a5 1 c5) [fs 5]) := F5.out.later hbb
      replace HR : Hid (Below w.heap.size w wx8) := below_step HR.out hbb
      replace NN : Hid (NR B fs wx8 (.slice (some ⟨g2, 0, none⟩) 6 cap2) 6 dv) := NN.out.later hbb
      replace G2 : Hid (Fs wx8 (.slice m2 n2 k2) l2) := G2.out.later hbb
      replace G4 : Hid (Fs wx8 (.slice m4 n4 k4) l4) := G4.out.later hbb
      replace G5 : Hid (Fs wx8 (.slice m5 n5 k5) l5) := G5.out.later hbb
      replace G6 : Hid (Fs wx8 (.slice m6 n6 k6) l6) := G6.out.later hbb
      replace G7 : Hid (Fs wx8 (.slice m7 n7 k7) l7) := G7.out.later hbb
      clear hbb
      clear z0 z1 z2 z3 z4 z5
      have y0 : wx8.cell? ⟨g2, 0, none⟩ = some (.slice (dv 0).a (dv 0).n (dv 0).c) := row_cell NN.out.own 0 _ rfl
      have y1 : wx8.cell? ⟨g2, 1, none⟩ = some (.int .i64 (dv 0).low) := row_cell NN.out.own 1 _ rfl
      have y2 : wx8.cell? ⟨g2, 2, none⟩ = some (.bool (dv 0).neg) := row_cell NN.out.own 2 _ rfl
      have y3 : wx8.cell? ⟨g2, 3, none⟩ = some (.bool (dv 0).nn) := row_cell NN.out.own 3 _ rfl
      have y4 : wx8.cell? ⟨g2, 4, none⟩ = some (.slice (dv 1).a (dv 1).n (dv 1).c) := row_cell NN.out.own 4 _ rfl
      have y5 : wx8.cell? ⟨g2, 5, none⟩ = some (.int .i64 (dv 1).low) := row_cell NN.out.own 5 _ rfl
      have y6 : wx8.cell? ⟨g2, 6, none⟩ = some (.bool (dv 1).neg) := row_cell NN.out.own 6 _ rfl
      have y7 : wx8.cell? ⟨g2, 7, none⟩ = some (.bool (dv 1).nn) := row_cell NN.out.own 7 _ rfl
      have y8 : wx8.cell? ⟨g2, 8, none⟩ = some (.slice (dv 2).a (dv 2).n (dv 2).c) := row_cell NN.out.own 8 _ rfl
      have y9 : wx8.cell? ⟨g2, 9, none⟩ = some (.int .i64 (dv 2).low) := row_cell NN.out.own 9 _ rfl
      have y10 : wx8.cell? ⟨g2, 10, none⟩ = some (.bool (dv 2).neg) := row_cell NN.out.own 10 _ rfl
      have y11 : wx8.cell? ⟨g2, 11, none⟩ = some (.bool (dv 2).nn) := row_cell NN.out.own 11 _ rfl
      have y12 : wx8.cell? ⟨g2, 12, none⟩ = some (.slice (dv 3).a (dv 3).n (dv 3).c) := row_cell NN.out.own 12 _ rfl
      have y13 : wx8.cell? ⟨g2, 13, none⟩ = some (.int .i64 (dv 3).low) := row_cell NN.out.own 13 _ rfl
      have y14 : wx8.cell? ⟨g2, 14, none⟩ = some (.bool (dv 3).neg) := row_cell NN.out.own 14 _ rfl
      have y15 : wx8.cell? ⟨g2, 15, none⟩ = some (.bool (dv 3).nn) := row_cell NN.out.own 15 _ rfl
      have y16 : wx8.cell? ⟨g2, 16, none⟩ = some (.slice (dv 4).a (dv 4).n (dv 4).c) := row_cell NN.out.own 16 _ rfl
      have y17 : wx8.cell? ⟨g2, 17, none⟩ = some (.int .i64 (dv 4).low) := row_cell NN.out.own 17 _ rfl
      have y18 : wx8.cell? ⟨g2, 18, none⟩ = some (.bool (dv 4).neg) := row_cell NN.out.own 18 _ rfl
      have y19 : wx8.cell? ⟨g2, 19, none⟩ = some (.bool (dv 4).nn) := row_cell NN.out.own 19 _ rfl
      have y20 : wx8.cell? ⟨g2, 20, none⟩ = some (.slice (dv 5).a (dv 5).n (dv 5).c) := row_cell NN.out.own 20 _ rfl
      have y21 : wx8.cell? ⟨g2, 21, none⟩ = some (.int .i64 (dv 5).low) := row_cell NN.out.own 21 _ rfl
      have y22 : wx8.cell? ⟨g2, 22, none⟩ = some (.bool (dv 5).neg) := row_cell NN.out.own 22 _ rfl
      have y23 : wx8.cell? ⟨g2, 23, none⟩ = some (.bool (dv 5).nn) := row_cell NN.out.own 23 _ rfl
      have M0 : Hid (IsNum wx8 (dv 0).ag (some (fval (fs 0)))) := NN.out.nu 0 (by omega)
      have D0 : Hid (Bd 1100 (-1074) (fval (fs 0))) := (RG.out 0 (by omega)).bd
      have M1 : Hid (IsNum wx8 (dv 1).ag (some (fval (fs 1)))) := NN.out.nu 1 (by omega)
      have D1 : Hid (Bd 1100 (-1074) (fval (fs 1))) := (RG.out 1 (by omega)).bd
      have M2 : Hid (IsNum wx8 (dv 2).ag (some (fval (fs 2)))) := NN.out.nu 2 (by omega)
      have D2 : Hid (Bd 1100 (-1074) (fval (fs 2))) := (RG.out 2 (by omega)).bd
      have M3 : Hid (IsNum wx8 (dv 3).ag (some (fval (fs 3)))) := NN.out.nu 3 (by omega)
      have D3 : Hid (Bd 1100 (-1074) (fval (fs 3))) := (RG.out 3 (by omega)).bd
      have M4 : Hid (IsNum wx8 (dv 4).ag (some (fval (fs 4)))) := NN.out.nu 4 (by omega)
      have D4 : Hid (Bd 1100 (-1074) (fval (fs 4))) := (RG.out 4 (by omega)).bd
      have M5 : Hid (IsNum wx8 (dv 5).ag (some (fval (fs 5)))) := NN.out.nu 5 (by omega)
      have D5 : Hid (Bd 1100 (-1074) (fval (fs 5))) := (RG.out 5 (by omega)).bd
      have HG2 : Hid (g2 < wx8.heap.size) := World.block_lt_of_cell? _ _ y0
      go_wp2_with fail
      refine wp_region_held_drew (S := (fun W => W.cell? ⟨g2, 0, none⟩ = some (.slice (dv 0).a (dv 0).n (dv 0).c) ∧ W.cell? ⟨g2, 1, none⟩ = some (.int .i64 (dv 0).low) ∧ W.cell? ⟨g2, 2, none⟩ = some (.bool (dv 0).neg) ∧ W.cell? ⟨g2, 3, none⟩ = some (.bool (dv 0).nn) ∧ W.cell? ⟨g2, 4, none⟩ = some (.slice (dv 1).a (dv 1).n (dv 1).c) ∧ W.cell? ⟨g2, 5, none⟩ = some (.int .i64 (dv 1).low) ∧ W.cell? ⟨g2, 6, none⟩ = some (.bool (dv 1).neg) ∧ W.cell? ⟨g2, 7, none⟩ = some (.bool (dv 1).nn) ∧ W.cell? ⟨g2, 8, none⟩ = some (.slice (dv 2).a (dv 2).n (dv 2).c) ∧ W.cell? ⟨g2, 9, none⟩ = some (.int .i64 (dv 2).low) ∧ W.cell? ⟨g2, 10, none⟩ = some (.bool (dv 2).neg) ∧ W.cell? ⟨g2, 11, none⟩ = some (.bool (dv 2).nn) ∧ W.cell? ⟨g2, 12, none⟩ = some (.slice (dv 3).a (dv 3).n (dv 3).c) ∧ W.cell? ⟨g2, 13, none⟩ = some (.int .i64 (dv 3).low) ∧ W.cell? ⟨g2, 14, none⟩ = some (.bool (dv 3).neg) ∧ W.cell? ⟨g2, 15, none⟩ = some (.bool (dv 3).nn) ∧ W.cell? ⟨g2, 16, none⟩ = some (.slice (dv 4).a (dv 4).n (dv 4).c) ∧ W.cell? ⟨g2, 17, none⟩ = some (.int .i64 (dv 4).low) ∧ W.cell? ⟨g2, 18, none⟩ = some (.bool (dv 4).neg) ∧ W.cell? ⟨g2, 19, none⟩ = some (.bool (dv 4).nn) ∧ W.cell? ⟨g2, 20, none⟩ = some (.slice (dv 5).a (dv 5).n (dv 5).c) ∧ W.cell? ⟨g2, 21, none⟩ = some (.int .i64 (dv 5).low) ∧ W.cell? ⟨g2, 22, none⟩ = some (.bool (dv 5).neg) ∧ W.cell? ⟨g2, 23, none⟩ = some (.bool (dv 5).nn) ∧ Below wx8.heap.size wx8 W)) (by kernel_rfl) ⟨y0, y1, y2, y3, y4, y5, y6, y7, y8, y9, y10, y11, y12, y13, y14, y15, y16, y17, y18, y19, y20, y21, y22, y23, (Below.refl _ _).drew⟩ (fun hS => ?_)
      refine take_at (i := 0) (d := some 114) (v := .slice (some ⟨g2, 0, none⟩) 6 cap2) (by kernel_rfl) (by kernel_rfl) (by kernel_rfl) (by kernel_rfl) (fun _ _ _ h => h) ?_ hS ?_
      · intro o ho
        simp only [List.getElem?_toArray, List.getElem?_cons_zero, Option.some.injEq] at ho
        subst ho
        refine Or.inl ⟨by rfl, ?_⟩
        intro w hSw
        (try dsimp only at hSw)
        go_simp
      simp only [Act.put, List.setIfInBounds_toArray, List.set_cons_zero, List.set_cons_succ]
      refine take_at (i := 1) (d := some 115) (v := .pointer (some ⟨g2, 0, none⟩)) (by kernel_rfl) (by kernel_rfl) (by kernel_rfl) (by kernel_rfl) (fun _ _ _ h => h) ?_ hS ?_
      · intro o ho
        simp only [List.getElem?_toArray, List.getElem?_cons_succ, List.getElem?_cons_zero, Option.some.injEq] at ho
        subst ho
        refine Or.inl ⟨by rfl, ?_⟩
        intro w hSw
        (try dsimp only at hSw)
        go_simp
      simp only [Act.put, List.setIfInBounds_toArray, List.set_cons_zero, List.set_cons_succ]
      refine take_at (i := 2) (d := some 116) (v := .agg #[.slice (dv 0).a (dv 0).n (dv 0).c, .int .i64 (dv 0).low, .bool (dv 0).neg, .bool (dv 0).nn]) (by kernel_rfl) (by kernel_rfl) (by kernel_rfl) (by kernel_rfl) (fun _ _ _ h => h) ?_ hS ?_
      · intro o ho
        simp only [List.getElem?_toArray, List.getElem?_cons_succ, List.getElem?_cons_zero, Option.some.injEq] at ho
        subst ho
        refine Or.inl ⟨by rfl, ?_⟩
        intro w hSw
        (try dsimp only at hSw)
        go_simp
      simp only [Act.put, List.setIfInBounds_toArray, List.set_cons_zero, List.set_cons_succ]
      refine take_at (i := 3) (d := some 117) (v := .slice (some ⟨g2, 0, none⟩) 6 cap2) (by kernel_rfl) (by kernel_rfl) (by kernel_rfl) (by kernel_rfl) (fun _ _ _ h => h) ?_ hS ?_
      · intro o ho
        simp only [List.getElem?_toArray, List.getElem?_cons_succ, List.getElem?_cons_zero, Option.some.injEq] at ho
        subst ho
        refine Or.inl ⟨by rfl, ?_⟩
        intro w hSw
        (try dsimp only at hSw)
        go_simp
      simp only [Act.put, List.setIfInBounds_toArray, List.set_cons_zero, List.set_cons_succ]
      refine take_at (i := 4) (d := some 118) (v := .pointer (some ⟨g2, 4, none⟩)) (by kernel_rfl) (by kernel_rfl) (by kernel_rfl) (by kernel_rfl) (fun _ _ _ h => h) ?_ hS ?_
      · intro o ho
        simp only [List.getElem?_toArray, List.getElem?_cons_succ, List.getElem?_cons_zero, Option.some.injEq] at ho
        subst ho
        refine Or.inl ⟨by rfl, ?_⟩
        intro w hSw
        (try dsimp only at hSw)
        go_simp
      simp only [Act.put, List.setIfInBounds_toArray, List.set_cons_zero, List.set_cons_succ]
      refine take_at (i := 5) (d := some 119) (v := .agg #[.slice (dv 1).a (dv 1).n (dv 1).c, .int .i64 (dv 1).low, .bool (dv 1).neg, .bool (dv 1).nn]) (by kernel_rfl) (by kernel_rfl) (by kernel_rfl) (by kernel_rfl) (fun _ _ _ h => h) ?_ hS ?_
      · intro o ho
        simp only [List.getElem?_toArray, List.getElem?_cons_succ, List.getElem?_cons_zero, Option.some.injEq] at ho
        subst ho
        refine Or.inl ⟨by rfl, ?_⟩
        intro w hSw
        (try dsimp only at hSw)
        go_simp
      simp only [Act.put, List.setIfInBounds_toArray, List.set_cons_zero, List.set_cons_succ]
      refine take_at (i := 7) (d := some 121) (v := .slice (some ⟨g2, 0, none⟩) 6 cap2) (by kernel_rfl) (by kernel_rfl) (by kernel_rfl) (by kernel_rfl) (fun _ _ _ h => h) ?_ hS ?_
      · intro o ho
        simp only [List.getElem?_toArray, List.getElem?_cons_succ, List.getElem?_cons_zero, Option.some.injEq] at ho
        subst ho
        refine Or.inl ⟨by rfl, ?_⟩
        intro w hSw
        (try dsimp only at hSw)
        go_simp
      simp only [Act.put, List.setIfInBounds_toArray, List.set_cons_zero, List.set_cons_succ]
      refine take_at (i := 8) (d := some 122) (v := .pointer (some ⟨g2, 8, none⟩)) (by kernel_rfl) (by kernel_rfl) (by kernel_rfl) (by kernel_rfl) (fun _ _ _ h => h) ?_ hS ?_
      · intro o ho
        simp only [List.getElem?_toArray, List.getElem?_cons_succ, List.getElem?_cons_zero, Option.some.injEq] at ho
        subst ho
        refine Or.inl ⟨by rfl, ?_⟩
        intro w hSw
        (try dsimp only at hSw)
        go_simp
      simp only [Act.put, List.setIfInBounds_toArray, List.set_cons_zero, List.set_cons_succ]
      refine take_at (i := 9) (d := some 123) (v := .agg #[.slice (dv 2).a (dv 2).n (dv 2).c, .int .i64 (dv 2).low, .bool (dv 2).neg, .bool (dv 2).nn]) (by kernel_rfl) (by kernel_rfl) (by kernel_rfl) (by kernel_rfl) (fun _ _ _ h => h) ?_ hS ?_
      · intro o ho
        simp only [List.getElem?_toArray, List.getElem?_cons_succ, List.getElem?_cons_zero, Option.some.injEq] at ho
        subst ho
        refine Or.inl ⟨by rfl, ?_⟩
        intro w hSw
        (try dsimp only at hSw)
        go_simp
      simp only [Act.put, List.setIfInBounds_toArray, List.set_cons_zero, List.set_cons_succ]
      refine take_at (i := 10) (d := some 124) (v := .slice (some ⟨g2, 0, none⟩) 6 cap2) (by kernel_rfl) (by kernel_rfl) (by kernel_rfl) (by kernel_rfl) (fun _ _ _ h => h) ?_ hS ?_
      · intro o ho
        simp only [List.getElem?_toArray, List.getElem?_cons_succ, List.getElem?_cons_zero, Option.some.injEq] at ho
        subst ho
        refine Or.inl ⟨by rfl, ?_⟩
        intro w hSw
        (try dsimp only at hSw)
        go_simp
      simp only [Act.put, List.setIfInBounds_toArray, List.set_cons_zero, List.set_cons_succ]
      refine take_at (i := 11) (d := some 125) (v := .pointer (some ⟨g2, 12, none⟩)) (by kernel_rfl) (by kernel_rfl) (by kernel_rfl) (by kernel_rfl) (fun _ _ _ h => h) ?_ hS ?_
      · intro o ho
        simp only [List.getElem?_toArray, List.getElem?_cons_succ, List.getElem?_cons_zero, Option.some.injEq] at ho
        subst ho
        refine Or.inl ⟨by rfl, ?_⟩
        intro w hSw
        (try dsimp only at hSw)
        go_simp
      simp only [Act.put, List.setIfInBounds_toArray, List.set_cons_zero, List.set_cons_succ]
      refine take_at (i := 12) (d := some 126) (v := .agg #[.slice (dv 3).a (dv 3).n (dv 3).c, .int .i64 (dv 3).low, .bool (dv 3).neg, .bool (dv 3).nn]) (by kernel_rfl) (by kernel_rfl) (by kernel_rfl) (by kernel_rfl) (fun _ _ _ h => h) ?_ hS ?_
      · intro o ho
        simp only [List.getElem?_toArray, List.getElem?_cons_succ, List.getElem?_cons_zero, Option.some.injEq] at ho
        subst ho
        refine Or.inl ⟨by rfl, ?_⟩
        intro w hSw
        (try dsimp only at hSw)
        go_simp
      simp only [Act.put, List.setIfInBounds_toArray, List.set_cons_zero, List.set_cons_succ]
      refine take_at (i := 15) (d := some 129) (v := .slice (some ⟨g2, 0, none⟩) 6 cap2) (by kernel_rfl) (by kernel_rfl) (by kernel_rfl) (by kernel_rfl) (fun _ _ _ h => h) ?_ hS ?_
      · intro o ho
        simp only [List.getElem?_toArray, List.getElem?_cons_succ, List.getElem?_cons_zero, Option.some.injEq] at ho
        subst ho
        refine Or.inl ⟨by rfl, ?_⟩
        intro w hSw
        (try dsimp only at hSw)
        go_simp
      simp only [Act.put, List.setIfInBounds_toArray, List.set_cons_zero, List.set_cons_succ]
      refine take_at (i := 16) (d := some 130) (v := .pointer (some ⟨g2, 16, none⟩)) (by kernel_rfl) (by kernel_rfl) (by kernel_rfl) (by kernel_rfl) (fun _ _ _ h => h) ?_ hS ?_
      · intro o ho
        simp only [List.getElem?_toArray, List.getElem?_cons_succ, List.getElem?_cons_zero, Option.some.injEq] at ho
        subst ho
        refine Or.inl ⟨by rfl, ?_⟩
        intro w hSw
        (try dsimp only at hSw)
        go_simp
      simp only [Act.put, List.setIfInBounds_toArray, List.set_cons_zero, List.set_cons_succ]
      refine take_at (i := 17) (d := some 131) (v := .agg #[.slice (dv 4).a (dv 4).n (dv 4).c, .int .i64 (dv 4).low, .bool (dv 4).neg, .bool (dv 4).nn]) (by kernel_rfl) (by kernel_rfl) (by kernel_rfl) (by kernel_rfl) (fun _ _ _ h => h) ?_ hS ?_
      · intro o ho
        simp only [List.getElem?_toArray, List.getElem?_cons_succ, List.getElem?_cons_zero, Option.some.injEq] at ho
        subst ho
        refine Or.inl ⟨by rfl, ?_⟩
        intro w hSw
        (try dsimp only at hSw)
        go_simp
      simp only [Act.put, List.setIfInBounds_toArray, List.set_cons_zero, List.set_cons_succ]
      refine take_at (i := 18) (d := some 132) (v := .slice (some ⟨g2, 0, none⟩) 6 cap2) (by kernel_rfl) (by kernel_rfl) (by kernel_rfl) (by kernel_rfl) (fun _ _ _ h => h) ?_ hS ?_
      · intro o ho
        simp only [List.getElem?_toArray, List.getElem?_cons_succ, List.getElem?_cons_zero, Option.some.injEq] at ho
        subst ho
        refine Or.inl ⟨by rfl, ?_⟩
        intro w hSw
        (try dsimp only at hSw)
        go_simp
      simp only [Act.put, List.setIfInBounds_toArray, List.set_cons_zero, List.set_cons_succ]
      refine take_at (i := 19) (d := some 133) (v := .pointer (some ⟨g2, 20, none⟩)) (by kernel_rfl) (by kernel_rfl) (by kernel_rfl) (by kernel_rfl) (fun _ _ _ h => h) ?_ hS ?_
      · intro o ho
        simp only [List.getElem?_toArray, List.getElem?_cons_succ, List.getElem?_cons_zero, Option.some.injEq] at ho
        subst ho
        refine Or.inl ⟨by rfl, ?_⟩
        intro w hSw
        (try dsimp only at hSw)
        go_simp
      simp only [Act.put, List.setIfInBounds_toArray, List.set_cons_zero, List.set_cons_succ]
      refine take_at (i := 20) (d := some 134) (v := .agg #[.slice (dv 5).a (dv 5).n (dv 5).c, .int .i64 (dv 5).low, .bool (dv 5).neg, .bool (dv 5).nn]) (by kernel_rfl) (by kernel_rfl) (by kernel_rfl) (by kernel_rfl) (fun _ _ _ h => h) ?_ hS ?_
      · intro o ho
        simp only [List.getElem?_toArray, List.getElem?_cons_succ, List.getElem?_cons_zero, Option.some.injEq] at ho
        subst ho
        refine Or.inl ⟨by rfl, ?_⟩
        intro w hSw
        (try dsimp only at hSw)
        go_simp
      simp only [Act.put, List.setIfInBounds_toArray, List.set_cons_zero, List.set_cons_succ]
      refine draw1 (f := 1) (n := 5) (al := 23) (fun k => if k = 0 then 6 else if k = 1 then 13 else if k = 2 then 14 else if k = 3 then 21 else 22) (fun (x : Bool) (k : Nat) => #[true, true, true, true, true, true, decide (1 ≤ k), true, true, true, true, true, true, decide (2 ≤ k), decide (3 ≤ k), true, true, true, true, true, true, decide (4 ≤ k), decide (5 ≤ k), x, false]) (fun (x : Bool) (k : Nat) (a : Act) (W : World) => ∃ (v19 h1 h2 h3 h4 h5 : Value) (b : Nat), a = { tmps := #[.agg #[.float .f64 f0, .float .f64 f1, .float .f64 f2, .float .f64 f3, .float .f64 f4, .float .f64 f5], .pointer (some ⟨w.heap.size, 0, none⟩), u2, .slice (some ⟨g, 0, none⟩) 6 cap, .slice (some ⟨g2, 0, none⟩) 6 cap2, .int .i64 6, u6, u7, u8, .slice m2 n2 k2, .bool true, .slice m4 n4 k4, .bool true, .slice m5 n5 k5, .bool true, .slice m6 n6 k6, .bool true, .slice m8 n8 k8, .bool true, v19, .bool true, .bool false, .int .i64 6, .bool false, u24, u25, u26, u27, u28, u29, u30, u31, u32, u33, u34, u35, u36, u37, u38, u39, u40, u41, u42, u43, u44, u45, u46, u47, u48, u49, u50, u51, u52, u53, u54, u55, u56, .tuple #[.slice m2 n2 k2, .bool true], .slice (some ⟨g, 0, none⟩) 6 cap, .pointer (some ⟨g, 0, none⟩), .slice a0 1 c0, .slice (some ⟨g, 0, none⟩) 6 cap, .pointer (some ⟨g, 1, none⟩), .slice a1 1 c1, .slice m1 n1 k1, .tuple #[.slice m2 n2 k2, .bool true], .slice m2 n2 k2, .bool true, .tuple #[.slice m4 n4 k4, .bool true], .slice (some ⟨g, 0, none⟩) 6 cap, .pointer (some ⟨g, 2, none⟩), .slice a2 1 c2, .slice (some ⟨g, 0, none⟩) 6 cap, .pointer (some ⟨g, 3, none⟩), .slice a3 1 c3, .slice m3 n3 k3, .tuple #[.slice m4 n4 k4, .bool true], .slice m4 n4 k4, .bool true, .bool true, .bool false, .bool false, .bool true, .bool false, .bool false, .tuple #[.slice m5 n5 k5, .bool true], .slice m2 n2 k2, .slice m4 n4 k4, .tuple #[.slice m5 n5 k5, .bool true], .slice m5 n5 k5, .bool true, .tuple #[.slice m6 n6 k6, .bool true], .slice (some ⟨g, 0, none⟩) 6 cap, .pointer (some ⟨g, 4, none⟩), .slice a4 1 c4, .slice (some ⟨g, 0, none⟩) 6 cap, .pointer (some ⟨g, 5, none⟩), .slice a5 1 c5, .tuple #[.slice m6 n6 k6, .bool true], .slice m6 n6 k6, .bool true, .bool true, .bool false, .bool false, .bool true, .bool false, .bool false, .tuple #[.slice m8 n8 k8, .bool true], .slice m5 n5 k5, .slice m6 n6 k6, .slice m7 n7 k7, .tuple #[.slice m8 n8 k8, .bool true], .slice m8 n8 k8, .bool true, .slice (some ⟨g2, 0, none⟩) 6 cap2, .pointer (some ⟨g2, 0, none⟩), .agg #[.slice (dv 0).a (dv 0).n (dv 0).c, .int .i64 (dv 0).low, .bool (dv 0).neg, .bool (dv 0).nn], .slice (some ⟨g2, 0, none⟩) 6 cap2, .pointer (some ⟨g2, 4, none⟩), .agg #[.slice (dv 1).a (dv 1).n (dv 1).c, .int .i64 (dv 1).low, .bool (dv 1).neg, .bool (dv 1).nn], h1, .slice (some ⟨g2, 0, none⟩) 6 cap2, .pointer (some ⟨g2, 8, none⟩), .agg #[.slice (dv 2).a (dv 2).n (dv 2).c, .int .i64 (dv 2).low, .bool (dv 2).neg, .bool (dv 2).nn], .slice (some ⟨g2, 0, none⟩) 6 cap2, .pointer (some ⟨g2, 12, none⟩), .agg #[.slice (dv 3).a (dv 3).n (dv 3).c, .int .i64 (dv 3).low, .bool (dv 3).neg, .bool (dv 3).nn], h2, h3, .slice (some ⟨g2, 0, none⟩) 6 cap2, .pointer (some ⟨g2, 16, none⟩), .agg #[.slice (dv 4).a (dv 4).n (dv 4).c, .int .i64 (dv 4).low, .bool (dv 4).neg, .bool (dv 4).nn], .slice (some ⟨g2, 0, none⟩) 6 cap2, .pointer (some ⟨g2, 20, none⟩), .agg #[.slice (dv 5).a (dv 5).n (dv 5).c, .int .i64 (dv 5).low, .bool (dv 5).neg, .bool (dv 5).nn], h4, h5, undef, undef, undef, undef, undef, undef, undef, undef, undef, undef, undef, undef, undef, undef, undef, undef, undef, undef, undef, undef, undef, undef, undef, undef, undef, undef, undef], defers := [] } ∧ (W.cell? ⟨g2, 0, none⟩ = some (.slice (dv 0).a (dv 0).n (dv 0).c) ∧ W.cell? ⟨g2, 1, none⟩ = some (.int .i64 (dv 0).low) ∧ W.cell? ⟨g2, 2, none⟩ = some (.bool (dv 0).neg) ∧ W.cell? ⟨g2, 3, none⟩ = some (.bool (dv 0).nn) ∧ W.cell? ⟨g2, 4, none⟩ = some (.slice (dv 1).a (dv 1).n (dv 1).c) ∧ W.cell? ⟨g2, 5, none⟩ = some (.int .i64 (dv 1).low) ∧ W.cell? ⟨g2, 6, none⟩ = some (.bool (dv 1).neg) ∧ W.cell? ⟨g2, 7, none⟩ = some (.bool (dv 1).nn) ∧ W.cell? ⟨g2, 8, none⟩ = some (.slice (dv 2).a (dv 2).n (dv 2).c) ∧ W.cell? ⟨g2, 9, none⟩ = some (.int .i64 (dv 2).low) ∧ W.cell? ⟨g2, 10, none⟩ = some (.bool (dv 2).neg) ∧ W.cell? ⟨g2, 11, none⟩ = some (.bool (dv 2).nn) ∧ W.cell? ⟨g2, 12, none⟩ = some (.slice (dv 3).a (dv 3).n (dv 3).c) ∧ W.cell? ⟨g2, 13, none⟩ = some (.int .i64 (dv 3).low) ∧ W.cell? ⟨g2, 14, none⟩ = some (.bool (dv 3).neg) ∧ W.cell? ⟨g2, 15, none⟩ = some (.bool (dv 3).nn) ∧ W.cell? ⟨g2, 16, none⟩ = some (.slice (dv 4).a (dv 4).n (dv 4).c) ∧ W.cell? ⟨g2, 17, none⟩ = some (.int .i64 (dv 4).low) ∧ W.cell? ⟨g2, 18, none⟩ = some (.bool (dv 4).neg) ∧ W.cell? ⟨g2, 19, none⟩ = some (.bool (dv 4).nn) ∧ W.cell? ⟨g2, 20, none⟩ = some (.slice (dv 5).a (dv 5).n (dv 5).c) ∧ W.cell? ⟨g2, 21, none⟩ = some (.int .i64 (dv 5).low) ∧ W.cell? ⟨g2, 22, none⟩ = some (.bool (dv 5).neg) ∧ W.cell? ⟨g2, 23, none⟩ = some (.bool (dv 5).nn) ∧ Below wx8.heap.size wx8 W) ∧ (x = true → v19 = .pointer (some ⟨b, 0, none⟩) ∧ CB W b #[.slice none 0 0, .int .i64 0, .bool false, .bool false] 35 ∧ wx8.heap.size ≤ b) ∧ (1 ≤ k → NV W (fval (fs 0) - fval (fs 1)) h1) ∧ (2 ≤ k → NV W (fval (fs 2) - fval (fs 3)) h2) ∧ (3 ≤ k → NV W ((fval (fs 0) - fval (fs 1)) * (fval (fs 2) - fval (fs 3))) h3) ∧ (4 ≤ k → NV W (fval (fs 4) * fval (fs 5)) h4) ∧ (5 ≤ k → NV W (((fval (fs 0) - fval (fs 1)) * (fval (fs 2) - fval (fs 3))) - (fval (fs 4) * fval (fs 5))) h5)) ?_ ?_ ?_ ?_ ?_ ?_ 6 false 0 _ _ (by omega) (by decide) ?_
      · intro x k hk hx
        have h5 : k = 0 ∨ k = 1 ∨ k = 2 ∨ k = 3 ∨ k = 4 ∨ k = 5 := by omega
        rcases h5 with rfl | rfl | rfl | rfl | rfl | rfl <;> cases x <;> first | exact absurd (hx rfl) (by decide) | (show _ = _; kernel_rfl)
      · intro x k hk
        have h5 : k = 0 ∨ k = 1 ∨ k = 2 ∨ k = 3 ∨ k = 4 := by omega
        rcases h5 with rfl | rfl | rfl | rfl | rfl <;> cases x <;> rfl
      · intro k hk
        have h5 : k = 0 ∨ k = 1 ∨ k = 2 ∨ k = 3 ∨ k = 4 ∨ k = 5 := by omega
        rcases h5 with rfl | rfl | rfl | rfl | rfl | rfl <;> rfl
      · intro x k hk
        have h5 : k = 0 ∨ k = 1 ∨ k = 2 ∨ k = 3 ∨ k = 4 := by omega
        rcases h5 with rfl | rfl | rfl | rfl | rfl
        · refine ⟨_, rfl, ?_⟩
          intro a W hI K' hK
          obtain ⟨v19, h1, h2, h3, h4, h5, b, rfl, hS, hv, k1, k2, k3, k4, k5⟩ := hI
          go_simp
          go_wp2_with fail
          refine (subB_any 1100 (-1074) _ _ _ _ _ (M0.out.later hS.2.2.2.2.2.2.2.2.2.2.2.2.2.2.2.2.2.2.2.2.2.2.2.2) (M1.out.later hS.2.2.2.2.2.2.2.2.2.2.2.2.2.2.2.2.2.2.2.2.2.2.2.2) (HT.out.later (below_step HR.out hS.2.2.2.2.2.2.2.2.2.2.2.2.2.2.2.2.2.2.2.2.2.2.2.2)) D0.out D1.out (by omega) (by omega)).mono ?_
          rintro e wx ⟨⟨d, rfl, hn⟩, hb⟩
          have hS2 : wx.cell? ⟨g2, 0, none⟩ = some (.slice (dv 0).a (dv 0).n (dv 0).c) ∧ wx.cell? ⟨g2, 1, none⟩ = some (.int .i64 (dv 0).low) ∧ wx.cell? ⟨g2, 2, none⟩ = some (.bool (dv 0).neg) ∧ wx.cell? ⟨g2, 3, none⟩ = some (.bool (dv 0).nn) ∧ wx.cell? ⟨g2, 4, none⟩ = some (.slice (dv 1).a (dv 1).n (dv 1).c) ∧ wx.cell? ⟨g2, 5, none⟩ = some (.int .i64 (dv 1).low) ∧ wx.cell? ⟨g2, 6, none⟩ = some (.bool (dv 1).neg) ∧ wx.cell? ⟨g2, 7, none⟩ = some (.bool (dv 1).nn) ∧ wx.cell? ⟨g2, 8, none⟩ = some (.slice (dv 2).a (dv 2).n (dv 2).c) ∧ wx.cell? ⟨g2, 9, none⟩ = some (.int .i64 (dv 2).low) ∧ wx.cell? ⟨g2, 10, none⟩ = some (.bool (dv 2).neg) ∧ wx.cell? ⟨g2, 11, none⟩ = some (.bool (dv 2).nn) ∧ wx.cell? ⟨g2, 12, none⟩ = some (.slice (dv 3).a (dv 3).n (dv 3).c) ∧ wx.cell? ⟨g2, 13, none⟩ = some (.int .i64 (dv 3).low) ∧ wx.cell? ⟨g2, 14, none⟩ = some (.bool (dv 3).neg) ∧ wx.cell? ⟨g2, 15, none⟩ = some (.bool (dv 3).nn) ∧ wx.cell? ⟨g2, 16, none⟩ = some (.slice (dv 4).a (dv 4).n (dv 4).c) ∧ wx.cell? ⟨g2, 17, none⟩ = some (.int .i64 (dv 4).low) ∧ wx.cell? ⟨g2, 18, none⟩ = some (.bool (dv 4).neg) ∧ wx.cell? ⟨g2, 19, none⟩ = some (.bool (dv 4).nn) ∧ wx.cell? ⟨g2, 20, none⟩ = some (.slice (dv 5).a (dv 5).n (dv 5).c) ∧ wx.cell? ⟨g2, 21, none⟩ = some (.int .i64 (dv 5).low) ∧ wx.cell? ⟨g2, 22, none⟩ = some (.bool (dv 5).neg) ∧ wx.cell? ⟨g2, 23, none⟩ = some (.bool (dv 5).nn) ∧ Below wx8.heap.size wx8 wx := ⟨box_cell hb hS.1, box_cell hb hS.2.1, box_cell hb hS.2.2.1, box_cell hb hS.2.2.2.1, box_cell hb hS.2.2.2.2.1, box_cell hb hS.2.2.2.2.2.1, box_cell hb hS.2.2.2.2.2.2.1, box_cell hb hS.2.2.2.2.2.2.2.1, box_cell hb hS.2.2.2.2.2.2.2.2.1, box_cell hb hS.2.2.2.2.2.2.2.2.2.1, box_cell hb hS.2.2.2.2.2.2.2.2.2.2.1, box_cell hb hS.2.2.2.2.2.2.2.2.2.2.2.1, box_cell hb hS.2.2.2.2.2.2.2.2.2.2.2.2.1, box_cell hb hS.2.2.2.2.2.2.2.2.2.2.2.2.2.1, box_cell hb hS.2.2.2.2.2.2.2.2.2.2.2.2.2.2.1, box_cell hb hS.2.2.2.2.2.2.2.2.2.2.2.2.2.2.2.1, box_cell hb hS.2.2.2.2.2.2.2.2.2.2.2.2.2.2.2.2.1, box_cell hb hS.2.2.2.2.2.2.2.2.2.2.2.2.2.2.2.2.2.1, box_cell hb hS.2.2.2.2.2.2.2.2.2.2.2.2.2.2.2.2.2.2.1, box_cell hb hS.2.2.2.2.2.2.2.2.2.2.2.2.2.2.2.2.2.2.2.1, box_cell hb hS.2.2.2.2.2.2.2.2.2.2.2.2.2.2.2.2.2.2.2.2.1, box_cell hb hS.2.2.2.2.2.2.2.2.2.2.2.2.2.2.2.2.2.2.2.2.2.1, box_cell hb hS.2.2.2.2.2.2.2.2.2.2.2.2.2.2.2.2.2.2.2.2.2.2.1, box_cell hb hS.2.2.2.2.2.2.2.2.2.2.2.2.2.2.2.2.2.2.2.2.2.2.2.1, below_step hS.2.2.2.2.2.2.2.2.2.2.2.2.2.2.2.2.2.2.2.2.2.2.2.2 hb⟩
          go_wp2_with fail
          exact hK.out _ _ hS2 ⟨v19, _, h2, h3, h4, h5, b, rfl, hS2, fun h => ⟨(hv h).1, (hv h).2.1.later hb, (hv h).2.2⟩, fun _ => ⟨d, rfl, hn⟩, fun h => by omega, fun h => by omega, fun h => by omega, fun h => by omega⟩
        · refine ⟨_, rfl, ?_⟩
          intro a W hI K' hK
          obtain ⟨v19, h1, h2, h3, h4, h5, b, rfl, hS, hv, k1, k2, k3, k4, k5⟩ := hI
          go_simp
          go_wp2_with fail
          refine (subB_any 1100 (-1074) _ _ _ _ _ (M2.out.later hS.2.2.2.2.2.2.2.2.2.2.2.2.2.2.2.2.2.2.2.2.2.2.2.2) (M3.out.later hS.2.2.2.2.2.2.2.2.2.2.2.2.2.2.2.2.2.2.2.2.2.2.2.2) (HT.out.later (below_step HR.out hS.2.2.2.2.2.2.2.2.2.2.2.2.2.2.2.2.2.2.2.2.2.2.2.2)) D2.out D3.out (by omega) (by omega)).mono ?_
          rintro e wx ⟨⟨d, rfl, hn⟩, hb⟩
          have hS2 : wx.cell? ⟨g2, 0, none⟩ = some (.slice (dv 0).a (dv 0).n (dv 0).c) ∧ wx.cell? ⟨g2, 1, none⟩ = some (.int .i64 (dv 0).low) ∧ wx.cell? ⟨g2, 2, none⟩ = some (.bool (dv 0).neg) ∧ wx.cell? ⟨g2, 3, none⟩ = some (.bool (dv 0).nn) ∧ wx.cell? ⟨g2, 4, none⟩ = some (.slice (dv 1).a (dv 1).n (dv 1).c) ∧ wx.cell? ⟨g2, 5, none⟩ = some (.int .i64 (dv 1).low) ∧ wx.cell? ⟨g2, 6, none⟩ = some (.bool (dv 1).neg) ∧ wx.cell? ⟨g2, 7, none⟩ = some (.bool (dv 1).nn) ∧ wx.cell? ⟨g2, 8, none⟩ = some (.slice (dv 2).a (dv 2).n (dv 2).c) ∧ wx.cell? ⟨g2, 9, none⟩ = some (.int .i64 (dv 2).low) ∧ wx.cell? ⟨g2, 10, none⟩ = some (.bool (dv 2).neg) ∧ wx.cell? ⟨g2, 11, none⟩ = some (.bool (dv 2).nn) ∧ wx.cell? ⟨g2, 12, none⟩ = some (.slice (dv 3).a (dv 3).n (dv 3).c) ∧ wx.cell? ⟨g2, 13, none⟩ = some (.int .i64 (dv 3).low) ∧ wx.cell? ⟨g2, 14, none⟩ = some (.bool (dv 3).neg) ∧ wx.cell? ⟨g2, 15, none⟩ = some (.bool (dv 3).nn) ∧ wx.cell? ⟨g2, 16, none⟩ = some (.slice (dv 4).a (dv 4).n (dv 4).c) ∧ wx.cell? ⟨g2, 17, none⟩ = some (.int .i64 (dv 4).low) ∧ wx.cell? ⟨g2, 18, none⟩ = some (.bool (dv 4).neg) ∧ wx.cell? ⟨g2, 19, none⟩ = some (.bool (dv 4).nn) ∧ wx.cell? ⟨g2, 20, none⟩ = some (.slice (dv 5).a (dv 5).n (dv 5).c) ∧ wx.cell? ⟨g2, 21, none⟩ = some (.int .i64 (dv 5).low) ∧ wx.cell? ⟨g2, 22, none⟩ = some (.bool (dv 5).neg) ∧ wx.cell? ⟨g2, 23, none⟩ = some (.bool (dv 5).nn) ∧ Below wx8.heap.size wx8 wx := ⟨box_cell hb hS.1, box_cell hb hS.2.1, box_cell hb hS.2.2.1, box_cell hb hS.2.2.2.1, box_cell hb hS.2.2.2.2.1, box_cell hb hS.2.2.2.2.2.1, box_cell hb hS.2.2.2.2.2.2.1, box_cell hb hS.2.2.2.2.2.2.2.1, box_cell hb hS.2.2.2.2.2.2.2.2.1, box_cell hb hS.2.2.2.2.2.2.2.2.2.1, box_cell hb hS.2.2.2.2.2.2.2.2.2.2.1, box_cell hb hS.2.2.2.2.2.2.2.2.2.2.2.1, box_cell hb hS.2.2.2.2.2.2.2.2.2.2.2.2.1, box_cell hb hS.2.2.2.2.2.2.2.2.2.2.2.2.2.1, box_cell hb hS.2.2.2.2.2.2.2.2.2.2.2.2.2.2.1, box_cell hb hS.2.2.2.2.2.2.2.2.2.2.2.2.2.2.2.1, box_cell hb hS.2.2.2.2.2.2.2.2.2.2.2.2.2.2.2.2.1, box_cell hb hS.2.2.2.2.2.2.2.2.2.2.2.2.2.2.2.2.2.1, box_cell hb hS.2.2.2.2.2.2.2.2.2.2.2.2.2.2.2.2.2.2.1, box_cell hb hS.2.2.2.2.2.2.2.2.2.2.2.2.2.2.2.2.2.2.2.1, box_cell hb hS.2.2.2.2.2.2.2.2.2.2.2.2.2.2.2.2.2.2.2.2.1, box_cell hb hS.2.2.2.2.2.2.2.2.2.2.2.2.2.2.2.2.2.2.2.2.2.1, box_cell hb hS.2.2.2.2.2.2.2.2.2.2.2.2.2.2.2.2.2.2.2.2.2.2.1, box_cell hb hS.2.2.2.2.2.2.2.2.2.2.2.2.2.2.2.2.2.2.2.2.2.2.2.1, below_step hS.2.2.2.2.2.2.2.2.2.2.2.2.2.2.2.2.2.2.2.2.2.2.2.2 hb⟩
          go_wp2_with fail
          exact hK.out _ _ hS2 ⟨v19, h1, _, h3, h4, h5, b, rfl, hS2, fun h => ⟨(hv h).1, (hv h).2.1.later hb, (hv h).2.2⟩, fun h => (k1 (by omega)).later hb, fun _ => ⟨d, rfl, hn⟩, fun h => by omega, fun h => by omega, fun h => by omega⟩
        · refine ⟨_, rfl, ?_⟩
          intro a W hI K' hK
          obtain ⟨v19, h1, h2, h3, h4, h5, b, rfl, hS, hv, k1, k2, k3, k4, k5⟩ := hI
          obtain ⟨q1, rfl, r1⟩ := k1 (by omega)
          obtain ⟨q2, rfl, r2⟩ := k2 (by omega)
          go_simp
          go_wp2_with fail
          refine (mulB_any (1100 + 1) (-1074) _ _ _ _ _ r1 r2 (HT.out.later (below_step HR.out hS.2.2.2.2.2.2.2.2.2.2.2.2.2.2.2.2.2.2.2.2.2.2.2.2)) (D0.out.sub D1.out) (D2.out.sub D3.out) (by omega) (by omega)).mono ?_
          rintro e wx ⟨⟨d, rfl, hn⟩, hb⟩
          have hS2 : wx.cell? ⟨g2, 0, none⟩ = some (.slice (dv 0).a (dv 0).n (dv 0).c) ∧ wx.cell? ⟨g2, 1, none⟩ = some (.int .i64 (dv 0).low) ∧ wx.cell? ⟨g2, 2, none⟩ = some (.bool (dv 0).neg) ∧ wx.cell? ⟨g2, 3, none⟩ = some (.bool (dv 0).nn) ∧ wx.cell? ⟨g2, 4, none⟩ = some (.slice (dv 1).a (dv 1).n (dv 1).c) ∧ wx.cell? ⟨g2, 5, none⟩ = some (.int .i64 (dv 1).low) ∧ wx.cell? ⟨g2, 6, none⟩ = some (.bool (dv 1).neg) ∧ wx.cell? ⟨g2, 7, none⟩ = some (.bool (dv 1).nn) ∧ wx.cell? ⟨g2, 8, none⟩ = some (.slice (dv 2).a (dv 2).n (dv 2).c) ∧ wx.cell? ⟨g2, 9, none⟩ = some (.int .i64 (dv 2).low) ∧ wx.cell? ⟨g2, 10, none⟩ = some (.bool (dv 2).neg) ∧ wx.cell? ⟨g2, 11, none⟩ = some (.bool (dv 2).nn) ∧ wx.cell? ⟨g2, 12, none⟩ = some (.slice (dv 3).a (dv 3).n (dv 3).c) ∧ wx.cell? ⟨g2, 13, none⟩ = some (.int .i64 (dv 3).low) ∧ wx.cell? ⟨g2, 14, none⟩ = some (.bool (dv 3).neg) ∧ wx.cell? ⟨g2, 15, none⟩ = some (.bool (dv 3).nn) ∧ wx.cell? ⟨g2, 16, none⟩ = some (.slice (dv 4).a (dv 4).n (dv 4).c) ∧ wx.cell? ⟨g2, 17, none⟩ = some (.int .i64 (dv 4).low) ∧ wx.cell? ⟨g2, 18, none⟩ = some (.bool (dv 4).neg) ∧ wx.cell? ⟨g2, 19, none⟩ = some (.bool (dv 4).nn) ∧ wx.cell? ⟨g2, 20, none⟩ = some (.slice (dv 5).a (dv 5).n (dv 5).c) ∧ wx.cell? ⟨g2, 21, none⟩ = some (.int .i64 (dv 5).low) ∧ wx.cell? ⟨g2, 22, none⟩ = some (.bool (dv 5).neg) ∧ wx.cell? ⟨g2, 23, none⟩ = some (.bool (dv 5).nn) ∧ Below wx8.heap.size wx8 wx := ⟨box_cell hb hS.1, box_cell hb hS.2.1, box_cell hb hS.2.2.1, box_cell hb hS.2.2.2.1, box_cell hb hS.2.2.2.2.1, box_cell hb hS.2.2.2.2.2.1, box_cell hb hS.2.2.2.2.2.2.1, box_cell hb hS.2.2.2.2.2.2.2.1, box_cell hb hS.2.2.2.2.2.2.2.2.1, box_cell hb hS.2.2.2.2.2.2.2.2.2.1, box_cell hb hS.2.2.2.2.2.2.2.2.2.2.1, box_cell hb hS.2.2.2.2.2.2.2.2.2.2.2.1, box_cell hb hS.2.2.2.2.2.2.2.2.2.2.2.2.1, box_cell hb hS.2.2.2.2.2.2.2.2.2.2.2.2.2.1, box_cell hb hS.2.2.2.2.2.2.2.2.2.2.2.2.2.2.1, box_cell hb hS.2.2.2.2.2.2.2.2.2.2.2.2.2.2.2.1, box_cell hb hS.2.2.2.2.2.2.2.2.2.2.2.2.2.2.2.2.1, box_cell hb hS.2.2.2.2.2.2.2.2.2.2.2.2.2.2.2.2.2.1, box_cell hb hS.2.2.2.2.2.2.2.2.2.2.2.2.2.2.2.2.2.2.1, box_cell hb hS.2.2.2.2.2.2.2.2.2.2.2.2.2.2.2.2.2.2.2.1, box_cell hb hS.2.2.2.2.2.2.2.2.2.2.2.2.2.2.2.2.2.2.2.2.1, box_cell hb hS.2.2.2.2.2.2.2.2.2.2.2.2.2.2.2.2.2.2.2.2.2.1, box_cell hb hS.2.2.2.2.2.2.2.2.2.2.2.2.2.2.2.2.2.2.2.2.2.2.1, box_cell hb hS.2.2.2.2.2.2.2.2.2.2.2.2.2.2.2.2.2.2.2.2.2.2.2.1, below_step hS.2.2.2.2.2.2.2.2.2.2.2.2.2.2.2.2.2.2.2.2.2.2.2.2 hb⟩
          go_wp2_with fail
          exact hK.out _ _ hS2 ⟨v19, _, _, _, h4, h5, b, rfl, hS2, fun h => ⟨(hv h).1, (hv h).2.1.later hb, (hv h).2.2⟩, fun _ => NV.later ⟨_, rfl, r1⟩ hb, fun _ => NV.later ⟨_, rfl, r2⟩ hb, fun _ => ⟨d, rfl, hn⟩, fun h => by omega, fun h => by omega⟩
        · refine ⟨_, rfl, ?_⟩
          intro a W hI K' hK
          obtain ⟨v19, h1, h2, h3, h4, h5, b, rfl, hS, hv, k1, k2, k3, k4, k5⟩ := hI
          go_simp
          go_wp2_with fail
          refine (mulB_any 1100 (-1074) _ _ _ _ _ (M4.out.later hS.2.2.2.2.2.2.2.2.2.2.2.2.2.2.2.2.2.2.2.2.2.2.2.2) (M5.out.later hS.2.2.2.2.2.2.2.2.2.2.2.2.2.2.2.2.2.2.2.2.2.2.2.2) (HT.out.later (below_step HR.out hS.2.2.2.2.2.2.2.2.2.2.2.2.2.2.2.2.2.2.2.2.2.2.2.2)) D4.out D5.out (by omega) (by omega)).mono ?_
          rintro e wx ⟨⟨d, rfl, hn⟩, hb⟩
          have hS2 : wx.cell? ⟨g2, 0, none⟩ = some (.slice (dv 0).a (dv 0).n (dv 0).c) ∧ wx.cell? ⟨g2, 1, none⟩ = some (.int .i64 (dv 0).low) ∧ wx.cell? ⟨g2, 2, none⟩ = some (.bool (dv 0).neg) ∧ wx.cell? ⟨g2, 3, none⟩ = some (.bool (dv 0).nn) ∧ wx.cell? ⟨g2, 4, none⟩ = some (.slice (dv 1).a (dv 1).n (dv 1).c) ∧ wx.cell? ⟨g2, 5, none⟩ = some (.int .i64 (dv 1).low) ∧ wx.cell? ⟨g2, 6, none⟩ = some (.bool (dv 1).neg) ∧ wx.cell? ⟨g2, 7, none⟩ = some (.bool (dv 1).nn) ∧ wx.cell? ⟨g2, 8, none⟩ = some (.slice (dv 2).a (dv 2).n (dv 2).c) ∧ wx.cell? ⟨g2, 9, none⟩ = some (.int .i64 (dv 2).low) ∧ wx.cell? ⟨g2, 10, none⟩ = some (.bool (dv 2).neg) ∧ wx.cell? ⟨g2, 11, none⟩ = some (.bool (dv 2).nn) ∧ wx.cell? ⟨g2, 12, none⟩ = some (.slice (dv 3).a (dv 3).n (dv 3).c) ∧ wx.cell? ⟨g2, 13, none⟩ = some (.int .i64 (dv 3).low) ∧ wx.cell? ⟨g2, 14, none⟩ = some (.bool (dv 3).neg) ∧ wx.cell? ⟨g2, 15, none⟩ = some (.bool (dv 3).nn) ∧ wx.cell? ⟨g2, 16, none⟩ = some (.slice (dv 4).a (dv 4).n (dv 4).c) ∧ wx.cell? ⟨g2, 17, none⟩ = some (.int .i64 (dv 4).low) ∧ wx.cell? ⟨g2, 18, none⟩ = some (.bool (dv 4).neg) ∧ wx.cell? ⟨g2, 19, none⟩ = some (.bool (dv 4).nn) ∧ wx.cell? ⟨g2, 20, none⟩ = some (.slice (dv 5).a (dv 5).n (dv 5).c) ∧ wx.cell? ⟨g2, 21, none⟩ = some (.int .i64 (dv 5).low) ∧ wx.cell? ⟨g2, 22, none⟩ = some (.bool (dv 5).neg) ∧ wx.cell? ⟨g2, 23, none⟩ = some (.bool (dv 5).nn) ∧ Below wx8.heap.size wx8 wx := ⟨box_cell hb hS.1, box_cell hb hS.2.1, box_cell hb hS.2.2.1, box_cell hb hS.2.2.2.1, box_cell hb hS.2.2.2.2.1, box_cell hb hS.2.2.2.2.2.1, box_cell hb hS.2.2.2.2.2.2.1, box_cell hb hS.2.2.2.2.2.2.2.1, box_cell hb hS.2.2.2.2.2.2.2.2.1, box_cell hb hS.2.2.2.2.2.2.2.2.2.1, box_cell hb hS.2.2.2.2.2.2.2.2.2.2.1, box_cell hb hS.2.2.2.2.2.2.2.2.2.2.2.1, box_cell hb hS.2.2.2.2.2.2.2.2.2.2.2.2.1, box_cell hb hS.2.2.2.2.2.2.2.2.2.2.2.2.2.1, box_cell hb hS.2.2.2.2.2.2.2.2.2.2.2.2.2.2.1, box_cell hb hS.2.2.2.2.2.2.2.2.2.2.2.2.2.2.2.1, box_cell hb hS.2.2.2.2.2.2.2.2.2.2.2.2.2.2.2.2.1, box_cell hb hS.2.2.2.2.2.2.2.2.2.2.2.2.2.2.2.2.2.1, box_cell hb hS.2.2.2.2.2.2.2.2.2.2.2.2.2.2.2.2.2.2.1, box_cell hb hS.2.2.2.2.2.2.2.2.2.2.2.2.2.2.2.2.2.2.2.1, box_cell hb hS.2.2.2.2.2.2.2.2.2.2.2.2.2.2.2.2.2.2.2.2.1, box_cell hb hS.2.2.2.2.2.2.2.2.2.2.2.2.2.2.2.2.2.2.2.2.2.1, box_cell hb hS.2.2.2.2.2.2.2.2.2.2.2.2.2.2.2.2.2.2.2.2.2.2.1, box_cell hb hS.2.2.2.2.2.2.2.2.2.2.2.2.2.2.2.2.2.2.2.2.2.2.2.1, below_step hS.2.2.2.2.2.2.2.2.2.2.2.2.2.2.2.2.2.2.2.2.2.2.2.2 hb⟩
          go_wp2_with fail
          exact hK.out _ _ hS2 ⟨v19, h1, h2, h3, _, h5, b, rfl, hS2, fun h => ⟨(hv h).1, (hv h).2.1.later hb, (hv h).2.2⟩, fun h => (k1 (by omega)).later hb, fun h => (k2 (by omega)).later hb, fun h => (k3 (by omega)).later hb, fun _ => ⟨d, rfl, hn⟩, fun h => by omega⟩
        · refine ⟨_, rfl, ?_⟩
          intro a W hI K' hK
          obtain ⟨v19, h1, h2, h3, h4, h5, b, rfl, hS, hv, k1, k2, k3, k4, k5⟩ := hI
          obtain ⟨q3, rfl, r3⟩ := k3 (by omega)
          obtain ⟨q4, rfl, r4⟩ := k4 (by omega)
          go_simp
          go_wp2_with fail
          refine (subB_any (1100 + 1 + (1100 + 1)) (-1074 + -1074) _ _ _ _ _ r3 r4 (HT.out.later (below_step HR.out hS.2.2.2.2.2.2.2.2.2.2.2.2.2.2.2.2.2.2.2.2.2.2.2.2)) ((D0.out.sub D1.out).mul (D2.out.sub D3.out)) ((D4.out.mul D5.out).mono (by omega) (by omega)) (by omega) (by omega)).mono ?_
          rintro e wx ⟨⟨d, rfl, hn⟩, hb⟩
          have hS2 : wx.cell? ⟨g2, 0, none⟩ = some (.slice (dv 0).a (dv 0).n (dv 0).c) ∧ wx.cell? ⟨g2, 1, none⟩ = some (.int .i64 (dv 0).low) ∧ wx.cell? ⟨g2, 2, none⟩ = some (.bool (dv 0).neg) ∧ wx.cell? ⟨g2, 3, none⟩ = some (.bool (dv 0).nn) ∧ wx.cell? ⟨g2, 4, none⟩ = some (.slice (dv 1).a (dv 1).n (dv 1).c) ∧ wx.cell? ⟨g2, 5, none⟩ = some (.int .i64 (dv 1).low) ∧ wx.cell? ⟨g2, 6, none⟩ = some (.bool (dv 1).neg) ∧ wx.cell? ⟨g2, 7, none⟩ = some (.bool (dv 1).nn) ∧ wx.cell? ⟨g2, 8, none⟩ = some (.slice (dv 2).a (dv 2).n (dv 2).c) ∧ wx.cell? ⟨g2, 9, none⟩ = some (.int .i64 (dv 2).low) ∧ wx.cell? ⟨g2, 10, none⟩ = some (.bool (dv 2).neg) ∧ wx.cell? ⟨g2, 11, none⟩ = some (.bool (dv 2).nn) ∧ wx.cell? ⟨g2, 12, none⟩ = some (.slice (dv 3).a (dv 3).n (dv 3).c) ∧ wx.cell? ⟨g2, 13, none⟩ = some (.int .i64 (dv 3).low) ∧ wx.cell? ⟨g2, 14, none⟩ = some (.bool (dv 3).neg) ∧ wx.cell? ⟨g2, 15, none⟩ = some (.bool (dv 3).nn) ∧ wx.cell? ⟨g2, 16, none⟩ = some (.slice (dv 4).a (dv 4).n (dv 4).c) ∧ wx.cell? ⟨g2, 17, none⟩ = some (.int .i64 (dv 4).low) ∧ wx.cell? ⟨g2, 18, none⟩ = some (.bool (dv 4).neg) ∧ wx.cell? ⟨g2, 19, none⟩ = some (.bool (dv 4).nn) ∧ wx.cell? ⟨g2, 20, none⟩ = some (.slice (dv 5).a (dv 5).n (dv 5).c) ∧ wx.cell? ⟨g2, 21, none⟩ = some (.int .i64 (dv 5).low) ∧ wx.cell? ⟨g2, 22, none⟩ = some (.bool (dv 5).neg) ∧ wx.cell? ⟨g2, 23, none⟩ = some (.bool (dv 5).nn) ∧ Below wx8.heap.size wx8 wx := ⟨box_cell hb hS.1, box_cell hb hS.2.1, box_cell hb hS.2.2.1, box_cell hb hS.2.2.2.1, box_cell hb hS.2.2.2.2.1, box_cell hb hS.2.2.2.2.2.1, box_cell hb hS.2.2.2.2.2.2.1, box_cell hb hS.2.2.2.2.2.2.2.1, box_cell hb hS.2.2.2.2.2.2.2.2.1, box_cell hb hS.2.2.2.2.2.2.2.2.2.1, box_cell hb hS.2.2.2.2.2.2.2.2.2.2.1, box_cell hb hS.2.2.2.2.2.2.2.2.2.2.2.1, box_cell hb hS.2.2.2.2.2.2.2.2.2.2.2.2.1, box_cell hb hS.2.2.2.2.2.2.2.2.2.2.2.2.2.1, box_cell hb hS.2.2.2.2.2.2.2.2.2.2.2.2.2.2.1, box_cell hb hS.2.2.2.2.2.2.2.2.2.2.2.2.2.2.2.1, box_cell hb hS.2.2.2.2.2.2.2.2.2.2.2.2.2.2.2.2.1, box_cell hb hS.2.2.2.2.2.2.2.2.2.2.2.2.2.2.2.2.2.1, box_cell hb hS.2.2.2.2.2.2.2.2.2.2.2.2.2.2.2.2.2.2.1, box_cell hb hS.2.2.2.2.2.2.2.2.2.2.2.2.2.2.2.2.2.2.2.1, box_cell hb hS.2.2.2.2.2.2.2.2.2.2.2.2.2.2.2.2.2.2.2.2.1, box_cell hb hS.2.2.2.2.2.2.2.2.2.2.2.2.2.2.2.2.2.2.2.2.2.1, box_cell hb hS.2.2.2.2.2.2.2.2.2.2.2.2.2.2.2.2.2.2.2.2.2.2.1, box_cell hb hS.2.2.2.2.2.2.2.2.2.2.2.2.2.2.2.2.2.2.2.2.2.2.2.1, below_step hS.2.2.2.2.2.2.2.2.2.2.2.2.2.2.2.2.2.2.2.2.2.2.2.2 hb⟩
          go_wp2_with fail
          exact hK.out _ _ hS2 ⟨v19, h1, h2, _, _, _, b, rfl, hS2, fun h => ⟨(hv h).1, (hv h).2.1.later hb, (hv h).2.2⟩, fun h => (k1 (by omega)).later hb, fun h => (k2 (by omega)).later hb, fun _ => NV.later ⟨_, rfl, r3⟩ hb, fun _ => NV.later ⟨_, rfl, r4⟩ hb, fun _ => ⟨d, rfl, hn⟩⟩
      · intro k hk
        refine ⟨_, rfl, ?_⟩
        intro a W hI K' hK
        obtain ⟨v19, h1, h2, h3, h4, h5, b, rfl, hS, hv, k1, k2, k3, k4, k5⟩ := hI
        have hb : Below W.heap.size W (W.alloc (.cells #[.slice none 0 0, .int .i64 0, .bool false, .bool false] 35)) := (Below.refl _ W).alloc (Nat.le_refl _) _
        have hlt2 : wx8.heap.size ≤ W.heap.size := hS.2.2.2.2.2.2.2.2.2.2.2.2.2.2.2.2.2.2.2.2.2.2.2.2.size
        have hS2 : (W.alloc (.cells #[.slice none 0 0, .int .i64 0, .bool false, .bool false] 35)).cell? ⟨g2, 0, none⟩ = some (.slice (dv 0).a (dv 0).n (dv 0).c) ∧ (W.alloc (.cells #[.slice none 0 0, .int .i64 0, .bool false, .bool false] 35)).cell? ⟨g2, 1, none⟩ = some (.int .i64 (dv 0).low) ∧ (W.alloc (.cells #[.slice none 0 0, .int .i64 0, .bool false, .bool false] 35)).cell? ⟨g2, 2, none⟩ = some (.bool (dv 0).neg) ∧ (W.alloc (.cells #[.slice none 0 0, .int .i64 0, .bool false, .bool false] 35)).cell? ⟨g2, 3, none⟩ = some (.bool (dv 0).nn) ∧ (W.alloc (.cells #[.slice none 0 0, .int .i64 0, .bool false, .bool false] 35)).cell? ⟨g2, 4, none⟩ = some (.slice (dv 1).a (dv 1).n (dv 1).c) ∧ (W.alloc (.cells #[.slice none 0 0, .int .i64 0, .bool false, .bool false] 35)).cell? ⟨g2, 5, none⟩ = some (.int .i64 (dv 1).low) ∧ (W.alloc (.cells #[.slice none 0 0, .int .i64 0, .bool false, .bool false] 35)).cell? ⟨g2, 6, none⟩ = some (.bool (dv 1).neg) ∧ (W.alloc (.cells #[.slice none 0 0, .int .i64 0, .bool false, .bool false] 35)).cell? ⟨g2, 7, none⟩ = some (.bool (dv 1).nn) ∧ (W.alloc (.cells #[.slice none 0 0, .int .i64 0, .bool false, .bool false] 35)).cell? ⟨g2, 8, none⟩ = some (.slice (dv 2).a (dv 2).n (dv 2).c) ∧ (W.alloc (.cells #[.slice none 0 0, .int .i64 0, .bool false, .bool false] 35)).cell? ⟨g2, 9, none⟩ = some (.int .i64 (dv 2).low) ∧ (W.alloc (.cells #[.slice none 0 0, .int .i64 0, .bool false, .bool false] 35)).cell? ⟨g2, 10, none⟩ = some (.bool (dv 2).neg) ∧ (W.alloc (.cells #[.slice none 0 0, .int .i64 0, .bool false, .bool false] 35)).cell? ⟨g2, 11, none⟩ = some (.bool (dv 2).nn) ∧ (W.alloc (.cells #[.slice none 0 0, .int .i64 0, .bool false, .bool false] 35)).cell? ⟨g2, 12, none⟩ = some (.slice (dv 3).a (dv 3).n (dv 3).c) ∧ (W.alloc (.cells #[.slice none 0 0, .int .i64 0, .bool false, .bool false] 35)).cell? ⟨g2, 13, none⟩ = some (.int .i64 (dv 3).low) ∧ (W.alloc (.cells #[.slice none 0 0, .int .i64 0, .bool false, .bool false] 35)).cell? ⟨g2, 14, none⟩ = some (.bool (dv 3).neg) ∧ (W.alloc (.cells #[.slice none 0 0, .int .i64 0, .bool false, .bool false] 35)).cell? ⟨g2, 15, none⟩ = some (.bool (dv 3).nn) ∧ (W.alloc (.cells #[.slice none 0 0, .int .i64 0, .bool false, .bool false] 35)).cell? ⟨g2, 16, none⟩ = some (.slice (dv 4).a (dv 4).n (dv 4).c) ∧ (W.alloc (.cells #[.slice none 0 0, .int .i64 0, .bool false, .bool false] 35)).cell? ⟨g2, 17, none⟩ = some (.int .i64 (dv 4).low) ∧ (W.alloc (.cells #[.slice none 0 0, .int .i64 0, .bool false, .bool false] 35)).cell? ⟨g2, 18, none⟩ = some (.bool (dv 4).neg) ∧ (W.alloc (.cells #[.slice none 0 0, .int .i64 0, .bool false, .bool false] 35)).cell? ⟨g2, 19, none⟩ = some (.bool (dv 4).nn) ∧ (W.alloc (.cells #[.slice none 0 0, .int .i64 0, .bool false, .bool false] 35)).cell? ⟨g2, 20, none⟩ = some (.slice (dv 5).a (dv 5).n (dv 5).c) ∧ (W.alloc (.cells #[.slice none 0 0, .int .i64 0, .bool false, .bool false] 35)).cell? ⟨g2, 21, none⟩ = some (.int .i64 (dv 5).low) ∧ (W.alloc (.cells #[.slice none 0 0, .int .i64 0, .bool false, .bool false] 35)).cell? ⟨g2, 22, none⟩ = some (.bool (dv 5).neg) ∧ (W.alloc (.cells #[.slice none 0 0, .int .i64 0, .bool false, .bool false] 35)).cell? ⟨g2, 23, none⟩ = some (.bool (dv 5).nn) ∧ Below wx8.heap.size wx8 (W.alloc (.cells #[.slice none 0 0, .int .i64 0, .bool false, .bool false] 35)) := ⟨box_cell hb hS.1, box_cell hb hS.2.1, box_cell hb hS.2.2.1, box_cell hb hS.2.2.2.1, box_cell hb hS.2.2.2.2.1, box_cell hb hS.2.2.2.2.2.1, box_cell hb hS.2.2.2.2.2.2.1, box_cell hb hS.2.2.2.2.2.2.2.1, box_cell hb hS.2.2.2.2.2.2.2.2.1, box_cell hb hS.2.2.2.2.2.2.2.2.2.1, box_cell hb hS.2.2.2.2.2.2.2.2.2.2.1, box_cell hb hS.2.2.2.2.2.2.2.2.2.2.2.1, box_cell hb hS.2.2.2.2.2.2.2.2.2.2.2.2.1, box_cell hb hS.2.2.2.2.2.2.2.2.2.2.2.2.2.1, box_cell hb hS.2.2.2.2.2.2.2.2.2.2.2.2.2.2.1, box_cell hb hS.2.2.2.2.2.2.2.2.2.2.2.2.2.2.2.1, box_cell hb hS.2.2.2.2.2.2.2.2.2.2.2.2.2.2.2.2.1, box_cell hb hS.2.2.2.2.2.2.2.2.2.2.2.2.2.2.2.2.2.1, box_cell hb hS.2.2.2.2.2.2.2.2.2.2.2.2.2.2.2.2.2.2.1, box_cell hb hS.2.2.2.2.2.2.2.2.2.2.2.2.2.2.2.2.2.2.2.1, box_cell hb hS.2.2.2.2.2.2.2.2.2.2.2.2.2.2.2.2.2.2.2.2.1, box_cell hb hS.2.2.2.2.2.2.2.2.2.2.2.2.2.2.2.2.2.2.2.2.2.1, box_cell hb hS.2.2.2.2.2.2.2.2.2.2.2.2.2.2.2.2.2.2.2.2.2.2.1, box_cell hb hS.2.2.2.2.2.2.2.2.2.2.2.2.2.2.2.2.2.2.2.2.2.2.2.1, below_step hS.2.2.2.2.2.2.2.2.2.2.2.2.2.2.2.2.2.2.2.2.2.2.2.2 hb⟩
        go_simp
        go_wp2_with fail
        exact hK.out _ _ hS2 ⟨_, h1, h2, h3, h4, h5, W.heap.size, rfl, hS2, fun _ => ⟨rfl, CB.new W _ _, hlt2⟩, fun h => (k1 h).later hb, fun h => (k2 h).later hb, fun h => (k3 h).later hb, fun h => (k4 h).later hb, fun h => (k5 h).later hb⟩
      intro a W hI
      obtain ⟨v19, h1, h2, h3, h4, h5, b, rfl, hS, hv, k1, k2, k3, k4, k5⟩ := hI
      obtain ⟨rfl, hc, hl⟩ := hv rfl
      obtain ⟨d, rfl, hn⟩ := k5 (by omega)
      clear k1 k2 k3 k4
      have hne : g2 ≠ b := by have := HG2.out; omega
      have f0' := hc.frozen 0
      have f1' := hc.frozen 1
      have f2' := hc.frozen 2
      have f3' := hc.frozen 3
      obtain ⟨t0, t1, t2, t3⟩ := hc.cells4
      have hbel : Below wx8.heap.size wx8 ((((W.setCell ⟨b, 0, none⟩ (.slice d.a d.n d.c)).setCell ⟨b, 1, none⟩ (.int .i64 d.low)).setCell ⟨b, 2, none⟩ (.bool d.neg)).setCell ⟨b, 3, none⟩ (.bool d.nn)) := below_set4 hS.2.2.2.2.2.2.2.2.2.2.2.2.2.2.2.2.2.2.2.2.2.2.2.2 hl _ _ _ _
      have hn2 : IsNum ((((W.setCell ⟨b, 0, none⟩ (.slice d.a d.n d.c)).setCell ⟨b, 1, none⟩ (.int .i64 d.low)).setCell ⟨b, 2, none⟩ (.bool d.neg)).setCell ⟨b, 3, none⟩ (.bool d.nn)) d.ag (some (((fval (fs 0) - fval (fs 1)) * (fval (fs 2) - fval (fs 3))) - (fval (fs 4) * fval (fs 5)))) := isNum_set4g hn t0 t1 t2 t3 _ _ _ _
      have hc2 : CB ((((W.setCell ⟨b, 0, none⟩ (.slice d.a d.n d.c)).setCell ⟨b, 1, none⟩ (.int .i64 d.low)).setCell ⟨b, 2, none⟩ (.bool d.neg)).setCell ⟨b, 3, none⟩ (.bool d.nn)) b #[.slice d.a d.n d.c, .int .i64 d.low, .bool d.neg, .bool d.nn] 35 := hc.set4 _ _ _ _
      have hS2 : ((((W.setCell ⟨b, 0, none⟩ (.slice d.a d.n d.c)).setCell ⟨b, 1, none⟩ (.int .i64 d.low)).setCell ⟨b, 2, none⟩ (.bool d.neg)).setCell ⟨b, 3, none⟩ (.bool d.nn)).cell? ⟨g2, 0, none⟩ = some (.slice (dv 0).a (dv 0).n (dv 0).c) ∧ ((((W.setCell ⟨b, 0, none⟩ (.slice d.a d.n d.c)).setCell ⟨b, 1, none⟩ (.int .i64 d.low)).setCell ⟨b, 2, none⟩ (.bool d.neg)).setCell ⟨b, 3, none⟩ (.bool d.nn)).cell? ⟨g2, 1, none⟩ = some (.int .i64 (dv 0).low) ∧ ((((W.setCell ⟨b, 0, none⟩ (.slice d.a d.n d.c)).setCell ⟨b, 1, none⟩ (.int .i64 d.low)).setCell ⟨b, 2, none⟩ (.bool d.neg)).setCell ⟨b, 3, none⟩ (.bool d.nn)).cell? ⟨g2, 2, none⟩ = some (.bool (dv 0).neg) ∧ ((((W.setCell ⟨b, 0, none⟩ (.slice d.a d.n d.c)).setCell ⟨b, 1, none⟩ (.int .i64 d.low)).setCell ⟨b, 2, none⟩ (.bool d.neg)).setCell ⟨b, 3, none⟩ (.bool d.nn)).cell? ⟨g2, 3, none⟩ = some (.bool (dv 0).nn) ∧ ((((W.setCell ⟨b, 0, none⟩ (.slice d.a d.n d.c)).setCell ⟨b, 1, none⟩ (.int .i64 d.low)).setCell ⟨b, 2, none⟩ (.bool d.neg)).setCell ⟨b, 3, none⟩ (.bool d.nn)).cell? ⟨g2, 4, none⟩ = some (.slice (dv 1).a (dv 1).n (dv 1).c) ∧ ((((W.setCell ⟨b, 0, none⟩ (.slice d.a d.n d.c)).setCell ⟨b, 1, none⟩ (.int .i64 d.low)).setCell ⟨b, 2, none⟩ (.bool d.neg)).setCell ⟨b, 3, none⟩ (.bool d.nn)).cell? ⟨g2, 5, none⟩ = some (.int .i64 (dv 1).low) ∧ ((((W.setCell ⟨b, 0, none⟩ (.slice d.a d.n d.c)).setCell ⟨b, 1, none⟩ (.int .i64 d.low)).setCell ⟨b, 2, none⟩ (.bool d.neg)).setCell ⟨b, 3, none⟩ (.bool d.nn)).cell? ⟨g2, 6, none⟩ = some (.bool (dv 1).neg) ∧ ((((W.setCell ⟨b, 0, none⟩ (.slice d.a d.n d.c)).setCell ⟨b, 1, none⟩ (.int .i64 d.low)).setCell ⟨b, 2, none⟩ (.bool d.neg)).setCell ⟨b, 3, none⟩ (.bool d.nn)).cell? ⟨g2, 7, none⟩ = some (.bool (dv 1).nn) ∧ ((((W.setCell ⟨b, 0, none⟩ (.slice d.a d.n d.c)).setCell ⟨b, 1, none⟩ (.int .i64 d.low)).setCell ⟨b, 2, none⟩ (.bool d.neg)).setCell ⟨b, 3, none⟩ (.bool d.nn)).cell? ⟨g2, 8, none⟩ = some (.slice (dv 2).a (dv 2).n (dv 2).c) ∧ ((((W.setCell ⟨b, 0, none⟩ (.slice d.a d.n d.c)).setCell ⟨b, 1, none⟩ (.int .i64 d.low)).setCell ⟨b, 2, none⟩ (.bool d.neg)).setCell ⟨b, 3, none⟩ (.bool d.nn)).cell? ⟨g2, 9, none⟩ = some (.int .i64 (dv 2).low) ∧ ((((W.setCell ⟨b, 0, none⟩ (.slice d.a d.n d.c)).setCell ⟨b, 1, none⟩ (.int .i64 d.low)).setCell ⟨b, 2, none⟩ (.bool d.neg)).setCell ⟨b, 3, none⟩ (.bool d.nn)).cell? ⟨g2, 10, none⟩ = some (.bool (dv 2).neg) ∧ ((((W.setCell ⟨b, 0, none⟩ (.slice d.a d.n d.c)).setCell ⟨b, 1, none⟩ (.int .i64 d.low)).setCell ⟨b, 2, none⟩ (.bool d.neg)).setCell ⟨b, 3, none⟩ (.bool d.nn)).cell? ⟨g2, 11, none⟩ = some (.bool (dv 2).nn) ∧ ((((W.setCell ⟨b, 0, none⟩ (.slice d.a d.n d.c)).setCell ⟨b, 1, none⟩ (.int .i64 d.low)).setCell ⟨b, 2, none⟩ (.bool d.neg)).setCell ⟨b, 3, none⟩ (.bool d.nn)).cell? ⟨g2, 12, none⟩ = some (.slice (dv 3).a (dv 3).n (dv 3).c) ∧ ((((W.setCell ⟨b, 0, none⟩ (.slice d.a d.n d.c)).setCell ⟨b, 1, none⟩ (.int .i64 d.low)).setCell ⟨b, 2, none⟩ (.bool d.neg)).setCell ⟨b, 3, none⟩ (.bool d.nn)).cell? ⟨g2, 13, none⟩ = some (.int .i64 (dv 3).low) ∧ ((((W.setCell ⟨b, 0, none⟩ (.slice d.a d.n d.c)).setCell ⟨b, 1, none⟩ (.int .i64 d.low)).setCell ⟨b, 2, none⟩ (.bool d.neg)).setCell ⟨b, 3, none⟩ (.bool d.nn)).cell? ⟨g2, 14, none⟩ = some (.bool (dv 3).neg) ∧ ((((W.setCell ⟨b, 0, none⟩ (.slice d.a d.n d.c)).setCell ⟨b, 1, none⟩ (.int .i64 d.low)).setCell ⟨b, 2, none⟩ (.bool d.neg)).setCell ⟨b, 3, none⟩ (.bool d.nn)).cell? ⟨g2, 15, none⟩ = some (.bool (dv 3).nn) ∧ ((((W.setCell ⟨b, 0, none⟩ (.slice d.a d.n d.c)).setCell ⟨b, 1, none⟩ (.int .i64 d.low)).setCell ⟨b, 2, none⟩ (.bool d.neg)).setCell ⟨b, 3, none⟩ (.bool d.nn)).cell? ⟨g2, 16, none⟩ = some (.slice (dv 4).a (dv 4).n (dv 4).c) ∧ ((((W.setCell ⟨b, 0, none⟩ (.slice d.a d.n d.c)).setCell ⟨b, 1, none⟩ (.int .i64 d.low)).setCell ⟨b, 2, none⟩ (.bool d.neg)).setCell ⟨b, 3, none⟩ (.bool d.nn)).cell? ⟨g2, 17, none⟩ = some (.int .i64 (dv 4).low) ∧ ((((W.setCell ⟨b, 0, none⟩ (.slice d.a d.n d.c)).setCell ⟨b, 1, none⟩ (.int .i64 d.low)).setCell ⟨b, 2, none⟩ (.bool d.neg)).setCell ⟨b, 3, none⟩ (.bool d.nn)).cell? ⟨g2, 18, none⟩ = some (.bool (dv 4).neg) ∧ ((((W.setCell ⟨b, 0, none⟩ (.slice d.a d.n d.c)).setCell ⟨b, 1, none⟩ (.int .i64 d.low)).setCell ⟨b, 2, none⟩ (.bool d.neg)).setCell ⟨b, 3, none⟩ (.bool d.nn)).cell? ⟨g2, 19, none⟩ = some (.bool (dv 4).nn) ∧ ((((W.setCell ⟨b, 0, none⟩ (.slice d.a d.n d.c)).setCell ⟨b, 1, none⟩ (.int .i64 d.low)).setCell ⟨b, 2, none⟩ (.bool d.neg)).setCell ⟨b, 3, none⟩ (.bool d.nn)).cell? ⟨g2, 20, none⟩ = some (.slice (dv 5).a (dv 5).n (dv 5).c) ∧ ((((W.setCell ⟨b, 0, none⟩ (.slice d.a d.n d.c)).setCell ⟨b, 1, none⟩ (.int .i64 d.low)).setCell ⟨b, 2, none⟩ (.bool d.neg)).setCell ⟨b, 3, none⟩ (.bool d.nn)).cell? ⟨g2, 21, none⟩ = some (.int .i64 (dv 5).low) ∧ ((((W.setCell ⟨b, 0, none⟩ (.slice d.a d.n d.c)).setCell ⟨b, 1, none⟩ (.int .i64 d.low)).setCell ⟨b, 2, none⟩ (.bool d.neg)).setCell ⟨b, 3, none⟩ (.bool d.nn)).cell? ⟨g2, 22, none⟩ = some (.bool (dv 5).neg) ∧ ((((W.setCell ⟨b, 0, none⟩ (.slice d.a d.n d.c)).setCell ⟨b, 1, none⟩ (.int .i64 d.low)).setCell ⟨b, 2, none⟩ (.bool d.neg)).setCell ⟨b, 3, none⟩ (.bool d.nn)).cell? ⟨g2, 23, none⟩ = some (.bool (dv 5).nn) ∧ Below wx8.heap.size wx8 ((((W.setCell ⟨b, 0, none⟩ (.slice d.a d.n d.c)).setCell ⟨b, 1, none⟩ (.int .i64 d.low)).setCell ⟨b, 2, none⟩ (.bool d.neg)).setCell ⟨b, 3, none⟩ (.bool d.nn)) := ⟨cell_set4 hS.1 hne _ _ _ _, cell_set4 hS.2.1 hne _ _ _ _, cell_set4 hS.2.2.1 hne _ _ _ _, cell_set4 hS.2.2.2.1 hne _ _ _ _, cell_set4 hS.2.2.2.2.1 hne _ _ _ _, cell_set4 hS.2.2.2.2.2.1 hne _ _ _ _, cell_set4 hS.2.2.2.2.2.2.1 hne _ _ _ _, cell_set4 hS.2.2.2.2.2.2.2.1 hne _ _ _ _, cell_set4 hS.2.2.2.2.2.2.2.2.1 hne _ _ _ _, cell_set4 hS.2.2.2.2.2.2.2.2.2.1 hne _ _ _ _, cell_set4 hS.2.2.2.2.2.2.2.2.2.2.1 hne _ _ _ _, cell_set4 hS.2.2.2.2.2.2.2.2.2.2.2.1 hne _ _ _ _, cell_set4 hS.2.2.2.2.2.2.2.2.2.2.2.2.1 hne _ _ _ _, cell_set4 hS.2.2.2.2.2.2.2.2.2.2.2.2.2.1 hne _ _ _ _, cell_set4 hS.2.2.2.2.2.2.2.2.2.2.2.2.2.2.1 hne _ _ _ _, cell_set4 hS.2.2.2.2.2.2.2.2.2.2.2.2.2.2.2.1 hne _ _ _ _, cell_set4 hS.2.2.2.2.2.2.2.2.2.2.2.2.2.2.2.2.1 hne _ _ _ _, cell_set4 hS.2.2.2.2.2.2.2.2.2.2.2.2.2.2.2.2.2.1 hne _ _ _ _, cell_set4 hS.2.2.2.2.2.2.2.2.2.2.2.2.2.2.2.2.2.2.1 hne _ _ _ _, cell_set4 hS.2.2.2.2.2.2.2.2.2.2.2.2.2.2.2.2.2.2.2.1 hne _ _ _ _, cell_set4 hS.2.2.2.2.2.2.2.2.2.2.2.2.2.2.2.2.2.2.2.2.1 hne _ _ _ _, cell_set4 hS.2.2.2.2.2.2.2.2.2.2.2.2.2.2.2.2.2.2.2.2.2.1 hne _ _ _ _, cell_set4 hS.2.2.2.2.2.2.2.2.2.2.2.2.2.2.2.2.2.2.2.2.2.2.1 hne _ _ _ _, cell_set4 hS.2.2.2.2.2.2.2.2.2.2.2.2.2.2.2.2.2.2.2.2.2.2.2.1 hne _ _ _ _, hbel⟩
      refine call_at 24 (by kernel_rfl) (by kernel_rfl) ?_
      intro o ho
      simp only [List.getElem?_toArray, List.getElem?_cons_succ, List.getElem?_cons_zero, Option.some.injEq] at ho
      subst ho
      intro KF hK
      go_simp
      go_wp2_with fail
      refine hK.out _ _ hS2 ?_
      intro _
      clear hK KF hS2 hS hc t0 t1 t2 t3 f0' f1' f2' f3' hn k5 hv
      try simp only [List.setIfInBounds_toArray, List.set_cons_zero, List.set_cons_succ]
      refine wpAnyH_done (by kernel_rfl) ?_ _
      generalize ((((W.setCell ⟨b, 0, none⟩ (.slice d.a d.n d.c)).setCell ⟨b, 1, none⟩ (.int .i64 d.low)).setCell ⟨b, 2, none⟩ (.bool d.neg)).setCell ⟨b, 3, none⟩ (.bool d.nn)) = W0 at *
      clear hS
      have HW0 : Hid (Below wx8.heap.size wx8 W0) := hbel
      obtain ⟨Q, HQ⟩ : ∃ Q, Hid ((((fval (fs 0) - fval (fs 1)) * (fval (fs 2) - fval (fs 3))) - (fval (fs 4) * fval (fs 5))) = Q) := ⟨_, rfl⟩
      rw [HQ.out] at hn2
      have HN9 : Hid (IsNum W0 d.ag (some Q)) := hn2
      replace P8 : Hid (NM 770 1277 Q l8) := by
        have e : (fval (fs 0) + -fval (fs 1)) * (fval (fs 2) + -fval (fs 3)) + -(fval (fs 4) * fval (fs 5)) = Q := by rw [← HQ.out]; grind
        rw [← e]; exact P8.out
      obtain ⟨z, HZ⟩ : ∃ z, Hid (sgnR Q = z) := ⟨_, rfl⟩
      have HZ2 : Hid (sgnR ((fval (fs 0) + -fval (fs 1)) * (fval (fs 2) + -fval (fs 3)) - (fval (fs 4) * fval (fs 5))) = z) := by
        show _ = _
        rw [show (fval (fs 0) + -fval (fs 1)) * (fval (fs 2) + -fval (fs 3)) - (fval (fs 4) * fval (fs 5)) = Q by rw [← HQ.out]; grind]; exact HZ.out
      replace G5 : Hid (Fs W0 (.slice m5 n5 k5) l5) := G5.out.later hbel
      replace G6 : Hid (Fs W0 (.slice m6 n6 k6) l6) := G6.out.later hbel
      replace G8 : Hid (Fs W0 (.slice m8 n8 k8) l8) := G8.out.later hbel
      have HR0 : Hid (Below w.heap.size w W0) := below_step HR.out hbel
      obtain ⟨t0, t1, t2, t3⟩ := hc2.cells4
      clear hbel hc2 hn2 hne
      go_wp2_with fail
      refine wp_region_held_drew (S := (fun W => W.cell? ⟨b, 0, none⟩ = some (.slice d.a d.n d.c) ∧ W.cell? ⟨b, 1, none⟩ = some (.int .i64 d.low) ∧ W.cell? ⟨b, 2, none⟩ = some (.bool d.neg) ∧ W.cell? ⟨b, 3, none⟩ = some (.bool d.nn) ∧ Below W0.heap.size W0 W)) (by kernel_rfl) ⟨t0, t1, t2, t3, (Below.refl _ _).drew⟩ (fun hS => ?_)
      refine take_at (i := 0) (d := some 137) (v := .bool true) (by kernel_rfl) (by kernel_rfl) (by kernel_rfl) (by kernel_rfl) (fun _ _ _ h => h) ?_ hS ?_
      · intro o ho
        simp only [List.getElem?_toArray, List.getElem?_cons_zero, Option.some.injEq] at ho
        subst ho
        refine Or.inl ⟨by rfl, ?_⟩
        intro w hSw
        (try dsimp only at hSw)
        go_simp
      simp only [Act.put, List.setIfInBounds_toArray, List.set_cons_zero, List.set_cons_succ]
      refine take_at (i := 1) (d := some 138) (v := .bool true) (by kernel_rfl) (by kernel_rfl) (by kernel_rfl) (by kernel_rfl) (fun _ _ _ h => h) ?_ hS ?_
      · intro o ho
        simp only [List.getElem?_toArray, List.getElem?_cons_succ, List.getElem?_cons_zero, Option.some.injEq] at ho
        subst ho
        refine Or.inl ⟨by rfl, ?_⟩
        intro w hSw
        (try dsimp only at hSw)
        go_simp
      simp only [Act.put, List.setIfInBounds_toArray, List.set_cons_zero, List.set_cons_succ]
      refine take_at (i := 2) (d := some 139) (v := .slice m8 n8 k8) (by kernel_rfl) (by kernel_rfl) (by kernel_rfl) (by kernel_rfl) (fun _ _ _ h => h) ?_ hS ?_
      · intro o ho
        simp only [List.getElem?_toArray, List.getElem?_cons_succ, List.getElem?_cons_zero, Option.some.injEq] at ho
        subst ho
        refine Or.inl ⟨by rfl, ?_⟩
        intro w hSw
        (try dsimp only at hSw)
        go_simp
      simp only [Act.put, List.setIfInBounds_toArray, List.set_cons_zero, List.set_cons_succ]
      refine call_at 3 (by kernel_rfl) (by kernel_rfl) ?_
      intro o ho
      simp only [List.getElem?_toArray, List.getElem?_cons_succ, List.getElem?_cons_zero, Option.some.injEq] at ho
      subst ho
      intro KF hK
      go_simp
      refine (checkT_any _ _ _ (G8.out.later hS.2.2.2.2) P8.out.c).mono ?_
      rintro e wy1 ⟨rfl, hbx⟩
      go_wp2_with fail
      refine hK.out _ _ ⟨box_cell hbx hS.1, box_cell hbx hS.2.1, box_cell hbx hS.2.2.1, box_cell hbx hS.2.2.2.1, below_step hS.2.2.2.2 hbx⟩ ?_
      clear hS hbx
      intro hS
      clear hK KF
      try simp only [Act.put, List.setIfInBounds_toArray, List.set_cons_zero, List.set_cons_succ]
      refine take_at (i := 4) (d := some 141) (v := .bool true) (by kernel_rfl) (by kernel_rfl) (by kernel_rfl) (by kernel_rfl) (fun _ _ _ h => h) ?_ hS ?_
      · intro o ho
        simp only [List.getElem?_toArray, List.getElem?_cons_succ, List.getElem?_cons_zero, Option.some.injEq] at ho
        subst ho
        refine Or.inl ⟨by rfl, ?_⟩
        intro w hSw
        (try dsimp only at hSw)
        go_simp
      simp only [Act.put, List.setIfInBounds_toArray, List.set_cons_zero, List.set_cons_succ]
      refine take_at (i := 5) (d := some 142) (v := .bool true) (by kernel_rfl) (by kernel_rfl) (by kernel_rfl) (by kernel_rfl) (fun _ _ _ h => h) ?_ hS ?_
      · intro o ho
        simp only [List.getElem?_toArray, List.getElem?_cons_succ, List.getElem?_cons_zero, Option.some.injEq] at ho
        subst ho
        refine Or.inl ⟨by rfl, ?_⟩
        intro w hSw
        (try dsimp only at hSw)
        go_simp
      simp only [Act.put, List.setIfInBounds_toArray, List.set_cons_zero, List.set_cons_succ]
      refine take_at (i := 6) (d := some 143) (v := .slice m8 n8 k8) (by kernel_rfl) (by kernel_rfl) (by kernel_rfl) (by kernel_rfl) (fun _ _ _ h => h) ?_ hS ?_
      · intro o ho
        simp only [List.getElem?_toArray, List.getElem?_cons_succ, List.getElem?_cons_zero, Option.some.injEq] at ho
        subst ho
        refine Or.inl ⟨by rfl, ?_⟩
        intro w hSw
        (try dsimp only at hSw)
        go_simp
      simp only [Act.put, List.setIfInBounds_toArray, List.set_cons_zero, List.set_cons_succ]
      refine take_at (i := 8) (d := some 145) (v := .agg #[.slice d.a d.n d.c, .int .i64 d.low, .bool d.neg, .bool d.nn]) (by kernel_rfl) (by kernel_rfl) (by kernel_rfl) (by kernel_rfl) (fun _ _ _ h => h) ?_ hS ?_
      · intro o ho
        simp only [List.getElem?_toArray, List.getElem?_cons_succ, List.getElem?_cons_zero, Option.some.injEq] at ho
        subst ho
        refine Or.inl ⟨by rfl, ?_⟩
        intro w hSw
        (try dsimp only at hSw)
        go_simp
      simp only [Act.put, List.setIfInBounds_toArray, List.set_cons_zero, List.set_cons_succ]
      refine call_at 7 (by kernel_rfl) (by kernel_rfl) ?_
      intro o ho
      simp only [List.getElem?_toArray, List.getElem?_cons_succ, List.getElem?_cons_zero, Option.some.injEq] at ho
      subst ho
      intro KF hK
      go_simp
      refine (signM_any 770 1277 _ _ z _ _ (G8.out.later hS.2.2.2.2) P8.out HZ.out).mono ?_
      rintro e wy2 ⟨rfl, hbx⟩
      go_wp2_with fail
      refine hK.out _ _ ⟨box_cell hbx hS.1, box_cell hbx hS.2.1, box_cell hbx hS.2.2.1, box_cell hbx hS.2.2.2.1, below_step hS.2.2.2.2 hbx⟩ ?_
      clear hS hbx
      intro hS
      clear hK KF
      try simp only [Act.put, List.setIfInBounds_toArray, List.set_cons_zero, List.set_cons_succ]
      refine call_at 9 (by kernel_rfl) (by kernel_rfl) ?_
      intro o ho
      simp only [List.getElem?_toArray, List.getElem?_cons_succ, List.getElem?_cons_zero, Option.some.injEq] at ho
      subst ho
      intro KF hK
      go_simp
      refine (signB_any _ _ z _ (HN9.out.later hS.2.2.2.2) HZ.out).mono ?_
      rintro e wy3 ⟨rfl, hbx⟩
      go_wp2_with fail
      refine hK.out _ _ ⟨box_cell hbx hS.1, box_cell hbx hS.2.1, box_cell hbx hS.2.2.1, box_cell hbx hS.2.2.2.1, below_step hS.2.2.2.2 hbx⟩ ?_
      clear hS hbx
      intro hS
      clear hK KF
      try simp only [Act.put, List.setIfInBounds_toArray, List.set_cons_zero, List.set_cons_succ]
      refine take_at (i := 10) (d := some 147) (v := .bool true) (by kernel_rfl) (by kernel_rfl) (by kernel_rfl) (by kernel_rfl) (fun _ _ _ h => h) ?_ hS ?_
      · intro o ho
        simp only [List.getElem?_toArray, List.getElem?_cons_succ, List.getElem?_cons_zero, Option.some.injEq] at ho
        subst ho
        refine Or.inl ⟨by rfl, ?_⟩
        intro w hSw
        (try dsimp only at hSw)
        go_simp
      simp only [Act.put, List.setIfInBounds_toArray, List.set_cons_zero, List.set_cons_succ]
      refine take_at (i := 11) (d := some 148) (v := .bool true) (by kernel_rfl) (by kernel_rfl) (by kernel_rfl) (by kernel_rfl) (fun _ _ _ h => h) ?_ hS ?_
      · intro o ho
        simp only [List.getElem?_toArray, List.getElem?_cons_succ, List.getElem?_cons_zero, Option.some.injEq] at ho
        subst ho
        refine Or.inl ⟨by rfl, ?_⟩
        intro w hSw
        (try dsimp only at hSw)
        go_simp
      simp only [Act.put, List.setIfInBounds_toArray, List.set_cons_zero, List.set_cons_succ]
      refine take_at (i := 12) (d := some 149) (v := .bool true) (by kernel_rfl) (by kernel_rfl) (by kernel_rfl) (by kernel_rfl) (fun _ _ _ h => h) ?_ hS ?_
      · intro o ho
        simp only [List.getElem?_toArray, List.getElem?_cons_succ, List.getElem?_cons_zero, Option.some.injEq] at ho
        subst ho
        refine Or.inl ⟨by rfl, ?_⟩
        intro w hSw
        (try dsimp only at hSw)
        go_simp
      simp only [Act.put, List.setIfInBounds_toArray, List.set_cons_zero, List.set_cons_succ]
      refine take_at (i := 13) (d := some 150) (v := .slice m8 n8 k8) (by kernel_rfl) (by kernel_rfl) (by kernel_rfl) (by kernel_rfl) (fun _ _ _ h => h) ?_ hS ?_
      · intro o ho
        simp only [List.getElem?_toArray, List.getElem?_cons_succ, List.getElem?_cons_zero, Option.some.injEq] at ho
        subst ho
        refine Or.inl ⟨by rfl, ?_⟩
        intro w hSw
        (try dsimp only at hSw)
        go_simp
      simp only [Act.put, List.setIfInBounds_toArray, List.set_cons_zero, List.set_cons_succ]
      refine take_at (i := 15) (d := some 152) (v := .agg #[.slice d.a d.n d.c, .int .i64 d.low, .bool d.neg, .bool d.nn]) (by kernel_rfl) (by kernel_rfl) (by kernel_rfl) (by kernel_rfl) (fun _ _ _ h => h) ?_ hS ?_
      · intro o ho
        simp only [List.getElem?_toArray, List.getElem?_cons_succ, List.getElem?_cons_zero, Option.some.injEq] at ho
        subst ho
        refine Or.inl ⟨by rfl, ?_⟩
        intro w hSw
        (try dsimp only at hSw)
        go_simp
      simp only [Act.put, List.setIfInBounds_toArray, List.set_cons_zero, List.set_cons_succ]
      refine call_at 14 (by kernel_rfl) (by kernel_rfl) ?_
      intro o ho
      simp only [List.getElem?_toArray, List.getElem?_cons_succ, List.getElem?_cons_zero, Option.some.injEq] at ho
      subst ho
      intro KF hK
      go_simp
      refine (numM_any 770 1277 _ _ _ _ (HT.out.later (below_step HR0.out hS.2.2.2.2)) (G8.out.later hS.2.2.2.2) P8.out).mono ?_
      rintro e wy4 ⟨⟨d2, rfl, hnn⟩, hbx⟩
      have HNN : Hid (IsNum wy4 d2.ag (some Q)) := hnn
      clear hnn
      go_wp2_with fail
      refine hK.out _ _ ⟨box_cell hbx hS.1, box_cell hbx hS.2.1, box_cell hbx hS.2.2.1, box_cell hbx hS.2.2.2.1, below_step hS.2.2.2.2 hbx⟩ ?_
      clear hS hbx
      intro hS
      clear hK KF
      try simp only [Act.put, List.setIfInBounds_toArray, List.set_cons_zero, List.set_cons_succ]
      refine call_at 16 (by kernel_rfl) (by kernel_rfl) ?_
      intro o ho
      simp only [List.getElem?_toArray, List.getElem?_cons_succ, List.getElem?_cons_zero, Option.some.injEq] at ho
      subst ho
      intro KF hK
      go_simp
      refine (cmpB_any _ _ Q _ HNN.out (HN9.out.later hS.2.2.2.2)).mono ?_
      rintro e wy5 ⟨rfl, hbx⟩
      go_wp2_with fail
      refine hK.out _ _ ⟨box_cell hbx hS.1, box_cell hbx hS.2.1, box_cell hbx hS.2.2.1, box_cell hbx hS.2.2.2.1, below_step hS.2.2.2.2 hbx⟩ ?_
      clear hS hbx
      intro hS
      clear hK KF
      try simp only [Act.put, List.setIfInBounds_toArray, List.set_cons_zero, List.set_cons_succ]
      refine take_at (i := 17) (d := some 154) (v := .bool true) (by kernel_rfl) (by kernel_rfl) (by kernel_rfl) (by kernel_rfl) (fun _ _ _ h => h) ?_ hS ?_
      · intro o ho
        simp only [List.getElem?_toArray, List.getElem?_cons_succ, List.getElem?_cons_zero, Option.some.injEq] at ho
        subst ho
        refine Or.inl ⟨by rfl, ?_⟩
        intro w hSw
        (try dsimp only at hSw)
        go_simp
      simp only [Act.put, List.setIfInBounds_toArray, List.set_cons_zero, List.set_cons_succ]
      refine take_at (i := 18) (d := some 155) (v := .bool true) (by kernel_rfl) (by kernel_rfl) (by kernel_rfl) (by kernel_rfl) (fun _ _ _ h => h) ?_ hS ?_
      · intro o ho
        simp only [List.getElem?_toArray, List.getElem?_cons_succ, List.getElem?_cons_zero, Option.some.injEq] at ho
        subst ho
        refine Or.inl ⟨by rfl, ?_⟩
        intro w hSw
        (try dsimp only at hSw)
        go_simp
      simp only [Act.put, List.setIfInBounds_toArray, List.set_cons_zero, List.set_cons_succ]
      refine take_at (i := 19) (d := some 156) (v := .bool true) (by kernel_rfl) (by kernel_rfl) (by kernel_rfl) (by kernel_rfl) (fun _ _ _ h => h) ?_ hS ?_
      · intro o ho
        simp only [List.getElem?_toArray, List.getElem?_cons_succ, List.getElem?_cons_zero, Option.some.injEq] at ho
        subst ho
        refine Or.inl ⟨by rfl, ?_⟩
        intro w hSw
        (try dsimp only at hSw)
        go_simp
      simp only [Act.put, List.setIfInBounds_toArray, List.set_cons_zero, List.set_cons_succ]
      refine take_at (i := 20) (d := some 157) (v := .slice m5 n5 k5) (by kernel_rfl) (by kernel_rfl) (by kernel_rfl) (by kernel_rfl) (fun _ _ _ h => h) ?_ hS ?_
      · intro o ho
        simp only [List.getElem?_toArray, List.getElem?_cons_succ, List.getElem?_cons_zero, Option.some.injEq] at ho
        subst ho
        refine Or.inl ⟨by rfl, ?_⟩
        intro w hSw
        (try dsimp only at hSw)
        go_simp
      simp only [Act.put, List.setIfInBounds_toArray, List.set_cons_zero, List.set_cons_succ]
      refine take_at (i := 21) (d := some 158) (v := .slice m6 n6 k6) (by kernel_rfl) (by kernel_rfl) (by kernel_rfl) (by kernel_rfl) (fun _ _ _ h => h) ?_ hS ?_
      · intro o ho
        simp only [List.getElem?_toArray, List.getElem?_cons_succ, List.getElem?_cons_zero, Option.some.injEq] at ho
        subst ho
        refine Or.inl ⟨by rfl, ?_⟩
        intro w hSw
        (try dsimp only at hSw)
        go_simp
      simp only [Act.put, List.setIfInBounds_toArray, List.set_cons_zero, List.set_cons_succ]
      refine take_at (i := 23) (d := some 160) (v := .agg #[.slice d.a d.n d.c, .int .i64 d.low, .bool d.neg, .bool d.nn]) (by kernel_rfl) (by kernel_rfl) (by kernel_rfl) (by kernel_rfl) (fun _ _ _ h => h) ?_ hS ?_
      · intro o ho
        simp only [List.getElem?_toArray, List.getElem?_cons_succ, List.getElem?_cons_zero, Option.some.injEq] at ho
        subst ho
        refine Or.inl ⟨by rfl, ?_⟩
        intro w hSw
        (try dsimp only at hSw)
        go_simp
      simp only [Act.put, List.setIfInBounds_toArray, List.set_cons_zero, List.set_cons_succ]
      refine call_at 22 (by kernel_rfl) (by kernel_rfl) ?_
      intro o ho
      simp only [List.getElem?_toArray, List.getElem?_cons_succ, List.getElem?_cons_zero, Option.some.injEq] at ho
      subst ho
      intro KF hK
      go_simp
      refine (cmpM_any 770 1276 770 1274 _ _ _ _ z _ _ _ (G5.out.later hS.2.2.2.2) (G6.out.later hS.2.2.2.2) P5.out P6.out HZ2.out).mono ?_
      rintro e wy6 ⟨rfl, hbx⟩
      go_wp2_with fail
      refine hK.out _ _ ⟨box_cell hbx hS.1, box_cell hbx hS.2.1, box_cell hbx hS.2.2.1, box_cell hbx hS.2.2.2.1, below_step hS.2.2.2.2 hbx⟩ ?_
      clear hS hbx
      intro hS
      clear hK KF
      try simp only [Act.put, List.setIfInBounds_toArray, List.set_cons_zero, List.set_cons_succ]
      refine call_at 24 (by kernel_rfl) (by kernel_rfl) ?_
      intro o ho
      simp only [List.getElem?_toArray, List.getElem?_cons_succ, List.getElem?_cons_zero, Option.some.injEq] at ho
      subst ho
      intro KF hK
      go_simp
      refine (signB_any _ _ z _ (HN9.out.later hS.2.2.2.2) HZ.out).mono ?_
      rintro e wy7 ⟨rfl, hbx⟩
      go_wp2_with fail
      refine hK.out _ _ ⟨box_cell hbx hS.1, box_cell hbx hS.2.1, box_cell hbx hS.2.2.1, box_cell hbx hS.2.2.2.1, below_step hS.2.2.2.2 hbx⟩ ?_
      clear hS hbx
      intro hS
      clear hK KF
      try simp only [Act.put, List.setIfInBounds_toArray, List.set_cons_zero, List.set_cons_succ]
      refine take_at (i := 25) (d := some 162) (v := .bool true) (by kernel_rfl) (by kernel_rfl) (by kernel_rfl) (by kernel_rfl) (fun _ _ _ h => h) ?_ hS ?_
      · intro o ho
        simp only [List.getElem?_toArray, List.getElem?_cons_succ, List.getElem?_cons_zero, Option.some.injEq] at ho
        subst ho
        refine Or.inl ⟨by rfl, ?_⟩
        intro w hSw
        (try dsimp only at hSw)
        go_simp
      simp only [Act.put, List.setIfInBounds_toArray, List.set_cons_zero, List.set_cons_succ]
      refine take_at (i := 26) (d := some 163) (v := .bool true) (by kernel_rfl) (by kernel_rfl) (by kernel_rfl) (by kernel_rfl) (fun _ _ _ h => h) ?_ hS ?_
      · intro o ho
        simp only [List.getElem?_toArray, List.getElem?_cons_succ, List.getElem?_cons_zero, Option.some.injEq] at ho
        subst ho
        refine Or.inl ⟨by rfl, ?_⟩
        intro w hSw
        (try dsimp only at hSw)
        go_simp
      simp only [Act.put, List.setIfInBounds_toArray, List.set_cons_zero, List.set_cons_succ]
      refine take_at (i := 27) (d := some 2) (v := .bool true) (by kernel_rfl) (by kernel_rfl) (by kernel_rfl) (by kernel_rfl) (fun _ _ _ h => h) ?_ hS ?_
      · intro o ho
        simp only [List.getElem?_toArray, List.getElem?_cons_succ, List.getElem?_cons_zero, Option.some.injEq] at ho
        subst ho
        refine Or.inl ⟨by rfl, ?_⟩
        intro w hSw
        (try dsimp only at hSw)
        go_simp
      simp only [Act.put, List.setIfInBounds_toArray, List.set_cons_zero, List.set_cons_succ]
      refine wpAnyH_done (by kernel_rfl) ?_ _
      have HF : Hid (Below w.heap.size w wy7) := below_step HR0.out hS.2.2.2.2
      clear hS
      go_wp2
      go_ret
      exact ⟨rfl, HF.out⟩


end Go.Proofs.YtfcgndgmbmkdgaaDoor
