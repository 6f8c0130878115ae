/- Own texts, put together: Mo Mp. -/
import Derived.Test.YtcgbnjoajieggaaGreatQ34
namespace Go.Proofs.YtcgbnjoajieggaaGreat
/- Package mesh: what a triangle tells: the closures of Tris, Edges, Border. (gen_mo.py) -/
section
open Go.RowKit Go.Shelf Go.Lib
attribute [local go_sem ↓] Go.wp_at_zero Go.wp_at_succ
set_option maxRecDepth 100000
def fTri (a : Nat) (w : Wg) : List (Nat × Nat × Nat) := if a < w.1 ∧ a < w.2 then [(a, w.1, w.2)] else []
def fEdge (A : List (List Wg)) (a : Nat) (w : Wg) : List (Nat × Nat) := (if a < w.1 then [(a, w.1)] else []) ++ (if a < w.2 ∧ plc A (a : Nat) (w.2 : Nat) = none then [(a, w.2)] else [])
def fBord (A : List (List Wg)) (a : Nat) (w : Wg) : List (Nat × Nat) := if plc A (w.1 : Nat) (a : Nat) = none then [(a, w.1)] else []
def Rk {α : Type} (enc : α → List Value) (T k : Nat) (W : World) (B : Nat) (v : Value) (xs : List α) : Prop := W.ownsRow B T k v xs.length (xs.flatMap enc)
theorem below_grown {B : Nat} {W V : World} {row : Option Nat} (h : W.grownBy V row) (hr : ∀ g, row = some g → B ≤ g) (hB : B ≤ W.heap.size) : Below B W V :=
 ⟨h.os, h.tape, h.output, h.size, fun k hk => h.block k (by omega) (fun e => by have := hr k e.symm; omega)⟩
theorem own_later' {W V : World} {B e s n : Nat} {v : Value} {xs : List Value} (h : W.ownsRow B e s v n xs) (hb : Below W.heap.size W V) : V.ownsRow B e s v n xs := own_same h (fun g hg => hb.block g (h.lt g hg).2)
theorem grown_trans {W V U : World} {r : Option Nat} (h : W.grownBy V none) (g : V.grownBy U r) : W.grownBy U r :=
 ⟨g.os.trans h.os, g.tape.trans h.tape, g.output.trans h.output, Nat.le_trans h.size g.size, fun k hk hn => (g.block k (Nat.lt_of_lt_of_le hk h.size) hn).trans (h.block k hk (by simp))⟩
set_option maxHeartbeats 1000000 in
theorem tris_cl {W : World} {B : Nat} {v : Value} {xs : List (Nat × Nat × Nat)} (h : Rk enc_tri 30 3 W B v xs) (hB : B ≤ W.heap.size) (hn : xs.length ≤ 4000000000000) (a b c : Nat) :
   Calls Tryz.prog 59 #[v, .int .i64 (a : Nat), .agg #[.int .i64 (b : Nat), .int .i64 (c : Nat)]] W fun e w' => ∃ v', e = .returned v' ∧ Rk enc_tri 30 3 w' B v' (xs ++ fTri a (b, c)) ∧ Below B W w' := by
 obtain ⟨W1, hW1⟩ : ∃ X, W.alloc (.cells #[.int .i64 (b : Nat), .int .i64 (c : Nat)] 90) = X := ⟨_, rfl⟩
 have b1 : Below W.heap.size W W1 := by rw [← hW1]; exact (Below.refl _ W).alloc (Nat.le_refl _) _
 have k1 : CB W1 W.heap.size #[.int .i64 (b : Nat), .int .i64 (c : Nat)] 90 := by rw [← hW1]; exact CB.new W _ _
 have c1 := k1.cell 0 (by simp)
 have c2 := k1.cell 1 (by simp)
 have HO := Lib.hid (own_later' h b1)
 have HB := Lib.hid (b1.mono hB)
 have HBs := Lib.hid (Nat.le_trans hB b1.size)
 clear k1 b1 hB
 by_cases g1 : a < b
 · have g1' : (a : Int) < (b : Int) := by omega
   by_cases g2 : a < c
   · have g2' : (a : Int) < (c : Int) := by omega
     have HF : Hid (fTri a (b, c) = [(a, b, c)]) := Lib.hid (if_pos ⟨g1, g2⟩)
     have HL : Hid ((xs ++ fTri a (b, c)).length = xs.length + 1 ∧ (xs ++ fTri a (b, c)).flatMap enc_tri = xs.flatMap enc_tri ++ [.int .i64 (a : Nat), .int .i64 (b : Nat), .int .i64 (c : Nat)]) := Lib.hid (by rw [HF.out]; exact ⟨by simp, by rw [List.flatMap_append]; rfl⟩)
     obtain ⟨i0, hi0, hz0, hz1, hz2⟩ := info_parts (show (Tryz.prog.info? 30).map (fun i => (i.zero, i.size, i.bytes)) = some (some (.agg #[.int .i64 0, .int .i64 0, .int .i64 0]), 3, 24) by kernel_rfl)
     clear h
     go_enter Tryz.func59, Tryz.ntmps59
     go_wp2_with (at_builtin; refine wpList_append_own _ rfl _ _ 31 rfl B 30 i0 (.agg #[.int .i64 0, .int .i64 0, .int .i64 0]) 3 24 Tryz.underlying31 hi0 hz0 hz1 hz2 rfl (by decide) v _ (xs.flatMap enc_tri) rfl (World.ownsRow.alloc HO.out _) ⟨W1.heap.size, 0, none⟩ 1 1 [.int .i64 (a : Nat), .int .i64 (b : Nat), .int .i64 (c : Nat)] rfl rfl (World.news_of_block (cs := #[.int .i64 (a : Nat), .int .i64 (b : Nat), .int .i64 (c : Nat)]) (t := 30) (fr := (0, 0)) (heap_alloc_new W1 _)) (by simp [Value.oneCell']) (by unfold maxLen; omega) (by omega) (by have := HBs.out; simp; omega) ?_; intro v9 w9 hw9 hg9 hv9; have HV := Lib.hid (And.intro hw9 hg9); clear hw9 hg9 hv9)
     go_ret
     refine ⟨_, rfl, ?_, HB.out.trans (below_grown (grown_trans (World.grownBy_alloc _ _ none) HV.out.2) (fun g hg => (HO.out.lt g hg).1) HBs.out)⟩
     unfold Rk
     rw [HL.out.1, HL.out.2]
     exact HV.out.1
   · have g2' : ¬ (a : Int) < (c : Int) := by omega
     have HF : Hid (fTri a (b, c) = []) := Lib.hid (if_neg (fun e => g2 e.2))
     clear h
     go_enter Tryz.func59, Tryz.ntmps59
     go_wp2_with fail
     try rw [hW1]
     clear hW1
     go_wp2
     go_ret
     refine ⟨_, rfl, ?_, HB.out⟩
     rw [HF.out, List.append_nil]; exact HO.out
 · have g1' : ¬ (a : Int) < (b : Int) := by omega
   have HF : Hid (fTri a (b, c) = []) := Lib.hid (if_neg (fun e => g1 e.1))
   clear h
   go_enter Tryz.func59, Tryz.ntmps59
   go_wp2_with fail
   try rw [hW1]
   clear hW1
   go_wp2
   go_ret
   refine ⟨_, rfl, ?_, HB.out⟩
   rw [HF.out, List.append_nil]; exact HO.out
theorem rk_app {w : World} {B a u : Nat} {v : Value} {xs : List (Nat × Nat)} (h : w.ownsRow B 71 2 v (xs.length + 1) (xs.flatMap enc_pair ++ [.int .i64 (a : Nat), .int .i64 (u : Nat)])) : Rk enc_pair 71 2 w B v (xs ++ [(a, u)]) := by
 unfold Rk
 rw [List.flatMap_append, List.length_append]
 exact h
set_option maxHeartbeats 4000000 in
theorem bord_cl {S : Nat → Prop} {W0 W : World} {x : Gx} {P : List (Nat × Nat)} {A : List (List Wg)} {F : Int → Int → Option Int} {vs : List Value} (hG : Gd S W0 x P A F vs) {cB : Nat} (hc : W0.cell? ⟨cB, 0, none⟩ = some (.pointer (some ⟨x.gB, 0, none⟩))) (hW : Below W0.heap.size W0 W)
   {v : Value} {xs : List (Nat × Nat)} (h : Rk enc_pair 71 2 W W0.heap.size v xs) (hn : xs.length ≤ 4000000000000) (a b c : Nat) :
   Calls Tryz.prog 62 #[v, .int .i64 (a : Nat), .agg #[.int .i64 (b : Nat), .int .i64 (c : Nat)], .pointer (some ⟨cB, 0, none⟩)] W fun e w' => ∃ v', e = .returned v' ∧ Rk enc_pair 71 2 w' W0.heap.size v' (xs ++ fBord A a (b, c)) ∧ Below W0.heap.size W0 w' := by
 obtain ⟨B, hB⟩ : ∃ B, W0.heap.size = B := ⟨_, rfl⟩
 have HG : Hid (∀ w, Below B W0 w → Gd S w x P A F vs ∧ w.cell? ⟨cB, 0, none⟩ = some (.pointer (some ⟨x.gB, 0, none⟩))) := Lib.hid (fun w hw => by rw [← hB] at hw; exact ⟨hG.later hw, cell_later hw hc⟩)
 rw [hB] at hW h ⊢
 obtain ⟨W1, hW1⟩ : ∃ X, W.alloc (.cells #[.int .i64 (b : Nat), .int .i64 (c : Nat)] 90) = X := ⟨_, rfl⟩
 have b1 : Below W.heap.size W W1 := by rw [← hW1]; exact (Below.refl _ W).alloc (Nat.le_refl _) _
 have k1 : CB W1 W.heap.size #[.int .i64 (b : Nat), .int .i64 (c : Nat)] 90 := by rw [← hW1]; exact CB.new W _ _
 have hBW : B ≤ W.heap.size := by have := hW.size; omega
 have HO := Lib.hid (own_later' h b1)
 have HB := Lib.hid (hW.trans (b1.mono hBW))
 have HBs := Lib.hid (Nat.le_trans hBW b1.size)
 have HK := Lib.hid k1
 have c1 : W1.cell? ⟨W.heap.size, 0, none⟩ = some (.int .i64 (b : Nat)) := k1.cell 0 (by simp)
 have c2 : W1.cell? ⟨W.heap.size, 1, none⟩ = some (.int .i64 (c : Nat)) := k1.cell 1 (by simp)
 have hcW := (HG.out W1 HB.out).2
 clear hG hc hW h b1 k1 hB
 have HL1 := True.intro
 have HL2 := True.intro
 obtain ⟨i0, hi0, hz0, hz1, hz2⟩ := info_parts (show (Tryz.prog.info? 71).map (fun i => (i.zero, i.size, i.bytes)) = some (some (.agg #[.int .i64 0, .int .i64 0]), 2, 16) by kernel_rfl)
 cases hp : (plc A (b : Nat) (a : Nat)).isSome with
 | true =>
   have HF : Hid (fBord A a (b, c) = []) := Lib.hid (if_neg (fun e => by dsimp only at e; rw [e] at hp; cases hp))
   go_enter Tryz.func62, Tryz.ntmps62
   go_wp2_with fail
   try rw [hW1]
   refine (there_any (HG.out _ HB.out).1 (b : Nat) (a : Nat)).mono ?_
   rintro e w' ⟨rfl, hq⟩
   rw [hq]
   clear hq w'
   rw [hp]
   go_wp2
   go_ret
   refine ⟨_, rfl, ?_, HB.out⟩
   rw [HF.out, List.append_nil]; exact HO.out
 | false =>
   have HF : Hid (fBord A a (b, c) = [(a, b)]) := Lib.hid (if_pos (by cases hq : plc A (b : Nat) (a : Nat); rfl; rw [hq] at hp; cases hp))
   have HE : Hid ((xs ++ fBord A a (b, c)).length = xs.length + 1 ∧ (xs ++ fBord A a (b, c)).flatMap enc_pair = xs.flatMap enc_pair ++ [.int .i64 (a : Nat), .int .i64 (b : Nat)]) := Lib.hid (by rw [HF.out]; exact ⟨by simp, by rw [List.flatMap_append]; rfl⟩)
   go_enter Tryz.func62, Tryz.ntmps62
   go_wp2_with fail
   try rw [hW1]
   refine (there_any (HG.out _ HB.out).1 (b : Nat) (a : Nat)).mono ?_
   rintro e w' ⟨rfl, hq⟩
   rw [hq]
   clear hq w'
   rw [hp]
   go_wp2_with (at_builtin; have _t := HL1; refine wpList_append_own _ rfl _ _ 50 rfl B 71 i0 (.agg #[.int .i64 0, .int .i64 0]) 2 16 Tryz.underlying50 hi0 hz0 hz1 hz2 rfl (by decide) v _ (xs.flatMap enc_pair) rfl (World.ownsRow.alloc HO.out _) ⟨W1.heap.size, 0, none⟩ 1 1 [.int .i64 (a : Nat), .int .i64 (b : Nat)] rfl rfl (World.news_of_block (cs := #[.int .i64 (a : Nat), .int .i64 (b : Nat)]) (t := 71) (fr := (0, 0)) (heap_alloc_new W1 _)) (by simp [Value.oneCell']) (by unfold maxLen; omega) (by omega) (by have := HBs.out; simp; omega) ?_; intro v1 w1 hw9 hg9 hv9; have HV1 := Lib.hid (And.intro hw9 hg9); clear hw9 hg9 hv9)
   go_ret
   refine ⟨_, rfl, ?_, HB.out.trans (below_grown (grown_trans (World.grownBy_alloc _ _ none) HV1.out.2) (fun g hg => (HO.out.lt g hg).1) HBs.out)⟩
   unfold Rk
   rw [HE.out.1, HE.out.2]
   exact HV1.out.1
end

/- Package mesh: what a triangle tells: the closures of Tris, Edges, Border. Edges. (gen_mo.py) -/
section
open Go.RowKit Go.Shelf Go.Lib
attribute [local go_sem ↓] Go.wp_at_zero Go.wp_at_succ
set_option maxRecDepth 100000
set_option maxHeartbeats 4000000 in
theorem edge_cl {S : Nat → Prop} {W0 W : World} {x : Gx} {P : List (Nat × Nat)} {A : List (List Wg)} {F : Int → Int → Option Int} {vs : List Value} (hG : Gd S W0 x P A F vs) {cB : Nat} (hc : W0.cell? ⟨cB, 0, none⟩ = some (.pointer (some ⟨x.gB, 0, none⟩))) (hW : Below W0.heap.size W0 W)
   {v : Value} {xs : List (Nat × Nat)} (h : Rk enc_pair 71 2 W W0.heap.size v xs) (hn : xs.length ≤ 4000000000000) (a b c : Nat) :
   Calls Tryz.prog 61 #[v, .int .i64 (a : Nat), .agg #[.int .i64 (b : Nat), .int .i64 (c : Nat)], .pointer (some ⟨cB, 0, none⟩)] W fun e w' => ∃ v', e = .returned v' ∧ Rk enc_pair 71 2 w' W0.heap.size v' (xs ++ fEdge A a (b, c)) ∧ Below W0.heap.size W0 w' := by
 obtain ⟨B, hB⟩ : ∃ B, W0.heap.size = B := ⟨_, rfl⟩
 have HG : Hid (∀ w, Below B W0 w → Gd S w x P A F vs ∧ w.cell? ⟨cB, 0, none⟩ = some (.pointer (some ⟨x.gB, 0, none⟩))) := Lib.hid (fun w hw => by rw [← hB] at hw; exact ⟨hG.later hw, cell_later hw hc⟩)
 rw [hB] at hW h ⊢
 obtain ⟨W1, hW1⟩ : ∃ X, W.alloc (.cells #[.int .i64 (b : Nat), .int .i64 (c : Nat)] 90) = X := ⟨_, rfl⟩
 have b1 : Below W.heap.size W W1 := by rw [← hW1]; exact (Below.refl _ W).alloc (Nat.le_refl _) _
 have k1 : CB W1 W.heap.size #[.int .i64 (b : Nat), .int .i64 (c : Nat)] 90 := by rw [← hW1]; exact CB.new W _ _
 have hBW : B ≤ W.heap.size := by have := hW.size; omega
 have HO := Lib.hid (own_later' h b1)
 have HB := Lib.hid (hW.trans (b1.mono hBW))
 have HBs := Lib.hid (Nat.le_trans hBW b1.size)
 have HK := Lib.hid k1
 have c1 : W1.cell? ⟨W.heap.size, 0, none⟩ = some (.int .i64 (b : Nat)) := k1.cell 0 (by simp)
 have c2 : W1.cell? ⟨W.heap.size, 1, none⟩ = some (.int .i64 (c : Nat)) := k1.cell 1 (by simp)
 have hcW := (HG.out W1 HB.out).2
 clear hG hc hW h b1 k1 hB
 have HL1 := True.intro
 have HL2 := True.intro
 obtain ⟨i0, hi0, hz0, hz1, hz2⟩ := info_parts (show (Tryz.prog.info? 71).map (fun i => (i.zero, i.size, i.bytes)) = some (some (.agg #[.int .i64 0, .int .i64 0]), 2, 16) by kernel_rfl)
 by_cases g1 : a < b
 · have g1' : (a : Int) < (b : Int) := by omega
   by_cases g2 : a < c
   · cases hp : (plc A (a : Nat) (c : Nat)).isSome with
     | true =>
       as_aux_lemma =>
        have g2' : (a : Int) < (c : Int) := by omega
        have HF : Hid (xs ++ fEdge A a (b, c) = (xs ++ [(a, b)]) ++ []) := Lib.hid (by unfold fEdge; rw [if_pos g1, if_neg (fun e => by have := e.2; dsimp only at this; rw [this] at hp; cases hp)]; simp)
        go_enter Tryz.func61, Tryz.ntmps61
        go_wp2_with (first | (at_builtin; have _t := HL1; refine wpList_append_own _ rfl _ _ 50 rfl B 71 i0 (.agg #[.int .i64 0, .int .i64 0]) 2 16 Tryz.underlying50 hi0 hz0 hz1 hz2 rfl (by decide) v _ (xs.flatMap enc_pair) rfl (World.ownsRow.alloc HO.out _) ⟨W1.heap.size, 0, none⟩ 1 1 [.int .i64 (a : Nat), .int .i64 (b : Nat)] rfl rfl (World.news_of_block (cs := #[.int .i64 (a : Nat), .int .i64 (b : Nat)]) (t := 71) (fr := (0, 0)) (heap_alloc_new W1 _)) (by simp [Value.oneCell']) (by unfold maxLen; omega) (by omega) (by have := HBs.out; simp; omega) ?_; intro v1 w1 hw9 hg9 hv9; have HV1 := Lib.hid (And.intro hw9 hg9); clear hw9 hg9 hv9; clear HL1; have HB9 := Lib.hid (HB.out.trans (below_grown (grown_trans (World.grownBy_alloc _ _ none) HV1.out.2) (fun g hg => (HO.out.lt g hg).1) HBs.out)); have HBs9 := Lib.hid (Nat.le_trans HBs.out (Nat.le_trans (World.grownBy_alloc W1 _ none).size HV1.out.2.size)); have hx1 := (HG.out w1 HB9.out).2; have hx2 : w1.cell? ⟨W.heap.size, 1, none⟩ = some (.int .i64 (c : Nat)) := HV1.out.2.cell (cell_later ((Below.refl _ W1).alloc (Nat.le_refl _) _) c2) (fun e => own_cb HO.out HK.out (by decide) e.symm); have HO9 := Lib.hid (rk_app HV1.out.1)) | fail)
        refine (there_any (HG.out _ HB9.out).1 (a : Nat) (c : Nat)).mono ?_
        rintro e w' ⟨rfl, hq⟩
        rw [hq]
        clear hq w'
        rw [hp]
        go_wp2
        go_ret
        refine ⟨_, rfl, ?_, HB9.out⟩
        rw [HF.out, List.append_nil]; exact HO9.out
     | false =>
       as_aux_lemma =>
        have g2' : (a : Int) < (c : Int) := by omega
        have HF : Hid (xs ++ fEdge A a (b, c) = (xs ++ [(a, b)]) ++ [(a, c)]) := Lib.hid (by unfold fEdge; rw [if_pos g1, if_pos ⟨g2, by cases hq : plc A (a : Nat) (c : Nat); rfl; rw [hq] at hp; cases hp⟩]; simp)
        go_enter Tryz.func61, Tryz.ntmps61
        go_wp2_with (first | (at_builtin; have _t := HL1; refine wpList_append_own _ rfl _ _ 50 rfl B 71 i0 (.agg #[.int .i64 0, .int .i64 0]) 2 16 Tryz.underlying50 hi0 hz0 hz1 hz2 rfl (by decide) v _ (xs.flatMap enc_pair) rfl (World.ownsRow.alloc HO.out _) ⟨W1.heap.size, 0, none⟩ 1 1 [.int .i64 (a : Nat), .int .i64 (b : Nat)] rfl rfl (World.news_of_block (cs := #[.int .i64 (a : Nat), .int .i64 (b : Nat)]) (t := 71) (fr := (0, 0)) (heap_alloc_new W1 _)) (by simp [Value.oneCell']) (by unfold maxLen; omega) (by omega) (by have := HBs.out; simp; omega) ?_; intro v1 w1 hw9 hg9 hv9; have HV1 := Lib.hid (And.intro hw9 hg9); clear hw9 hg9 hv9; clear HL1; have HB9 := Lib.hid (HB.out.trans (below_grown (grown_trans (World.grownBy_alloc _ _ none) HV1.out.2) (fun g hg => (HO.out.lt g hg).1) HBs.out)); have HBs9 := Lib.hid (Nat.le_trans HBs.out (Nat.le_trans (World.grownBy_alloc W1 _ none).size HV1.out.2.size)); have hx1 := (HG.out w1 HB9.out).2; have hx2 : w1.cell? ⟨W.heap.size, 1, none⟩ = some (.int .i64 (c : Nat)) := HV1.out.2.cell (cell_later ((Below.refl _ W1).alloc (Nat.le_refl _) _) c2) (fun e => own_cb HO.out HK.out (by decide) e.symm); have HO9 := Lib.hid (rk_app HV1.out.1)) | fail)
        refine (there_any (HG.out _ HB9.out).1 (a : Nat) (c : Nat)).mono ?_
        rintro e w' ⟨rfl, hq⟩
        rw [hq]
        clear hq w'
        rw [hp]
        go_wp2_with (at_builtin; have _t := HL2; refine wpList_append_own _ rfl _ _ 50 rfl B 71 i0 (.agg #[.int .i64 0, .int .i64 0]) 2 16 Tryz.underlying50 hi0 hz0 hz1 hz2 rfl (by decide) v1 _ ((xs ++ [(a, b)]).flatMap enc_pair) rfl (World.ownsRow.alloc HO9.out _) ⟨w1.heap.size, 0, none⟩ 1 1 [.int .i64 (a : Nat), .int .i64 (c : Nat)] rfl rfl (World.news_of_block (cs := #[.int .i64 (a : Nat), .int .i64 (c : Nat)]) (t := 71) (fr := (0, 0)) (heap_alloc_new w1 _)) (by simp [Value.oneCell']) (by unfold maxLen; simp; omega) (by simp; omega) (by have := HBs9.out; simp; omega) ?_; intro v2 w2 hw9 hg9 hv9; have HV2 := Lib.hid (And.intro hw9 hg9); clear hw9 hg9 hv9)
        go_ret
        refine ⟨_, rfl, ?_, HB9.out.trans (below_grown (grown_trans (World.grownBy_alloc _ _ none) HV2.out.2) (fun g hg => (HO9.out.lt g hg).1) HBs9.out)⟩
        rw [HF.out]; exact rk_app HV2.out.1
   · as_aux_lemma =>
      have g2' : ¬ (a : Int) < (c : Int) := by omega
      have HF : Hid (xs ++ fEdge A a (b, c) = (xs ++ [(a, b)]) ++ []) := Lib.hid (by unfold fEdge; rw [if_pos g1, if_neg (fun e => g2 e.1)]; simp)
      go_enter Tryz.func61, Tryz.ntmps61
      go_wp2_with (at_builtin; have _t := HL1; refine wpList_append_own _ rfl _ _ 50 rfl B 71 i0 (.agg #[.int .i64 0, .int .i64 0]) 2 16 Tryz.underlying50 hi0 hz0 hz1 hz2 rfl (by decide) v _ (xs.flatMap enc_pair) rfl (World.ownsRow.alloc HO.out _) ⟨W1.heap.size, 0, none⟩ 1 1 [.int .i64 (a : Nat), .int .i64 (b : Nat)] rfl rfl (World.news_of_block (cs := #[.int .i64 (a : Nat), .int .i64 (b : Nat)]) (t := 71) (fr := (0, 0)) (heap_alloc_new W1 _)) (by simp [Value.oneCell']) (by unfold maxLen; omega) (by omega) (by have := HBs.out; simp; omega) ?_; intro v1 w1 hw9 hg9 hv9; have HV1 := Lib.hid (And.intro hw9 hg9); clear hw9 hg9 hv9; clear HL1; have HB9 := Lib.hid (HB.out.trans (below_grown (grown_trans (World.grownBy_alloc _ _ none) HV1.out.2) (fun g hg => (HO.out.lt g hg).1) HBs.out)); have HBs9 := Lib.hid (Nat.le_trans HBs.out (Nat.le_trans (World.grownBy_alloc W1 _ none).size HV1.out.2.size)); have hx1 := (HG.out w1 HB9.out).2; have hx2 : w1.cell? ⟨W.heap.size, 1, none⟩ = some (.int .i64 (c : Nat)) := HV1.out.2.cell (cell_later ((Below.refl _ W1).alloc (Nat.le_refl _) _) c2) (fun e => own_cb HO.out HK.out (by decide) e.symm); have HO9 := Lib.hid (rk_app HV1.out.1))
      go_ret
      refine ⟨_, rfl, ?_, HB9.out⟩
      rw [HF.out, List.append_nil]; exact HO9.out
 · have g1' : ¬ (a : Int) < (b : Int) := by omega
   by_cases g2 : a < c
   · cases hp : (plc A (a : Nat) (c : Nat)).isSome with
     | true =>
       as_aux_lemma =>
        have g2' : (a : Int) < (c : Int) := by omega
        have HF : Hid (xs ++ fEdge A a (b, c) = xs ++ []) := Lib.hid (by unfold fEdge; rw [if_neg g1, if_neg (fun e => by have := e.2; dsimp only at this; rw [this] at hp; cases hp)]; simp)
        go_enter Tryz.func61, Tryz.ntmps61
        go_wp2_with fail
        try rw [hW1]
        refine (there_any (HG.out _ HB.out).1 (a : Nat) (c : Nat)).mono ?_
        rintro e w' ⟨rfl, hq⟩
        rw [hq]
        clear hq w'
        rw [hp]
        go_wp2
        go_ret
        refine ⟨_, rfl, ?_, HB.out⟩
        rw [HF.out, List.append_nil]; exact HO.out
     | false =>
       as_aux_lemma =>
        have g2' : (a : Int) < (c : Int) := by omega
        have HF : Hid (xs ++ fEdge A a (b, c) = xs ++ [(a, c)]) := Lib.hid (by unfold fEdge; rw [if_neg g1, if_pos ⟨g2, by cases hq : plc A (a : Nat) (c : Nat); rfl; rw [hq] at hp; cases hp⟩]; simp)
        go_enter Tryz.func61, Tryz.ntmps61
        go_wp2_with fail
        try rw [hW1]
        refine (there_any (HG.out _ HB.out).1 (a : Nat) (c : Nat)).mono ?_
        rintro e w' ⟨rfl, hq⟩
        rw [hq]
        clear hq w'
        rw [hp]
        go_wp2_with (at_builtin; have _t := HL1; refine wpList_append_own _ rfl _ _ 50 rfl B 71 i0 (.agg #[.int .i64 0, .int .i64 0]) 2 16 Tryz.underlying50 hi0 hz0 hz1 hz2 rfl (by decide) v _ (xs.flatMap enc_pair) rfl (World.ownsRow.alloc HO.out _) ⟨W1.heap.size, 0, none⟩ 1 1 [.int .i64 (a : Nat), .int .i64 (c : Nat)] rfl rfl (World.news_of_block (cs := #[.int .i64 (a : Nat), .int .i64 (c : Nat)]) (t := 71) (fr := (0, 0)) (heap_alloc_new W1 _)) (by simp [Value.oneCell']) (by unfold maxLen; omega) (by omega) (by have := HBs.out; simp; omega) ?_; intro v1 w1 hw9 hg9 hv9; have HV1 := Lib.hid (And.intro hw9 hg9); clear hw9 hg9 hv9)
        go_ret
        refine ⟨_, rfl, ?_, HB.out.trans (below_grown (grown_trans (World.grownBy_alloc _ _ none) HV1.out.2) (fun g hg => (HO.out.lt g hg).1) HBs.out)⟩
        rw [HF.out]; exact rk_app HV1.out.1
   · as_aux_lemma =>
      have g2' : ¬ (a : Int) < (c : Int) := by omega
      have HF : Hid (xs ++ fEdge A a (b, c) = xs ++ []) := Lib.hid (by unfold fEdge; rw [if_neg g1, if_neg (fun e => g2 e.1)]; simp)
      go_enter Tryz.func61, Tryz.ntmps61
      go_wp2
      go_ret
      refine ⟨_, rfl, ?_, HB.out⟩
      rw [HF.out, List.append_nil]; exact HO.out
end
end Go.Proofs.YtcgbnjoajieggaaGreat
