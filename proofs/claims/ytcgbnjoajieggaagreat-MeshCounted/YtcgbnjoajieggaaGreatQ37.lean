/- Own texts, put together: Mq Mv Mw. -/
import Derived.Test.YtcgbnjoajieggaaGreatQ3
import Derived.Test.YtcgbnjoajieggaaGreatQ35
import Derived.Test.YtcgbnjoajieggaaGreatQ36
namespace Go.Proofs.YtcgbnjoajieggaaGreat
/- Package mesh: told: what the triangles around all points tell. (gen_mq.py) -/
section
open Go.RowKit Go.Shelf Go.Lib
attribute [local go_sem ↓] Go.wp_at_zero Go.wp_at_succ
set_option maxRecDepth 100000
def toldK {α : Type} (f : Nat → Wg → List α) (s : List α → List α) (A : List (List Wg)) (j : Nat) : List α := (List.range j).flatMap fun a => s ((A.getD a []).flatMap (f a))
theorem toldK_succ {α : Type} (f : Nat → Wg → List α) (s : List α → List α) (A : List (List Wg)) (j : Nat) : toldK f s A (j + 1) = toldK f s A j ++ s ((A.getD j []).flatMap (f j)) := by
 unfold toldK; rw [List.range_succ, List.flatMap_append]; simp
theorem flat_le {α β : Type} (f : α → List β) (c : Nat) (hf : ∀ x, (f x).length ≤ c) : ∀ l : List α, (l.flatMap f).length ≤ l.length * c := by
 intro l
 induction l with
 | nil => simp
 | cons a r ih => rw [List.flatMap_cons, List.length_append, List.length_cons, Nat.add_mul, Nat.one_mul]; have := hf a; omega
theorem toldK_le {α : Type} (f : Nat → Wg → List α) (s : List α → List α) (A : List (List Wg)) (m : Nat) (hf : ∀ a w, (f a w).length ≤ 2) (hs : ∀ l, (s l).length = l.length) (hA : ∀ a, (A.getD a []).length ≤ m) (j : Nat) : (toldK f s A j).length ≤ j * (m * 2) := by
 unfold toldK
 have := flat_le (fun a => s ((A.getD a []).flatMap (f a))) (m * 2) (fun a => by
   rw [hs]
   have h1 := flat_le (f a) 2 (hf a) (A.getD a [])
   have h2 := Nat.mul_le_mul_right 2 (hA a)
   omega) (List.range j)
 simpa using this
theorem fTri_le (a : Nat) (w : Wg) : (fTri a w).length ≤ 2 := by unfold fTri; split <;> simp
theorem fBord_le (A : List (List Wg)) (a : Nat) (w : Wg) : (fBord A a w).length ≤ 2 := by unfold fBord; split <;> simp
theorem fEdge_le (A : List (List Wg)) (a : Nat) (w : Wg) : (fEdge A a w).length ≤ 2 := by unfold fEdge; rw [List.length_append]; split <;> split <;> simp
theorem srt_tri_len (l : List (Nat × Nat × Nat)) : (srt_tri l).length = l.length := (List.mergeSort_perm _ _).length_eq
theorem srt_pair_len (l : List (Nat × Nat)) : (srt_pair l).length = l.length := (List.mergeSort_perm _ _).length_eq
theorem Rk.form {α : Type} {enc : α → List Value} {T k B : Nat} {W : World} {v : Value} {xs : List α} (h : Rk enc T k W B v xs) : ∃ a c, v = .slice a xs.length c ∧ xs.length ≤ c ∧ (xs = [] ∧ a = none ∧ c = 0 ∨ ∃ g, a = some ⟨g, 0, none⟩ ∧ v.ownBlock = some g) := by
 rcases h.2 with ⟨rfl, h0⟩ | ⟨g, cap, cur, rfl, _, _, h3, _⟩
 · exact ⟨none, 0, by rw [h0], by omega, Or.inl ⟨List.eq_nil_of_length_eq_zero h0, rfl, rfl⟩⟩
 · exact ⟨_, cap, rfl, h3, Or.inr ⟨g, rfl, rfl⟩⟩
set_option maxHeartbeats 8000000 in
theorem told_tri {S : Nat → Prop} {W : World} {x : Gx} {P : List (Nat × Nat)} {A : List (List Wg)} {F : Int → Int → Option Int} {vs : List Value} (hG : Gd S W x P A F vs) :
   Calls Tryz.prog 58 #[.pointer (some ⟨x.gB, 0, none⟩), .func (.func 59) #[] #[]] W fun e w' => ∃ v, e = .returned v ∧ Rk enc_tri 30 3 w' W.heap.size v (toldK fTri srt_tri A A.length) ∧ Below W.heap.size W w' := by
 have hle : ∀ j, (toldK fTri srt_tri A j).length ≤ j * (1048576 * 2) := toldK_le _ _ _ _ fTri_le srt_tri_len (fun a => by have := Uq.len hG.uq hG.nums a; have := hG.len; have := hG.few; omega)
 have HLe := Lib.hid hle
 have HAl : Hid (A.length ≤ 1048576) := Lib.hid (by have := hG.len; have := hG.few; omega)
 have HFl : Hid (∀ a, (A.getD a []).length ≤ 1048576) := Lib.hid (fun a => by have := Uq.len hG.uq hG.nums a; have := hG.len; have := hG.few; omega)
 obtain ⟨_, c1, _⟩ := hG.m.cells
 obtain ⟨aa, ac, hav, hA⟩ := hG.m.aslice
 rw [hav] at c1
 obtain ⟨B, hB⟩ : ∃ B, W.heap.size = B := ⟨_, rfl⟩
 have HA : Hid (∀ j, j < A.length → ∃ ag fa fc, aa = some ⟨ag, 0, none⟩ ∧ (∀ w, Below B W w → w.cell? ⟨ag, j, none⟩ = some (.slice fa (A.getD j []).length fc)) ∧ ∀ (i : Nat) (y : Wg), (A.getD j [])[i]? = some y → ∃ g, fa = some ⟨g, 0, none⟩ ∧ ∀ w, Below B W w → w.cell? ⟨g, i * 2, none⟩ = some (.int .i64 (y.1 : Nat)) ∧ w.cell? ⟨g, i * 2 + 1, none⟩ = some (.int .i64 (y.2 : Nat))) := Lib.hid (fun j hj => by
   obtain ⟨v, hv⟩ : ∃ v, vs[j]? = some v := ⟨_, List.getElem?_eq_getElem (by have := hG.m.len; omega)⟩
   obtain ⟨ag, e1, hag, hcv, _⟩ := hA j v hv
   obtain ⟨fa, fc, rfl, hF⟩ := hG.m.fslice hv
   refine ⟨ag, fa, fc, e1, fun w hw => cell_later (hB ▸ hw) hcv, fun i y hy => ?_⟩
   obtain ⟨g, e2, hg, d1, d2, _⟩ := hF i y hy
   exact ⟨g, e2, fun w hw => ⟨cell_later (hB ▸ hw) d1, cell_later (hB ▸ hw) d2⟩⟩)
 obtain ⟨n, hn⟩ : ∃ n, A.length = n := ⟨_, rfl⟩
 have HCl : Hid (∀ (wq : World) (v : Value) (xs : List (Nat × Nat × Nat)), Below B W wq → B ≤ wq.heap.size → Rk enc_tri 30 3 wq B v xs → xs.length ≤ 4000000000000 → ∀ a b c : Nat, Calls Tryz.prog 59 #[v, .int .i64 (a : Nat), .agg #[.int .i64 (b : Nat), .int .i64 (c : Nat)]] wq fun e w' => ∃ v', e = .returned v' ∧ Rk enc_tri 30 3 w' B v' (xs ++ fTri a (b, c)) ∧ Below B W w') := Lib.hid (fun wq v xs hb hs hr hl a b c => by
   refine (tris_cl hr hs hl a b c).mono ?_
   rintro e w' ⟨v', h1, h2, h3⟩
   exact ⟨v', h1, h2, hb.trans h3⟩)
 rw [hB]
 rw [hn] at HA c1 HAl ⊢
 clear hA hav hle hG
 go_enter Tryz.func58, Tryz.ntmps58
 go_wp2
 go_loopw [5, 16] (fun s5 s16 wr => ∃ j : Nat, j ≤ n ∧ s16 = .int .i64 (j : Nat) ∧ Hid (Rk enc_tri 30 3 wr B s5 (toldK fTri srt_tri A j) ∧ Below B W wr)) (fun _ s16 _ => n - (intOf s16).toNat)
 case atStart => exact ⟨0, Nat.zero_le _, rfl, Lib.hid ⟨World.ownsRow_nil _ _ _ _, Below.refl _ _⟩⟩
 case round =>
   obtain ⟨j, hj, rfl, hI⟩ := hrel
   by_cases hlt : j < n
   · focus
     have hlt' : (j : Int) < (n : Int) := by omega
     have hlt2 : ¬ n ≤ j := by omega
     have hj0 : (0 : Int) ≤ (j : Int) := by omega
     have hn20 := HAl.out
     obtain ⟨ag, fa, fc, rfl, hcj, hfj⟩ := HA.out j hlt
     have cj := hcj wr hI.out.2
     obtain ⟨fan, hfan⟩ : ∃ fan, A.getD j [] = fan := ⟨_, rfl⟩
     have hm20 := HFl.out j
     rw [hfan] at cj hfj hm20
     obtain ⟨m, hm⟩ : ∃ m, fan.length = m := ⟨_, rfl⟩
     rw [hm] at cj hm20
     have HF := Lib.hid hfj
     have HLj := Lib.hid (HLe.out j)
     obtain ⟨L, hL⟩ : ∃ L, toldK fTri srt_tri A j = L := ⟨_, rfl⟩
     have HTn : Hid (toldK fTri srt_tri A (j + 1) = L ++ srt_tri (fan.flatMap (fTri j))) := Lib.hid (by rw [toldK_succ, hfan, hL])
     rw [hL] at hI HLj
     obtain ⟨la, lc, rfl, hlc, _⟩ := hI.out.1.form
     obtain ⟨q, hq⟩ : ∃ q, L.length = q := ⟨_, rfl⟩
     have HQ := Lib.hid hq
     rw [hq] at hlc HLj
     have hlq := HLj.out
     have HI1 : Hid (Rk enc_tri 30 3 wr B (.slice la q lc) L ∧ Below B W wr) := Lib.hid (by rw [← hq]; exact hI.out)
     clear hcj hfj hI hL hfan
     try rw [hq]
     go_wp2
     try rw [hq]
     clear cj
     go_loopw [5, 25] (fun s5 s25 wq => ∃ i : Nat, i ≤ m ∧ s25 = .int .i64 (i : Nat) ∧ Hid (Rk enc_tri 30 3 wq B s5 (L ++ (fan.take i).flatMap (fTri j)) ∧ Below B W wq)) (fun _ s25 _ => m - (intOf s25).toNat)
     case atStart => exact ⟨0, Nat.zero_le _, rfl, Lib.hid (by rw [List.take_zero, List.flatMap_nil, List.append_nil]; exact HI1.out)⟩
     case round =>
       obtain ⟨i, hi, rfl, hJ⟩ := hrel
       have HLq : Hid ((L ++ (fan.take i).flatMap (fTri j)).length ≤ 4000000000000) := Lib.hid (by
         have h1 := flat_le (fTri j) 2 (fTri_le j) (fan.take i)
         have h2 : (fan.take i).length ≤ m := by rw [List.length_take, hm]; omega
         rw [List.length_append, hq]; omega)
       by_cases hli : i < m
       · have hli' : (i : Int) < (m : Int) := by omega
         have hli2 : ¬ m ≤ i := by omega
         have hi0 : (0 : Int) ≤ (i : Int) := by omega
         obtain ⟨⟨b, c⟩, hy⟩ : ∃ y, fan[i]? = some y := ⟨_, List.getElem?_eq_getElem (by omega)⟩
         obtain ⟨fg, rfl, hfc⟩ := HF.out i _ hy
         obtain ⟨d1, d2⟩ := hfc _ hJ.out.2
         dsimp only at d1 d2
         have HRq := hJ
         have HE : Hid ((fan.take (i + 1)).flatMap (fTri j) = (fan.take i).flatMap (fTri j) ++ fTri j (b, c)) := Lib.hid (by
           rw [List.take_add_one, hy, List.flatMap_append]; simp)
         clear hfc hy
         go_wp2_with fail
         refine (HCl.out _ _ _ (hJ.out.2.alloc (by have := hJ.out.2.size; omega) _) (by have := hJ.out.2.size; simp; omega) (own_later' hJ.out.1 ((Below.refl _ _).alloc (Nat.le_refl _) _)) HLq.out j b c).mono ?_
         rintro e w3 ⟨v3, rfl, hr3, hb3⟩
         have H3 := Lib.hid (And.intro hr3 hb3)
         clear hr3 hb3
         go_wp2
         refine ⟨⟨i + 1, by omega, by go_num, Lib.hid ⟨?_, H3.out.2⟩⟩, by simp [intOf]; omega⟩
         rw [HE.out, ← List.append_assoc]; exact H3.out.1
       · obtain rfl : i = m := by omega
         have HX : Hid (Rk enc_tri 30 3 wr B u5 (L ++ fan.flatMap (fTri j)) ∧ Below B W wr) := Lib.hid (by have h := hJ.out; rw [List.take_of_length_le (by omega)] at h; exact h)
         have HNl : Hid ((L ++ fan.flatMap (fTri j)).length ≤ 4000000000000) := Lib.hid (by have h := HLq.out; rw [List.take_of_length_le (by omega)] at h; exact h)
         obtain ⟨sa, sc, rfl, hsc, hcase⟩ := HX.out.1.form
         obtain ⟨N, hN⟩ : ∃ N, (L ++ fan.flatMap (fTri j)).length = N := ⟨_, rfl⟩
         have hqN : q ≤ N := by rw [← hN, List.length_append]; omega
         have HXN : Hid (∃ ys, ys = L ++ fan.flatMap (fTri j) ∧ ys.length = N ∧ ys.take q = L ∧ ys.drop q = fan.flatMap (fTri j)) := Lib.hid ⟨_, rfl, hN, by rw [← hq, List.take_left], by rw [← hq, List.drop_left]⟩
         rw [hN] at hsc HNl
         have HX2 : Hid (wr.ownsRow B 30 3 (.slice sa N sc) N ((L ++ fan.flatMap (fTri j)).flatMap enc_tri) ∧ Below B W wr) := Lib.hid (by have h := HX.out; unfold Rk at h; rw [hN] at h; exact h)
         have HEnd : Hid (∀ w4 : World, w4.ownsRow B 30 3 (.slice sa N sc) N (((L ++ fan.flatMap (fTri j)).take q ++ srt_tri ((L ++ fan.flatMap (fTri j)).drop q)).flatMap enc_tri) → wr.grownBy w4 (Value.slice sa N sc).ownBlock → Rk enc_tri 30 3 w4 B (.slice sa N sc) (toldK fTri srt_tri A (j + 1)) ∧ Below B W w4) := Lib.hid (fun w4 h1 h2 => by
           rw [← hq, List.take_left, List.drop_left] at h1
           refine ⟨?_, HX2.out.2.trans (below_grown h2 (fun g hg => (HX2.out.1.lt g hg).1) (by have := HX2.out.2.size; omega))⟩
           unfold Rk
           rw [HTn.out]
           have e : (L ++ srt_tri (fan.flatMap (fTri j))).length = N := by rw [List.length_append, srt_tri_len, ← List.length_append, hN]
           rw [e]; exact h1)
         clear HX HXN hJ HLq
         have hN62 : N < 4611686018427387904 := by have := HNl.out; omega
         rcases hcase with ⟨hx0, rfl, rfl⟩ | ⟨g, rfl, hob⟩
         · have hN0 : N = 0 := by rw [← hN, hx0]; rfl
           subst hN0
           obtain rfl : q = 0 := by omega
           clear hx0
           try rw [hN]
           go_wp2_with fail
           refine (sort_tri (n := 0) (m := 0) HX2.out.1 hN (by omega) (by omega) none 0 (Or.inl rfl)).mono ?_
           rintro e w4 ⟨rfl, h1, h2⟩
           have HF4 := Lib.hid (HEnd.out w4 h1 h2)
           clear h1 h2
           go_wp2
           exact ⟨⟨j + 1, by omega, by go_num, HF4⟩, by simp [intOf]; omega⟩
         · have hqs : ¬ sc < q := by omega
           have hqs2 : ¬ sc < N := by omega
           have hqs3 : ¬ N < q := by omega
           have hqi : (q : Int) ≤ (N : Int) := by omega
           have hqi2 : (q : Int) ≤ (sc : Int) := by omega
           have hqi3 : (N : Int) ≤ (sc : Int) := by omega
           try rw [hN]
           by_cases hsq : sc = q
           · obtain rfl : sc = N := by omega
             subst hsq
             go_wp2_with fail
             have hS := sort_tri (n := sc) (m := sc) HX2.out.1 hN (by omega) hN62 (some ⟨g, 0, none⟩) 0 (Or.inl (by omega))
             rw [Nat.sub_self] at hS
             refine hS.mono ?_
             clear hS
             rintro e w4 ⟨rfl, h1, h2⟩
             have HF4 := Lib.hid (HEnd.out w4 h1 h2)
             clear h1 h2
             go_wp2
             exact ⟨⟨j + 1, by omega, by go_num, HF4⟩, by simp [intOf]; omega⟩
           · go_wp2_with fail
             refine (sort_tri (n := N) (m := q) HX2.out.1 hN (by omega) hN62 _ _ (Or.inr ⟨g, hob, rfl⟩)).mono ?_
             rintro e w4 ⟨rfl, h1, h2⟩
             have HF4 := Lib.hid (HEnd.out w4 h1 h2)
             clear h1 h2
             go_wp2
             exact ⟨⟨j + 1, by omega, by go_num, HF4⟩, by simp [intOf]; omega⟩
   · obtain rfl : j = n := by omega
     have HR := hI
     go_wp2
     go_ret
     exact ⟨_, rfl, HR.out.1, HR.out.2⟩
set_option maxHeartbeats 8000000 in
theorem told_edge {S : Nat → Prop} {W : World} {x : Gx} {P : List (Nat × Nat)} {A : List (List Wg)} {F : Int → Int → Option Int} {vs : List Value} (hG : Gd S W x P A F vs) {cB : Nat} (hc : W.cell? ⟨cB, 0, none⟩ = some (.pointer (some ⟨x.gB, 0, none⟩))) :
   Calls Tryz.prog 60 #[.pointer (some ⟨x.gB, 0, none⟩), .func (.func 61) #[] #[.pointer (some ⟨cB, 0, none⟩)]] W fun e w' => ∃ v, e = .returned v ∧ Rk enc_pair 71 2 w' W.heap.size v (toldK (fEdge A) srt_pair A A.length) ∧ Below W.heap.size W w' := by
 have hle : ∀ j, (toldK (fEdge A) srt_pair A j).length ≤ j * (1048576 * 2) := toldK_le _ _ _ _ (fEdge_le A) srt_pair_len (fun a => by have := Uq.len hG.uq hG.nums a; have := hG.len; have := hG.few; omega)
 have HLe := Lib.hid hle
 have HAl : Hid (A.length ≤ 1048576) := Lib.hid (by have := hG.len; have := hG.few; omega)
 have HFl : Hid (∀ a, (A.getD a []).length ≤ 1048576) := Lib.hid (fun a => by have := Uq.len hG.uq hG.nums a; have := hG.len; have := hG.few; omega)
 obtain ⟨_, c1, _⟩ := hG.m.cells
 obtain ⟨aa, ac, hav, hA⟩ := hG.m.aslice
 rw [hav] at c1
 obtain ⟨B, hB⟩ : ∃ B, W.heap.size = B := ⟨_, rfl⟩
 have HA : Hid (∀ j, j < A.length → ∃ ag fa fc, aa = some ⟨ag, 0, none⟩ ∧ (∀ w, Below B W w → w.cell? ⟨ag, j, none⟩ = some (.slice fa (A.getD j []).length fc)) ∧ ∀ (i : Nat) (y : Wg), (A.getD j [])[i]? = some y → ∃ g, fa = some ⟨g, 0, none⟩ ∧ ∀ w, Below B W w → w.cell? ⟨g, i * 2, none⟩ = some (.int .i64 (y.1 : Nat)) ∧ w.cell? ⟨g, i * 2 + 1, none⟩ = some (.int .i64 (y.2 : Nat))) := Lib.hid (fun j hj => by
   obtain ⟨v, hv⟩ : ∃ v, vs[j]? = some v := ⟨_, List.getElem?_eq_getElem (by have := hG.m.len; omega)⟩
   obtain ⟨ag, e1, hag, hcv, _⟩ := hA j v hv
   obtain ⟨fa, fc, rfl, hF⟩ := hG.m.fslice hv
   refine ⟨ag, fa, fc, e1, fun w hw => cell_later (hB ▸ hw) hcv, fun i y hy => ?_⟩
   obtain ⟨g, e2, hg, d1, d2, _⟩ := hF i y hy
   exact ⟨g, e2, fun w hw => ⟨cell_later (hB ▸ hw) d1, cell_later (hB ▸ hw) d2⟩⟩)
 obtain ⟨n, hn⟩ : ∃ n, A.length = n := ⟨_, rfl⟩
 have HCl : Hid (∀ (wq : World) (v : Value) (xs : List (Nat × Nat)), Below B W wq → B ≤ wq.heap.size → Rk enc_pair 71 2 wq B v xs → xs.length ≤ 4000000000000 → ∀ a b c : Nat, Calls Tryz.prog 61 #[v, .int .i64 (a : Nat), .agg #[.int .i64 (b : Nat), .int .i64 (c : Nat)], .pointer (some ⟨cB, 0, none⟩)] wq fun e w' => ∃ v', e = .returned v' ∧ Rk enc_pair 71 2 w' B v' (xs ++ (fEdge A) a (b, c)) ∧ Below B W w') := Lib.hid (fun wq v xs hb hs hr hl a b c => by
   subst hB
   refine (edge_cl hG hc hb hr hl a b c).mono ?_
   rintro e w' ⟨v', h1, h2, h3⟩
   exact ⟨v', h1, h2, h3⟩)
 rw [hB]
 rw [hn] at HA c1 HAl ⊢
 clear hA hav hle hG hc
 go_enter Tryz.func60, Tryz.ntmps60
 go_wp2
 go_loopw [5, 16] (fun s5 s16 wr => ∃ j : Nat, j ≤ n ∧ s16 = .int .i64 (j : Nat) ∧ Hid (Rk enc_pair 71 2 wr B s5 (toldK (fEdge A) srt_pair A j) ∧ Below B W wr)) (fun _ s16 _ => n - (intOf s16).toNat)
 case atStart => exact ⟨0, Nat.zero_le _, rfl, Lib.hid ⟨World.ownsRow_nil _ _ _ _, Below.refl _ _⟩⟩
 case round =>
   obtain ⟨j, hj, rfl, hI⟩ := hrel
   by_cases hlt : j < n
   · focus
     have hlt' : (j : Int) < (n : Int) := by omega
     have hlt2 : ¬ n ≤ j := by omega
     have hj0 : (0 : Int) ≤ (j : Int) := by omega
     have hn20 := HAl.out
     obtain ⟨ag, fa, fc, rfl, hcj, hfj⟩ := HA.out j hlt
     have cj := hcj wr hI.out.2
     obtain ⟨fan, hfan⟩ : ∃ fan, A.getD j [] = fan := ⟨_, rfl⟩
     have hm20 := HFl.out j
     rw [hfan] at cj hfj hm20
     obtain ⟨m, hm⟩ : ∃ m, fan.length = m := ⟨_, rfl⟩
     rw [hm] at cj hm20
     have HF := Lib.hid hfj
     have HLj := Lib.hid (HLe.out j)
     obtain ⟨L, hL⟩ : ∃ L, toldK (fEdge A) srt_pair A j = L := ⟨_, rfl⟩
     have HTn : Hid (toldK (fEdge A) srt_pair A (j + 1) = L ++ srt_pair (fan.flatMap ((fEdge A) j))) := Lib.hid (by rw [toldK_succ, hfan, hL])
     rw [hL] at hI HLj
     obtain ⟨la, lc, rfl, hlc, _⟩ := hI.out.1.form
     obtain ⟨q, hq⟩ : ∃ q, L.length = q := ⟨_, rfl⟩
     have HQ := Lib.hid hq
     rw [hq] at hlc HLj
     have hlq := HLj.out
     have HI1 : Hid (Rk enc_pair 71 2 wr B (.slice la q lc) L ∧ Below B W wr) := Lib.hid (by rw [← hq]; exact hI.out)
     clear hcj hfj hI hL hfan
     try rw [hq]
     go_wp2
     try rw [hq]
     clear cj
     go_loopw [5, 25] (fun s5 s25 wq => ∃ i : Nat, i ≤ m ∧ s25 = .int .i64 (i : Nat) ∧ Hid (Rk enc_pair 71 2 wq B s5 (L ++ (fan.take i).flatMap ((fEdge A) j)) ∧ Below B W wq)) (fun _ s25 _ => m - (intOf s25).toNat)
     case atStart => exact ⟨0, Nat.zero_le _, rfl, Lib.hid (by rw [List.take_zero, List.flatMap_nil, List.append_nil]; exact HI1.out)⟩
     case round =>
       obtain ⟨i, hi, rfl, hJ⟩ := hrel
       have HLq : Hid ((L ++ (fan.take i).flatMap ((fEdge A) j)).length ≤ 4000000000000) := Lib.hid (by
         have h1 := flat_le ((fEdge A) j) 2 ((fEdge_le A) j) (fan.take i)
         have h2 : (fan.take i).length ≤ m := by rw [List.length_take, hm]; omega
         rw [List.length_append, hq]; omega)
       by_cases hli : i < m
       · have hli' : (i : Int) < (m : Int) := by omega
         have hli2 : ¬ m ≤ i := by omega
         have hi0 : (0 : Int) ≤ (i : Int) := by omega
         obtain ⟨⟨b, c⟩, hy⟩ : ∃ y, fan[i]? = some y := ⟨_, List.getElem?_eq_getElem (by omega)⟩
         obtain ⟨fg, rfl, hfc⟩ := HF.out i _ hy
         obtain ⟨d1, d2⟩ := hfc _ hJ.out.2
         dsimp only at d1 d2
         have HRq := hJ
         have HE : Hid ((fan.take (i + 1)).flatMap ((fEdge A) j) = (fan.take i).flatMap ((fEdge A) j) ++ (fEdge A) j (b, c)) := Lib.hid (by
           rw [List.take_add_one, hy, List.flatMap_append]; simp)
         clear hfc hy
         go_wp2_with fail
         refine (HCl.out _ _ _ (hJ.out.2.alloc (by have := hJ.out.2.size; omega) _) (by have := hJ.out.2.size; simp; omega) (own_later' hJ.out.1 ((Below.refl _ _).alloc (Nat.le_refl _) _)) HLq.out j b c).mono ?_
         rintro e w3 ⟨v3, rfl, hr3, hb3⟩
         have H3 := Lib.hid (And.intro hr3 hb3)
         clear hr3 hb3
         go_wp2
         refine ⟨⟨i + 1, by omega, by go_num, Lib.hid ⟨?_, H3.out.2⟩⟩, by simp [intOf]; omega⟩
         rw [HE.out, ← List.append_assoc]; exact H3.out.1
       · obtain rfl : i = m := by omega
         have HX : Hid (Rk enc_pair 71 2 wr B u5 (L ++ fan.flatMap ((fEdge A) j)) ∧ Below B W wr) := Lib.hid (by have h := hJ.out; rw [List.take_of_length_le (by omega)] at h; exact h)
         have HNl : Hid ((L ++ fan.flatMap ((fEdge A) j)).length ≤ 4000000000000) := Lib.hid (by have h := HLq.out; rw [List.take_of_length_le (by omega)] at h; exact h)
         obtain ⟨sa, sc, rfl, hsc, hcase⟩ := HX.out.1.form
         obtain ⟨N, hN⟩ : ∃ N, (L ++ fan.flatMap ((fEdge A) j)).length = N := ⟨_, rfl⟩
         have hqN : q ≤ N := by rw [← hN, List.length_append]; omega
         have HXN : Hid (∃ ys, ys = L ++ fan.flatMap ((fEdge A) j) ∧ ys.length = N ∧ ys.take q = L ∧ ys.drop q = fan.flatMap ((fEdge A) j)) := Lib.hid ⟨_, rfl, hN, by rw [← hq, List.take_left], by rw [← hq, List.drop_left]⟩
         rw [hN] at hsc HNl
         have HX2 : Hid (wr.ownsRow B 71 2 (.slice sa N sc) N ((L ++ fan.flatMap ((fEdge A) j)).flatMap enc_pair) ∧ Below B W wr) := Lib.hid (by have h := HX.out; unfold Rk at h; rw [hN] at h; exact h)
         have HEnd : Hid (∀ w4 : World, w4.ownsRow B 71 2 (.slice sa N sc) N (((L ++ fan.flatMap ((fEdge A) j)).take q ++ srt_pair ((L ++ fan.flatMap ((fEdge A) j)).drop q)).flatMap enc_pair) → wr.grownBy w4 (Value.slice sa N sc).ownBlock → Rk enc_pair 71 2 w4 B (.slice sa N sc) (toldK (fEdge A) srt_pair A (j + 1)) ∧ Below B W w4) := Lib.hid (fun w4 h1 h2 => by
           rw [← hq, List.take_left, List.drop_left] at h1
           refine ⟨?_, HX2.out.2.trans (below_grown h2 (fun g hg => (HX2.out.1.lt g hg).1) (by have := HX2.out.2.size; omega))⟩
           unfold Rk
           rw [HTn.out]
           have e : (L ++ srt_pair (fan.flatMap ((fEdge A) j))).length = N := by rw [List.length_append, srt_pair_len, ← List.length_append, hN]
           rw [e]; exact h1)
         clear HX HXN hJ HLq
         have hN62 : N < 4611686018427387904 := by have := HNl.out; omega
         rcases hcase with ⟨hx0, rfl, rfl⟩ | ⟨g, rfl, hob⟩
         · have hN0 : N = 0 := by rw [← hN, hx0]; rfl
           subst hN0
           obtain rfl : q = 0 := by omega
           clear hx0
           try rw [hN]
           go_wp2_with fail
           refine (sort_pair (n := 0) (m := 0) HX2.out.1 hN (by omega) (by omega) none 0 (Or.inl rfl)).mono ?_
           rintro e w4 ⟨rfl, h1, h2⟩
           have HF4 := Lib.hid (HEnd.out w4 h1 h2)
           clear h1 h2
           go_wp2
           exact ⟨⟨j + 1, by omega, by go_num, HF4⟩, by simp [intOf]; omega⟩
         · have hqs : ¬ sc < q := by omega
           have hqs2 : ¬ sc < N := by omega
           have hqs3 : ¬ N < q := by omega
           have hqi : (q : Int) ≤ (N : Int) := by omega
           have hqi2 : (q : Int) ≤ (sc : Int) := by omega
           have hqi3 : (N : Int) ≤ (sc : Int) := by omega
           try rw [hN]
           by_cases hsq : sc = q
           · obtain rfl : sc = N := by omega
             subst hsq
             go_wp2_with fail
             have hS := sort_pair (n := sc) (m := sc) HX2.out.1 hN (by omega) hN62 (some ⟨g, 0, none⟩) 0 (Or.inl (by omega))
             rw [Nat.sub_self] at hS
             refine hS.mono ?_
             clear hS
             rintro e w4 ⟨rfl, h1, h2⟩
             have HF4 := Lib.hid (HEnd.out w4 h1 h2)
             clear h1 h2
             go_wp2
             exact ⟨⟨j + 1, by omega, by go_num, HF4⟩, by simp [intOf]; omega⟩
           · go_wp2_with fail
             refine (sort_pair (n := N) (m := q) HX2.out.1 hN (by omega) hN62 _ _ (Or.inr ⟨g, hob, rfl⟩)).mono ?_
             rintro e w4 ⟨rfl, h1, h2⟩
             have HF4 := Lib.hid (HEnd.out w4 h1 h2)
             clear h1 h2
             go_wp2
             exact ⟨⟨j + 1, by omega, by go_num, HF4⟩, by simp [intOf]; omega⟩
   · obtain rfl : j = n := by omega
     have HR := hI
     go_wp2
     go_ret
     exact ⟨_, rfl, HR.out.1, HR.out.2⟩
set_option maxHeartbeats 8000000 in
theorem told_bord {S : Nat → Prop} {W : World} {x : Gx} {P : List (Nat × Nat)} {A : List (List Wg)} {F : Int → Int → Option Int} {vs : List Value} (hG : Gd S W x P A F vs) {cB : Nat} (hc : W.cell? ⟨cB, 0, none⟩ = some (.pointer (some ⟨x.gB, 0, none⟩))) :
   Calls Tryz.prog 60 #[.pointer (some ⟨x.gB, 0, none⟩), .func (.func 62) #[] #[.pointer (some ⟨cB, 0, none⟩)]] W fun e w' => ∃ v, e = .returned v ∧ Rk enc_pair 71 2 w' W.heap.size v (toldK (fBord A) srt_pair A A.length) ∧ Below W.heap.size W w' := by
 have hle : ∀ j, (toldK (fBord A) srt_pair A j).length ≤ j * (1048576 * 2) := toldK_le _ _ _ _ (fBord_le A) srt_pair_len (fun a => by have := Uq.len hG.uq hG.nums a; have := hG.len; have := hG.few; omega)
 have HLe := Lib.hid hle
 have HAl : Hid (A.length ≤ 1048576) := Lib.hid (by have := hG.len; have := hG.few; omega)
 have HFl : Hid (∀ a, (A.getD a []).length ≤ 1048576) := Lib.hid (fun a => by have := Uq.len hG.uq hG.nums a; have := hG.len; have := hG.few; omega)
 obtain ⟨_, c1, _⟩ := hG.m.cells
 obtain ⟨aa, ac, hav, hA⟩ := hG.m.aslice
 rw [hav] at c1
 obtain ⟨B, hB⟩ : ∃ B, W.heap.size = B := ⟨_, rfl⟩
 have HA : Hid (∀ j, j < A.length → ∃ ag fa fc, aa = some ⟨ag, 0, none⟩ ∧ (∀ w, Below B W w → w.cell? ⟨ag, j, none⟩ = some (.slice fa (A.getD j []).length fc)) ∧ ∀ (i : Nat) (y : Wg), (A.getD j [])[i]? = some y → ∃ g, fa = some ⟨g, 0, none⟩ ∧ ∀ w, Below B W w → w.cell? ⟨g, i * 2, none⟩ = some (.int .i64 (y.1 : Nat)) ∧ w.cell? ⟨g, i * 2 + 1, none⟩ = some (.int .i64 (y.2 : Nat))) := Lib.hid (fun j hj => by
   obtain ⟨v, hv⟩ : ∃ v, vs[j]? = some v := ⟨_, List.getElem?_eq_getElem (by have := hG.m.len; omega)⟩
   obtain ⟨ag, e1, hag, hcv, _⟩ := hA j v hv
   obtain ⟨fa, fc, rfl, hF⟩ := hG.m.fslice hv
   refine ⟨ag, fa, fc, e1, fun w hw => cell_later (hB ▸ hw) hcv, fun i y hy => ?_⟩
   obtain ⟨g, e2, hg, d1, d2, _⟩ := hF i y hy
   exact ⟨g, e2, fun w hw => ⟨cell_later (hB ▸ hw) d1, cell_later (hB ▸ hw) d2⟩⟩)
 obtain ⟨n, hn⟩ : ∃ n, A.length = n := ⟨_, rfl⟩
 have HCl : Hid (∀ (wq : World) (v : Value) (xs : List (Nat × Nat)), Below B W wq → B ≤ wq.heap.size → Rk enc_pair 71 2 wq B v xs → xs.length ≤ 4000000000000 → ∀ a b c : Nat, Calls Tryz.prog 62 #[v, .int .i64 (a : Nat), .agg #[.int .i64 (b : Nat), .int .i64 (c : Nat)], .pointer (some ⟨cB, 0, none⟩)] wq fun e w' => ∃ v', e = .returned v' ∧ Rk enc_pair 71 2 w' B v' (xs ++ (fBord A) a (b, c)) ∧ Below B W w') := Lib.hid (fun wq v xs hb hs hr hl a b c => by
   subst hB
   refine (bord_cl hG hc hb hr hl a b c).mono ?_
   rintro e w' ⟨v', h1, h2, h3⟩
   exact ⟨v', h1, h2, h3⟩)
 rw [hB]
 rw [hn] at HA c1 HAl ⊢
 clear hA hav hle hG hc
 go_enter Tryz.func60, Tryz.ntmps60
 go_wp2
 go_loopw [5, 16] (fun s5 s16 wr => ∃ j : Nat, j ≤ n ∧ s16 = .int .i64 (j : Nat) ∧ Hid (Rk enc_pair 71 2 wr B s5 (toldK (fBord A) srt_pair A j) ∧ Below B W wr)) (fun _ s16 _ => n - (intOf s16).toNat)
 case atStart => exact ⟨0, Nat.zero_le _, rfl, Lib.hid ⟨World.ownsRow_nil _ _ _ _, Below.refl _ _⟩⟩
 case round =>
   obtain ⟨j, hj, rfl, hI⟩ := hrel
   by_cases hlt : j < n
   · focus
     have hlt' : (j : Int) < (n : Int) := by omega
     have hlt2 : ¬ n ≤ j := by omega
     have hj0 : (0 : Int) ≤ (j : Int) := by omega
     have hn20 := HAl.out
     obtain ⟨ag, fa, fc, rfl, hcj, hfj⟩ := HA.out j hlt
     have cj := hcj wr hI.out.2
     obtain ⟨fan, hfan⟩ : ∃ fan, A.getD j [] = fan := ⟨_, rfl⟩
     have hm20 := HFl.out j
     rw [hfan] at cj hfj hm20
     obtain ⟨m, hm⟩ : ∃ m, fan.length = m := ⟨_, rfl⟩
     rw [hm] at cj hm20
     have HF := Lib.hid hfj
     have HLj := Lib.hid (HLe.out j)
     obtain ⟨L, hL⟩ : ∃ L, toldK (fBord A) srt_pair A j = L := ⟨_, rfl⟩
     have HTn : Hid (toldK (fBord A) srt_pair A (j + 1) = L ++ srt_pair (fan.flatMap ((fBord A) j))) := Lib.hid (by rw [toldK_succ, hfan, hL])
     rw [hL] at hI HLj
     obtain ⟨la, lc, rfl, hlc, _⟩ := hI.out.1.form
     obtain ⟨q, hq⟩ : ∃ q, L.length = q := ⟨_, rfl⟩
     have HQ := Lib.hid hq
     rw [hq] at hlc HLj
     have hlq := HLj.out
     have HI1 : Hid (Rk enc_pair 71 2 wr B (.slice la q lc) L ∧ Below B W wr) := Lib.hid (by rw [← hq]; exact hI.out)
     clear hcj hfj hI hL hfan
     try rw [hq]
     go_wp2
     try rw [hq]
     clear cj
     go_loopw [5, 25] (fun s5 s25 wq => ∃ i : Nat, i ≤ m ∧ s25 = .int .i64 (i : Nat) ∧ Hid (Rk enc_pair 71 2 wq B s5 (L ++ (fan.take i).flatMap ((fBord A) j)) ∧ Below B W wq)) (fun _ s25 _ => m - (intOf s25).toNat)
     case atStart => exact ⟨0, Nat.zero_le _, rfl, Lib.hid (by rw [List.take_zero, List.flatMap_nil, List.append_nil]; exact HI1.out)⟩
     case round =>
       obtain ⟨i, hi, rfl, hJ⟩ := hrel
       have HLq : Hid ((L ++ (fan.take i).flatMap ((fBord A) j)).length ≤ 4000000000000) := Lib.hid (by
         have h1 := flat_le ((fBord A) j) 2 ((fBord_le A) j) (fan.take i)
         have h2 : (fan.take i).length ≤ m := by rw [List.length_take, hm]; omega
         rw [List.length_append, hq]; omega)
       by_cases hli : i < m
       · have hli' : (i : Int) < (m : Int) := by omega
         have hli2 : ¬ m ≤ i := by omega
         have hi0 : (0 : Int) ≤ (i : Int) := by omega
         obtain ⟨⟨b, c⟩, hy⟩ : ∃ y, fan[i]? = some y := ⟨_, List.getElem?_eq_getElem (by omega)⟩
         obtain ⟨fg, rfl, hfc⟩ := HF.out i _ hy
         obtain ⟨d1, d2⟩ := hfc _ hJ.out.2
         dsimp only at d1 d2
         have HRq := hJ
         have HE : Hid ((fan.take (i + 1)).flatMap ((fBord A) j) = (fan.take i).flatMap ((fBord A) j) ++ (fBord A) j (b, c)) := Lib.hid (by
           rw [List.take_add_one, hy, List.flatMap_append]; simp)
         clear hfc hy
         go_wp2_with fail
         refine (HCl.out _ _ _ (hJ.out.2.alloc (by have := hJ.out.2.size; omega) _) (by have := hJ.out.2.size; simp; omega) (own_later' hJ.out.1 ((Below.refl _ _).alloc (Nat.le_refl _) _)) HLq.out j b c).mono ?_
         rintro e w3 ⟨v3, rfl, hr3, hb3⟩
         have H3 := Lib.hid (And.intro hr3 hb3)
         clear hr3 hb3
         go_wp2
         refine ⟨⟨i + 1, by omega, by go_num, Lib.hid ⟨?_, H3.out.2⟩⟩, by simp [intOf]; omega⟩
         rw [HE.out, ← List.append_assoc]; exact H3.out.1
       · obtain rfl : i = m := by omega
         have HX : Hid (Rk enc_pair 71 2 wr B u5 (L ++ fan.flatMap ((fBord A) j)) ∧ Below B W wr) := Lib.hid (by have h := hJ.out; rw [List.take_of_length_le (by omega)] at h; exact h)
         have HNl : Hid ((L ++ fan.flatMap ((fBord A) j)).length ≤ 4000000000000) := Lib.hid (by have h := HLq.out; rw [List.take_of_length_le (by omega)] at h; exact h)
         obtain ⟨sa, sc, rfl, hsc, hcase⟩ := HX.out.1.form
         obtain ⟨N, hN⟩ : ∃ N, (L ++ fan.flatMap ((fBord A) j)).length = N := ⟨_, rfl⟩
         have hqN : q ≤ N := by rw [← hN, List.length_append]; omega
         have HXN : Hid (∃ ys, ys = L ++ fan.flatMap ((fBord A) j) ∧ ys.length = N ∧ ys.take q = L ∧ ys.drop q = fan.flatMap ((fBord A) j)) := Lib.hid ⟨_, rfl, hN, by rw [← hq, List.take_left], by rw [← hq, List.drop_left]⟩
         rw [hN] at hsc HNl
         have HX2 : Hid (wr.ownsRow B 71 2 (.slice sa N sc) N ((L ++ fan.flatMap ((fBord A) j)).flatMap enc_pair) ∧ Below B W wr) := Lib.hid (by have h := HX.out; unfold Rk at h; rw [hN] at h; exact h)
         have HEnd : Hid (∀ w4 : World, w4.ownsRow B 71 2 (.slice sa N sc) N (((L ++ fan.flatMap ((fBord A) j)).take q ++ srt_pair ((L ++ fan.flatMap ((fBord A) j)).drop q)).flatMap enc_pair) → wr.grownBy w4 (Value.slice sa N sc).ownBlock → Rk enc_pair 71 2 w4 B (.slice sa N sc) (toldK (fBord A) srt_pair A (j + 1)) ∧ Below B W w4) := Lib.hid (fun w4 h1 h2 => by
           rw [← hq, List.take_left, List.drop_left] at h1
           refine ⟨?_, HX2.out.2.trans (below_grown h2 (fun g hg => (HX2.out.1.lt g hg).1) (by have := HX2.out.2.size; omega))⟩
           unfold Rk
           rw [HTn.out]
           have e : (L ++ srt_pair (fan.flatMap ((fBord A) j))).length = N := by rw [List.length_append, srt_pair_len, ← List.length_append, hN]
           rw [e]; exact h1)
         clear HX HXN hJ HLq
         have hN62 : N < 4611686018427387904 := by have := HNl.out; omega
         rcases hcase with ⟨hx0, rfl, rfl⟩ | ⟨g, rfl, hob⟩
         · have hN0 : N = 0 := by rw [← hN, hx0]; rfl
           subst hN0
           obtain rfl : q = 0 := by omega
           clear hx0
           try rw [hN]
           go_wp2_with fail
           refine (sort_pair (n := 0) (m := 0) HX2.out.1 hN (by omega) (by omega) none 0 (Or.inl rfl)).mono ?_
           rintro e w4 ⟨rfl, h1, h2⟩
           have HF4 := Lib.hid (HEnd.out w4 h1 h2)
           clear h1 h2
           go_wp2
           exact ⟨⟨j + 1, by omega, by go_num, HF4⟩, by simp [intOf]; omega⟩
         · have hqs : ¬ sc < q := by omega
           have hqs2 : ¬ sc < N := by omega
           have hqs3 : ¬ N < q := by omega
           have hqi : (q : Int) ≤ (N : Int) := by omega
           have hqi2 : (q : Int) ≤ (sc : Int) := by omega
           have hqi3 : (N : Int) ≤ (sc : Int) := by omega
           try rw [hN]
           by_cases hsq : sc = q
           · obtain rfl : sc = N := by omega
             subst hsq
             go_wp2_with fail
             have hS := sort_pair (n := sc) (m := sc) HX2.out.1 hN (by omega) hN62 (some ⟨g, 0, none⟩) 0 (Or.inl (by omega))
             rw [Nat.sub_self] at hS
             refine hS.mono ?_
             clear hS
             rintro e w4 ⟨rfl, h1, h2⟩
             have HF4 := Lib.hid (HEnd.out w4 h1 h2)
             clear h1 h2
             go_wp2
             exact ⟨⟨j + 1, by omega, by go_num, HF4⟩, by simp [intOf]; omega⟩
           · go_wp2_with fail
             refine (sort_pair (n := N) (m := q) HX2.out.1 hN (by omega) hN62 _ _ (Or.inr ⟨g, hob, rfl⟩)).mono ?_
             rintro e w4 ⟨rfl, h1, h2⟩
             have HF4 := Lib.hid (HEnd.out w4 h1 h2)
             clear h1 h2
             go_wp2
             exact ⟨⟨j + 1, by omega, by go_num, HF4⟩, by simp [intOf]; omega⟩
   · obtain rfl : j = n := by omega
     have HR := hI
     go_wp2
     go_ret
     exact ⟨_, rfl, HR.out.1, HR.out.2⟩
end

/- Package mesh: New, Tris, Edges, Border. -/
section
open Go.RowKit Go.Shelf Go.Lib
attribute [local go_sem ↓] Go.wp_at_zero Go.wp_at_succ
set_option maxRecDepth 100000
def NewR (n : Nat) (f : Nat → Nat × Nat) (W : World) (e : Ending) (w' : World) : Prop :=
 (∃ z r, r ≠ 0 ∧ AllR n f z r ∧ e = .returned (.tuple #[.pointer none, .int .i64 r])) ∨
 (∃ mB x, (∃ z, AllR n f z 0) ∧ e = .returned (.tuple #[.pointer (some ⟨mB, 0, none⟩), .int .i64 0]) ∧ W.heap.size ≤ mB ∧ mB < w'.heap.size ∧ n ≤ 1048576 ∧
   Msh (fun k => W.heap.size ≤ k ∧ k < mB) w' mB x (ptsF (fun k => plp (f k)) n) (List.replicate n []) (fun _ _ => none) (List.replicate n nilv))
set_option maxHeartbeats 2000000 in
theorem new_any (s : Value) (n : Nat) (f : Nat → Nat × Nat) (W : World) (h : Ps W s n f) : Calls Tryz.prog 12 #[s] W fun e w' => NewR n f W e w' ∧ Below W.heap.size W w' := by
 have HP := Lib.hid h
 clear h
 go_enter Tryz.func12, Tryz.ntmps12
 go_wp2_with fail
 refine (all_any s n f W HP.out).mono ?_
 rintro e w1 ⟨⟨z, r, rfl, hr⟩, hb⟩
 have HR := Lib.hid (And.intro hr hb)
 clear hr hb
 by_cases h0 : r = 0
 · subst h0
   have h20 : n ≤ 1048576 := by
     rcases HR.out.1 with ⟨_, _, h⟩ | ⟨h, _⟩ | ⟨h, _⟩
     · omega
     · exact h
     · exact h
   have HP1 := Lib.hid (HP.out.later HR.out.2)
   go_wp2_with fail
   refine (ground_any s n f w1 HP1.out h20).mono ?_
   rintro e w2 ⟨x, rfl, hg, hb⟩
   have hb2 : Below w2.heap.size w2 (w2.alloc (.cells #[.pointer (some ⟨x.gB, 0, none⟩)] 77)) := (Below.refl _ _).alloc (Nat.le_refl _) _
   have HG := Lib.hid (hg.later hb2)
   have HB := Lib.hid (HR.out.2.trans ((hb.mono HR.out.2.size).trans (hb2.mono (Nat.le_trans HR.out.2.size hb.size))))
   have HM : Hid (Mh (w2.alloc (.cells #[.pointer (some ⟨x.gB, 0, none⟩)] 77)) w2.heap.size x.gB) := Lib.hid (CB.new w2 _ _)
   have HS := Lib.hid (And.intro HR.out.2.size hb.size)
   clear hg hb hb2
   go_wp2
   go_ret2
   refine ⟨Or.inr ⟨w2.heap.size, x, ⟨z, HR.out.1⟩, rfl, Nat.le_trans HS.out.1 HS.out.2, by simp, h20, HM.out, fun e => by omega, HG.out.more (fun k hk => ⟨Nat.le_trans HS.out.1 hk.1, hk.2⟩)⟩, HB.out⟩
 · have h0' : (r == 0) = false := by rw [beq_eq_false_iff_ne]; exact h0
   go_wp2
   go_ret2
   exact ⟨Or.inl ⟨z, r, h0, HR.out.1, rfl⟩, HR.out.2⟩
section
variable {S : Nat → Prop} {W : World} {mB : Nat} {x : Gx} {P : List (Nat × Nat)} {A : List (List Wg)} {F : Int → Int → Option Int} {vs : List Value}
def trisL (A : List (List Wg)) : List (Nat × Nat × Nat) := toldK fTri srt_tri A A.length
def edgesL (A : List (List Wg)) : List (Nat × Nat) := toldK (fEdge A) srt_pair A A.length
def bordL (A : List (List Wg)) : List (Nat × Nat) := toldK (fBord A) srt_pair A A.length
theorem tris_m (h : Msh S W mB x P A F vs) : Calls Tryz.prog 27 #[.pointer (some ⟨mB, 0, none⟩)] W fun e w' => ∃ v, e = .returned v ∧ Rk enc_tri 30 3 w' W.heap.size v (trisL A) ∧ Below W.heap.size W w' := by
 have HM := Lib.hid h
 clear h
 go_enter Tryz.func27, Tryz.ntmps27
 go_wp2_with fail
 refine (see_some HM.out.box).mono ?_
 rintro e w' ⟨rfl, hq⟩
 rw [hq]
 clear hq w'
 go_wp2_with fail
 refine (told_tri HM.out.g).mono ?_
 rintro e w' ⟨v, rfl, h1, h2⟩
 have HR := Lib.hid (And.intro h1 h2)
 clear h1 h2
 go_wp2
 go_ret
 exact ⟨v, rfl, HR.out.1, HR.out.2⟩
theorem rk_base {α : Type} {enc : α → List Value} {T k B B' : Nat} {w : World} {v : Value} {xs : List α} (h : Rk enc T k w B v xs) (hb : B' ≤ B) : Rk enc T k w B' v xs := own_baseB h hb
theorem edges_m (h : Msh S W mB x P A F vs) : Calls Tryz.prog 28 #[.pointer (some ⟨mB, 0, none⟩)] W fun e w' => ∃ v, e = .returned v ∧ Rk enc_pair 71 2 w' W.heap.size v (edgesL A) ∧ Below W.heap.size W w' := by
 have HM := Lib.hid h
 obtain ⟨W1, hW1⟩ : ∃ X, W.alloc (.cells #[.pointer (some ⟨x.gB, 0, none⟩)] 74) = X := ⟨_, rfl⟩
 have b1 : Below W.heap.size W W1 := by rw [← hW1]; exact (Below.refl _ W).alloc (Nat.le_refl _) _
 have k1 : CB W1 W.heap.size #[.pointer (some ⟨x.gB, 0, none⟩)] 74 := by rw [← hW1]; exact CB.new W _ _
 have HT := Lib.hid (told_edge (h.g.later b1) (k1.cell 0 (by simp)))
 have c0 : W1.cell? ⟨W.heap.size, 0, none⟩ = some (.pointer (some ⟨x.gB, 0, none⟩)) := k1.cell 0 (by simp)
 have HB := Lib.hid b1
 clear h k1 b1
 go_enter Tryz.func28, Tryz.ntmps28
 go_wp2_with fail
 refine (see_some HM.out.box).mono ?_
 rintro e w' ⟨rfl, hq⟩
 rw [hq]
 clear hq w'
 go_wp2_with fail
 try rw [hW1]
 refine HT.out.mono ?_
 rintro e w' ⟨v, rfl, h1, h2⟩
 have HR := Lib.hid (And.intro (rk_base h1 HB.out.size) (HB.out.trans (h2.mono HB.out.size)))
 clear h1 h2
 go_wp2
 go_ret
 exact ⟨v, rfl, HR.out.1, HR.out.2⟩
theorem bord_m (h : Msh S W mB x P A F vs) : Calls Tryz.prog 29 #[.pointer (some ⟨mB, 0, none⟩)] W fun e w' => ∃ v, e = .returned v ∧ Rk enc_pair 71 2 w' W.heap.size v (bordL A) ∧ Below W.heap.size W w' := by
 have HM := Lib.hid h
 obtain ⟨W1, hW1⟩ : ∃ X, W.alloc (.cells #[.pointer (some ⟨x.gB, 0, none⟩)] 74) = X := ⟨_, rfl⟩
 have b1 : Below W.heap.size W W1 := by rw [← hW1]; exact (Below.refl _ W).alloc (Nat.le_refl _) _
 have k1 : CB W1 W.heap.size #[.pointer (some ⟨x.gB, 0, none⟩)] 74 := by rw [← hW1]; exact CB.new W _ _
 have HT := Lib.hid (told_bord (h.g.later b1) (k1.cell 0 (by simp)))
 have c0 : W1.cell? ⟨W.heap.size, 0, none⟩ = some (.pointer (some ⟨x.gB, 0, none⟩)) := k1.cell 0 (by simp)
 have HB := Lib.hid b1
 clear h k1 b1
 go_enter Tryz.func29, Tryz.ntmps29
 go_wp2_with fail
 refine (see_some HM.out.box).mono ?_
 rintro e w' ⟨rfl, hq⟩
 rw [hq]
 clear hq w'
 go_wp2_with fail
 try rw [hW1]
 refine HT.out.mono ?_
 rintro e w' ⟨v, rfl, h1, h2⟩
 have HR := Lib.hid (And.intro (rk_base h1 HB.out.size) (HB.out.trans (h2.mono HB.out.size)))
 clear h1 h2
 go_wp2
 go_ret
 exact ⟨v, rfl, HR.out.1, HR.out.2⟩
end
end

/- Package mesh: Spokes of a point that has one triangle; two numbers in order, sorted. (gen_mw.py) -/
section
open Go.RowKit Go.Shelf Go.Lib
attribute [local go_sem ↓] Go.wp_at_zero Go.wp_at_succ
set_option maxRecDepth 100000
theorem nan_any (x : Int) (W : World) : Calls Tryz.prog 118 #[.int .i64 x] W fun e w' => e = .returned (.bool false) ∧ w' = W := by
 go_enter Tryz.func118, Tryz.ntmps118
 go_wp2
 go_ret
 exact ⟨rfl, rfl⟩
theorem less_no (x y : Int) (h0 : ¬ x < y) (W : World) : Calls Tryz.prog 110 #[.int .i64 x, .int .i64 y] W fun e w' => e = .returned (.bool false) ∧ w' = W := by
 have hd : decide (x < y) = false := decide_eq_false h0
 clear h0
 go_enter Tryz.func110, Tryz.ntmps110
 go_wp2_with fail
 refine (nan_any x W).mono ?_
 rintro e w' ⟨rfl, hq⟩
 rw [hq]
 clear hq w'
 go_wp2
 go_ret
 exact ⟨rfl, rfl⟩
set_option maxHeartbeats 2000000 in
theorem ins2 (g c : Nat) (u v : Int) (huv : ¬ v < u) (W : World) (c0 : W.cell? ⟨g, 0, none⟩ = some (.int .i64 u)) (c1 : W.cell? ⟨g, 1, none⟩ = some (.int .i64 v)) :
   Calls Tryz.prog 104 #[.slice (some ⟨g, 0, none⟩) 2 c, .int .i64 0, .int .i64 2] W fun e w' => e = .returned (.tuple #[]) ∧ Below W.heap.size W w' := by
 have HC := Lib.hid (And.intro c0 c1)
 have HL := Lib.hid huv
 clear huv c0 c1
 go_enter Tryz.func104, Tryz.ntmps104
 go_wp2_with fail
 refine wp_loop_rounds 2 ?_
 rw [rounds_succ]
 go_wp2_with fail
 refine wp_loop_rounds 1 ?_
 rw [rounds_succ]
 go_wp2_with fail
 refine wp_region_held_drew (S := (fun X => X.cell? ⟨g, 0, none⟩ = some (.int .i64 u) ∧ X.cell? ⟨g, 1, none⟩ = some (.int .i64 v) ∧ Below W.heap.size W X)) (by kernel_rfl) ⟨HC.out.1, HC.out.2, (Below.refl _ _).drew⟩ (fun hS => ?_)
 refine take_at (i := 0) (d := some 16) (v := .int .i64 1) (by kernel_rfl) (by kernel_rfl) (by kernel_rfl) (by kernel_rfl) (fun _ _ _ h => h) ?_ hS ?_
 · intro o ho
   replace ho := Option.some.inj (Eq.trans (Eq.symm ho) rfl)
   subst ho
   refine Or.inl ⟨by rfl, ?_⟩
   intro w hSw
   obtain ⟨q1, q2, _⟩ := hSw
   go_simp
   all_goals (try rfl)
 simp only [AP]
 refine take_at (i := 1) (d := some 17) (v := .int .i64 0) (by kernel_rfl) (by kernel_rfl) (by kernel_rfl) (by kernel_rfl) (fun _ _ _ h => h) ?_ hS ?_
 · intro o ho
   replace ho := Option.some.inj (Eq.trans (Eq.symm ho) rfl)
   subst ho
   refine Or.inl ⟨by rfl, ?_⟩
   intro w hSw
   obtain ⟨q1, q2, _⟩ := hSw
   go_simp
   all_goals (try rfl)
 simp only [AP]
 refine take_at (i := 2) (d := some 18) (v := .bool true) (by kernel_rfl) (by kernel_rfl) (by kernel_rfl) (by kernel_rfl) (fun _ _ _ h => h) ?_ hS ?_
 · intro o ho
   replace ho := Option.some.inj (Eq.trans (Eq.symm ho) rfl)
   subst ho
   refine Or.inl ⟨by rfl, ?_⟩
   intro w hSw
   obtain ⟨q1, q2, _⟩ := hSw
   go_simp
   all_goals (try rfl)
 simp only [AP]
 refine take_at (i := 3) (d := some 19) (v := .bool true) (by kernel_rfl) (by kernel_rfl) (by kernel_rfl) (by kernel_rfl) (fun _ _ _ h => h) ?_ hS ?_
 · intro o ho
   replace ho := Option.some.inj (Eq.trans (Eq.symm ho) rfl)
   subst ho
   refine Or.inl ⟨by rfl, ?_⟩
   intro w hSw
   obtain ⟨q1, q2, _⟩ := hSw
   go_simp
   all_goals (try rfl)
 simp only [AP]
 refine take_at (i := 4) (d := some 20) (v := .slice (some ⟨g, 0, none⟩) 2 c) (by kernel_rfl) (by kernel_rfl) (by kernel_rfl) (by kernel_rfl) (fun _ _ _ h => h) ?_ hS ?_
 · intro o ho
   replace ho := Option.some.inj (Eq.trans (Eq.symm ho) rfl)
   subst ho
   refine Or.inl ⟨by rfl, ?_⟩
   intro w hSw
   obtain ⟨q1, q2, _⟩ := hSw
   go_simp
   all_goals (try rfl)
 simp only [AP]
 refine take_at (i := 5) (d := some 21) (v := .int .i64 1) (by kernel_rfl) (by kernel_rfl) (by kernel_rfl) (by kernel_rfl) (fun _ _ _ h => h) ?_ hS ?_
 · intro o ho
   replace ho := Option.some.inj (Eq.trans (Eq.symm ho) rfl)
   subst ho
   refine Or.inl ⟨by rfl, ?_⟩
   intro w hSw
   obtain ⟨q1, q2, _⟩ := hSw
   go_simp
   all_goals (try rfl)
 simp only [AP]
 refine take_at (i := 6) (d := some 22) (v := .pointer (some ⟨g, 1, none⟩)) (by kernel_rfl) (by kernel_rfl) (by kernel_rfl) (by kernel_rfl) (fun _ _ _ h => h) ?_ hS ?_
 · intro o ho
   replace ho := Option.some.inj (Eq.trans (Eq.symm ho) rfl)
   subst ho
   refine Or.inl ⟨by rfl, ?_⟩
   intro w hSw
   obtain ⟨q1, q2, _⟩ := hSw
   go_simp
   all_goals (try rfl)
 simp only [AP]
 refine take_at (i := 7) (d := some 23) (v := .int .i64 v) (by kernel_rfl) (by kernel_rfl) (by kernel_rfl) (by kernel_rfl) (fun _ _ _ h => h) ?_ hS ?_
 · intro o ho
   replace ho := Option.some.inj (Eq.trans (Eq.symm ho) rfl)
   subst ho
   refine Or.inl ⟨by rfl, ?_⟩
   intro w hSw
   obtain ⟨q1, q2, _⟩ := hSw
   go_simp
   all_goals (try rfl)
 simp only [AP]
 refine take_at (i := 8) (d := some 24) (v := .slice (some ⟨g, 0, none⟩) 2 c) (by kernel_rfl) (by kernel_rfl) (by kernel_rfl) (by kernel_rfl) (fun _ _ _ h => h) ?_ hS ?_
 · intro o ho
   replace ho := Option.some.inj (Eq.trans (Eq.symm ho) rfl)
   subst ho
   refine Or.inl ⟨by rfl, ?_⟩
   intro w hSw
   obtain ⟨q1, q2, _⟩ := hSw
   go_simp
   all_goals (try rfl)
 simp only [AP]
 refine take_at (i := 9) (d := some 25) (v := .int .i64 1) (by kernel_rfl) (by kernel_rfl) (by kernel_rfl) (by kernel_rfl) (fun _ _ _ h => h) ?_ hS ?_
 · intro o ho
   replace ho := Option.some.inj (Eq.trans (Eq.symm ho) rfl)
   subst ho
   refine Or.inl ⟨by rfl, ?_⟩
   intro w hSw
   obtain ⟨q1, q2, _⟩ := hSw
   go_simp
   all_goals (try rfl)
 simp only [AP]
 refine take_at (i := 10) (d := some 26) (v := .int .i64 0) (by kernel_rfl) (by kernel_rfl) (by kernel_rfl) (by kernel_rfl) (fun _ _ _ h => h) ?_ hS ?_
 · intro o ho
   replace ho := Option.some.inj (Eq.trans (Eq.symm ho) rfl)
   subst ho
   refine Or.inl ⟨by rfl, ?_⟩
   intro w hSw
   obtain ⟨q1, q2, _⟩ := hSw
   go_simp
   all_goals (try rfl)
 simp only [AP]
 refine take_at (i := 11) (d := some 27) (v := .pointer (some ⟨g, 0, none⟩)) (by kernel_rfl) (by kernel_rfl) (by kernel_rfl) (by kernel_rfl) (fun _ _ _ h => h) ?_ hS ?_
 · intro o ho
   replace ho := Option.some.inj (Eq.trans (Eq.symm ho) rfl)
   subst ho
   refine Or.inl ⟨by rfl, ?_⟩
   intro w hSw
   obtain ⟨q1, q2, _⟩ := hSw
   go_simp
   all_goals (try rfl)
 simp only [AP]
 refine take_at (i := 12) (d := some 28) (v := .int .i64 u) (by kernel_rfl) (by kernel_rfl) (by kernel_rfl) (by kernel_rfl) (fun _ _ _ h => h) ?_ hS ?_
 · intro o ho
   replace ho := Option.some.inj (Eq.trans (Eq.symm ho) rfl)
   subst ho
   refine Or.inl ⟨by rfl, ?_⟩
   intro w hSw
   obtain ⟨q1, q2, _⟩ := hSw
   go_simp
   all_goals (try rfl)
 simp only [AP]
 refine calA 13 fun KF hK => ?_
 rw [if_pos (by rfl)]
 go_simp
 refine (less_no v u (by have := HL.out; omega) _).mono ?_
 rintro e wx ⟨rfl, hbx⟩
 subst hbx
 go_wp2_with fail
 refine hK.out _ _ hS ?_
 clear hS
 intro hS
 clear hK KF
 try simp only [AP]
 refine take_at (i := 14) (d := some 30) (v := .bool false) (by kernel_rfl) (by kernel_rfl) (by kernel_rfl) (by kernel_rfl) (fun _ _ _ h => h) ?_ hS ?_
 · intro o ho
   replace ho := Option.some.inj (Eq.trans (Eq.symm ho) rfl)
   subst ho
   refine Or.inl ⟨by rfl, ?_⟩
   intro w hSw
   obtain ⟨q1, q2, _⟩ := hSw
   go_simp
   all_goals (try rfl)
 simp only [AP]
 refine wpAnyH_done (by kernel_rfl) ?_ _
 have HB := Lib.hid hS.2.2
 clear hS
 go_wp2_with fail
 rw [rounds_succ]
 go_wp2
 go_end0
 exact ⟨rfl, HB.out⟩
theorem pdq2 (g c : Nat) (u v lim : Int) (huv : ¬ v < u) (W : World) (c0 : W.cell? ⟨g, 0, none⟩ = some (.int .i64 u)) (c1 : W.cell? ⟨g, 1, none⟩ = some (.int .i64 v)) :
   Calls Tryz.prog 84 #[.slice (some ⟨g, 0, none⟩) 2 c, .int .i64 0, .int .i64 2, .int .i64 lim] W fun e w' => e = .returned (.tuple #[]) ∧ Below W.heap.size W w' := by
 have HI := Lib.hid (ins2 g c u v huv W c0 c1)
 clear huv c0 c1
 go_enter Tryz.func84, Tryz.ntmps84
 go_wp2_with fail
 refine wp_loop_rounds 1 ?_
 rw [rounds_succ]
 go_wp2_with fail
 refine HI.out.mono ?_
 rintro e w' ⟨rfl, hb⟩
 have HB := Lib.hid hb
 clear hb
 go_wp2
 (try simp only [Exit.inBlock, Exit.then])
 refine bodyPost_ret (results_none rfl _ _ _) rfl ?_
 exact ⟨rfl, HB.out⟩
theorem sort2 (g c : Nat) (u v : Int) (huv : ¬ v < u) (W : World) (c0 : W.cell? ⟨g, 0, none⟩ = some (.int .i64 u)) (c1 : W.cell? ⟨g, 1, none⟩ = some (.int .i64 v)) :
   Calls Tryz.prog 56 #[.slice (some ⟨g, 0, none⟩) 2 c] W fun e w' => e = .returned (.tuple #[]) ∧ Below W.heap.size W w' := by
 have HI : Hid (∀ lim, Calls Tryz.prog 84 #[.slice (some ⟨g, 0, none⟩) 2 c, .int .i64 0, .int .i64 2, .int .i64 lim] W fun e w' => e = .returned (.tuple #[]) ∧ Below W.heap.size W w') := Lib.hid (fun lim => pdq2 g c u v lim huv W c0 c1)
 have hl : Calls Tryz.prog 85 #[.int .u64 2] W fun e w' => e = .returned (.int .i64 (Lib.bitLen 2 : Nat)) ∧ w' = W :=
   Any.bits_Len (SlLaysF0.n15.bits (P := Tryz.prog) (ρ := Tryz.sortPair_ren) { Tryz.sortPair with }) 2 W (by omega) (by omega)
 have HL := Lib.hid hl
 clear huv c0 c1 hl
 go_enter Tryz.func56, Tryz.ntmps56
 go_wp2_with fail
 refine HL.out.mono ?_
 rintro e w' ⟨rfl, hq⟩
 rw [hq]
 clear hq w'
 go_wp2_with fail
 refine (HI.out _).mono ?_
 rintro e w' ⟨rfl, hb⟩
 have HB := Lib.hid hb
 clear hb
 go_wp2
 go_end0
 exact ⟨rfl, HB.out⟩
theorem own_two {W : World} {B : Nat} {v : Value} {u w : Value} (h : W.ownsRow B 3 1 v (1 + 1) ([u] ++ [w])) : ∃ g cap, v = .slice (some ⟨g, 0, none⟩) 2 cap ∧ W.cell? ⟨g, 0, none⟩ = some u ∧ W.cell? ⟨g, 1, none⟩ = some w := by
 rcases h.2 with ⟨_, h0⟩ | ⟨g, cap, cur, rfl, _⟩
 · omega
 · exact ⟨g, cap, rfl, by rw [h.cellAt 0 (by omega)]; rfl, by rw [h.cellAt 1 (by omega)]; rfl⟩
set_option maxHeartbeats 4000000 in
theorem spokes_one {S : Nat → Prop} {W : World} {mB : Nat} {x : Gx} {P : List (Nat × Nat)} {A : List (List Wg)} {F : Int → Int → Option Int} {vs : List Value} (h : Msh S W mB x P A F vs) (a b c : Nat) (hA : A[a]? = some [(b, c)]) (hp : plc A (a : Nat) (c : Nat) = none) (hbc : b ≤ c) :
   Calls Tryz.prog 21 #[.pointer (some ⟨mB, 0, none⟩), .int .i64 (a : Nat)] W fun e w' => (∃ p q, e = .returned (.slice p 2 q)) ∧ Below W.heap.size W w' := by
 have HM := Lib.hid h
 have ha : a < A.length := (List.getElem?_eq_some_iff.1 hA).1
 have hgA : A.getD a [] = [(b, c)] := by rw [List.getD_eq_getElem?_getD, hA]; rfl
 obtain ⟨v, hv⟩ : ∃ v, vs[a]? = some v := ⟨_, List.getElem?_eq_getElem (by have := h.g.m.len; omega)⟩
 obtain ⟨gB, pv, av, pm, fm⟩ := x
 obtain ⟨_, c1, _, _⟩ := h.g.m.cells
 obtain ⟨aa, ac, hav, hAs⟩ := h.g.m.aslice
 obtain ⟨ag, rfl, hag, hcv, hfz, hob⟩ := hAs a v hv
 dsimp only at hav c1
 rw [hav] at c1
 obtain ⟨fa, fc, rfl, hF⟩ := h.g.m.fslice hv
 rw [hgA] at hF hcv
 obtain ⟨fg, rfl, hfg, d1, d2, _⟩ := hF 0 (b, c) rfl
 obtain ⟨n, hn⟩ : ∃ n, A.length = n := ⟨_, rfl⟩
 rw [hn] at c1 ha
 have hP : P.length = n := by rw [← hn]; exact h.g.len.symm
 have HW : Hid (∀ w, Below W.heap.size W w → w.cell? ⟨gB, 1, none⟩ = some (.slice (some ⟨ag, 0, none⟩) n ac) ∧ w.cell? ⟨ag, a, none⟩ = some (.slice (some ⟨fg, 0, none⟩) 1 fc) ∧ w.cell? ⟨fg, 0, none⟩ = some (.int .i64 (b : Nat)) ∧ w.cell? ⟨fg, 1, none⟩ = some (.int .i64 (c : Nat)) ∧ Gd S w ⟨gB, pv, av, pm, fm⟩ P A F vs) := Lib.hid (fun w hw => ⟨cell_later hw c1, cell_later hw hcv, by have := cell_later hw d1; simpa using this, by have := cell_later hw d2; simpa using this, h.g.later hw⟩)
 have ha1 : (a : Int) < (n : Int) := by omega
 have ha2 : ¬ n ≤ a := by omega
 have hab : hasB P.length (a : Nat) = true := by unfold hasB; rw [hP]; exact decide_eq_true (by omega)
 obtain ⟨W1, hW1⟩ : ∃ X, W.alloc (.cells #[.int .i64 (a : Nat)] 3) = X := ⟨_, rfl⟩
 have b1 : Below W.heap.size W W1 := by rw [← hW1]; exact (Below.refl _ W).alloc (Nat.le_refl _) _
 have k1 : CB W1 W.heap.size #[.int .i64 (a : Nat)] 3 := by rw [← hW1]; exact CB.new W _ _
 have hall : [(a : Int)].all (hasB P.length) = true := by simp [hab]
 have HH := has_any (HW.out W1 b1).2.2.2.2 W.heap.size 1 1 [(a : Int)] rfl (by omega) (fun i y hi => by
   have hl := (List.getElem?_eq_some_iff.1 hi).1
   obtain rfl : i = 0 := by simp at hl; omega
   simp at hi; subst hi; exact k1.cell 0 (by simp))
 rw [hall] at HH
 have HHH := Lib.hid HH
 have HB1 := Lib.hid b1
 obtain ⟨x1, x2, x3, x4, _⟩ := HW.out W1 b1
 have HBC := Lib.hid hbc
 have HP := Lib.hid (show (plc A (a : Nat) (c : Nat)).isSome = false by rw [hp]; rfl)
 obtain ⟨i0, hi0, hz0, hz1, hz2⟩ := info_parts (show (Tryz.prog.info? 3).map (fun i => (i.zero, i.size, i.bytes)) = some (some (.int .i64 0), 1, 8) by kernel_rfl)
 clear h hA hgA hv hav hAs hcv hfz hob hF d1 d2 hfg hag c1 HH k1 b1 hall hab hn hP hp
 go_enter Tryz.func21, Tryz.ntmps21
 go_wp2_with fail
 refine (see_some HM.out.box).mono ?_
 rintro e w' ⟨rfl, hq⟩
 rw [hq]
 clear hq w'
 go_wp2_with fail
 try rw [hW1]
 refine HHH.out.mono ?_
 rintro e w' ⟨rfl, hq⟩
 rw [hq]
 clear hq w'
 go_wp2_with fail
 refine wp_loop_rounds 2 ?_
 rw [rounds_succ]
 obtain ⟨W2, hW2⟩ : ∃ X, W1.alloc (.cells #[.int .i64 (b : Nat), .int .i64 (c : Nat)] 90) = X := ⟨_, rfl⟩
 have b2 : Below W1.heap.size W1 W2 := by rw [← hW2]; exact (Below.refl _ W1).alloc (Nat.le_refl _) _
 have k2 : CB W2 W1.heap.size #[.int .i64 (b : Nat), .int .i64 (c : Nat)] 90 := by rw [← hW2]; exact CB.new W1 _ _
 have HB2 := Lib.hid (HB1.out.trans (b2.mono HB1.out.size))
 have y1 : W2.cell? ⟨W1.heap.size, 0, none⟩ = some (.int .i64 (b : Nat)) := k2.cell 0 (by simp)
 have y2 : W2.cell? ⟨W1.heap.size, 1, none⟩ = some (.int .i64 (c : Nat)) := k2.cell 1 (by simp)
 have HY := Lib.hid y2
 clear b2 k2
 have HL1 := True.intro
 go_wp2_with (first | (at_builtin; have _t := HL1; refine wpList_append_own _ rfl _ _ 43 rfl W.heap.size 3 i0 (.int .i64 0) 1 8 Tryz.underlying43 hi0 hz0 hz1 hz2 rfl (by decide) (.slice none 0 0) 0 [] rfl (World.ownsRow_nil _ _ _ _) ⟨W2.heap.size, 0, none⟩ 1 1 [.int .i64 (b : Nat)] rfl rfl (cell_one_new _ _ _) (by simp [Value.oneCell']) (by unfold maxLen; omega) (by omega) (by have := HB2.out.size; simp; omega) ?_; intro v1 w1 hw9 hg9 hv9; have HV1 := Lib.hid (And.intro hw9 hg9); clear hw9 hg9 hv9; clear HL1; have HBw1 := Lib.hid (HB2.out.trans (below_grown (grown_trans (World.grownBy_alloc W2 _ none) HV1.out.2) (fun g hg => by cases hg) HB2.out.size)); have HG1 := Lib.hid (HW.out w1 HBw1.out).2.2.2.2; have z2 : w1.cell? ⟨W1.heap.size, 1, none⟩ = some (.int .i64 (c : Nat)) := HV1.out.2.cell (cell_later ((Below.refl _ W2).alloc (Nat.le_refl _) _) HY.out) (by simp [Value.ownBlock]); have HL2 := True.intro) | fail)
 refine (there_any HG1.out (a : Nat) (c : Nat)).mono ?_
 rintro e w' ⟨rfl, hq⟩
 rw [hq]
 clear hq w'
 rw [HP.out]
 go_wp2_with (first | (at_builtin; have _t := HL2; refine wpList_append_own _ rfl _ _ 43 rfl W.heap.size 3 i0 (.int .i64 0) 1 8 Tryz.underlying43 hi0 hz0 hz1 hz2 rfl (by decide) v1 1 [.int .i64 (b : Nat)] rfl (World.ownsRow.alloc HV1.out.1 _) ⟨w1.heap.size, 0, none⟩ 1 1 [.int .i64 (c : Nat)] rfl rfl (cell_one_new _ _ _) (by simp [Value.oneCell']) (by unfold maxLen; omega) (by omega) (by have := HBw1.out.size; simp; omega) ?_; intro v2 w2 hw9 hg9 hv9; have HV2 := Lib.hid (And.intro hw9 hg9); clear hw9 hg9 hv9; clear HL2; have HB4 := Lib.hid (HBw1.out.trans (below_grown (grown_trans (World.grownBy_alloc w1 _ none) HV2.out.2) (fun g hg => (HV1.out.1.lt g hg).1) HBw1.out.size)); have HS2 := Lib.hid (own_two HV2.out.1)) | fail)
 rw [rounds_succ]
 obtain ⟨g, cap, rfl, s1, s2⟩ := HS2.out
 go_wp2_with fail
 refine (sort2 g cap (b : Nat) (c : Nat) (by have := HBC.out; omega) _ s1 s2).mono ?_
 rintro e w5 ⟨rfl, hb⟩
 have HB5 := Lib.hid (HB4.out.trans (hb.mono HB4.out.size))
 clear hb
 go_wp2
 go_ret
 exact ⟨⟨_, _, rfl⟩, HB5.out⟩
end
end Go.Proofs.YtcgbnjoajieggaaGreat
