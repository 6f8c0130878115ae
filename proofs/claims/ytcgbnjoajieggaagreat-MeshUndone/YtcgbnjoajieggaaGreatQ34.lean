/- Own texts, put together: My Mz Mza Mzb Mzc Mzd. -/
import Derived.Test.YtcgbnjoajieggaaGreatQ3
import Derived.Test.YtcgbnjoajieggaaGreatQ33
namespace Go.Proofs.YtcgbnjoajieggaaGreat
/- Package mesh: works holds. -/
section
open Go.RowKit Go.Shelf Go.Lib
attribute [local go_sem ↓] Go.wp_at_zero Go.wp_at_succ
set_option maxRecDepth 100000
theorem rk_tri {W : World} {B : Nat} {v : Value} {xs : List (Nat × Nat × Nat)} (h : Rk enc_tri 30 3 W B v xs) : ∃ a c, v = .slice a xs.length c ∧ ∀ (i : Nat) (x : Nat × Nat × Nat), xs[i]? = some x → ∃ g, a = some ⟨g, 0, none⟩ ∧ B ≤ g ∧ g < W.heap.size ∧ W.cell? ⟨g, i * 3, none⟩ = some (.int .i64 (x.1 : Nat)) ∧ W.cell? ⟨g, i * 3 + 1, none⟩ = some (.int .i64 (x.2.1 : Nat)) ∧ W.cell? ⟨g, i * 3 + 2, none⟩ = some (.int .i64 (x.2.2 : Nat)) := by
 rcases h.2 with ⟨rfl, h0⟩ | ⟨g, cap, cur, rfl, hB, hg, _⟩
 · refine ⟨none, 0, by rw [h0], fun i x hx => ?_⟩
   have := (List.getElem?_eq_some_iff.1 hx).1
   omega
 · refine ⟨_, cap, rfl, fun i x hx => ⟨g, rfl, hB, (Array.getElem?_eq_some_iff.1 hg).1, ?_⟩⟩
   have hi := (List.getElem?_eq_some_iff.1 hx).1
   have f : ∀ r, r < 3 → (xs.flatMap enc_tri)[i * 3 + r]? = (enc_tri x)[r]? := fun r hr => by
     rw [flat_at enc_tri enc_tri_len (by decide), show (i * 3 + r) / 3 = i by omega, show (i * 3 + r) % 3 = r by omega, hx]; rfl
   refine ⟨?_, ?_, ?_⟩
   · have e := f 0 (by omega)
     rw [Nat.add_zero] at e
     rw [World.ownsRow.cellAt h _ (by omega), e]; rfl
   · rw [World.ownsRow.cellAt h _ (by omega), f 1 (by omega)]; rfl
   · rw [World.ownsRow.cellAt h _ (by omega), f 2 (by omega)]; rfl
theorem rk_pair {W : World} {B : Nat} {v : Value} {xs : List (Nat × Nat)} (h : Rk enc_pair 71 2 W B v xs) : ∃ a c, v = .slice a xs.length c ∧ ∀ (i : Nat) (x : Nat × Nat), xs[i]? = some x → ∃ g, a = some ⟨g, 0, none⟩ ∧ B ≤ g ∧ g < W.heap.size ∧ W.cell? ⟨g, i * 2, none⟩ = some (.int .i64 (x.1 : Nat)) ∧ W.cell? ⟨g, i * 2 + 1, none⟩ = some (.int .i64 (x.2 : Nat)) := by
 rcases h.2 with ⟨rfl, h0⟩ | ⟨g, cap, cur, rfl, hB, hg, _⟩
 · refine ⟨none, 0, by rw [h0], fun i x hx => ?_⟩
   have := (List.getElem?_eq_some_iff.1 hx).1
   omega
 · refine ⟨_, cap, rfl, fun i x hx => ⟨g, rfl, hB, (Array.getElem?_eq_some_iff.1 hg).1, ?_⟩⟩
   have hi := (List.getElem?_eq_some_iff.1 hx).1
   have f : ∀ r, r < 2 → (xs.flatMap enc_pair)[i * 2 + r]? = (enc_pair x)[r]? := fun r hr => by
     rw [flat_at enc_pair enc_pair_len (by decide), show (i * 2 + r) / 2 = i by omega, show (i * 2 + r) % 2 = r by omega, hx]; rfl
   refine ⟨?_, ?_⟩
   · have e := f 0 (by omega)
     rw [Nat.add_zero] at e
     rw [World.ownsRow.cellAt h _ (by omega), e]; rfl
   · rw [World.ownsRow.cellAt h _ (by omega), f 1 (by omega)]; rfl
set_option maxHeartbeats 8000000 in
theorem works_any15 (W : World) : Calls Tryz.prog 9 #[] W fun e w' => e = .returned (.bool true) ∧ Below W.heap.size W w' := by
 have q1 := fun w => eqTri 1 3 2 1 3 2 w
 have q2 := fun w => eqPair 2 0 2 0 w
 go_enter Tryz.func9, Tryz.ntmps9
 go_wp2_with fail
 refine (square_any W).mono ?_
 rintro e w1 ⟨rfl, hP, hb⟩
 have H1 := Lib.hid (And.intro hP hb)
 clear hP hb
 go_wp2_with fail
 refine (new_any _ 4 fsq w1 H1.out.1).mono ?_
 rintro e w2 ⟨hn, hb⟩
 rcases hn with ⟨z, r, hr, ha, rfl⟩ | ⟨mB, x, _, rfl, hm, hm2, _, hM⟩
 · exact absurd (all_sq ha) hr
 have H2 := Lib.hid (And.intro hM (H1.out.2.trans (hb.mono H1.out.2.size)))
 have hwd : ∀ (i : Nat) (p : Nat × Nat), (ptsF (fun k => plp (fsq k)) 4)[i]? = some p → WdP p := fun i p hp => by
   have e : ptsF (fun k => plp (fsq k)) 4 = [(0, 0), (4611686018427387904, 0), (0, 4611686018427387904), (4611686018427387904, 4611686018427387904)] := sqP_eq
   rw [e] at hp
   have hi := (List.getElem?_eq_some_iff.1 hp).1
   simp only [List.length_cons, List.length_nil] at hi
   rcases (show i = 0 ∨ i = 1 ∨ i = 2 ∨ i = 3 by omega) with rfl | rfl | rfl | rfl <;> (simp at hp; subst hp; exact ⟨by decide, by decide⟩)
 have HSz := Lib.hid hb.size
 have HWd := Lib.hid hwd
 clear hb hm hm2 hM hwd
 go_wp2_with fail
 refine (make_any H2.out.1 HWd.out 0 1 2).mono ?_
 rintro e w3 ⟨rfl, v3, hM, hf⟩
 have e1 : mkE (ptsF (fun k => plp (fsq k)) 4) (List.replicate 4 []) 0 1 2 = 0 := mk_sq1
 have e2 : mkS (ptsF (fun k => plp (fsq k)) 4) (List.replicate 4 []) 0 1 2 = sqA1 := (mkS_yes (a := 0) (b := 1) (c := 2) mk_sq1).trans sqA1_eq
 rw [e2] at hM
 rw [e1]
 have H3 := Lib.hid (And.intro hM hf)
 clear hM hf e1 e2
 go_wp2_with fail
 refine (make_any H3.out.1 HWd.out 1 3 2).mono ?_
 rintro e w4 ⟨rfl, v4, hM, hf⟩
 have e1 : mkE (ptsF (fun k => plp (fsq k)) 4) sqA1 1 3 2 = 0 := mk_sq2
 have e2 : mkS (ptsF (fun k => plp (fsq k)) 4) sqA1 1 3 2 = sqA2 := (mkS_yes (a := 1) (b := 3) (c := 2) mk_sq2).trans sqA2_eq
 rw [e2] at hM
 rw [e1]
 have H4 := Lib.hid (And.intro hM hf)
 clear hM hf e1 e2
 go_wp2_with fail
 refine (count_any H4.out.1 (by decide)).mono ?_
 rintro e w' ⟨rfl, hq⟩
 rw [hq]
 clear hq w'
 rw [show ((cnt sqA2 / 3 : Nat) : Int) = 2 from by decide]
 go_wp2_with fail
 refine (apex_any H4.out.1 1 2).mono ?_
 rintro e w' ⟨rfl, hq⟩
 rw [hq]
 clear hq w'
 rw [show apx sqA2 1 2 = some 0 from by decide]
 go_wp2_with fail
 refine (apex_any H4.out.1 2 1).mono ?_
 rintro e w' ⟨rfl, hq⟩
 rw [hq]
 clear hq w'
 rw [show apx sqA2 2 1 = some 3 from by decide]
 go_wp2_with fail
 refine (tris_m H4.out.1).mono ?_
 rintro e w5 ⟨v5, rfl, hr, hb⟩
 rw [tris_sq] at hr
 have H5 := Lib.hid (And.intro hr hb)
 clear hr hb
 have HM5 := Lib.hid (H4.out.1.later H5.out.2)
 go_wp2_with fail
 refine (bord_m HM5.out.1).mono ?_
 rintro e w6 ⟨v6, rfl, hr, hb⟩
 rw [bord_sq] at hr
 have H6 := Lib.hid (And.intro hr hb)
 clear hr hb
 have HM6 := Lib.hid (HM5.out.1.later H6.out.2)
 obtain ⟨a5, cc5, hv5, k5⟩ := rk_tri H5.out.1
 obtain ⟨g5, rfl, _, _, s1, s2, s3⟩ := k5 1 (1, 3, 2) rfl
 subst hv5
 obtain ⟨a6, cc6, hv6, k6⟩ := rk_pair H6.out.1
 obtain ⟨g6, rfl, _, _, r1, r2⟩ := k6 2 (2, 0) rfl
 subst hv6
 have t1 : w6.cell? ⟨g5, 3, none⟩ = some (.int .i64 1) := cell_later H6.out.2 s1
 have t2 : w6.cell? ⟨g5, 4, none⟩ = some (.int .i64 3) := cell_later H6.out.2 s2
 have t3 : w6.cell? ⟨g5, 5, none⟩ = some (.int .i64 2) := cell_later H6.out.2 s3
 have HR := Lib.hid (And.intro r1 r2)
 have HT := Lib.hid (And.intro t1 (And.intro t2 t3))
 clear k5 k6 s1 s2 s3 r1 r2
 go_wp2_with fail
 refine (edges_m HM6.out.1).mono ?_
 rintro e w7 ⟨v7, rfl, hr, hb⟩
 obtain ⟨a7, cc7, hv7, _⟩ := rk_pair hr
 rw [edges_sq] at hv7
 subst hv7
 have HB7 := Lib.hid hb
 have HM7 := Lib.hid (HM6.out.1.later hb)
 have u1 : w7.cell? ⟨g6, 4, none⟩ = some (.int .i64 2) := cell_later hb HR.out.1
 have u2 : w7.cell? ⟨g6, 5, none⟩ = some (.int .i64 0) := cell_later hb HR.out.2
 clear hr hb t1 t2 t3
 go_wp2_with fail
 refine (spokes_one HM7.out.1 0 1 2 rfl (by decide) (by omega)).mono ?_
 rintro e w8 ⟨⟨p8, q8, rfl⟩, hb⟩
 have HB8 := Lib.hid hb
 clear hb
 go_wp2
 go_ret
 have s0 := H1.out.2.size
 have bw : Below w1.heap.size w2 w4 := (H3.out.2.below HSz.out (fun k hk => hk.1)).trans ((H4.out.2.below (Nat.le_trans HSz.out H3.out.2.size) (fun k hk => by rcases hk with hk | hk; exact hk.1; have := HSz.out; omega)))
 exact ⟨rfl, H2.out.2.trans ((bw.mono s0).trans ((H5.out.2.mono (by have := bw.size; have := HSz.out; omega)).trans ((H6.out.2.mono (by have := bw.size; have := HSz.out; have := H5.out.2.size; omega)).trans ((HB7.out.mono (by have := bw.size; have := HSz.out; have := H5.out.2.size; have := H6.out.2.size; omega)).trans (HB8.out.mono (by have := bw.size; have := HSz.out; have := H5.out.2.size; have := H6.out.2.size; have := HB7.out.size; omega))))))⟩
end

/- Package mesh, plain: what is told depends on the triangles alone; how many are told. -/
section
open Go.Sort
theorem srt_tri_perm {l m : List (Nat × Nat × Nat)} (h : l.Perm m) : srt_tri l = srt_tri m := by
 have tr : ∀ a b c : Nat × Nat × Nat, (!(ltOf cf_tri b a)) = true → (!(ltOf cf_tri c b)) = true → (!(ltOf cf_tri c a)) = true := fun a b c h1 h2 => by
   rw [Bool.not_eq_true', ← Bool.not_eq_true, lt_tri] at *; omega
 have tt : ∀ a b : Nat × Nat × Nat, ((!(ltOf cf_tri b a)) || (!(ltOf cf_tri a b))) = true := fun a b => by
   rw [Bool.or_eq_true, Bool.not_eq_true', Bool.not_eq_true', ← Bool.not_eq_true, ← Bool.not_eq_true, lt_tri, lt_tri]; omega
 refine List.Perm.eq_of_pairwise (le := fun x y => (!(ltOf cf_tri y x)) = true) (fun a b _ _ h1 h2 => ?_) (List.pairwise_mergeSort tr tt l) (List.pairwise_mergeSort tr tt m) ((List.mergeSort_perm _ _).trans (h.trans (List.mergeSort_perm _ _).symm))
 exact tot_tri a b (by simpa using h2) (by simpa using h1)
theorem srt_pair_perm {l m : List (Nat × Nat)} (h : l.Perm m) : srt_pair l = srt_pair m := by
 have tr : ∀ a b c : Nat × Nat, (!(ltOf cf_pair b a)) = true → (!(ltOf cf_pair c b)) = true → (!(ltOf cf_pair c a)) = true := fun a b c h1 h2 => by
   rw [Bool.not_eq_true', ← Bool.not_eq_true, lt_pair] at *; omega
 have tt : ∀ a b : Nat × Nat, ((!(ltOf cf_pair b a)) || (!(ltOf cf_pair a b))) = true := fun a b => by
   rw [Bool.or_eq_true, Bool.not_eq_true', Bool.not_eq_true', ← Bool.not_eq_true, ← Bool.not_eq_true, lt_pair, lt_pair]; omega
 refine List.Perm.eq_of_pairwise (le := fun x y => (!(ltOf cf_pair y x)) = true) (fun a b _ _ h1 h2 => ?_) (List.pairwise_mergeSort tr tt l) (List.pairwise_mergeSort tr tt m) ((List.mergeSort_perm _ _).trans (h.trans (List.mergeSort_perm _ _).symm))
 exact tot_pair a b (by simpa using h2) (by simpa using h1)
theorem fan_nodup {A : List (List Wg)} (hu : Uq A) (a : Nat) : (A.getD a []).Nodup := by
 cases h : A[a]? with
 | none => rw [List.getD_eq_getElem?_getD, h]; exact List.nodup_nil
 | some fan =>
   rw [List.getD_eq_getElem?_getD, h]
   exact List.Pairwise.of_map _ (fun x y hxy e => hxy (by rw [e])) (hu a fan h)
theorem fan_mem {A : List (List Wg)} {a : Nat} {w : Wg} : w ∈ A.getD a [] ↔ Hw A a w.1 w.2 := by
 unfold Hw
 cases h : A[a]? with
 | none =>
   rw [List.getD_eq_getElem?_getD, h]
   exact ⟨fun e => (by cases e), fun ⟨_, e, _⟩ => (by cases e)⟩
 | some fan =>
   rw [List.getD_eq_getElem?_getD, h]
   exact ⟨fun e => ⟨fan, rfl, e⟩, fun ⟨f, e, hm⟩ => (by cases e; exact hm)⟩
theorem fan_perm {A A' : List (List Wg)} (hu : Uq A) (hu' : Uq A') (h : ∀ x y z, Hw A x y z ↔ Hw A' x y z) (a : Nat) : (A.getD a []).Perm (A'.getD a []) :=
 (List.perm_ext_iff_of_nodup (fan_nodup hu a) (fan_nodup hu' a)).2 fun w => by rw [fan_mem, fan_mem, h]
theorem told_same {α : Type} (f g : Nat → Wg → List α) (s : List α → List α) (hs : ∀ l m : List α, l.Perm m → s l = s m) {A A' : List (List Wg)} (hu : Uq A) (hu' : Uq A') (h : ∀ x y z, Hw A x y z ↔ Hw A' x y z) (hf : ∀ a w, f a w = g a w) (j : Nat) : toldK f s A j = toldK g s A' j := by
 unfold toldK
 have e : f = g := funext fun a => funext fun w => hf a w
 subst e
 congr 1
 funext a
 exact hs _ _ ((fan_perm hu hu' h a).flatMap_right (f a))
theorem plc_same {A A' : List (List Wg)} (h : ∀ x y z, Hw A x y z ↔ Hw A' x y z) (a b : Int) : plc A a b = none ↔ plc A' a b = none := by
 rw [plc_none, plc_none]
 exact ⟨fun g x y c e1 e2 hc => g x y c e1 e2 ((h _ _ _).2 hc), fun g x y c e1 e2 hc => g x y c e1 e2 ((h _ _ _).1 hc)⟩
theorem tris_same {A A' : List (List Wg)} (hu : Uq A) (hu' : Uq A') (h : ∀ x y z, Hw A x y z ↔ Hw A' x y z) (hl : A.length = A'.length) : trisL A = trisL A' := by
 unfold trisL
 rw [hl]
 exact told_same fTri fTri srt_tri (fun _ _ => srt_tri_perm) hu hu' h (fun _ _ => rfl) _
theorem edges_same {A A' : List (List Wg)} (hu : Uq A) (hu' : Uq A') (h : ∀ x y z, Hw A x y z ↔ Hw A' x y z) (hl : A.length = A'.length) : edgesL A = edgesL A' := by
 unfold edgesL
 rw [hl]
 refine told_same _ _ srt_pair (fun _ _ => srt_pair_perm) hu hu' h (fun a w => ?_) _
 unfold fEdge
 simp only [plc_same h]
def rawT (A : List (List Wg)) : List (Nat × Nat × Nat) := (List.range A.length).flatMap fun a => (A.getD a []).flatMap (fTri a)
theorem raw_len (A : List (List Wg)) : (trisL A).length = (rawT A).length := by
 unfold trisL rawT
 rw [told_len _ _ srt_tri_len, List.length_flatMap]
theorem fTri_mem {a : Nat} {w : Wg} {t : Nat × Nat × Nat} : t ∈ fTri a w ↔ t = (a, w.1, w.2) ∧ a < w.1 ∧ a < w.2 := by
 unfold fTri
 by_cases h : a < w.1 ∧ a < w.2
 · rw [if_pos h, List.mem_singleton]; exact ⟨fun e => ⟨e, h⟩, fun e => e.1⟩
 · rw [if_neg h]; exact ⟨fun e => (by cases e), fun e => absurd e.2 h⟩
theorem raw_mem {A : List (List Wg)} {t : Nat × Nat × Nat} : t ∈ rawT A ↔ Hw A t.1 t.2.1 t.2.2 ∧ t.1 < t.2.1 ∧ t.1 < t.2.2 := by
 unfold rawT
 rw [List.mem_flatMap]
 constructor
 · rintro ⟨a, _, ht⟩
   obtain ⟨w, hw, ht⟩ := List.mem_flatMap.1 ht
   obtain ⟨rfl, h1⟩ := fTri_mem.1 ht
   exact ⟨fan_mem.1 hw, h1⟩
 · rintro ⟨h, h1⟩
   refine ⟨t.1, ?_, List.mem_flatMap.2 ⟨(t.2.1, t.2.2), fan_mem.2 h, fTri_mem.2 ⟨rfl, h1⟩⟩⟩
   obtain ⟨fan, hf, _⟩ := h
   exact List.mem_range.2 (List.getElem?_eq_some_iff.1 hf).1
theorem tris_mem {A : List (List Wg)} {t : Nat × Nat × Nat} : t ∈ trisL A ↔ Hw A t.1 t.2.1 t.2.2 ∧ t.1 < t.2.1 ∧ t.1 < t.2.2 := by
 rw [← raw_mem]
 unfold trisL toldK rawT
 rw [List.mem_flatMap, List.mem_flatMap]
 constructor
 · rintro ⟨a, h1, h2⟩; exact ⟨a, h1, (List.mergeSort_perm _ _).mem_iff.1 h2⟩
 · rintro ⟨a, h1, h2⟩; exact ⟨a, h1, (List.mergeSort_perm _ _).mem_iff.2 h2⟩
theorem raw_nodup {A : List (List Wg)} (hu : Uq A) : (rawT A).Nodup := by
 unfold rawT List.Nodup
 rw [List.pairwise_flatMap]
 refine ⟨fun a _ => ?_, ?_⟩
 · rw [List.pairwise_flatMap]
   refine ⟨fun w _ => by unfold fTri; split <;> simp, ?_⟩
   refine (fan_nodup hu a).imp fun {x y} hxy => ?_
   intro t h1 s h2 e
   subst e
   obtain ⟨rfl, _⟩ := fTri_mem.1 h1
   obtain ⟨e, _⟩ := fTri_mem.1 h2
   injection e with _ e
   injection e with e1 e2
   exact hxy (Prod.ext e1 e2)
 · refine (List.nodup_range (n := A.length)).imp fun {x y} hxy => ?_
   intro t h1 s h2 e
   subst e
   obtain ⟨w, _, h1⟩ := List.mem_flatMap.1 h1
   obtain ⟨u, _, h2⟩ := List.mem_flatMap.1 h2
   obtain ⟨rfl, _⟩ := fTri_mem.1 h1
   obtain ⟨e, _⟩ := fTri_mem.1 h2
   injection e with e _
   exact hxy e
theorem raw_more {A A' : List (List Wg)} (hu : Uq A) (hu' : Uq A') {a b c : Nat} (hne : a ≠ b ∧ b ≠ c ∧ c ≠ a) (h0 : ∀ z, ¬ Hw A a b z) (h1 : ∀ z, ¬ Hw A b c z) (h2 : ∀ z, ¬ Hw A c a z)
   (h : ∀ x y z, Hw A' x y z ↔ Hw A x y z ∨ Rot a b c x y z) : (rawT A').length = (rawT A).length + 1 := by
 obtain ⟨t, ht1, ht2⟩ : ∃ t : Nat × Nat × Nat, Rot a b c t.1 t.2.1 t.2.2 ∧ t.1 < t.2.1 ∧ t.1 < t.2.2 := by
   by_cases q1 : a < b ∧ a < c
   · exact ⟨(a, b, c), Or.inl ⟨rfl, rfl, rfl⟩, q1⟩
   · by_cases q2 : b < c ∧ b < a
     · exact ⟨(b, c, a), Or.inr (Or.inl ⟨rfl, rfl, rfl⟩), q2⟩
     · exact ⟨(c, a, b), Or.inr (Or.inr ⟨rfl, rfl, rfl⟩), by dsimp only; omega⟩
 have hnot : t ∉ rawT A := fun hm => by
   have hw := (raw_mem.1 hm).1
   rcases ht1 with ⟨e1, e2, _⟩ | ⟨e1, e2, _⟩ | ⟨e1, e2, _⟩
   · rw [e1, e2] at hw; exact h0 _ hw
   · rw [e1, e2] at hw; exact h1 _ hw
   · rw [e1, e2] at hw; exact h2 _ hw
 have hp : (rawT A').Perm (t :: rawT A) := (List.perm_ext_iff_of_nodup (raw_nodup hu') (List.nodup_cons.2 ⟨hnot, raw_nodup hu⟩)).2 fun s => by
   rw [raw_mem, List.mem_cons, raw_mem, h]
   constructor
   · rintro ⟨g | g, g1⟩
     · exact Or.inr ⟨g, g1⟩
     · left
       obtain ⟨s1, s2, s3⟩ := s
       obtain ⟨t1, t2, t3⟩ := t
       dsimp only at *
       unfold Rot at g ht1
       have : s1 = t1 ∧ s2 = t2 ∧ s3 = t3 := by omega
       obtain ⟨rfl, rfl, rfl⟩ := this
       rfl
   · rintro (rfl | ⟨g, g1⟩)
     · exact ⟨Or.inr ht1, ht2⟩
     · exact ⟨Or.inl g, g1⟩
 rw [hp.length_eq, List.length_cons]
theorem mkA_hw {A : List (List Wg)} (hu : Uq A) {a b c : Nat} (ha : a < A.length) (hb : b < A.length) (hc : c < A.length) (hne : ¬ (a = b ∧ b = c)) (h0 : plc A (a : Nat) (b : Nat) = none) (h1 : plc A (b : Nat) (c : Nat) = none) (h2 : plc A (c : Nat) (a : Nat) = none) :
   Uq (mkA A a b c) ∧ (mkA A a b c).length = A.length ∧ (∀ x y z, Hw (mkA A a b c) x y z ↔ Hw A x y z ∨ Rot a b c x y z) ∧ cnt (mkA A a b c) = cnt A + 3 := by
 obtain ⟨g0, g1, g2⟩ := lay3_none hu ha hb hc hne h0 h1 h2
 have u1 := uq_lay hu (w := (b, c)) ha g0
 have l1 : (layA A a (b, c)).length = A.length := len_lay
 have u2 := uq_lay u1 (w := (c, a)) (by rw [l1]; exact hb) g1
 have l2 : (layA (layA A a (b, c)) b (c, a)).length = A.length := by rw [len_lay, l1]
 have u3 := uq_lay u2 (w := (a, b)) (by rw [l2]; exact hc) g2
 refine ⟨u3, by unfold mkA; rw [len_lay, l2], fun x y z => ?_, ?_⟩
 · unfold mkA
   rw [Hw_lay (by rw [l2]; exact hc), Hw_lay (by rw [l1]; exact hb), Hw_lay ha]
   unfold Rot
   simp only [Prod.mk.injEq]
   constructor
   · rintro (((g | g) | g) | g)
     · exact Or.inl g
     · exact Or.inr (Or.inl ⟨g.1, g.2.1, g.2.2⟩)
     · exact Or.inr (Or.inr (Or.inl ⟨g.1, g.2.1, g.2.2⟩))
     · exact Or.inr (Or.inr (Or.inr ⟨g.1, g.2.1, g.2.2⟩))
   · rintro (g | g | g | g)
     · exact Or.inl (Or.inl (Or.inl g))
     · exact Or.inl (Or.inl (Or.inr ⟨g.1, g.2.1, g.2.2⟩))
     · exact Or.inl (Or.inr ⟨g.1, g.2.1, g.2.2⟩)
     · exact Or.inr ⟨g.1, g.2.1, g.2.2⟩
 · unfold mkA
   rw [cnt_lay (by rw [l2]; exact hc), cnt_lay (by rw [l1]; exact hb), cnt_lay ha]
structure Std (P : List (Nat × Nat)) (A : List (List Wg)) : Prop where
 uq : Uq A
 len : A.length = P.length
 t3 : Tri3 P A
 cn : cnt A = 3 * (rawT A).length
theorem mk_cases {P : List (Nat × Nat)} {A : List (List Wg)} {a b c : Int} (h : mkE P A a b c = 0) (hl : A.length = P.length) : ∃ a' b' c' : Nat, a = (a' : Int) ∧ b = (b' : Int) ∧ c = (c' : Int) ∧ a' < A.length ∧ b' < A.length ∧ c' < A.length ∧ 0 < sgP P a' b' c' ∧ plc A (a' : Nat) (b' : Nat) = none ∧ plc A (b' : Nat) (c' : Nat) = none ∧ plc A (c' : Nat) (a' : Nat) = none := by
 unfold mkE at h
 by_cases h1 : [a, b, c].all (hasB P.length) = true
 · rw [if_pos h1] at h
   have hall := List.all_eq_true.1 h1
   have la := of_decide_eq_true (hall a (by simp))
   have lb := of_decide_eq_true (hall b (by simp))
   have lc := of_decide_eq_true (hall c (by simp))
   by_cases h2 : sgP P a.toNat b.toNat c.toNat ≤ 0
   · rw [if_pos h2] at h; omega
   · rw [if_neg h2] at h
     by_cases h3 : ((plc A a b).isSome || (plc A b c).isSome || (plc A c a).isSome) = true
     · rw [if_pos h3] at h; omega
     · simp only [Bool.or_eq_true, not_or, Bool.not_eq_true, Option.isSome_eq_false_iff, Option.isNone_iff_eq_none] at h3
       refine ⟨a.toNat, b.toNat, c.toNat, by omega, by omega, by omega, by omega, by omega, by omega, by omega, ?_, ?_, ?_⟩
       · rw [Int.toNat_of_nonneg la.1, Int.toNat_of_nonneg lb.1]; exact h3.1.1
       · rw [Int.toNat_of_nonneg lb.1, Int.toNat_of_nonneg lc.1]; exact h3.1.2
       · rw [Int.toNat_of_nonneg lc.1, Int.toNat_of_nonneg la.1]; exact h3.2
 · rw [if_neg h1] at h; omega
theorem Std.make {P : List (Nat × Nat)} {A : List (List Wg)} (h : Std P A) {a b c : Nat} (hE : mkE P A (a : Nat) (b : Nat) (c : Nat) = 0) :
   Std P (mkA A a b c) ∧ (∀ x y z, Hw (mkA A a b c) x y z ↔ Hw A x y z ∨ Rot a b c x y z) ∧ (rawT (mkA A a b c)).length = (rawT A).length + 1 ∧ (∀ x y z, Rot a b c x y z → ¬ Hw A x y z) := by
 obtain ⟨a', b', c', e1, e2, e3, ha, hb, hc, hs, h0, h1, h2⟩ := mk_cases hE h.len
 obtain rfl : a = a' := by omega
 obtain rfl : b = b' := by omega
 obtain rfl : c = c' := by omega
 have hne := sgP_ne hs
 obtain ⟨u, l, hw, cn⟩ := mkA_hw h.uq ha hb hc (fun e => hne.1 e.1) h0 h1 h2
 have q0 : ∀ z, ¬ Hw A a b z := fun z hz => plc_none.1 h0 a b z rfl rfl hz
 have q1 : ∀ z, ¬ Hw A b c z := fun z hz => plc_none.1 h1 b c z rfl rfl hz
 have q2 : ∀ z, ¬ Hw A c a z := fun z hz => plc_none.1 h2 c a z rfl rfl hz
 have hr := raw_more h.uq u hne q0 q1 q2 hw
 refine ⟨⟨u, l.trans h.len, ⟨fun x y z hx => ?_, fun x y z hx => ?_⟩, by rw [cn, hr, h.cn]; omega⟩, hw, hr, ?_⟩
 · rcases (hw x y z).1 hx with g | g
   · exact (hw _ _ _).2 (Or.inl (h.t3.turn x y z g))
   · refine (hw _ _ _).2 (Or.inr ?_)
     unfold Rot at g ⊢; omega
 · rcases (hw x y z).1 hx with g | g
   · exact h.t3.pos x y z g
   · rcases g with ⟨rfl, rfl, rfl⟩ | ⟨rfl, rfl, rfl⟩ | ⟨rfl, rfl, rfl⟩
     · exact hs
     · rw [sgP_turn]; exact hs
     · rw [← sgP_turn]; exact hs
 · rintro x y z (⟨rfl, rfl, _⟩ | ⟨rfl, rfl, _⟩ | ⟨rfl, rfl, _⟩) hx
   · exact q0 _ hx
   · exact q1 _ hx
   · exact q2 _ hx
theorem Std.same {P : List (Nat × Nat)} {A A' : List (List Wg)} (h : Std P A) (hu : Uq A') (hl : A'.length = A.length) (hw : ∀ x y z, Hw A' x y z ↔ Hw A x y z) (hc : cnt A' = cnt A) : Std P A' := by
 refine ⟨hu, hl.trans h.len, ⟨fun x y z hx => (hw _ _ _).2 (h.t3.turn x y z ((hw _ _ _).1 hx)), fun x y z hx => h.t3.pos x y z ((hw _ _ _).1 hx)⟩, ?_⟩
 rw [hc, h.cn, ← raw_len, ← raw_len, tris_same hu h.uq hw hl]
end

/- Package mesh: like lists are told to be the same. (gen_mza.py) -/
section
open Go.RowKit Go.Shelf Go.Lib
attribute [local go_sem ↓] Go.wp_at_zero Go.wp_at_succ
set_option maxRecDepth 100000
theorem neqTri (a b c : Int) (w : World) : (Op.equalIn 10000 30 (.agg #[.int .i64 a, .int .i64 b, .int .i64 c]) (.agg #[.int .i64 a, .int .i64 b, .int .i64 c])).run Tryz.prog w = .ok true w := by
 have hs : (Go.sizeOf 3).run Tryz.prog w = .ok 1 w := by go_simp
 have e1 := eqIn a a w 9998
 have e2 := eqIn b b w 9998
 have e3 := eqIn c c w 9998
 have p1 : ∀ x y z : Int, (part 3 #[.int .i64 x, .int .i64 y, .int .i64 z] 0).run Tryz.prog w = .ok (.int .i64 x) w := fun x y z => by go_simp
 have p2 : ∀ x y z : Int, (part 3 #[.int .i64 x, .int .i64 y, .int .i64 z] 1).run Tryz.prog w = .ok (.int .i64 y) w := fun x y z => by go_simp
 have p3 : ∀ x y z : Int, (part 3 #[.int .i64 x, .int .i64 y, .int .i64 z] 2).run Tryz.prog w = .ok (.int .i64 z) w := fun x y z => by go_simp
 rw [Op.equalIn]
 simp only [Sem.run_bind, run_underlying Tryz.underlying30, Result.andThen_ok]
 rw [hs]
 simp [Std.Legacy.Range.forIn_eq_forIn_range', Std.Legacy.Range.size, List.range', List.forIn_cons, Sem.run_bind, e1, e2, e3, p1, p2, p3]
theorem neqPair (a b : Int) (w : World) : (Op.equalIn 10000 71 (.agg #[.int .i64 a, .int .i64 b]) (.agg #[.int .i64 a, .int .i64 b])).run Tryz.prog w = .ok true w := by
 have h := eqK2 a b a b w
 unfold k2 at h
 rw [h]; simp
set_option maxHeartbeats 2000000 in
theorem sameTris_eq {W : World} {B1 B2 : Nat} {v1 v2 : Value} {xs : List (Nat × Nat × Nat)} (h1 : Rk enc_tri 30 3 W B1 v1 xs) (h2 : Rk enc_tri 30 3 W B2 v2 xs) (hN : xs.length ≤ 4000000000000) :
   Calls Tryz.prog 39 #[v1, v2] W fun e w' => e = .returned (.bool true) ∧ Below W.heap.size W w' := by
 obtain ⟨a1, c1, rfl, k1⟩ := rk_tri h1
 obtain ⟨a2, c2, rfl, k2⟩ := rk_tri h2
 have HK := Lib.hid (And.intro k1 k2)
 obtain ⟨N, hNn⟩ : ∃ N, xs.length = N := ⟨_, rfl⟩
 have HN := Lib.hid hNn
 rw [hNn] at hN ⊢
 clear h1 h2 k1 k2 hNn
 go_enter Tryz.func39, Tryz.ntmps39
 go_wp2
 go_loopw [5] (fun s5 wr => ∃ i : Nat, i ≤ N ∧ s5 = .int .i64 (i : Nat) ∧ Hid (Below W.heap.size W wr)) (fun s5 _ => N - (intOf s5).toNat)
 case atStart => exact ⟨0, Nat.zero_le _, rfl, Lib.hid (Below.refl _ _)⟩
 case round =>
   obtain ⟨i, hi, rfl, hI⟩ := hrel
   by_cases hlt : i < N
   · have hlt' : (i : Int) < (N : Int) := by omega
     have hlt2 : ¬ N ≤ i := by omega
     obtain ⟨⟨x, y, z⟩, hx⟩ : ∃ x, xs[i]? = some x := ⟨_, List.getElem?_eq_getElem (by have := HN.out; omega)⟩
     obtain ⟨g1, rfl, _, hg1, d1⟩ := HK.out.1 i _ hx
     obtain ⟨g2, rfl, _, hg2, d2⟩ := HK.out.2 i _ hx
     dsimp only at d1 d2
     have HNq : Hid (∀ w, (Op.equalIn 10000 30 (.agg #[.int .i64 (x : Nat), .int .i64 (y : Nat), .int .i64 (z : Nat)]) (.agg #[.int .i64 (x : Nat), .int .i64 (y : Nat), .int .i64 (z : Nat)])).run Tryz.prog w = .ok true w) := Lib.hid (fun w => neqTri (x : Nat) (y : Nat) (z : Nat) w)
     have HS0 := Lib.hid (show (wr.drew.cell? ⟨g1, i * 3, none⟩ = some (.int .i64 (x : Nat)) ∧ wr.drew.cell? ⟨g1, i * 3 + 1, none⟩ = some (.int .i64 (y : Nat)) ∧ wr.drew.cell? ⟨g1, i * 3 + 2, none⟩ = some (.int .i64 (z : Nat)) ∧ wr.drew.cell? ⟨g2, i * 3, none⟩ = some (.int .i64 (x : Nat)) ∧ wr.drew.cell? ⟨g2, i * 3 + 1, none⟩ = some (.int .i64 (y : Nat)) ∧ wr.drew.cell? ⟨g2, i * 3 + 2, none⟩ = some (.int .i64 (z : Nat)) ∧ Below W.heap.size W wr.drew) from ⟨(cell_later hI.out.drew d1.1), (cell_later hI.out.drew d1.2.1), (cell_later hI.out.drew d1.2.2), (cell_later hI.out.drew d2.1), (cell_later hI.out.drew d2.2.1), (cell_later hI.out.drew d2.2.2), hI.out.drew⟩)
     clear hx d1 d2 hg1 hg2
     go_wp2_with fail
     refine wp_region_held_drew (S := (fun X => X.cell? ⟨g1, i * 3, none⟩ = some (.int .i64 (x : Nat)) ∧ X.cell? ⟨g1, i * 3 + 1, none⟩ = some (.int .i64 (y : Nat)) ∧ X.cell? ⟨g1, i * 3 + 2, none⟩ = some (.int .i64 (z : Nat)) ∧ X.cell? ⟨g2, i * 3, none⟩ = some (.int .i64 (x : Nat)) ∧ X.cell? ⟨g2, i * 3 + 1, none⟩ = some (.int .i64 (y : Nat)) ∧ X.cell? ⟨g2, i * 3 + 2, none⟩ = some (.int .i64 (z : Nat)) ∧ Below W.heap.size W X)) (by kernel_rfl) HS0.out (fun hS => ?_)
     refine take_at (i := 0) (d := some 17) (v := .slice (some ⟨g1, 0, none⟩) N c1) (by kernel_rfl) (by kernel_rfl) (by kernel_rfl) (by kernel_rfl) (fun _ _ _ h => h) ?_ hS ?_
     · intro o ho
       replace ho := Option.some.inj (Eq.trans (Eq.symm ho) rfl)
       subst ho
       refine Or.inl ⟨by rfl, ?_⟩
       intro w hSw
       obtain ⟨q0, q1, q2, q3, q4, q5, _⟩ := hSw
       have qn := HNq.out w
       go_simp
     simp only [Act.put, List.setIfInBounds_toArray, List.set_cons_zero, List.set_cons_succ]
     refine take_at (i := 1) (d := some 18) (v := .int .i64 (i : Nat)) (by kernel_rfl) (by kernel_rfl) (by kernel_rfl) (by kernel_rfl) (fun _ _ _ h => h) ?_ hS ?_
     · intro o ho
       replace ho := Option.some.inj (Eq.trans (Eq.symm ho) rfl)
       subst ho
       refine Or.inl ⟨by rfl, ?_⟩
       intro w hSw
       obtain ⟨q0, q1, q2, q3, q4, q5, _⟩ := hSw
       have qn := HNq.out w
       go_simp
     simp only [Act.put, List.setIfInBounds_toArray, List.set_cons_zero, List.set_cons_succ]
     refine take_at (i := 2) (d := some 19) (v := .pointer (some ⟨g1, i * 3, none⟩)) (by kernel_rfl) (by kernel_rfl) (by kernel_rfl) (by kernel_rfl) (fun _ _ _ h => h) ?_ hS ?_
     · intro o ho
       replace ho := Option.some.inj (Eq.trans (Eq.symm ho) rfl)
       subst ho
       refine Or.inl ⟨by rfl, ?_⟩
       intro w hSw
       obtain ⟨q0, q1, q2, q3, q4, q5, _⟩ := hSw
       have qn := HNq.out w
       go_simp
     simp only [Act.put, List.setIfInBounds_toArray, List.set_cons_zero, List.set_cons_succ]
     refine take_at (i := 3) (d := some 20) (v := .agg #[.int .i64 (x : Nat), .int .i64 (y : Nat), .int .i64 (z : Nat)]) (by kernel_rfl) (by kernel_rfl) (by kernel_rfl) (by kernel_rfl) (fun _ _ _ h => h) ?_ hS ?_
     · intro o ho
       replace ho := Option.some.inj (Eq.trans (Eq.symm ho) rfl)
       subst ho
       refine Or.inl ⟨by rfl, ?_⟩
       intro w hSw
       obtain ⟨q0, q1, q2, q3, q4, q5, _⟩ := hSw
       have qn := HNq.out w
       go_simp
     simp only [Act.put, List.setIfInBounds_toArray, List.set_cons_zero, List.set_cons_succ]
     refine take_at (i := 4) (d := some 21) (v := .slice (some ⟨g2, 0, none⟩) N c2) (by kernel_rfl) (by kernel_rfl) (by kernel_rfl) (by kernel_rfl) (fun _ _ _ h => h) ?_ hS ?_
     · intro o ho
       replace ho := Option.some.inj (Eq.trans (Eq.symm ho) rfl)
       subst ho
       refine Or.inl ⟨by rfl, ?_⟩
       intro w hSw
       obtain ⟨q0, q1, q2, q3, q4, q5, _⟩ := hSw
       have qn := HNq.out w
       go_simp
     simp only [Act.put, List.setIfInBounds_toArray, List.set_cons_zero, List.set_cons_succ]
     refine take_at (i := 5) (d := some 22) (v := .int .i64 (i : Nat)) (by kernel_rfl) (by kernel_rfl) (by kernel_rfl) (by kernel_rfl) (fun _ _ _ h => h) ?_ hS ?_
     · intro o ho
       replace ho := Option.some.inj (Eq.trans (Eq.symm ho) rfl)
       subst ho
       refine Or.inl ⟨by rfl, ?_⟩
       intro w hSw
       obtain ⟨q0, q1, q2, q3, q4, q5, _⟩ := hSw
       have qn := HNq.out w
       go_simp
     simp only [Act.put, List.setIfInBounds_toArray, List.set_cons_zero, List.set_cons_succ]
     refine take_at (i := 6) (d := some 23) (v := .pointer (some ⟨g2, i * 3, none⟩)) (by kernel_rfl) (by kernel_rfl) (by kernel_rfl) (by kernel_rfl) (fun _ _ _ h => h) ?_ hS ?_
     · intro o ho
       replace ho := Option.some.inj (Eq.trans (Eq.symm ho) rfl)
       subst ho
       refine Or.inl ⟨by rfl, ?_⟩
       intro w hSw
       obtain ⟨q0, q1, q2, q3, q4, q5, _⟩ := hSw
       have qn := HNq.out w
       go_simp
     simp only [Act.put, List.setIfInBounds_toArray, List.set_cons_zero, List.set_cons_succ]
     refine take_at (i := 7) (d := some 24) (v := .agg #[.int .i64 (x : Nat), .int .i64 (y : Nat), .int .i64 (z : Nat)]) (by kernel_rfl) (by kernel_rfl) (by kernel_rfl) (by kernel_rfl) (fun _ _ _ h => h) ?_ hS ?_
     · intro o ho
       replace ho := Option.some.inj (Eq.trans (Eq.symm ho) rfl)
       subst ho
       refine Or.inl ⟨by rfl, ?_⟩
       intro w hSw
       obtain ⟨q0, q1, q2, q3, q4, q5, _⟩ := hSw
       have qn := HNq.out w
       go_simp
     simp only [Act.put, List.setIfInBounds_toArray, List.set_cons_zero, List.set_cons_succ]
     refine take_at (i := 8) (d := some 25) (v := .bool false) (by kernel_rfl) (by kernel_rfl) (by kernel_rfl) (by kernel_rfl) (fun _ _ _ h => h) ?_ hS ?_
     · intro o ho
       replace ho := Option.some.inj (Eq.trans (Eq.symm ho) rfl)
       subst ho
       refine Or.inl ⟨by rfl, ?_⟩
       intro w hSw
       obtain ⟨q0, q1, q2, q3, q4, q5, _⟩ := hSw
       have qn := HNq.out w
       go_simp
     simp only [Act.put, List.setIfInBounds_toArray, List.set_cons_zero, List.set_cons_succ]
     refine wpAnyH_done (by kernel_rfl) ?_ _
     have HB2 := Lib.hid hS
     clear hS
     go_wp2
     refine ⟨⟨i + 1, by omega, by go_num, Lib.hid (HB2.out.2.2.2.2.2.2)⟩, by simp [intOf]; omega⟩
   · obtain rfl : i = N := by omega
     go_wp2
     go_ret
     exact ⟨rfl, hI.out⟩
set_option maxHeartbeats 2000000 in
theorem samePairs_eq {W : World} {B1 B2 : Nat} {v1 v2 : Value} {xs : List (Nat × Nat)} (h1 : Rk enc_pair 71 2 W B1 v1 xs) (h2 : Rk enc_pair 71 2 W B2 v2 xs) (hN : xs.length ≤ 4000000000000) :
   Calls Tryz.prog 40 #[v1, v2] W fun e w' => e = .returned (.bool true) ∧ Below W.heap.size W w' := by
 obtain ⟨a1, c1, rfl, k1⟩ := rk_pair h1
 obtain ⟨a2, c2, rfl, k2⟩ := rk_pair h2
 have HK := Lib.hid (And.intro k1 k2)
 obtain ⟨N, hNn⟩ : ∃ N, xs.length = N := ⟨_, rfl⟩
 have HN := Lib.hid hNn
 rw [hNn] at hN ⊢
 clear h1 h2 k1 k2 hNn
 go_enter Tryz.func40, Tryz.ntmps40
 go_wp2
 go_loopw [5] (fun s5 wr => ∃ i : Nat, i ≤ N ∧ s5 = .int .i64 (i : Nat) ∧ Hid (Below W.heap.size W wr)) (fun s5 _ => N - (intOf s5).toNat)
 case atStart => exact ⟨0, Nat.zero_le _, rfl, Lib.hid (Below.refl _ _)⟩
 case round =>
   obtain ⟨i, hi, rfl, hI⟩ := hrel
   by_cases hlt : i < N
   · have hlt' : (i : Int) < (N : Int) := by omega
     have hlt2 : ¬ N ≤ i := by omega
     obtain ⟨⟨x, y⟩, hx⟩ : ∃ x, xs[i]? = some x := ⟨_, List.getElem?_eq_getElem (by have := HN.out; omega)⟩
     obtain ⟨g1, rfl, _, hg1, d1⟩ := HK.out.1 i _ hx
     obtain ⟨g2, rfl, _, hg2, d2⟩ := HK.out.2 i _ hx
     dsimp only at d1 d2
     have HNq : Hid (∀ w, (Op.equalIn 10000 71 (.agg #[.int .i64 (x : Nat), .int .i64 (y : Nat)]) (.agg #[.int .i64 (x : Nat), .int .i64 (y : Nat)])).run Tryz.prog w = .ok true w) := Lib.hid (fun w => neqPair (x : Nat) (y : Nat) w)
     have HS0 := Lib.hid (show (wr.drew.cell? ⟨g1, i * 2, none⟩ = some (.int .i64 (x : Nat)) ∧ wr.drew.cell? ⟨g1, i * 2 + 1, none⟩ = some (.int .i64 (y : Nat)) ∧ wr.drew.cell? ⟨g2, i * 2, none⟩ = some (.int .i64 (x : Nat)) ∧ wr.drew.cell? ⟨g2, i * 2 + 1, none⟩ = some (.int .i64 (y : Nat)) ∧ Below W.heap.size W wr.drew) from ⟨(cell_later hI.out.drew d1.1), (cell_later hI.out.drew d1.2), (cell_later hI.out.drew d2.1), (cell_later hI.out.drew d2.2), hI.out.drew⟩)
     clear hx d1 d2 hg1 hg2
     go_wp2_with fail
     refine wp_region_held_drew (S := (fun X => X.cell? ⟨g1, i * 2, none⟩ = some (.int .i64 (x : Nat)) ∧ X.cell? ⟨g1, i * 2 + 1, none⟩ = some (.int .i64 (y : Nat)) ∧ X.cell? ⟨g2, i * 2, none⟩ = some (.int .i64 (x : Nat)) ∧ X.cell? ⟨g2, i * 2 + 1, none⟩ = some (.int .i64 (y : Nat)) ∧ Below W.heap.size W X)) (by kernel_rfl) HS0.out (fun hS => ?_)
     refine take_at (i := 0) (d := some 17) (v := .slice (some ⟨g1, 0, none⟩) N c1) (by kernel_rfl) (by kernel_rfl) (by kernel_rfl) (by kernel_rfl) (fun _ _ _ h => h) ?_ hS ?_
     · intro o ho
       replace ho := Option.some.inj (Eq.trans (Eq.symm ho) rfl)
       subst ho
       refine Or.inl ⟨by rfl, ?_⟩
       intro w hSw
       obtain ⟨q0, q1, q2, q3, _⟩ := hSw
       have qn := HNq.out w
       go_simp
     simp only [Act.put, List.setIfInBounds_toArray, List.set_cons_zero, List.set_cons_succ]
     refine take_at (i := 1) (d := some 18) (v := .int .i64 (i : Nat)) (by kernel_rfl) (by kernel_rfl) (by kernel_rfl) (by kernel_rfl) (fun _ _ _ h => h) ?_ hS ?_
     · intro o ho
       replace ho := Option.some.inj (Eq.trans (Eq.symm ho) rfl)
       subst ho
       refine Or.inl ⟨by rfl, ?_⟩
       intro w hSw
       obtain ⟨q0, q1, q2, q3, _⟩ := hSw
       have qn := HNq.out w
       go_simp
     simp only [Act.put, List.setIfInBounds_toArray, List.set_cons_zero, List.set_cons_succ]
     refine take_at (i := 2) (d := some 19) (v := .pointer (some ⟨g1, i * 2, none⟩)) (by kernel_rfl) (by kernel_rfl) (by kernel_rfl) (by kernel_rfl) (fun _ _ _ h => h) ?_ hS ?_
     · intro o ho
       replace ho := Option.some.inj (Eq.trans (Eq.symm ho) rfl)
       subst ho
       refine Or.inl ⟨by rfl, ?_⟩
       intro w hSw
       obtain ⟨q0, q1, q2, q3, _⟩ := hSw
       have qn := HNq.out w
       go_simp
     simp only [Act.put, List.setIfInBounds_toArray, List.set_cons_zero, List.set_cons_succ]
     refine take_at (i := 3) (d := some 20) (v := .agg #[.int .i64 (x : Nat), .int .i64 (y : Nat)]) (by kernel_rfl) (by kernel_rfl) (by kernel_rfl) (by kernel_rfl) (fun _ _ _ h => h) ?_ hS ?_
     · intro o ho
       replace ho := Option.some.inj (Eq.trans (Eq.symm ho) rfl)
       subst ho
       refine Or.inl ⟨by rfl, ?_⟩
       intro w hSw
       obtain ⟨q0, q1, q2, q3, _⟩ := hSw
       have qn := HNq.out w
       go_simp
     simp only [Act.put, List.setIfInBounds_toArray, List.set_cons_zero, List.set_cons_succ]
     refine take_at (i := 4) (d := some 21) (v := .slice (some ⟨g2, 0, none⟩) N c2) (by kernel_rfl) (by kernel_rfl) (by kernel_rfl) (by kernel_rfl) (fun _ _ _ h => h) ?_ hS ?_
     · intro o ho
       replace ho := Option.some.inj (Eq.trans (Eq.symm ho) rfl)
       subst ho
       refine Or.inl ⟨by rfl, ?_⟩
       intro w hSw
       obtain ⟨q0, q1, q2, q3, _⟩ := hSw
       have qn := HNq.out w
       go_simp
     simp only [Act.put, List.setIfInBounds_toArray, List.set_cons_zero, List.set_cons_succ]
     refine take_at (i := 5) (d := some 22) (v := .int .i64 (i : Nat)) (by kernel_rfl) (by kernel_rfl) (by kernel_rfl) (by kernel_rfl) (fun _ _ _ h => h) ?_ hS ?_
     · intro o ho
       replace ho := Option.some.inj (Eq.trans (Eq.symm ho) rfl)
       subst ho
       refine Or.inl ⟨by rfl, ?_⟩
       intro w hSw
       obtain ⟨q0, q1, q2, q3, _⟩ := hSw
       have qn := HNq.out w
       go_simp
     simp only [Act.put, List.setIfInBounds_toArray, List.set_cons_zero, List.set_cons_succ]
     refine take_at (i := 6) (d := some 23) (v := .pointer (some ⟨g2, i * 2, none⟩)) (by kernel_rfl) (by kernel_rfl) (by kernel_rfl) (by kernel_rfl) (fun _ _ _ h => h) ?_ hS ?_
     · intro o ho
       replace ho := Option.some.inj (Eq.trans (Eq.symm ho) rfl)
       subst ho
       refine Or.inl ⟨by rfl, ?_⟩
       intro w hSw
       obtain ⟨q0, q1, q2, q3, _⟩ := hSw
       have qn := HNq.out w
       go_simp
     simp only [Act.put, List.setIfInBounds_toArray, List.set_cons_zero, List.set_cons_succ]
     refine take_at (i := 7) (d := some 24) (v := .agg #[.int .i64 (x : Nat), .int .i64 (y : Nat)]) (by kernel_rfl) (by kernel_rfl) (by kernel_rfl) (by kernel_rfl) (fun _ _ _ h => h) ?_ hS ?_
     · intro o ho
       replace ho := Option.some.inj (Eq.trans (Eq.symm ho) rfl)
       subst ho
       refine Or.inl ⟨by rfl, ?_⟩
       intro w hSw
       obtain ⟨q0, q1, q2, q3, _⟩ := hSw
       have qn := HNq.out w
       go_simp
     simp only [Act.put, List.setIfInBounds_toArray, List.set_cons_zero, List.set_cons_succ]
     refine take_at (i := 8) (d := some 25) (v := .bool false) (by kernel_rfl) (by kernel_rfl) (by kernel_rfl) (by kernel_rfl) (fun _ _ _ h => h) ?_ hS ?_
     · intro o ho
       replace ho := Option.some.inj (Eq.trans (Eq.symm ho) rfl)
       subst ho
       refine Or.inl ⟨by rfl, ?_⟩
       intro w hSw
       obtain ⟨q0, q1, q2, q3, _⟩ := hSw
       have qn := HNq.out w
       go_simp
     simp only [Act.put, List.setIfInBounds_toArray, List.set_cons_zero, List.set_cons_succ]
     refine wpAnyH_done (by kernel_rfl) ?_ _
     have HB2 := Lib.hid hS
     clear hS
     go_wp2
     refine ⟨⟨i + 1, by omega, by go_num, Lib.hid (HB2.out.2.2.2.2)⟩, by simp [intOf]; omega⟩
   · obtain rfl : i = N := by omega
     go_wp2
     go_ret
     exact ⟨rfl, hI.out⟩
end

/- Package mesh: the laws' made: a mesh of as many of the triangles as can be made. (gen_mzb.py) -/
section
open Go.RowKit Go.Shelf Go.Lib
attribute [local go_sem ↓] Go.wp_at_zero Go.wp_at_succ
set_option maxRecDepth 100000
def TsP (W : World) (s : Value) (m : Nat) (t : Nat → Int × Int × Int) : Prop := ∃ a c, s = .slice a m c ∧ (m = 0 ∨ ∃ g off, a = some ⟨g, off, none⟩ ∧ g < W.heap.size ∧ ∀ k, k < m → W.cell? ⟨g, off + k * 3, none⟩ = some (.int .i64 (t k).1) ∧ W.cell? ⟨g, off + k * 3 + 1, none⟩ = some (.int .i64 (t k).2.1) ∧ W.cell? ⟨g, off + k * 3 + 2, none⟩ = some (.int .i64 (t k).2.2))
theorem pz_word {x : Nat} (h : x < 18446744073709551616) : pz x < 18446744073709551616 := by
 unfold pz; split
 · omega
 · exact h
theorem ptsF_word {f : Nat → Nat × Nat} {n : Nat} (h : ∀ k, WdP (f k)) (i : Nat) (p : Nat × Nat) (hp : (ptsF (fun k => plp (f k)) n)[i]? = some p) : WdP p := by
 have hi := (List.getElem?_eq_some_iff.1 hp).1
 rw [ptsF_len] at hi
 rw [ptsF_at _ hi] at hp
 cases hp
 exact ⟨pz_word (h i).1, pz_word (h i).2⟩
theorem std_new (P : List (Nat × Nat)) (n : Nat) (hn : P.length = n) : Std P (List.replicate n []) := by
 refine ⟨fun a fan h => ?_, by rw [List.length_replicate, hn], ⟨fun a b c h => absurd h hw_rep, fun a b c h => absurd h hw_rep⟩, ?_⟩
 · rw [List.getElem?_replicate] at h
   split at h
   · cases h; exact List.nodup_nil
   · cases h
 · have : rawT (List.replicate n []) = [] := by
     apply List.eq_nil_iff_forall_not_mem.2
     intro t ht
     exact hw_rep (raw_mem.1 ht).1
   rw [this, cnt_rep]; rfl
theorem Std.mkS {P : List (Nat × Nat)} {A : List (List Wg)} (h : Std P A) (a b c : Int) : Std P (mkS P A a b c) := by
 by_cases hE : mkE P A a b c = 0
 · obtain ⟨a', b', c', rfl, rfl, rfl, _⟩ := mk_cases hE h.len
   rw [mkS_yes hE]
   exact (h.make hE).1
 · rw [mkS_no hE]; exact h
def Mdl (B : Nat) (W : World) (mB : Nat) (x : Gx) (P : List (Nat × Nat)) : Prop := ∃ S A vs, (∀ k, S k → B ≤ k ∧ k < W.heap.size) ∧ Msh S W mB x P A (fun _ _ => none) vs ∧ Std P A
set_option maxHeartbeats 4000000 in
theorem made_any (s s2 : Value) (n m : Nat) (f : Nat → Nat × Nat) (t : Nat → Int × Int × Int) (W : World) (hP : Ps W s n f) (hT : TsP W s2 m t) (hm1 : m ≤ 1000) :
   Calls Tryz.prog 38 #[s, s2] W fun e w' => (e = .returned (.pointer none) ∨ ∃ mB x, e = .returned (.pointer (some ⟨mB, 0, none⟩)) ∧ W.heap.size ≤ mB ∧ mB < w'.heap.size ∧ Mdl W.heap.size w' mB x (ptsF (fun k => plp (f k)) n)) ∧ Below W.heap.size W w' := by
 obtain ⟨a2, c2, rfl, hT2⟩ := hT
 have HP := Lib.hid hP
 have HT := Lib.hid hT2
 obtain ⟨B, hB⟩ : ∃ B, W.heap.size = B := ⟨_, rfl⟩
 have HBe := Lib.hid hB
 rw [hB]
 clear hP hT2
 go_enter Tryz.func38, Tryz.ntmps38
 go_wp2_with fail
 refine (new_any s n f W HP.out).mono ?_
 rintro e w1 ⟨hn, hb⟩
 rw [hB] at hb
 have HB1 := Lib.hid hb
 rcases hn with ⟨z, r, hr, ha, rfl⟩ | ⟨mB, x, _, rfl, hm, hm2, hn20, hM⟩
 · have hr' : (r == 0) = false := by rw [beq_eq_false_iff_ne]; exact hr
   clear hb ha hB
   go_wp2
   go_ret
   exact ⟨Or.inl rfl, HB1.out⟩
 · rw [hB] at hm hM
   have HM := Lib.hid (show Mdl B w1 mB x (ptsF (fun k => plp (f k)) n) ∧ B ≤ mB ∧ mB < w1.heap.size from ⟨⟨_, _, _, fun k hk => ⟨hk.1, by omega⟩, hM, std_new _ n (ptsF_len _ _)⟩, hm, hm2⟩)
   have HW := Lib.hid (fun i p hp => ptsF_word (f := f) (n := n) HP.out.word i p hp)
   clear hb hm hm2 hM hB
   go_wp2_with fail
   go_loopw [7] (fun s7 wr => ∃ j : Nat, j ≤ m ∧ s7 = .int .i64 (j : Nat) ∧ Hid (Mdl B wr mB x (ptsF (fun k => plp (f k)) n) ∧ Below B W wr ∧ mB < wr.heap.size)) (fun s7 _ => m - (intOf s7).toNat)
   case atStart => exact ⟨0, Nat.zero_le _, rfl, Lib.hid ⟨HM.out.1, HB1.out, HM.out.2.2⟩⟩
   case round =>
     obtain ⟨j, hj, rfl, hI⟩ := hrel
     by_cases hlt : j < m
     · have hlt' : (j : Int) < (m : Int) := by omega
       have hlt2 : ¬ m ≤ j := by omega
       obtain ⟨g, off, rfl, hg, hc⟩ := HT.out.resolve_left (by omega)
       have HC : Hid (∀ w, Below B W w → w.cell? ⟨g, off + j * 3, none⟩ = some (.int .i64 (t j).1) ∧ w.cell? ⟨g, off + j * 3 + 1, none⟩ = some (.int .i64 (t j).2.1) ∧ w.cell? ⟨g, off + j * 3 + 2, none⟩ = some (.int .i64 (t j).2.2)) := Lib.hid (fun w hw => ⟨cell_later (HBe.out ▸ hw) (hc j hlt).1, cell_later (HBe.out ▸ hw) (hc j hlt).2.1, cell_later (HBe.out ▸ hw) (hc j hlt).2.2⟩)
       obtain ⟨⟨ta, tb, tc⟩, ht⟩ : ∃ q, t j = q := ⟨_, rfl⟩
       rw [ht] at HC
       dsimp only at HC
       have HS0 := Lib.hid (HC.out wr.drew hI.out.2.1.drew)
       obtain ⟨S, A, vs, hSb, hM, hSt⟩ := hI.out.1
       have HMs := Lib.hid (And.intro hSb (And.intro hM hSt))
       clear hc ht hSb hM hSt
       as_aux_lemma =>
        go_wp2_with fail
        refine wp_region_held_drew (S := (fun X => X.cell? ⟨g, off + j * 3, none⟩ = some (.int .i64 ta) ∧ X.cell? ⟨g, off + j * 3 + 1, none⟩ = some (.int .i64 tb) ∧ X.cell? ⟨g, off + j * 3 + 2, none⟩ = some (.int .i64 tc))) (by kernel_rfl) HS0.out (fun hS => ?_)
        refine take_at (i := 0) (d := some 21) (v := .pointer (some ⟨mB, 0, none⟩)) (by kernel_rfl) (by kernel_rfl) (by kernel_rfl) (by kernel_rfl) (fun _ _ _ h => h) ?_ hS ?_
        · intro o ho
          replace ho := Option.some.inj (Eq.trans (Eq.symm ho) rfl)
          subst ho
          refine Or.inl ⟨by rfl, ?_⟩
          intro w hSw
          obtain ⟨q0, q1, q2⟩ := hSw
          go_simp
        simp only [AP]
        refine take_at (i := 1) (d := some 22) (v := .slice (some ⟨g, off, none⟩) m c2) (by kernel_rfl) (by kernel_rfl) (by kernel_rfl) (by kernel_rfl) (fun _ _ _ h => h) ?_ hS ?_
        · intro o ho
          replace ho := Option.some.inj (Eq.trans (Eq.symm ho) rfl)
          subst ho
          refine Or.inl ⟨by rfl, ?_⟩
          intro w hSw
          obtain ⟨q0, q1, q2⟩ := hSw
          go_simp
        simp only [AP]
        refine take_at (i := 2) (d := some 23) (v := .int .i64 (j : Nat)) (by kernel_rfl) (by kernel_rfl) (by kernel_rfl) (by kernel_rfl) (fun _ _ _ h => h) ?_ hS ?_
        · intro o ho
          replace ho := Option.some.inj (Eq.trans (Eq.symm ho) rfl)
          subst ho
          refine Or.inl ⟨by rfl, ?_⟩
          intro w hSw
          obtain ⟨q0, q1, q2⟩ := hSw
          go_simp
        simp only [AP]
        refine take_at (i := 3) (d := some 24) (v := .pointer (some ⟨g, off + j * 3, none⟩)) (by kernel_rfl) (by kernel_rfl) (by kernel_rfl) (by kernel_rfl) (fun _ _ _ h => h) ?_ hS ?_
        · intro o ho
          replace ho := Option.some.inj (Eq.trans (Eq.symm ho) rfl)
          subst ho
          refine Or.inl ⟨by rfl, ?_⟩
          intro w hSw
          obtain ⟨q0, q1, q2⟩ := hSw
          go_simp
        simp only [AP]
        refine take_at (i := 4) (d := some 25) (v := .pointer (some ⟨g, off + j * 3, none⟩)) (by kernel_rfl) (by kernel_rfl) (by kernel_rfl) (by kernel_rfl) (fun _ _ _ h => h) ?_ hS ?_
        · intro o ho
          replace ho := Option.some.inj (Eq.trans (Eq.symm ho) rfl)
          subst ho
          refine Or.inl ⟨by rfl, ?_⟩
          intro w hSw
          obtain ⟨q0, q1, q2⟩ := hSw
          go_simp
        simp only [AP]
        refine take_at (i := 5) (d := some 26) (v := .int .i64 ta) (by kernel_rfl) (by kernel_rfl) (by kernel_rfl) (by kernel_rfl) (fun _ _ _ h => h) ?_ hS ?_
        · intro o ho
          replace ho := Option.some.inj (Eq.trans (Eq.symm ho) rfl)
          subst ho
          refine Or.inl ⟨by rfl, ?_⟩
          intro w hSw
          obtain ⟨q0, q1, q2⟩ := hSw
          go_simp
        simp only [AP]
        refine take_at (i := 6) (d := some 27) (v := .slice (some ⟨g, off, none⟩) m c2) (by kernel_rfl) (by kernel_rfl) (by kernel_rfl) (by kernel_rfl) (fun _ _ _ h => h) ?_ hS ?_
        · intro o ho
          replace ho := Option.some.inj (Eq.trans (Eq.symm ho) rfl)
          subst ho
          refine Or.inl ⟨by rfl, ?_⟩
          intro w hSw
          obtain ⟨q0, q1, q2⟩ := hSw
          go_simp
        simp only [AP]
        refine take_at (i := 7) (d := some 28) (v := .int .i64 (j : Nat)) (by kernel_rfl) (by kernel_rfl) (by kernel_rfl) (by kernel_rfl) (fun _ _ _ h => h) ?_ hS ?_
        · intro o ho
          replace ho := Option.some.inj (Eq.trans (Eq.symm ho) rfl)
          subst ho
          refine Or.inl ⟨by rfl, ?_⟩
          intro w hSw
          obtain ⟨q0, q1, q2⟩ := hSw
          go_simp
        simp only [AP]
        refine take_at (i := 8) (d := some 29) (v := .pointer (some ⟨g, off + j * 3, none⟩)) (by kernel_rfl) (by kernel_rfl) (by kernel_rfl) (by kernel_rfl) (fun _ _ _ h => h) ?_ hS ?_
        · intro o ho
          replace ho := Option.some.inj (Eq.trans (Eq.symm ho) rfl)
          subst ho
          refine Or.inl ⟨by rfl, ?_⟩
          intro w hSw
          obtain ⟨q0, q1, q2⟩ := hSw
          go_simp
        simp only [AP]
        refine take_at (i := 9) (d := some 30) (v := .pointer (some ⟨g, off + j * 3 + 1, none⟩)) (by kernel_rfl) (by kernel_rfl) (by kernel_rfl) (by kernel_rfl) (fun _ _ _ h => h) ?_ hS ?_
        · intro o ho
          replace ho := Option.some.inj (Eq.trans (Eq.symm ho) rfl)
          subst ho
          refine Or.inl ⟨by rfl, ?_⟩
          intro w hSw
          obtain ⟨q0, q1, q2⟩ := hSw
          go_simp
        simp only [AP]
        refine take_at (i := 10) (d := some 31) (v := .int .i64 tb) (by kernel_rfl) (by kernel_rfl) (by kernel_rfl) (by kernel_rfl) (fun _ _ _ h => h) ?_ hS ?_
        · intro o ho
          replace ho := Option.some.inj (Eq.trans (Eq.symm ho) rfl)
          subst ho
          refine Or.inl ⟨by rfl, ?_⟩
          intro w hSw
          obtain ⟨q0, q1, q2⟩ := hSw
          go_simp
        simp only [AP]
        refine take_at (i := 11) (d := some 32) (v := .slice (some ⟨g, off, none⟩) m c2) (by kernel_rfl) (by kernel_rfl) (by kernel_rfl) (by kernel_rfl) (fun _ _ _ h => h) ?_ hS ?_
        · intro o ho
          replace ho := Option.some.inj (Eq.trans (Eq.symm ho) rfl)
          subst ho
          refine Or.inl ⟨by rfl, ?_⟩
          intro w hSw
          obtain ⟨q0, q1, q2⟩ := hSw
          go_simp
        simp only [AP]
        refine take_at (i := 12) (d := some 33) (v := .int .i64 (j : Nat)) (by kernel_rfl) (by kernel_rfl) (by kernel_rfl) (by kernel_rfl) (fun _ _ _ h => h) ?_ hS ?_
        · intro o ho
          replace ho := Option.some.inj (Eq.trans (Eq.symm ho) rfl)
          subst ho
          refine Or.inl ⟨by rfl, ?_⟩
          intro w hSw
          obtain ⟨q0, q1, q2⟩ := hSw
          go_simp
        simp only [AP]
        refine take_at (i := 13) (d := some 34) (v := .pointer (some ⟨g, off + j * 3, none⟩)) (by kernel_rfl) (by kernel_rfl) (by kernel_rfl) (by kernel_rfl) (fun _ _ _ h => h) ?_ hS ?_
        · intro o ho
          replace ho := Option.some.inj (Eq.trans (Eq.symm ho) rfl)
          subst ho
          refine Or.inl ⟨by rfl, ?_⟩
          intro w hSw
          obtain ⟨q0, q1, q2⟩ := hSw
          go_simp
        simp only [AP]
        refine take_at (i := 14) (d := some 35) (v := .pointer (some ⟨g, off + j * 3 + 2, none⟩)) (by kernel_rfl) (by kernel_rfl) (by kernel_rfl) (by kernel_rfl) (fun _ _ _ h => h) ?_ hS ?_
        · intro o ho
          replace ho := Option.some.inj (Eq.trans (Eq.symm ho) rfl)
          subst ho
          refine Or.inl ⟨by rfl, ?_⟩
          intro w hSw
          obtain ⟨q0, q1, q2⟩ := hSw
          go_simp
        simp only [AP]
        refine take_at (i := 15) (d := some 36) (v := .int .i64 tc) (by kernel_rfl) (by kernel_rfl) (by kernel_rfl) (by kernel_rfl) (fun _ _ _ h => h) ?_ hS ?_
        · intro o ho
          replace ho := Option.some.inj (Eq.trans (Eq.symm ho) rfl)
          subst ho
          refine Or.inl ⟨by rfl, ?_⟩
          intro w hSw
          obtain ⟨q0, q1, q2⟩ := hSw
          go_simp
        simp only [AP]
        refine calA 16 fun KF hK => ?_
        rw [if_pos (by rfl)]
        go_simp
        have HMd := Lib.hid (HMs.out.2.1.later (Below.drew (Below.refl _ wr)))
        refine (make_any HMd.out.1 HW.out ta tb tc).mono ?_
        rintro e w3 ⟨rfl, v3, hM3, hf3⟩
        have hb3 : Below B wr.drew w3 := hf3.below (by have := hI.out.2.1.size; have := HBe.out; show B ≤ wr.heap.size; omega) (fun k hk => by rcases hk with hk | hk; exact (HMs.out.1 k hk).1; have := hI.out.2.1.size; have := HBe.out; have e : wr.drew.heap.size = wr.heap.size := rfl; omega)
        have HR : Hid (Mdl B w3 mB x (ptsF (fun k => plp (f k)) n) ∧ Below B W w3 ∧ mB < w3.heap.size) := by
            refine Lib.hid ⟨⟨_, _, _, fun k hk => ?_, hM3, HMs.out.2.2.mkS _ _ _⟩, hI.out.2.1.drew.trans hb3, Nat.lt_of_lt_of_le hI.out.2.2 hb3.size⟩
            have z1 : wr.drew.heap.size = wr.heap.size := rfl
            have z2 := hb3.size
            have z3 := hI.out.2.1.size
            have z4 := HBe.out
            rcases hk with (hk | hk) | hk
            · have := HMs.out.1 k hk; omega
            · omega
            · omega
        clear hM3 hf3 hb3
        refine hK.out _ _ (HC.out w3 HR.out.2.1) ?_
        clear hS
        intro hS
        clear hK KF
        try simp only [AP]
        refine wpAnyH_done (by kernel_rfl) ?_ _
        clear hS
        go_wp2
        exact ⟨⟨j + 1, by omega, by go_num, HR⟩, by simp [intOf]; omega⟩
     · obtain rfl : j = m := by omega
       as_aux_lemma =>
        go_wp2
        go_ret
        exact ⟨Or.inr ⟨mB, x, rfl, HM.out.2.1, hI.out.2.2, hI.out.1⟩, hI.out.2.1⟩
end

/- Package mesh, plain: a triangle made and killed; killed and made again. -/
section
open Go.RowKit Go.Shelf Go.Lib
theorem hw_lt {A : List (List Wg)} {a b c : Nat} (h : Hw A a b c) : a < A.length := by
 obtain ⟨fan, hf, _⟩ := h
 exact (List.getElem?_eq_some_iff.1 hf).1
theorem kiE_yes {A : List (List Wg)} (hu : Uq A) {a b c : Nat} (h : Hw A a b c) : kiE A (a : Nat) (b : Nat) (c : Nat) = 0 := by
 have e : apx A (a : Nat) (b : Nat) = some c := (apx_some hu).2 ⟨a, b, rfl, rfl, h⟩
 unfold kiE
 rw [e]; exact if_pos rfl
theorem undo {P : List (Nat × Nat)} {A A2 : List (List Wg)} (h : Std P A) {a b c : Nat} (hE : mkE P A (a : Nat) (b : Nat) (c : Nat) = 0) (hu2 : Uq A2) (hl2 : A2.length = P.length)
   (h2 : ∀ x y z, Hw A2 x y z ↔ Hw (mkA A a b c) x y z ∧ ¬ Rot c a b x y z) (hc : cnt A2 + 3 = cnt (mkA A a b c)) : Std P A2 ∧ ∀ x y z, Hw A2 x y z ↔ Hw A x y z := by
 obtain ⟨s, hw, hr, hd⟩ := h.make hE
 have e : ∀ x y z, Hw A2 x y z ↔ Hw A x y z := fun x y z => by
   rw [h2, hw]
   constructor
   · rintro ⟨g | g, g2⟩
     · exact g
     · exact absurd (show Rot c a b x y z by unfold Rot at g ⊢; omega) g2
   · intro g
     exact ⟨Or.inl g, fun r => hd x y z (by unfold Rot at r ⊢; omega) g⟩
 refine ⟨h.same hu2 (hl2.trans h.len.symm) e ?_, e⟩
 have := s.cn
 rw [h.cn]; omega
theorem redo {P : List (Nat × Nat)} {A A2 : List (List Wg)} (h : Std P A) (hn : ∀ a b c, Hw A a b c → b < A.length ∧ c < A.length) (hu2 : Uq A2) (hl2 : A2.length = P.length) {x y z : Nat} (hw : Hw A x y z)
   (h2 : ∀ a b c, Hw A2 a b c ↔ Hw A a b c ∧ ¬ Rot y z x a b c) (hc : cnt A2 + 3 = cnt A) :
   mkE P A2 (x : Nat) (y : Nat) (z : Nat) = 0 ∧ Std P (mkA A2 x y z) ∧ ∀ a b c, Hw (mkA A2 x y z) a b c ↔ Hw A a b c := by
 have hw2 := h.t3.turn _ _ _ hw
 have hw3 := h.t3.turn _ _ _ hw2
 have hs := h.t3.pos _ _ _ hw
 have hl := h.len
 have lx := hw_lt hw
 have lyz := hn _ _ _ hw
 have p0 : plc A2 (x : Nat) (y : Nat) = none := by
   rw [plc_none]
   intro a b c e1 e2 hc
   obtain rfl : x = a := by omega
   obtain rfl : y = b := by omega
   obtain ⟨g, g2⟩ := (h2 _ _ _).1 hc
   exact g2 (Or.inr (Or.inr ⟨rfl, rfl, g.fn h.uq hw⟩))
 have p1 : plc A2 (y : Nat) (z : Nat) = none := by
   rw [plc_none]
   intro a b c e1 e2 hc
   obtain rfl : y = a := by omega
   obtain rfl : z = b := by omega
   obtain ⟨g, g2⟩ := (h2 _ _ _).1 hc
   exact g2 (Or.inl ⟨rfl, rfl, g.fn h.uq hw2⟩)
 have p2 : plc A2 (z : Nat) (x : Nat) = none := by
   rw [plc_none]
   intro a b c e1 e2 hc
   obtain rfl : z = a := by omega
   obtain rfl : x = b := by omega
   obtain ⟨g, g2⟩ := (h2 _ _ _).1 hc
   exact g2 (Or.inr (Or.inl ⟨rfl, rfl, g.fn h.uq hw3⟩))
 have hE : mkE P A2 (x : Nat) (y : Nat) (z : Nat) = 0 := by
   unfold mkE
   rw [if_pos (by
     rw [List.all_eq_true]
     intro q hq
     simp at hq
     unfold hasB
     exact decide_eq_true (by omega)), Int.toNat_natCast, Int.toNat_natCast, Int.toNat_natCast, if_neg (by omega), if_neg (by rw [p0, p1, p2]; decide)]
 obtain ⟨u, l, g, cn⟩ := mkA_hw hu2 (a := x) (b := y) (c := z) (by omega) (by omega) (by omega) (fun e => (sgP_ne hs).1 e.1) p0 p1 p2
 have e : ∀ a b c, Hw (mkA A2 x y z) a b c ↔ Hw A a b c := fun a b c => by
   rw [g, h2]
   constructor
   · rintro (g | g)
     · exact g.1
     · rcases g with ⟨rfl, rfl, rfl⟩ | ⟨rfl, rfl, rfl⟩ | ⟨rfl, rfl, rfl⟩
       · exact hw
       · exact hw2
       · exact hw3
   · intro g
     by_cases r : Rot y z x a b c
     · exact Or.inr (by unfold Rot at r ⊢; omega)
     · exact Or.inl ⟨g, r⟩
 exact ⟨hE, h.same u (by omega) e (by omega), e⟩
structure UI (B : Nat) (W w : World) (mB : Nat) (x : Gx) (P : List (Nat × Nat)) (A0 : List (List Wg)) (B8 B9 : Nat) (v8 v9 : Value) (S : Nat → Prop) (A : List (List Wg)) (vs : List Value) : Prop where
 s : ∀ k, S k → B ≤ k ∧ k < w.heap.size ∧ v8.ownBlock ≠ some k ∧ v9.ownBlock ≠ some k
 m : Msh S w mB x P A (fun _ _ => none) vs
 r8 : Rk enc_tri 30 3 w B8 v8 (trisL A0)
 r9 : Rk enc_pair 71 2 w B9 v9 (edgesL A0)
 b : Below B W w
 bs : B ≤ W.heap.size
theorem UI.step {B : Nat} {W w w' : World} {mB : Nat} {x : Gx} {P : List (Nat × Nat)} {A0 A A' : List (List Wg)} {B8 B9 : Nat} {v8 v9 : Value} {S : Nat → Prop} {vs vs' : List Value} (h : UI B W w mB x P A0 B8 B9 v8 v9 S A vs)
   (hm : Msh (Upx S w w') w' mB x P A' (fun _ _ => none) vs') (hf : Frm S w w') : UI B W w' mB x P A0 B8 B9 v8 v9 (Upx S w w') A' vs' where
 s := fun k hk => by
   have hz := hf.size
   have hb := h.b.size
   have hbs := h.bs
   rcases hk with hk | hk
   · have := h.s k hk
     exact ⟨this.1, by omega, this.2.2.1, this.2.2.2⟩
   · exact ⟨by omega, hk.2, fun e => by have := (World.ownsRow.lt h.r8 k e).2; omega, fun e => by have := (World.ownsRow.lt h.r9 k e).2; omega⟩
 m := hm
 r8 := own_same h.r8 (fun g hg => hf.keep g (World.ownsRow.lt h.r8 g hg).2 (fun e => (h.s g e).2.2.1 hg))
 r9 := own_same h.r9 (fun g hg => hf.keep g (World.ownsRow.lt h.r9 g hg).2 (fun e => (h.s g e).2.2.2 hg))
 b := h.b.trans (hf.below (by have := h.b.size; have := h.bs; omega) (fun k hk => (h.s k hk).1))
 bs := h.bs
theorem UI.later {B : Nat} {W w w' : World} {mB : Nat} {x : Gx} {P : List (Nat × Nat)} {A0 A : List (List Wg)} {B8 B9 : Nat} {v8 v9 : Value} {S : Nat → Prop} {vs : List Value} (h : UI B W w mB x P A0 B8 B9 v8 v9 S A vs) (hb : Below w.heap.size w w') : UI B W w' mB x P A0 B8 B9 v8 v9 (Upx S w w') A vs :=
 h.step (h.m.later hb).1 (h.m.later hb).2
theorem cnt_le {A : List (List Wg)} {m : Nat} (h : ∀ a, (A.getD a []).length ≤ m) : cnt A ≤ A.length * m := by
 unfold cnt
 have : ∀ l : List (List Wg), (∀ fan ∈ l, fan.length ≤ m) → (l.map List.length).sum ≤ l.length * m := by
   intro l
   induction l with
   | nil => intro _; simp
   | cons a r ih =>
     intro hl
     have h1 := hl a (by simp)
     have h2 := ih (fun fan hf => hl fan (by simp [hf]))
     simp only [List.map_cons, List.sum_cons, List.length_cons, Nat.add_mul, Nat.one_mul]
     omega
 refine this A fun fan hf => ?_
 obtain ⟨i, hi⟩ := List.mem_iff_getElem?.1 hf
 have := h i
 rw [List.getD_eq_getElem?_getD, hi] at this
 exact this
end

/- Package mesh: the law MeshUndone. (gen_mzd.py) -/
section
open Go.RowKit Go.Shelf Go.Lib
attribute [local go_sem ↓] Go.wp_at_zero Go.wp_at_succ
set_option maxRecDepth 100000
theorem tri_cells {w : World} {B g L c i : Nat} {xs : List (Nat × Nat × Nat)} {x y z : Nat} (h : Rk enc_tri 30 3 w B (.slice (some ⟨g, 0, none⟩) L c) xs) (hx : xs[i]? = some (x, y, z)) :
   w.cell? ⟨g, i * 3, none⟩ = some (.int .i64 (x : Nat)) ∧ w.cell? ⟨g, i * 3 + 1, none⟩ = some (.int .i64 (y : Nat)) ∧ w.cell? ⟨g, i * 3 + 2, none⟩ = some (.int .i64 (z : Nat)) := by
 obtain ⟨a, c', e, k⟩ := rk_tri h
 obtain ⟨g', e2, _, _, h3⟩ := k i _ hx
 injection e with e1 _ _
 rw [e2] at e1
 obtain rfl : g = g' := by injection e1 with e1; injection e1
 exact h3
theorem tri_blk {w : World} {B L c i : Nat} {a : Option Addr} {xs : List (Nat × Nat × Nat)} {q : Nat × Nat × Nat} (h : Rk enc_tri 30 3 w B (.slice a L c) xs) (hx : xs[i]? = some q) : ∃ g, a = some ⟨g, 0, none⟩ := by
 obtain ⟨a', c', e, k⟩ := rk_tri h
 obtain ⟨g', e2, _⟩ := k i _ hx
 injection e with e1 _ _
 exact ⟨g', e1.trans e2⟩
theorem TsP.later {W W' : World} {s : Value} {m : Nat} {t : Nat → Int × Int × Int} (h : TsP W s m t) (hb : Below W.heap.size W W') : TsP W' s m t := by
 obtain ⟨a, c, e, h⟩ := h
 refine ⟨a, c, e, ?_⟩
 rcases h with h | ⟨g, off, e2, hg, h⟩
 · exact Or.inl h
 · exact Or.inr ⟨g, off, e2, Nat.lt_of_lt_of_le hg hb.size, fun k hk => ⟨cell_later hb (h k hk).1, cell_later hb (h k hk).2.1, cell_later hb (h k hk).2.2⟩⟩
theorem Msh.keep {S : Nat → Prop} {W W' : World} {mB : Nat} {x : Gx} {P : List (Nat × Nat)} {A : List (List Wg)} {F : Int → Int → Option Int} {vs : List Value} (h : Msh S W mB x P A F vs) (hb : Below W.heap.size W W') : Msh S W' mB x P A F vs :=
 ⟨CB.later h.box hb, h.out, h.g.later hb⟩
set_option maxHeartbeats 16000000 in
theorem undone_law (s s2 : Value) (n m : Nat) (f : Nat → Nat × Nat) (t : Nat → Int × Int × Int) (ma mb mc : Int) (W : World) (hP : Ps W s n f) (hT : TsP W s2 m t) :
   Calls Tryz.prog 8 #[s, s2, .agg #[.int .i64 ma, .int .i64 mb, .int .i64 mc]] W fun e w' => e = .returned (.bool true) ∧ Below W.heap.size W w' := by
 obtain ⟨a, c, rfl, _, _⟩ := hP.shape
 have hT' := hT
 obtain ⟨a2, c2, rfl, _⟩ := hT'
 obtain ⟨W1, hW1⟩ : ∃ X, W.alloc (.cells #[.int .i64 ma, .int .i64 mb, .int .i64 mc] 30) = X := ⟨_, rfl⟩
 have b1 : Below W.heap.size W W1 := by rw [← hW1]; exact (Below.refl _ W).alloc (Nat.le_refl _) _
 have k1 : CB W1 W.heap.size #[.int .i64 ma, .int .i64 mb, .int .i64 mc] 30 := by rw [← hW1]; exact CB.new W _ _
 obtain ⟨bt, hbt⟩ : ∃ q, W.heap.size = q := ⟨_, rfl⟩
 have HM0 : Hid (∀ w, Below W1.heap.size W1 w → w.cell? ⟨bt, 0, none⟩ = some (.int .i64 ma) ∧ w.cell? ⟨bt, 1, none⟩ = some (.int .i64 mb) ∧ w.cell? ⟨bt, 2, none⟩ = some (.int .i64 mc)) := Lib.hid (fun w hw => by
   rw [← hbt]
   exact ⟨cell_later hw (k1.cell 0 (by simp)), cell_later hw (k1.cell 1 (by simp)), cell_later hw (k1.cell 2 (by simp))⟩)
 have HA := Lib.hid (And.intro hP hT)
 have HB1 := Lib.hid b1
 clear hP hT b1 k1
 by_cases hn : 100 < n
 · have hn' : (100 : Int) < (n : Int) := by omega
   go_enter Tryz.func8, Tryz.ntmps8
   go_wp2_with fail
   try rw [hW1]
   refine (works_any15 W1).mono ?_
   rintro e w2 ⟨rfl, hb⟩
   have HB2 := Lib.hid (HB1.out.trans (hb.mono HB1.out.size))
   clear hb
   go_wp2_with fail
   refine (works_any15 w2).mono ?_
   rintro e w3 ⟨rfl, hb⟩
   have HB3 := Lib.hid (HB2.out.trans (hb.mono HB2.out.size))
   clear hb
   go_wp2
   go_ret
   exact ⟨rfl, HB3.out⟩
 have hn' : ¬ (100 : Int) < (n : Int) := by omega
 by_cases hm : 200 < m
 · have hm' : (200 : Int) < (m : Int) := by omega
   go_enter Tryz.func8, Tryz.ntmps8
   go_wp2_with fail
   try rw [hW1]
   refine (works_any15 W1).mono ?_
   rintro e w2 ⟨rfl, hb⟩
   have HB2 := Lib.hid (HB1.out.trans (hb.mono HB1.out.size))
   clear hb
   go_wp2_with fail
   refine (works_any15 w2).mono ?_
   rintro e w3 ⟨rfl, hb⟩
   have HB3 := Lib.hid (HB2.out.trans (hb.mono HB2.out.size))
   clear hb
   go_wp2
   go_ret
   exact ⟨rfl, HB3.out⟩
 have hm' : ¬ (200 : Int) < (m : Int) := by omega
 go_enter Tryz.func8, Tryz.ntmps8
 go_wp2_with fail
 try rw [hW1]
 refine (works_any15 W1).mono ?_
 rintro e w2 ⟨rfl, hb⟩
 have HB2 := Lib.hid hb
 have HBf := Lib.hid (HB1.out.trans (hb.mono HB1.out.size))
 clear hb
 go_wp2_with fail
 refine (made_any _ _ n m f t w2 (HA.out.1.later HBf.out) (HA.out.2.later HBf.out) (by omega)).mono ?_
 rintro e w3 ⟨hr, hb⟩
 have HB3 := Lib.hid hb
 rcases hr with rfl | ⟨mB, x, rfl, hm1, hm2, hMd⟩
 · clear hb
   go_wp2
   go_ret
   exact ⟨rfl, HBf.out.trans (HB3.out.mono HBf.out.size)⟩
 obtain ⟨S, A, vs, hSb, hM, hSt⟩ := hMd
 have HM3 := Lib.hid (And.intro hSb (And.intro hM hSt))
 clear hb hSb hM hSt hW1
 go_wp2_with fail
 refine (tris_m HM3.out.2.1).mono ?_
 rintro e w4 ⟨v8, rfl, hr8, hb4⟩
 have HM4 := Lib.hid (And.intro (HM3.out.2.1.keep hb4) (And.intro hr8 hb4))
 clear hr8 hb4
 go_wp2_with fail
 refine (edges_m HM4.out.1).mono ?_
 rintro e w5 ⟨v9, rfl, hr9, hb5⟩
 obtain ⟨B8, hB8⟩ : ∃ q, w3.heap.size = q := ⟨_, rfl⟩
 obtain ⟨B9, hB9⟩ : ∃ q, w4.heap.size = q := ⟨_, rfl⟩
 obtain ⟨a8, c8, hv8, _⟩ := rk_tri HM4.out.2.1
 obtain ⟨L, hL⟩ : ∃ L, (trisL A).length = L := ⟨_, rfl⟩
 rw [hL] at hv8
 have hU5 : UI w2.heap.size w2 w5 mB x (ptsF (fun k => plp (f k)) n) A B8 B9 v8 v9 S A vs :=
   { s := fun k hk => by
       have h1 := HM3.out.1 k hk
       have h4 := HM4.out.2.2.size
       have h5 := hb5.size
       exact ⟨h1.1, by omega, fun e => by have := (World.ownsRow.lt HM4.out.2.1 k e).1; omega, fun e => by have := (World.ownsRow.lt hr9 k e).1; omega⟩
     m := HM4.out.1.keep hb5
     r8 := own_same (hB8 ▸ HM4.out.2.1) (fun g hg => hb5.block g (World.ownsRow.lt HM4.out.2.1 g hg).2)
     r9 := hB9 ▸ hr9
     b := HB3.out.trans ((HM4.out.2.2.mono HB3.out.size).trans (hb5.mono (Nat.le_trans HB3.out.size HM4.out.2.2.size)))
     bs := Nat.le_refl _ }
 subst hv8
 have HU5 := Lib.hid hU5
 have HLn := Lib.hid hL
 have HUA := Lib.hid HM3.out.2.2.uq
 have HlA := Lib.hid HM3.out.2.2.len
 have HS3 := Lib.hid HM3.out.2.2
 have hfan : ∀ a, (A.getD a []).length ≤ 100 := fun a => by
   have h1 := Uq.len HUA.out hU5.m.g.nums a
   have h2 := HlA.out
   rw [ptsF_len] at h2
   omega
 have HcA : Hid (cnt A ≤ 10000) := Lib.hid (by
   have h1 := cnt_le hfan
   have h2 := HlA.out
   rw [ptsF_len] at h2
   have : A.length * 100 ≤ 100 * 100 := Nat.mul_le_mul_right _ (by omega)
   omega)
 have hL4 : L ≤ 10000 := by have h1 := HS3.out.cn; have h2 := raw_len A; have := HcA.out; omega
 have HEl : Hid ((edgesL A).length ≤ 4000000000000) := Lib.hid (by
   have h1 := toldK_le (fEdge A) srt_pair A 100 (fEdge_le A) srt_pair_len hfan A.length
   have h2 := HlA.out
   rw [ptsF_len] at h2
   have : A.length * (100 * 2) ≤ 100 * (100 * 2) := Nat.mul_le_mul_right _ (by omega)
   unfold edgesL
   omega)
 have HWd := Lib.hid (fun i p hp => ptsF_word (f := f) (n := n) HA.out.1.word i p hp)
 have HBx := Lib.hid (HM0.out w5 (HB2.out.trans (hU5.b.mono HB2.out.size)))
 clear hr9 hb5 hU5 hfan HM4 hL hB8 hB9
 obtain ⟨t0, t1, t2⟩ := HBx.out
 go_wp2_with fail
 refine (make_any HU5.out.m HWd.out ma mb mc).mono ?_
 rintro e w6 ⟨rfl, v6, hM6, hf6⟩
 have HU6 := Lib.hid (HU5.out.step hM6 hf6)
 clear hM6 hf6 t0 t1 t2
 by_cases hE : mkE (ptsF (fun k => plp (f k)) n) A ma mb mc = 0
 · obtain ⟨na, nb, nc, rfl, rfl, rfl, _⟩ := mk_cases hE HlA.out
   have hmk := HS3.out.make hE
   have HMk := Lib.hid (And.intro hE hmk)
   have HU6' : Hid (UI w2.heap.size w2 w6 mB x (ptsF (fun k => plp (f k)) n) A B8 B9 (.slice a8 L c8) v9 (Upx S w5 w6) (mkA A na nb nc) v6) := Lib.hid (by have h := HU6.out; rw [mkS_yes hE] at h; exact h)
   have hcn : cnt (mkA A na nb nc) / 3 = L + 1 := by
     have h1 := hmk.1.cn
     have h2 := hmk.2.2.1
     have h3 := raw_len A
     have h4 := HLn.out
     omega
   have hcs : cnt (mkA A na nb nc) < 1000000000 := by
     have h1 := hmk.1.cn
     have h2 := hmk.2.2.1
     have h3 := HS3.out.cn
     have := HcA.out
     omega
   have hcount := count_any HU6'.out.m hcs
   rw [hcn] at hcount
   have HCt := Lib.hid hcount
   rw [hE]
   clear hE hmk hcn hcs hcount HU6
   obtain ⟨t0, t1, t2⟩ := HM0.out w6 (HB2.out.trans (HU6'.out.b.mono HB2.out.size))
   go_wp2_with fail
   refine HCt.out.mono ?_
   rintro e w' ⟨rfl, hq⟩
   rw [hq]
   clear hq w'
   have hne : ((((L + 1 : Nat) : Int)) != (L : Int) + 1) = false := by simp
   go_wp2_with fail
   refine (kill_any HU6'.out.m HMk.out.2.1.t3 (nc : Nat) (na : Nat) (nb : Nat)).mono ?_
   rintro e w7 ⟨rfl, A7, v7, hM7, hf7, _, h70⟩
   have hw : Hw (mkA A na nb nc) nc na nb := (HMk.out.2.2.1 _ _ _).2 (Or.inr (Or.inr (Or.inr ⟨rfl, rfl, rfl⟩)))
   have hk0 := kiE_yes HMk.out.2.1.uq hw
   obtain ⟨a', b', c', e1, e2, e3, _, hw7, hc7⟩ := h70 hk0
   obtain rfl : nc = a' := by omega
   obtain rfl : na = b' := by omega
   obtain rfl : nb = c' := by omega
   rw [hk0]
   have HIN : Hid (∃ S A' vs, UI w2.heap.size w2 w7 mB x (ptsF (fun k => plp (f k)) n) A B8 B9 (.slice a8 L c8) v9 S A' vs ∧ Std (ptsF (fun k => plp (f k)) n) A' ∧ ∀ x y z, Hw A' x y z ↔ Hw A x y z) := Lib.hid
     ⟨_, _, _, HU6'.out.step hM7 hf7, undo HS3.out HMk.out.1 hM7.g.uq hM7.g.len hw7 hc7⟩
   clear hM7 hf7 h70 hk0 hw hw7 hc7 e1 e2 e3 t0 t1 t2 hne
   as_aux_lemma =>
    go_wp2_with fail
    go_loopw [11] (fun s11 wr => ∃ i : Nat, i ≤ L ∧ s11 = .int .i64 (i : Nat) ∧ Hid (∃ S A' vs, UI w2.heap.size w2 wr mB x (ptsF (fun k => plp (f k)) n) A B8 B9 (.slice a8 L c8) v9 S A' vs ∧ Std (ptsF (fun k => plp (f k)) n) A' ∧ ∀ x y z, Hw A' x y z ↔ Hw A x y z)) (fun s11 _ => L - (intOf s11).toNat)
    case atStart => exact ⟨0, Nat.zero_le _, rfl, HIN⟩
    case round =>
      obtain ⟨i, hi, rfl, hI⟩ := hrel
      obtain ⟨S', A', vs', hU, hSt, hSame⟩ := hI.out
      have HUr := Lib.hid hU
      have HSt := Lib.hid hSt
      have HSame := Lib.hid hSame
      clear hU hSt hSame hI
      by_cases hlt : i < L
      · have hlt' : (i : Int) < (L : Int) := by omega
        have hlt2 : ¬ L ≤ i := by omega
        obtain ⟨⟨tx, ty, tz⟩, hx⟩ : ∃ q, (trisL A)[i]? = some q := ⟨_, List.getElem?_eq_getElem (by have := HLn.out; omega)⟩
        have HX := Lib.hid hx
        have hwA := (tris_mem.1 (List.mem_of_getElem? hx)).1
        have HWx := Lib.hid ((HSame.out tx ty tz).2 hwA)
        have HWy := Lib.hid (HSt.out.t3.turn _ _ _ HWx.out)
        have HU0 := Lib.hid (HUr.out.later (Below.drew (Below.refl _ wr)))
        obtain ⟨tg, rfl⟩ : ∃ tg, a8 = some ⟨tg, 0, none⟩ := tri_blk HUr.out.r8 hx
        clear hx hwA
        as_aux_lemma =>
         go_wp2_with fail
         refine wp_region_held_drew (S := (fun X => X.cell? ⟨tg, i * 3, none⟩ = some (.int .i64 (tx : Nat)) ∧ X.cell? ⟨tg, i * 3 + 1, none⟩ = some (.int .i64 (ty : Nat)) ∧ X.cell? ⟨tg, i * 3 + 2, none⟩ = some (.int .i64 (tz : Nat)))) (by kernel_rfl) (tri_cells HU0.out.r8 HX.out) (fun hS => ?_)
         refine take_at (i := 0) (d := some 67) (v := .pointer (some ⟨mB, 0, none⟩)) (by kernel_rfl) (by kernel_rfl) (by kernel_rfl) (by kernel_rfl) (fun _ _ _ h => h) ?_ hS ?_
         · intro o ho
           replace ho := Option.some.inj (Eq.trans (Eq.symm ho) rfl)
           subst ho
           refine Or.inl ⟨by rfl, ?_⟩
           intro w hSw
           obtain ⟨q0, q1, q2⟩ := hSw
           go_simp
         simp only [AP]
         refine take_at (i := 1) (d := some 68) (v := .slice (some ⟨tg, 0, none⟩) L c8) (by kernel_rfl) (by kernel_rfl) (by kernel_rfl) (by kernel_rfl) (fun _ _ _ h => h) ?_ hS ?_
         · intro o ho
           replace ho := Option.some.inj (Eq.trans (Eq.symm ho) rfl)
           subst ho
           refine Or.inl ⟨by rfl, ?_⟩
           intro w hSw
           obtain ⟨q0, q1, q2⟩ := hSw
           go_simp
         simp only [AP]
         refine take_at (i := 2) (d := some 69) (v := .int .i64 (i : Nat)) (by kernel_rfl) (by kernel_rfl) (by kernel_rfl) (by kernel_rfl) (fun _ _ _ h => h) ?_ hS ?_
         · intro o ho
           replace ho := Option.some.inj (Eq.trans (Eq.symm ho) rfl)
           subst ho
           refine Or.inl ⟨by rfl, ?_⟩
           intro w hSw
           obtain ⟨q0, q1, q2⟩ := hSw
           go_simp
         simp only [AP]
         refine take_at (i := 3) (d := some 70) (v := .pointer (some ⟨tg, i * 3, none⟩)) (by kernel_rfl) (by kernel_rfl) (by kernel_rfl) (by kernel_rfl) (fun _ _ _ h => h) ?_ hS ?_
         · intro o ho
           replace ho := Option.some.inj (Eq.trans (Eq.symm ho) rfl)
           subst ho
           refine Or.inl ⟨by rfl, ?_⟩
           intro w hSw
           obtain ⟨q0, q1, q2⟩ := hSw
           go_simp
         simp only [AP]
         refine take_at (i := 4) (d := some 71) (v := .pointer (some ⟨tg, i * 3 + 1, none⟩)) (by kernel_rfl) (by kernel_rfl) (by kernel_rfl) (by kernel_rfl) (fun _ _ _ h => h) ?_ hS ?_
         · intro o ho
           replace ho := Option.some.inj (Eq.trans (Eq.symm ho) rfl)
           subst ho
           refine Or.inl ⟨by rfl, ?_⟩
           intro w hSw
           obtain ⟨q0, q1, q2⟩ := hSw
           go_simp
         simp only [AP]
         refine take_at (i := 5) (d := some 72) (v := .int .i64 (ty : Nat)) (by kernel_rfl) (by kernel_rfl) (by kernel_rfl) (by kernel_rfl) (fun _ _ _ h => h) ?_ hS ?_
         · intro o ho
           replace ho := Option.some.inj (Eq.trans (Eq.symm ho) rfl)
           subst ho
           refine Or.inl ⟨by rfl, ?_⟩
           intro w hSw
           obtain ⟨q0, q1, q2⟩ := hSw
           go_simp
         simp only [AP]
         refine take_at (i := 6) (d := some 73) (v := .slice (some ⟨tg, 0, none⟩) L c8) (by kernel_rfl) (by kernel_rfl) (by kernel_rfl) (by kernel_rfl) (fun _ _ _ h => h) ?_ hS ?_
         · intro o ho
           replace ho := Option.some.inj (Eq.trans (Eq.symm ho) rfl)
           subst ho
           refine Or.inl ⟨by rfl, ?_⟩
           intro w hSw
           obtain ⟨q0, q1, q2⟩ := hSw
           go_simp
         simp only [AP]
         refine take_at (i := 7) (d := some 74) (v := .int .i64 (i : Nat)) (by kernel_rfl) (by kernel_rfl) (by kernel_rfl) (by kernel_rfl) (fun _ _ _ h => h) ?_ hS ?_
         · intro o ho
           replace ho := Option.some.inj (Eq.trans (Eq.symm ho) rfl)
           subst ho
           refine Or.inl ⟨by rfl, ?_⟩
           intro w hSw
           obtain ⟨q0, q1, q2⟩ := hSw
           go_simp
         simp only [AP]
         refine take_at (i := 8) (d := some 75) (v := .pointer (some ⟨tg, i * 3, none⟩)) (by kernel_rfl) (by kernel_rfl) (by kernel_rfl) (by kernel_rfl) (fun _ _ _ h => h) ?_ hS ?_
         · intro o ho
           replace ho := Option.some.inj (Eq.trans (Eq.symm ho) rfl)
           subst ho
           refine Or.inl ⟨by rfl, ?_⟩
           intro w hSw
           obtain ⟨q0, q1, q2⟩ := hSw
           go_simp
         simp only [AP]
         refine take_at (i := 9) (d := some 76) (v := .pointer (some ⟨tg, i * 3 + 2, none⟩)) (by kernel_rfl) (by kernel_rfl) (by kernel_rfl) (by kernel_rfl) (fun _ _ _ h => h) ?_ hS ?_
         · intro o ho
           replace ho := Option.some.inj (Eq.trans (Eq.symm ho) rfl)
           subst ho
           refine Or.inl ⟨by rfl, ?_⟩
           intro w hSw
           obtain ⟨q0, q1, q2⟩ := hSw
           go_simp
         simp only [AP]
         refine take_at (i := 10) (d := some 77) (v := .int .i64 (tz : Nat)) (by kernel_rfl) (by kernel_rfl) (by kernel_rfl) (by kernel_rfl) (fun _ _ _ h => h) ?_ hS ?_
         · intro o ho
           replace ho := Option.some.inj (Eq.trans (Eq.symm ho) rfl)
           subst ho
           refine Or.inl ⟨by rfl, ?_⟩
           intro w hSw
           obtain ⟨q0, q1, q2⟩ := hSw
           go_simp
         simp only [AP]
         refine take_at (i := 11) (d := some 78) (v := .slice (some ⟨tg, 0, none⟩) L c8) (by kernel_rfl) (by kernel_rfl) (by kernel_rfl) (by kernel_rfl) (fun _ _ _ h => h) ?_ hS ?_
         · intro o ho
           replace ho := Option.some.inj (Eq.trans (Eq.symm ho) rfl)
           subst ho
           refine Or.inl ⟨by rfl, ?_⟩
           intro w hSw
           obtain ⟨q0, q1, q2⟩ := hSw
           go_simp
         simp only [AP]
         refine take_at (i := 12) (d := some 79) (v := .int .i64 (i : Nat)) (by kernel_rfl) (by kernel_rfl) (by kernel_rfl) (by kernel_rfl) (fun _ _ _ h => h) ?_ hS ?_
         · intro o ho
           replace ho := Option.some.inj (Eq.trans (Eq.symm ho) rfl)
           subst ho
           refine Or.inl ⟨by rfl, ?_⟩
           intro w hSw
           obtain ⟨q0, q1, q2⟩ := hSw
           go_simp
         simp only [AP]
         refine take_at (i := 13) (d := some 80) (v := .pointer (some ⟨tg, i * 3, none⟩)) (by kernel_rfl) (by kernel_rfl) (by kernel_rfl) (by kernel_rfl) (fun _ _ _ h => h) ?_ hS ?_
         · intro o ho
           replace ho := Option.some.inj (Eq.trans (Eq.symm ho) rfl)
           subst ho
           refine Or.inl ⟨by rfl, ?_⟩
           intro w hSw
           obtain ⟨q0, q1, q2⟩ := hSw
           go_simp
         simp only [AP]
         refine take_at (i := 14) (d := some 81) (v := .pointer (some ⟨tg, i * 3, none⟩)) (by kernel_rfl) (by kernel_rfl) (by kernel_rfl) (by kernel_rfl) (fun _ _ _ h => h) ?_ hS ?_
         · intro o ho
           replace ho := Option.some.inj (Eq.trans (Eq.symm ho) rfl)
           subst ho
           refine Or.inl ⟨by rfl, ?_⟩
           intro w hSw
           obtain ⟨q0, q1, q2⟩ := hSw
           go_simp
         simp only [AP]
         refine take_at (i := 15) (d := some 82) (v := .int .i64 (tx : Nat)) (by kernel_rfl) (by kernel_rfl) (by kernel_rfl) (by kernel_rfl) (fun _ _ _ h => h) ?_ hS ?_
         · intro o ho
           replace ho := Option.some.inj (Eq.trans (Eq.symm ho) rfl)
           subst ho
           refine Or.inl ⟨by rfl, ?_⟩
           intro w hSw
           obtain ⟨q0, q1, q2⟩ := hSw
           go_simp
         simp only [AP]
         refine calA 16 fun KF hK => ?_
         rw [if_pos (by rfl)]
         go_simp
         refine (kill_any HU0.out.m HSt.out.t3 (ty : Nat) (tz : Nat) (tx : Nat)).mono ?_
         rintro e w7 ⟨rfl, A7, v7, hM7, hf7, _, h70⟩
         have hk0 := kiE_yes HSt.out.uq HWy.out
         obtain ⟨a', b', c', e1, e2, e3, _, hw7, hc7⟩ := h70 hk0
         obtain rfl : ty = a' := by omega
         obtain rfl : tz = b' := by omega
         obtain rfl : tx = c' := by omega
         rw [hk0]
         have HU7 := Lib.hid (HU0.out.step hM7 hf7)
         have HR7 := Lib.hid (redo HSt.out (fun a b c h => HU0.out.m.g.nums a b c h) hM7.g.uq (hM7.g.len) HWx.out hw7 hc7)
         clear hM7 hf7 h70 hk0 hw7 hc7 e1 e2 e3
         go_wp2_with fail
         refine hK.out _ _ (tri_cells HU7.out.r8 HX.out) ?_
         clear hS
         intro hS
         clear hK KF
         try simp only [AP]
         refine take_at (i := 17) (d := some 84) (v := .bool false) (by kernel_rfl) (by kernel_rfl) (by kernel_rfl) (by kernel_rfl) (fun _ _ _ h => h) ?_ hS ?_
         · intro o ho
           replace ho := Option.some.inj (Eq.trans (Eq.symm ho) rfl)
           subst ho
           refine Or.inl ⟨by rfl, ?_⟩
           intro w hSw
           obtain ⟨q0, q1, q2⟩ := hSw
           go_simp
         simp only [AP]
         refine take_at (i := 18) (d := some 85) (v := .bool false) (by kernel_rfl) (by kernel_rfl) (by kernel_rfl) (by kernel_rfl) (fun _ _ _ h => h) ?_ hS ?_
         · intro o ho
           replace ho := Option.some.inj (Eq.trans (Eq.symm ho) rfl)
           subst ho
           refine Or.inl ⟨by rfl, ?_⟩
           intro w hSw
           obtain ⟨q0, q1, q2⟩ := hSw
           go_simp
         simp only [AP]
         refine take_at (i := 19) (d := some 86) (v := .pointer (some ⟨mB, 0, none⟩)) (by kernel_rfl) (by kernel_rfl) (by kernel_rfl) (by kernel_rfl) (fun _ _ _ h => h) ?_ hS ?_
         · intro o ho
           replace ho := Option.some.inj (Eq.trans (Eq.symm ho) rfl)
           subst ho
           refine Or.inl ⟨by rfl, ?_⟩
           intro w hSw
           obtain ⟨q0, q1, q2⟩ := hSw
           go_simp
         simp only [AP]
         refine take_at (i := 20) (d := some 87) (v := .slice (some ⟨tg, 0, none⟩) L c8) (by kernel_rfl) (by kernel_rfl) (by kernel_rfl) (by kernel_rfl) (fun _ _ _ h => h) ?_ hS ?_
         · intro o ho
           replace ho := Option.some.inj (Eq.trans (Eq.symm ho) rfl)
           subst ho
           refine Or.inl ⟨by rfl, ?_⟩
           intro w hSw
           obtain ⟨q0, q1, q2⟩ := hSw
           go_simp
         simp only [AP]
         refine take_at (i := 21) (d := some 88) (v := .int .i64 (i : Nat)) (by kernel_rfl) (by kernel_rfl) (by kernel_rfl) (by kernel_rfl) (fun _ _ _ h => h) ?_ hS ?_
         · intro o ho
           replace ho := Option.some.inj (Eq.trans (Eq.symm ho) rfl)
           subst ho
           refine Or.inl ⟨by rfl, ?_⟩
           intro w hSw
           obtain ⟨q0, q1, q2⟩ := hSw
           go_simp
         simp only [AP]
         refine take_at (i := 22) (d := some 89) (v := .pointer (some ⟨tg, i * 3, none⟩)) (by kernel_rfl) (by kernel_rfl) (by kernel_rfl) (by kernel_rfl) (fun _ _ _ h => h) ?_ hS ?_
         · intro o ho
           replace ho := Option.some.inj (Eq.trans (Eq.symm ho) rfl)
           subst ho
           refine Or.inl ⟨by rfl, ?_⟩
           intro w hSw
           obtain ⟨q0, q1, q2⟩ := hSw
           go_simp
         simp only [AP]
         refine take_at (i := 23) (d := some 90) (v := .pointer (some ⟨tg, i * 3, none⟩)) (by kernel_rfl) (by kernel_rfl) (by kernel_rfl) (by kernel_rfl) (fun _ _ _ h => h) ?_ hS ?_
         · intro o ho
           replace ho := Option.some.inj (Eq.trans (Eq.symm ho) rfl)
           subst ho
           refine Or.inl ⟨by rfl, ?_⟩
           intro w hSw
           obtain ⟨q0, q1, q2⟩ := hSw
           go_simp
         simp only [AP]
         refine take_at (i := 24) (d := some 91) (v := .int .i64 (tx : Nat)) (by kernel_rfl) (by kernel_rfl) (by kernel_rfl) (by kernel_rfl) (fun _ _ _ h => h) ?_ hS ?_
         · intro o ho
           replace ho := Option.some.inj (Eq.trans (Eq.symm ho) rfl)
           subst ho
           refine Or.inl ⟨by rfl, ?_⟩
           intro w hSw
           obtain ⟨q0, q1, q2⟩ := hSw
           go_simp
         simp only [AP]
         refine take_at (i := 25) (d := some 92) (v := .slice (some ⟨tg, 0, none⟩) L c8) (by kernel_rfl) (by kernel_rfl) (by kernel_rfl) (by kernel_rfl) (fun _ _ _ h => h) ?_ hS ?_
         · intro o ho
           replace ho := Option.some.inj (Eq.trans (Eq.symm ho) rfl)
           subst ho
           refine Or.inl ⟨by rfl, ?_⟩
           intro w hSw
           obtain ⟨q0, q1, q2⟩ := hSw
           go_simp
         simp only [AP]
         refine take_at (i := 26) (d := some 93) (v := .int .i64 (i : Nat)) (by kernel_rfl) (by kernel_rfl) (by kernel_rfl) (by kernel_rfl) (fun _ _ _ h => h) ?_ hS ?_
         · intro o ho
           replace ho := Option.some.inj (Eq.trans (Eq.symm ho) rfl)
           subst ho
           refine Or.inl ⟨by rfl, ?_⟩
           intro w hSw
           obtain ⟨q0, q1, q2⟩ := hSw
           go_simp
         simp only [AP]
         refine take_at (i := 27) (d := some 94) (v := .pointer (some ⟨tg, i * 3, none⟩)) (by kernel_rfl) (by kernel_rfl) (by kernel_rfl) (by kernel_rfl) (fun _ _ _ h => h) ?_ hS ?_
         · intro o ho
           replace ho := Option.some.inj (Eq.trans (Eq.symm ho) rfl)
           subst ho
           refine Or.inl ⟨by rfl, ?_⟩
           intro w hSw
           obtain ⟨q0, q1, q2⟩ := hSw
           go_simp
         simp only [AP]
         refine take_at (i := 28) (d := some 95) (v := .pointer (some ⟨tg, i * 3 + 1, none⟩)) (by kernel_rfl) (by kernel_rfl) (by kernel_rfl) (by kernel_rfl) (fun _ _ _ h => h) ?_ hS ?_
         · intro o ho
           replace ho := Option.some.inj (Eq.trans (Eq.symm ho) rfl)
           subst ho
           refine Or.inl ⟨by rfl, ?_⟩
           intro w hSw
           obtain ⟨q0, q1, q2⟩ := hSw
           go_simp
         simp only [AP]
         refine take_at (i := 29) (d := some 96) (v := .int .i64 (ty : Nat)) (by kernel_rfl) (by kernel_rfl) (by kernel_rfl) (by kernel_rfl) (fun _ _ _ h => h) ?_ hS ?_
         · intro o ho
           replace ho := Option.some.inj (Eq.trans (Eq.symm ho) rfl)
           subst ho
           refine Or.inl ⟨by rfl, ?_⟩
           intro w hSw
           obtain ⟨q0, q1, q2⟩ := hSw
           go_simp
         simp only [AP]
         refine take_at (i := 30) (d := some 97) (v := .slice (some ⟨tg, 0, none⟩) L c8) (by kernel_rfl) (by kernel_rfl) (by kernel_rfl) (by kernel_rfl) (fun _ _ _ h => h) ?_ hS ?_
         · intro o ho
           replace ho := Option.some.inj (Eq.trans (Eq.symm ho) rfl)
           subst ho
           refine Or.inl ⟨by rfl, ?_⟩
           intro w hSw
           obtain ⟨q0, q1, q2⟩ := hSw
           go_simp
         simp only [AP]
         refine take_at (i := 31) (d := some 98) (v := .int .i64 (i : Nat)) (by kernel_rfl) (by kernel_rfl) (by kernel_rfl) (by kernel_rfl) (fun _ _ _ h => h) ?_ hS ?_
         · intro o ho
           replace ho := Option.some.inj (Eq.trans (Eq.symm ho) rfl)
           subst ho
           refine Or.inl ⟨by rfl, ?_⟩
           intro w hSw
           obtain ⟨q0, q1, q2⟩ := hSw
           go_simp
         simp only [AP]
         refine take_at (i := 32) (d := some 99) (v := .pointer (some ⟨tg, i * 3, none⟩)) (by kernel_rfl) (by kernel_rfl) (by kernel_rfl) (by kernel_rfl) (fun _ _ _ h => h) ?_ hS ?_
         · intro o ho
           replace ho := Option.some.inj (Eq.trans (Eq.symm ho) rfl)
           subst ho
           refine Or.inl ⟨by rfl, ?_⟩
           intro w hSw
           obtain ⟨q0, q1, q2⟩ := hSw
           go_simp
         simp only [AP]
         refine take_at (i := 33) (d := some 100) (v := .pointer (some ⟨tg, i * 3 + 2, none⟩)) (by kernel_rfl) (by kernel_rfl) (by kernel_rfl) (by kernel_rfl) (fun _ _ _ h => h) ?_ hS ?_
         · intro o ho
           replace ho := Option.some.inj (Eq.trans (Eq.symm ho) rfl)
           subst ho
           refine Or.inl ⟨by rfl, ?_⟩
           intro w hSw
           obtain ⟨q0, q1, q2⟩ := hSw
           go_simp
         simp only [AP]
         refine take_at (i := 34) (d := some 101) (v := .int .i64 (tz : Nat)) (by kernel_rfl) (by kernel_rfl) (by kernel_rfl) (by kernel_rfl) (fun _ _ _ h => h) ?_ hS ?_
         · intro o ho
           replace ho := Option.some.inj (Eq.trans (Eq.symm ho) rfl)
           subst ho
           refine Or.inl ⟨by rfl, ?_⟩
           intro w hSw
           obtain ⟨q0, q1, q2⟩ := hSw
           go_simp
         simp only [AP]
         refine calA 35 fun KF hK => ?_
         rw [if_pos (by rfl)]
         go_simp
         refine (make_any HU7.out.m HWd.out (tx : Nat) (ty : Nat) (tz : Nat)).mono ?_
         rintro e w8 ⟨rfl, v8', hM8, hf8⟩
         rw [mkS_yes HR7.out.1] at hM8
         rw [HR7.out.1]
         have HU8 := Lib.hid (HU7.out.step hM8 hf8)
         clear hM8 hf8
         go_wp2_with fail
         refine hK.out _ _ (tri_cells HU8.out.r8 HX.out) ?_
         clear hS
         intro hS
         clear hK KF
         try simp only [AP]
         refine take_at (i := 36) (d := some 103) (v := .bool false) (by kernel_rfl) (by kernel_rfl) (by kernel_rfl) (by kernel_rfl) (fun _ _ _ h => h) ?_ hS ?_
         · intro o ho
           replace ho := Option.some.inj (Eq.trans (Eq.symm ho) rfl)
           subst ho
           refine Or.inl ⟨by rfl, ?_⟩
           intro w hSw
           obtain ⟨q0, q1, q2⟩ := hSw
           go_simp
         simp only [AP]
         refine take_at (i := 37) (d := some 104) (v := .bool false) (by kernel_rfl) (by kernel_rfl) (by kernel_rfl) (by kernel_rfl) (fun _ _ _ h => h) ?_ hS ?_
         · intro o ho
           replace ho := Option.some.inj (Eq.trans (Eq.symm ho) rfl)
           subst ho
           refine Or.inl ⟨by rfl, ?_⟩
           intro w hSw
           obtain ⟨q0, q1, q2⟩ := hSw
           go_simp
         simp only [AP]
         refine wpAnyH_done (by kernel_rfl) ?_ _
         clear hS
         go_wp2
         exact ⟨⟨i + 1, by omega, by go_num, Lib.hid ⟨_, _, _, HU8.out, HR7.out.2.1, fun a b c => (HR7.out.2.2 a b c).trans (HSame.out a b c)⟩⟩, by simp [intOf]; omega⟩
      · obtain rfl : i = L := by omega
        have HT8 := Lib.hid (tris_same HSt.out.uq HUA.out HSame.out (HSt.out.len.trans HlA.out.symm))
        have HE8 := Lib.hid (edges_same HSt.out.uq HUA.out HSame.out (HSt.out.len.trans HlA.out.symm))
        as_aux_lemma =>
         go_wp2_with fail
         refine (tris_m HUr.out.m).mono ?_
         rintro e w7 ⟨v7, rfl, hr7, hb7⟩
         rw [HT8.out] at hr7
         have HU7 := Lib.hid (HUr.out.later hb7)
         have HR7 := Lib.hid hr7
         clear hr7 hb7
         go_wp2_with fail
         refine (sameTris_eq HR7.out HU7.out.r8 (by have := HLn.out; omega)).mono ?_
         rintro e w8 ⟨rfl, hb8⟩
         have HU8 := Lib.hid (HU7.out.later hb8)
         clear hb8
         go_wp2_with fail
         refine (edges_m HU8.out.m).mono ?_
         rintro e w9 ⟨v9', rfl, hr9, hb9⟩
         rw [HE8.out] at hr9
         have HU9 := Lib.hid (HU8.out.later hb9)
         have HR9 := Lib.hid hr9
         clear hr9 hb9
         go_wp2_with fail
         refine (samePairs_eq HR9.out HU9.out.r9 HEl.out).mono ?_
         rintro e w10 ⟨rfl, hb10⟩
         have HU10 := Lib.hid (HU9.out.later hb10)
         clear hb10
         go_wp2
         go_ret
         exact ⟨rfl, HBf.out.trans (HU10.out.b.mono HBf.out.size)⟩
 · have hE' : (mkE (ptsF (fun k => plp (f k)) n) A ma mb mc == 0) = false := by rw [beq_eq_false_iff_ne]; exact hE
   have HIN : Hid (∃ S A' vs, UI w2.heap.size w2 w6 mB x (ptsF (fun k => plp (f k)) n) A B8 B9 (.slice a8 L c8) v9 S A' vs ∧ Std (ptsF (fun k => plp (f k)) n) A' ∧ ∀ x y z, Hw A' x y z ↔ Hw A x y z) := Lib.hid
     ⟨_, _, _, HU6.out, by rw [mkS_no hE]; exact HS3.out, fun x y z => by rw [mkS_no hE]⟩
   clear HU6
   as_aux_lemma =>
    go_wp2_with fail
    go_loopw [11] (fun s11 wr => ∃ i : Nat, i ≤ L ∧ s11 = .int .i64 (i : Nat) ∧ Hid (∃ S A' vs, UI w2.heap.size w2 wr mB x (ptsF (fun k => plp (f k)) n) A B8 B9 (.slice a8 L c8) v9 S A' vs ∧ Std (ptsF (fun k => plp (f k)) n) A' ∧ ∀ x y z, Hw A' x y z ↔ Hw A x y z)) (fun s11 _ => L - (intOf s11).toNat)
    case atStart => exact ⟨0, Nat.zero_le _, rfl, HIN⟩
    case round =>
      obtain ⟨i, hi, rfl, hI⟩ := hrel
      obtain ⟨S', A', vs', hU, hSt, hSame⟩ := hI.out
      have HUr := Lib.hid hU
      have HSt := Lib.hid hSt
      have HSame := Lib.hid hSame
      clear hU hSt hSame hI
      by_cases hlt : i < L
      · have hlt' : (i : Int) < (L : Int) := by omega
        have hlt2 : ¬ L ≤ i := by omega
        obtain ⟨⟨tx, ty, tz⟩, hx⟩ : ∃ q, (trisL A)[i]? = some q := ⟨_, List.getElem?_eq_getElem (by have := HLn.out; omega)⟩
        have HX := Lib.hid hx
        have hwA := (tris_mem.1 (List.mem_of_getElem? hx)).1
        have HWx := Lib.hid ((HSame.out tx ty tz).2 hwA)
        have HWy := Lib.hid (HSt.out.t3.turn _ _ _ HWx.out)
        have HU0 := Lib.hid (HUr.out.later (Below.drew (Below.refl _ wr)))
        obtain ⟨tg, rfl⟩ : ∃ tg, a8 = some ⟨tg, 0, none⟩ := tri_blk HUr.out.r8 hx
        clear hx hwA
        as_aux_lemma =>
         go_wp2_with fail
         refine wp_region_held_drew (S := (fun X => X.cell? ⟨tg, i * 3, none⟩ = some (.int .i64 (tx : Nat)) ∧ X.cell? ⟨tg, i * 3 + 1, none⟩ = some (.int .i64 (ty : Nat)) ∧ X.cell? ⟨tg, i * 3 + 2, none⟩ = some (.int .i64 (tz : Nat)))) (by kernel_rfl) (tri_cells HU0.out.r8 HX.out) (fun hS => ?_)
         refine take_at (i := 0) (d := some 67) (v := .pointer (some ⟨mB, 0, none⟩)) (by kernel_rfl) (by kernel_rfl) (by kernel_rfl) (by kernel_rfl) (fun _ _ _ h => h) ?_ hS ?_
         · intro o ho
           replace ho := Option.some.inj (Eq.trans (Eq.symm ho) rfl)
           subst ho
           refine Or.inl ⟨by rfl, ?_⟩
           intro w hSw
           obtain ⟨q0, q1, q2⟩ := hSw
           go_simp
         simp only [AP]
         refine take_at (i := 1) (d := some 68) (v := .slice (some ⟨tg, 0, none⟩) L c8) (by kernel_rfl) (by kernel_rfl) (by kernel_rfl) (by kernel_rfl) (fun _ _ _ h => h) ?_ hS ?_
         · intro o ho
           replace ho := Option.some.inj (Eq.trans (Eq.symm ho) rfl)
           subst ho
           refine Or.inl ⟨by rfl, ?_⟩
           intro w hSw
           obtain ⟨q0, q1, q2⟩ := hSw
           go_simp
         simp only [AP]
         refine take_at (i := 2) (d := some 69) (v := .int .i64 (i : Nat)) (by kernel_rfl) (by kernel_rfl) (by kernel_rfl) (by kernel_rfl) (fun _ _ _ h => h) ?_ hS ?_
         · intro o ho
           replace ho := Option.some.inj (Eq.trans (Eq.symm ho) rfl)
           subst ho
           refine Or.inl ⟨by rfl, ?_⟩
           intro w hSw
           obtain ⟨q0, q1, q2⟩ := hSw
           go_simp
         simp only [AP]
         refine take_at (i := 3) (d := some 70) (v := .pointer (some ⟨tg, i * 3, none⟩)) (by kernel_rfl) (by kernel_rfl) (by kernel_rfl) (by kernel_rfl) (fun _ _ _ h => h) ?_ hS ?_
         · intro o ho
           replace ho := Option.some.inj (Eq.trans (Eq.symm ho) rfl)
           subst ho
           refine Or.inl ⟨by rfl, ?_⟩
           intro w hSw
           obtain ⟨q0, q1, q2⟩ := hSw
           go_simp
         simp only [AP]
         refine take_at (i := 4) (d := some 71) (v := .pointer (some ⟨tg, i * 3 + 1, none⟩)) (by kernel_rfl) (by kernel_rfl) (by kernel_rfl) (by kernel_rfl) (fun _ _ _ h => h) ?_ hS ?_
         · intro o ho
           replace ho := Option.some.inj (Eq.trans (Eq.symm ho) rfl)
           subst ho
           refine Or.inl ⟨by rfl, ?_⟩
           intro w hSw
           obtain ⟨q0, q1, q2⟩ := hSw
           go_simp
         simp only [AP]
         refine take_at (i := 5) (d := some 72) (v := .int .i64 (ty : Nat)) (by kernel_rfl) (by kernel_rfl) (by kernel_rfl) (by kernel_rfl) (fun _ _ _ h => h) ?_ hS ?_
         · intro o ho
           replace ho := Option.some.inj (Eq.trans (Eq.symm ho) rfl)
           subst ho
           refine Or.inl ⟨by rfl, ?_⟩
           intro w hSw
           obtain ⟨q0, q1, q2⟩ := hSw
           go_simp
         simp only [AP]
         refine take_at (i := 6) (d := some 73) (v := .slice (some ⟨tg, 0, none⟩) L c8) (by kernel_rfl) (by kernel_rfl) (by kernel_rfl) (by kernel_rfl) (fun _ _ _ h => h) ?_ hS ?_
         · intro o ho
           replace ho := Option.some.inj (Eq.trans (Eq.symm ho) rfl)
           subst ho
           refine Or.inl ⟨by rfl, ?_⟩
           intro w hSw
           obtain ⟨q0, q1, q2⟩ := hSw
           go_simp
         simp only [AP]
         refine take_at (i := 7) (d := some 74) (v := .int .i64 (i : Nat)) (by kernel_rfl) (by kernel_rfl) (by kernel_rfl) (by kernel_rfl) (fun _ _ _ h => h) ?_ hS ?_
         · intro o ho
           replace ho := Option.some.inj (Eq.trans (Eq.symm ho) rfl)
           subst ho
           refine Or.inl ⟨by rfl, ?_⟩
           intro w hSw
           obtain ⟨q0, q1, q2⟩ := hSw
           go_simp
         simp only [AP]
         refine take_at (i := 8) (d := some 75) (v := .pointer (some ⟨tg, i * 3, none⟩)) (by kernel_rfl) (by kernel_rfl) (by kernel_rfl) (by kernel_rfl) (fun _ _ _ h => h) ?_ hS ?_
         · intro o ho
           replace ho := Option.some.inj (Eq.trans (Eq.symm ho) rfl)
           subst ho
           refine Or.inl ⟨by rfl, ?_⟩
           intro w hSw
           obtain ⟨q0, q1, q2⟩ := hSw
           go_simp
         simp only [AP]
         refine take_at (i := 9) (d := some 76) (v := .pointer (some ⟨tg, i * 3 + 2, none⟩)) (by kernel_rfl) (by kernel_rfl) (by kernel_rfl) (by kernel_rfl) (fun _ _ _ h => h) ?_ hS ?_
         · intro o ho
           replace ho := Option.some.inj (Eq.trans (Eq.symm ho) rfl)
           subst ho
           refine Or.inl ⟨by rfl, ?_⟩
           intro w hSw
           obtain ⟨q0, q1, q2⟩ := hSw
           go_simp
         simp only [AP]
         refine take_at (i := 10) (d := some 77) (v := .int .i64 (tz : Nat)) (by kernel_rfl) (by kernel_rfl) (by kernel_rfl) (by kernel_rfl) (fun _ _ _ h => h) ?_ hS ?_
         · intro o ho
           replace ho := Option.some.inj (Eq.trans (Eq.symm ho) rfl)
           subst ho
           refine Or.inl ⟨by rfl, ?_⟩
           intro w hSw
           obtain ⟨q0, q1, q2⟩ := hSw
           go_simp
         simp only [AP]
         refine take_at (i := 11) (d := some 78) (v := .slice (some ⟨tg, 0, none⟩) L c8) (by kernel_rfl) (by kernel_rfl) (by kernel_rfl) (by kernel_rfl) (fun _ _ _ h => h) ?_ hS ?_
         · intro o ho
           replace ho := Option.some.inj (Eq.trans (Eq.symm ho) rfl)
           subst ho
           refine Or.inl ⟨by rfl, ?_⟩
           intro w hSw
           obtain ⟨q0, q1, q2⟩ := hSw
           go_simp
         simp only [AP]
         refine take_at (i := 12) (d := some 79) (v := .int .i64 (i : Nat)) (by kernel_rfl) (by kernel_rfl) (by kernel_rfl) (by kernel_rfl) (fun _ _ _ h => h) ?_ hS ?_
         · intro o ho
           replace ho := Option.some.inj (Eq.trans (Eq.symm ho) rfl)
           subst ho
           refine Or.inl ⟨by rfl, ?_⟩
           intro w hSw
           obtain ⟨q0, q1, q2⟩ := hSw
           go_simp
         simp only [AP]
         refine take_at (i := 13) (d := some 80) (v := .pointer (some ⟨tg, i * 3, none⟩)) (by kernel_rfl) (by kernel_rfl) (by kernel_rfl) (by kernel_rfl) (fun _ _ _ h => h) ?_ hS ?_
         · intro o ho
           replace ho := Option.some.inj (Eq.trans (Eq.symm ho) rfl)
           subst ho
           refine Or.inl ⟨by rfl, ?_⟩
           intro w hSw
           obtain ⟨q0, q1, q2⟩ := hSw
           go_simp
         simp only [AP]
         refine take_at (i := 14) (d := some 81) (v := .pointer (some ⟨tg, i * 3, none⟩)) (by kernel_rfl) (by kernel_rfl) (by kernel_rfl) (by kernel_rfl) (fun _ _ _ h => h) ?_ hS ?_
         · intro o ho
           replace ho := Option.some.inj (Eq.trans (Eq.symm ho) rfl)
           subst ho
           refine Or.inl ⟨by rfl, ?_⟩
           intro w hSw
           obtain ⟨q0, q1, q2⟩ := hSw
           go_simp
         simp only [AP]
         refine take_at (i := 15) (d := some 82) (v := .int .i64 (tx : Nat)) (by kernel_rfl) (by kernel_rfl) (by kernel_rfl) (by kernel_rfl) (fun _ _ _ h => h) ?_ hS ?_
         · intro o ho
           replace ho := Option.some.inj (Eq.trans (Eq.symm ho) rfl)
           subst ho
           refine Or.inl ⟨by rfl, ?_⟩
           intro w hSw
           obtain ⟨q0, q1, q2⟩ := hSw
           go_simp
         simp only [AP]
         refine calA 16 fun KF hK => ?_
         rw [if_pos (by rfl)]
         go_simp
         refine (kill_any HU0.out.m HSt.out.t3 (ty : Nat) (tz : Nat) (tx : Nat)).mono ?_
         rintro e w7 ⟨rfl, A7, v7, hM7, hf7, _, h70⟩
         have hk0 := kiE_yes HSt.out.uq HWy.out
         obtain ⟨a', b', c', e1, e2, e3, _, hw7, hc7⟩ := h70 hk0
         obtain rfl : ty = a' := by omega
         obtain rfl : tz = b' := by omega
         obtain rfl : tx = c' := by omega
         rw [hk0]
         have HU7 := Lib.hid (HU0.out.step hM7 hf7)
         have HR7 := Lib.hid (redo HSt.out (fun a b c h => HU0.out.m.g.nums a b c h) hM7.g.uq (hM7.g.len) HWx.out hw7 hc7)
         clear hM7 hf7 h70 hk0 hw7 hc7 e1 e2 e3
         go_wp2_with fail
         refine hK.out _ _ (tri_cells HU7.out.r8 HX.out) ?_
         clear hS
         intro hS
         clear hK KF
         try simp only [AP]
         refine take_at (i := 17) (d := some 84) (v := .bool false) (by kernel_rfl) (by kernel_rfl) (by kernel_rfl) (by kernel_rfl) (fun _ _ _ h => h) ?_ hS ?_
         · intro o ho
           replace ho := Option.some.inj (Eq.trans (Eq.symm ho) rfl)
           subst ho
           refine Or.inl ⟨by rfl, ?_⟩
           intro w hSw
           obtain ⟨q0, q1, q2⟩ := hSw
           go_simp
         simp only [AP]
         refine take_at (i := 18) (d := some 85) (v := .bool false) (by kernel_rfl) (by kernel_rfl) (by kernel_rfl) (by kernel_rfl) (fun _ _ _ h => h) ?_ hS ?_
         · intro o ho
           replace ho := Option.some.inj (Eq.trans (Eq.symm ho) rfl)
           subst ho
           refine Or.inl ⟨by rfl, ?_⟩
           intro w hSw
           obtain ⟨q0, q1, q2⟩ := hSw
           go_simp
         simp only [AP]
         refine take_at (i := 19) (d := some 86) (v := .pointer (some ⟨mB, 0, none⟩)) (by kernel_rfl) (by kernel_rfl) (by kernel_rfl) (by kernel_rfl) (fun _ _ _ h => h) ?_ hS ?_
         · intro o ho
           replace ho := Option.some.inj (Eq.trans (Eq.symm ho) rfl)
           subst ho
           refine Or.inl ⟨by rfl, ?_⟩
           intro w hSw
           obtain ⟨q0, q1, q2⟩ := hSw
           go_simp
         simp only [AP]
         refine take_at (i := 20) (d := some 87) (v := .slice (some ⟨tg, 0, none⟩) L c8) (by kernel_rfl) (by kernel_rfl) (by kernel_rfl) (by kernel_rfl) (fun _ _ _ h => h) ?_ hS ?_
         · intro o ho
           replace ho := Option.some.inj (Eq.trans (Eq.symm ho) rfl)
           subst ho
           refine Or.inl ⟨by rfl, ?_⟩
           intro w hSw
           obtain ⟨q0, q1, q2⟩ := hSw
           go_simp
         simp only [AP]
         refine take_at (i := 21) (d := some 88) (v := .int .i64 (i : Nat)) (by kernel_rfl) (by kernel_rfl) (by kernel_rfl) (by kernel_rfl) (fun _ _ _ h => h) ?_ hS ?_
         · intro o ho
           replace ho := Option.some.inj (Eq.trans (Eq.symm ho) rfl)
           subst ho
           refine Or.inl ⟨by rfl, ?_⟩
           intro w hSw
           obtain ⟨q0, q1, q2⟩ := hSw
           go_simp
         simp only [AP]
         refine take_at (i := 22) (d := some 89) (v := .pointer (some ⟨tg, i * 3, none⟩)) (by kernel_rfl) (by kernel_rfl) (by kernel_rfl) (by kernel_rfl) (fun _ _ _ h => h) ?_ hS ?_
         · intro o ho
           replace ho := Option.some.inj (Eq.trans (Eq.symm ho) rfl)
           subst ho
           refine Or.inl ⟨by rfl, ?_⟩
           intro w hSw
           obtain ⟨q0, q1, q2⟩ := hSw
           go_simp
         simp only [AP]
         refine take_at (i := 23) (d := some 90) (v := .pointer (some ⟨tg, i * 3, none⟩)) (by kernel_rfl) (by kernel_rfl) (by kernel_rfl) (by kernel_rfl) (fun _ _ _ h => h) ?_ hS ?_
         · intro o ho
           replace ho := Option.some.inj (Eq.trans (Eq.symm ho) rfl)
           subst ho
           refine Or.inl ⟨by rfl, ?_⟩
           intro w hSw
           obtain ⟨q0, q1, q2⟩ := hSw
           go_simp
         simp only [AP]
         refine take_at (i := 24) (d := some 91) (v := .int .i64 (tx : Nat)) (by kernel_rfl) (by kernel_rfl) (by kernel_rfl) (by kernel_rfl) (fun _ _ _ h => h) ?_ hS ?_
         · intro o ho
           replace ho := Option.some.inj (Eq.trans (Eq.symm ho) rfl)
           subst ho
           refine Or.inl ⟨by rfl, ?_⟩
           intro w hSw
           obtain ⟨q0, q1, q2⟩ := hSw
           go_simp
         simp only [AP]
         refine take_at (i := 25) (d := some 92) (v := .slice (some ⟨tg, 0, none⟩) L c8) (by kernel_rfl) (by kernel_rfl) (by kernel_rfl) (by kernel_rfl) (fun _ _ _ h => h) ?_ hS ?_
         · intro o ho
           replace ho := Option.some.inj (Eq.trans (Eq.symm ho) rfl)
           subst ho
           refine Or.inl ⟨by rfl, ?_⟩
           intro w hSw
           obtain ⟨q0, q1, q2⟩ := hSw
           go_simp
         simp only [AP]
         refine take_at (i := 26) (d := some 93) (v := .int .i64 (i : Nat)) (by kernel_rfl) (by kernel_rfl) (by kernel_rfl) (by kernel_rfl) (fun _ _ _ h => h) ?_ hS ?_
         · intro o ho
           replace ho := Option.some.inj (Eq.trans (Eq.symm ho) rfl)
           subst ho
           refine Or.inl ⟨by rfl, ?_⟩
           intro w hSw
           obtain ⟨q0, q1, q2⟩ := hSw
           go_simp
         simp only [AP]
         refine take_at (i := 27) (d := some 94) (v := .pointer (some ⟨tg, i * 3, none⟩)) (by kernel_rfl) (by kernel_rfl) (by kernel_rfl) (by kernel_rfl) (fun _ _ _ h => h) ?_ hS ?_
         · intro o ho
           replace ho := Option.some.inj (Eq.trans (Eq.symm ho) rfl)
           subst ho
           refine Or.inl ⟨by rfl, ?_⟩
           intro w hSw
           obtain ⟨q0, q1, q2⟩ := hSw
           go_simp
         simp only [AP]
         refine take_at (i := 28) (d := some 95) (v := .pointer (some ⟨tg, i * 3 + 1, none⟩)) (by kernel_rfl) (by kernel_rfl) (by kernel_rfl) (by kernel_rfl) (fun _ _ _ h => h) ?_ hS ?_
         · intro o ho
           replace ho := Option.some.inj (Eq.trans (Eq.symm ho) rfl)
           subst ho
           refine Or.inl ⟨by rfl, ?_⟩
           intro w hSw
           obtain ⟨q0, q1, q2⟩ := hSw
           go_simp
         simp only [AP]
         refine take_at (i := 29) (d := some 96) (v := .int .i64 (ty : Nat)) (by kernel_rfl) (by kernel_rfl) (by kernel_rfl) (by kernel_rfl) (fun _ _ _ h => h) ?_ hS ?_
         · intro o ho
           replace ho := Option.some.inj (Eq.trans (Eq.symm ho) rfl)
           subst ho
           refine Or.inl ⟨by rfl, ?_⟩
           intro w hSw
           obtain ⟨q0, q1, q2⟩ := hSw
           go_simp
         simp only [AP]
         refine take_at (i := 30) (d := some 97) (v := .slice (some ⟨tg, 0, none⟩) L c8) (by kernel_rfl) (by kernel_rfl) (by kernel_rfl) (by kernel_rfl) (fun _ _ _ h => h) ?_ hS ?_
         · intro o ho
           replace ho := Option.some.inj (Eq.trans (Eq.symm ho) rfl)
           subst ho
           refine Or.inl ⟨by rfl, ?_⟩
           intro w hSw
           obtain ⟨q0, q1, q2⟩ := hSw
           go_simp
         simp only [AP]
         refine take_at (i := 31) (d := some 98) (v := .int .i64 (i : Nat)) (by kernel_rfl) (by kernel_rfl) (by kernel_rfl) (by kernel_rfl) (fun _ _ _ h => h) ?_ hS ?_
         · intro o ho
           replace ho := Option.some.inj (Eq.trans (Eq.symm ho) rfl)
           subst ho
           refine Or.inl ⟨by rfl, ?_⟩
           intro w hSw
           obtain ⟨q0, q1, q2⟩ := hSw
           go_simp
         simp only [AP]
         refine take_at (i := 32) (d := some 99) (v := .pointer (some ⟨tg, i * 3, none⟩)) (by kernel_rfl) (by kernel_rfl) (by kernel_rfl) (by kernel_rfl) (fun _ _ _ h => h) ?_ hS ?_
         · intro o ho
           replace ho := Option.some.inj (Eq.trans (Eq.symm ho) rfl)
           subst ho
           refine Or.inl ⟨by rfl, ?_⟩
           intro w hSw
           obtain ⟨q0, q1, q2⟩ := hSw
           go_simp
         simp only [AP]
         refine take_at (i := 33) (d := some 100) (v := .pointer (some ⟨tg, i * 3 + 2, none⟩)) (by kernel_rfl) (by kernel_rfl) (by kernel_rfl) (by kernel_rfl) (fun _ _ _ h => h) ?_ hS ?_
         · intro o ho
           replace ho := Option.some.inj (Eq.trans (Eq.symm ho) rfl)
           subst ho
           refine Or.inl ⟨by rfl, ?_⟩
           intro w hSw
           obtain ⟨q0, q1, q2⟩ := hSw
           go_simp
         simp only [AP]
         refine take_at (i := 34) (d := some 101) (v := .int .i64 (tz : Nat)) (by kernel_rfl) (by kernel_rfl) (by kernel_rfl) (by kernel_rfl) (fun _ _ _ h => h) ?_ hS ?_
         · intro o ho
           replace ho := Option.some.inj (Eq.trans (Eq.symm ho) rfl)
           subst ho
           refine Or.inl ⟨by rfl, ?_⟩
           intro w hSw
           obtain ⟨q0, q1, q2⟩ := hSw
           go_simp
         simp only [AP]
         refine calA 35 fun KF hK => ?_
         rw [if_pos (by rfl)]
         go_simp
         refine (make_any HU7.out.m HWd.out (tx : Nat) (ty : Nat) (tz : Nat)).mono ?_
         rintro e w8 ⟨rfl, v8', hM8, hf8⟩
         rw [mkS_yes HR7.out.1] at hM8
         rw [HR7.out.1]
         have HU8 := Lib.hid (HU7.out.step hM8 hf8)
         clear hM8 hf8
         go_wp2_with fail
         refine hK.out _ _ (tri_cells HU8.out.r8 HX.out) ?_
         clear hS
         intro hS
         clear hK KF
         try simp only [AP]
         refine take_at (i := 36) (d := some 103) (v := .bool false) (by kernel_rfl) (by kernel_rfl) (by kernel_rfl) (by kernel_rfl) (fun _ _ _ h => h) ?_ hS ?_
         · intro o ho
           replace ho := Option.some.inj (Eq.trans (Eq.symm ho) rfl)
           subst ho
           refine Or.inl ⟨by rfl, ?_⟩
           intro w hSw
           obtain ⟨q0, q1, q2⟩ := hSw
           go_simp
         simp only [AP]
         refine take_at (i := 37) (d := some 104) (v := .bool false) (by kernel_rfl) (by kernel_rfl) (by kernel_rfl) (by kernel_rfl) (fun _ _ _ h => h) ?_ hS ?_
         · intro o ho
           replace ho := Option.some.inj (Eq.trans (Eq.symm ho) rfl)
           subst ho
           refine Or.inl ⟨by rfl, ?_⟩
           intro w hSw
           obtain ⟨q0, q1, q2⟩ := hSw
           go_simp
         simp only [AP]
         refine wpAnyH_done (by kernel_rfl) ?_ _
         clear hS
         go_wp2
         exact ⟨⟨i + 1, by omega, by go_num, Lib.hid ⟨_, _, _, HU8.out, HR7.out.2.1, fun a b c => (HR7.out.2.2 a b c).trans (HSame.out a b c)⟩⟩, by simp [intOf]; omega⟩
      · obtain rfl : i = L := by omega
        have HT8 := Lib.hid (tris_same HSt.out.uq HUA.out HSame.out (HSt.out.len.trans HlA.out.symm))
        have HE8 := Lib.hid (edges_same HSt.out.uq HUA.out HSame.out (HSt.out.len.trans HlA.out.symm))
        as_aux_lemma =>
         go_wp2_with fail
         refine (tris_m HUr.out.m).mono ?_
         rintro e w7 ⟨v7, rfl, hr7, hb7⟩
         rw [HT8.out] at hr7
         have HU7 := Lib.hid (HUr.out.later hb7)
         have HR7 := Lib.hid hr7
         clear hr7 hb7
         go_wp2_with fail
         refine (sameTris_eq HR7.out HU7.out.r8 (by have := HLn.out; omega)).mono ?_
         rintro e w8 ⟨rfl, hb8⟩
         have HU8 := Lib.hid (HU7.out.later hb8)
         clear hb8
         go_wp2_with fail
         refine (edges_m HU8.out.m).mono ?_
         rintro e w9 ⟨v9', rfl, hr9, hb9⟩
         rw [HE8.out] at hr9
         have HU9 := Lib.hid (HU8.out.later hb9)
         have HR9 := Lib.hid hr9
         clear hr9 hb9
         go_wp2_with fail
         refine (samePairs_eq HR9.out HU9.out.r9 HEl.out).mono ?_
         rintro e w10 ⟨rfl, hb10⟩
         have HU10 := Lib.hid (HU9.out.later hb10)
         clear hb10
         go_wp2
         go_ret
         exact ⟨rfl, HBf.out.trans (HU10.out.b.mono HBf.out.size)⟩
end
end Go.Proofs.YtcgbnjoajieggaaGreat
