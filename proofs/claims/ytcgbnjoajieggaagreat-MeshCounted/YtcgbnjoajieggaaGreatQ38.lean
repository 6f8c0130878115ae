/- Own texts, put together: Mx My Mz Mza Mzb Mzc Mca Mcd. -/
import Derived.Test.YtcgbnjoajieggaaGreatQ3
import Derived.Test.YtcgbnjoajieggaaGreatQ33
import Derived.Test.YtcgbnjoajieggaaGreatQ37
namespace Go.Proofs.YtcgbnjoajieggaaGreat
/- Package mesh: works. -/
section
open Go.RowKit Go.Shelf Go.Lib
attribute [local go_sem ↓] Go.wp_at_zero Go.wp_at_succ
attribute [local go_sem] run_store_float
set_option maxRecDepth 100000
theorem eqTri (a b c d e f : Int) (w : World) : (binOp .eql 30 (.agg #[.int .i64 a, .int .i64 b, .int .i64 c]) (.agg #[.int .i64 d, .int .i64 e, .int .i64 f])).run Tryz.prog w = .ok (.bool (a == d && b == e && c == f)) w := by
 have hs : (Go.sizeOf 3).run Tryz.prog w = .ok 1 w := by go_simp
 have e1 := eqIn a d w 9998
 have e2 := eqIn b e w 9998
 have e3 := eqIn c f w 9998
 have p1 : ∀ x y z : Int, (part 3 #[.int .i64 x, .int .i64 y, .int .i64 z] 0).run Tryz.prog w = .ok (.int .i64 x) w := fun x y z => by go_simp
 have p2 : ∀ x y z : Int, (part 3 #[.int .i64 x, .int .i64 y, .int .i64 z] 1).run Tryz.prog w = .ok (.int .i64 y) w := fun x y z => by go_simp
 have p3 : ∀ x y z : Int, (part 3 #[.int .i64 x, .int .i64 y, .int .i64 z] 2).run Tryz.prog w = .ok (.int .i64 z) w := fun x y z => by go_simp
 have h : (Op.equalIn 10000 30 (.agg #[.int .i64 a, .int .i64 b, .int .i64 c]) (.agg #[.int .i64 d, .int .i64 e, .int .i64 f])).run Tryz.prog w = .ok (a == d && b == e && c == f) w := by
   rw [Op.equalIn]
   simp only [Sem.run_bind, run_underlying Tryz.underlying30, Result.andThen_ok]
   rw [hs]
   simp only [Result.andThen_ok]
   by_cases h1 : a = d
   · by_cases h2 : b = e
     · by_cases h3 : c = f
       · subst h1 h2 h3
         simp [Std.Legacy.Range.forIn_eq_forIn_range', Std.Legacy.Range.size, List.range', List.forIn_cons, Sem.run_bind, e1, e2, e3, p1, p2, p3]
       · have q : (c == f) = false := by simpa using h3
         rw [q] at e3
         subst h1 h2
         simp [Std.Legacy.Range.forIn_eq_forIn_range', Std.Legacy.Range.size, List.range', List.forIn_cons, Sem.run_bind, e1, e2, e3, p1, p2, p3, q]
     · have q : (b == e) = false := by simpa using h2
       rw [q] at e2
       subst h1
       simp [Std.Legacy.Range.forIn_eq_forIn_range', Std.Legacy.Range.size, List.range', List.forIn_cons, Sem.run_bind, e1, e2, p1, p2, q]
   · have q : (a == d) = false := by simpa using h1
     rw [q] at e1
     simp [Std.Legacy.Range.forIn_eq_forIn_range', Std.Legacy.Range.size, List.range', List.forIn_cons, Sem.run_bind, e1, p1, q]
 simp only [binOp]
 simp [Op.equal, Op.maxDepth, h]
theorem eqPair (a b c d : Int) (w : World) : (binOp .eql 71 (.agg #[.int .i64 a, .int .i64 b]) (.agg #[.int .i64 c, .int .i64 d])).run Tryz.prog w = .ok (.bool (a == c && b == d)) w := by
 have h := eqK2 a b c d w
 unfold k2 at h
 simp only [binOp]
 simp [Op.equal, Op.maxDepth, h]
def two : Nat := 4611686018427387904
def fsq (k : Nat) : Nat × Nat := if k = 1 then (4611686018427387904, 0) else if k = 2 then (0, 4611686018427387904) else if k = 3 then (4611686018427387904, 4611686018427387904) else (0, 0)
theorem square_any (W : World) : Calls Tryz.prog 11 #[] W fun e w' => e = .returned (.slice (some ⟨W.heap.size, 0, none⟩) 4 4) ∧ Ps w' (.slice (some ⟨W.heap.size, 0, none⟩) 4 4) 4 fsq ∧ Below W.heap.size W w' := by
 have HB : Hid (Below W.heap.size W (W.alloc (.cells #[.float .f64 0, .float .f64 0, .float .f64 4611686018427387904, .float .f64 0, .float .f64 0, .float .f64 4611686018427387904, .float .f64 4611686018427387904, .float .f64 4611686018427387904] 36))) := Lib.hid ((Below.refl _ _).alloc (Nat.le_refl _) _)
 have kc := CB.new W #[.float .f64 0, .float .f64 0, .float .f64 4611686018427387904, .float .f64 0, .float .f64 0, .float .f64 4611686018427387904, .float .f64 4611686018427387904, .float .f64 4611686018427387904] 36
 have HP := Lib.hid (show Ps _ (.slice (some ⟨W.heap.size, 0, none⟩) 4 4) 4 fsq from ⟨⟨_, 4, rfl, Nat.le_refl _, by omega, Or.inr ⟨W.heap.size, 0, rfl, kc.lt, fun k hk => by
   rcases (show k = 0 ∨ k = 1 ∨ k = 2 ∨ k = 3 by omega) with rfl | rfl | rfl | rfl
   · exact ⟨kc.cell 0 (by simp), kc.cell 1 (by simp)⟩
   · exact ⟨kc.cell 2 (by simp), kc.cell 3 (by simp)⟩
   · exact ⟨kc.cell 4 (by simp), kc.cell 5 (by simp)⟩
   · exact ⟨kc.cell 6 (by simp), kc.cell 7 (by simp)⟩⟩⟩, fun k => by unfold fsq WdP; split <;> (try split) <;> (try split) <;> decide⟩)
 clear kc
 go_enter Tryz.func11, Tryz.ntmps11
 go_wp2
 go_ret
 exact ⟨rfl, HP.out, HB.out⟩
def sqP : List (Nat × Nat) := ptsF (fun k => plp (fsq k)) 4
theorem sqP_eq : sqP = [(0, 0), (4611686018427387904, 0), (0, 4611686018427387904), (4611686018427387904, 4611686018427387904)] := by decide +kernel
def sqA1 : List (List Wg) := [[(1, 2)], [(2, 0)], [(0, 1)], []]
def sqA2 : List (List Wg) := [[(1, 2)], [(2, 0), (3, 2)], [(0, 1), (1, 3)], [(2, 1)]]
theorem sqA1_eq : mkA (List.replicate 4 []) 0 1 2 = sqA1 := by decide
theorem sqA2_eq : mkA sqA1 1 3 2 = sqA2 := by decide
theorem sg_sq1 : sgP sqP 0 1 2 = 1 := by
 rw [sqP_eq]; exact sg3_is (by decide +kernel)
theorem sg_sq2 : sgP sqP 1 3 2 = 1 := by
 rw [sqP_eq]; exact sg3_is (by decide +kernel)
theorem mk_sq1 : mkE sqP (List.replicate 4 []) (0 : Nat) (1 : Nat) (2 : Nat) = 0 := by
 unfold mkE
 rw [if_pos (by rw [sqP_eq]; decide), Int.toNat_natCast, Int.toNat_natCast, Int.toNat_natCast, sg_sq1, if_neg (by omega), if_neg (by decide)]
theorem mk_sq2 : mkE sqP sqA1 (1 : Nat) (3 : Nat) (2 : Nat) = 0 := by
 unfold mkE
 rw [if_pos (by rw [sqP_eq]; decide), Int.toNat_natCast, Int.toNat_natCast, Int.toNat_natCast, sg_sq2, if_neg (by omega), if_neg (by decide)]
theorem all_sq {z r : Int} (h : AllR 4 fsq z r) : r = 0 := h.ok.2 ⟨by omega, fun k hk => by
 rcases (show k = 0 ∨ k = 1 ∨ k = 2 ∨ k = 3 by omega) with rfl | rfl | rfl | rfl
 · show Pt 0 0; decide +kernel
 · show Pt 4611686018427387904 0; decide +kernel
 · show Pt 0 4611686018427387904; decide +kernel
 · show Pt 4611686018427387904 4611686018427387904; decide +kernel⟩
theorem tris_sq : trisL sqA2 = [(0, 1, 2), (1, 3, 2)] := by
 unfold trisL toldK srt_tri
 simp [sqA2, List.range_succ, fTri]
theorem bord_sq : bordL sqA2 = [(0, 1), (1, 3), (2, 0), (3, 2)] := by
 have p1 : plc sqA2 1 0 = none := by decide
 have p2 : plc sqA2 2 1 = some 1 := by decide
 have p3 : plc sqA2 3 1 = none := by decide
 have p4 : plc sqA2 0 2 = none := by decide
 have p5 : plc sqA2 1 2 = some 0 := by decide
 have p6 : plc sqA2 2 3 = none := by decide
 unfold bordL toldK srt_pair
 simp only [show sqA2.length = 4 from rfl, List.range_succ, List.range_zero]
 simp [fBord, show sqA2[0]? = some [(1, 2)] from rfl, show sqA2[1]? = some [(2, 0), (3, 2)] from rfl, show sqA2[2]? = some [(0, 1), (1, 3)] from rfl, show sqA2[3]? = some [(2, 1)] from rfl, p1, p2, p3, p4, p5, p6]
theorem told_len {α : Type} (f : Nat → Wg → List α) (s : List α → List α) (hs : ∀ l, (s l).length = l.length) (A : List (List Wg)) (j : Nat) : (toldK f s A j).length = ((List.range j).map fun a => ((A.getD a []).flatMap (f a)).length).sum := by
 unfold toldK
 rw [List.length_flatMap]
 congr 1
 exact List.map_congr_left (fun a _ => hs _)
theorem edges_sq : (edgesL sqA2).length = 5 := by
 unfold edgesL
 rw [told_len _ _ srt_pair_len]
 decide
end

/- Package mesh: works holds. -/
section
open Go.RowKit Go.Shelf Go.Lib
attribute [local go_sem ↓] Go.wp_at_zero Go.wp_at_succ
set_option maxRecDepth 100000
theorem rk_tri {W : World} {B : Nat} {v : Value} {xs : List (Nat × Nat × Nat)} (h : Rk enc_tri 30 3 W B v xs) : ∃ a c, v = .slice a xs.length c ∧ ∀ (i : Nat) (x : Nat × Nat × Nat), xs[i]? = some x → ∃ g, a = some ⟨g, 0, none⟩ ∧ B ≤ g ∧ g < W.heap.size ∧ W.cell? ⟨g, i * 3, none⟩ = some (.int .i64 (x.1 : Nat)) ∧ W.cell? ⟨g, i * 3 + 1, none⟩ = some (.int .i64 (x.2.1 : Nat)) ∧ W.cell? ⟨g, i * 3 + 2, none⟩ = some (.int .i64 (x.2.2 : Nat)) := by
 rcases h.2 with ⟨rfl, h0⟩ | ⟨g, cap, cur, rfl, hB, hg, _⟩
 · refine ⟨none, 0, by rw [h0], fun i x hx => ?_⟩
   have := (List.getElem?_eq_some_iff.1 hx).1
   omega
 · refine ⟨_, cap, rfl, fun i x hx => ⟨g, rfl, hB, (Array.getElem?_eq_some_iff.1 hg).1, ?_⟩⟩
   have hi := (List.getElem?_eq_some_iff.1 hx).1
   have f : ∀ r, r < 3 → (xs.flatMap enc_tri)[i * 3 + r]? = (enc_tri x)[r]? := fun r hr => by
     rw [flat_at enc_tri enc_tri_len (by decide), show (i * 3 + r) / 3 = i by omega, show (i * 3 + r) % 3 = r by omega, hx]; rfl
   refine ⟨?_, ?_, ?_⟩
   · have e := f 0 (by omega)
     rw [Nat.add_zero] at e
     rw [World.ownsRow.cellAt h _ (by omega), e]; rfl
   · rw [World.ownsRow.cellAt h _ (by omega), f 1 (by omega)]; rfl
   · rw [World.ownsRow.cellAt h _ (by omega), f 2 (by omega)]; rfl
theorem rk_pair {W : World} {B : Nat} {v : Value} {xs : List (Nat × Nat)} (h : Rk enc_pair 71 2 W B v xs) : ∃ a c, v = .slice a xs.length c ∧ ∀ (i : Nat) (x : Nat × Nat), xs[i]? = some x → ∃ g, a = some ⟨g, 0, none⟩ ∧ B ≤ g ∧ g < W.heap.size ∧ W.cell? ⟨g, i * 2, none⟩ = some (.int .i64 (x.1 : Nat)) ∧ W.cell? ⟨g, i * 2 + 1, none⟩ = some (.int .i64 (x.2 : Nat)) := by
 rcases h.2 with ⟨rfl, h0⟩ | ⟨g, cap, cur, rfl, hB, hg, _⟩
 · refine ⟨none, 0, by rw [h0], fun i x hx => ?_⟩
   have := (List.getElem?_eq_some_iff.1 hx).1
   omega
 · refine ⟨_, cap, rfl, fun i x hx => ⟨g, rfl, hB, (Array.getElem?_eq_some_iff.1 hg).1, ?_⟩⟩
   have hi := (List.getElem?_eq_some_iff.1 hx).1
   have f : ∀ r, r < 2 → (xs.flatMap enc_pair)[i * 2 + r]? = (enc_pair x)[r]? := fun r hr => by
     rw [flat_at enc_pair enc_pair_len (by decide), show (i * 2 + r) / 2 = i by omega, show (i * 2 + r) % 2 = r by omega, hx]; rfl
   refine ⟨?_, ?_⟩
   · have e := f 0 (by omega)
     rw [Nat.add_zero] at e
     rw [World.ownsRow.cellAt h _ (by omega), e]; rfl
   · rw [World.ownsRow.cellAt h _ (by omega), f 1 (by omega)]; rfl
set_option maxHeartbeats 8000000 in
theorem works_any15 (W : World) : Calls Tryz.prog 9 #[] W fun e w' => e = .returned (.bool true) ∧ Below W.heap.size W w' := by
 have q1 := fun w => eqTri 1 3 2 1 3 2 w
 have q2 := fun w => eqPair 2 0 2 0 w
 go_enter Tryz.func9, Tryz.ntmps9
 go_wp2_with fail
 refine (square_any W).mono ?_
 rintro e w1 ⟨rfl, hP, hb⟩
 have H1 := Lib.hid (And.intro hP hb)
 clear hP hb
 go_wp2_with fail
 refine (new_any _ 4 fsq w1 H1.out.1).mono ?_
 rintro e w2 ⟨hn, hb⟩
 rcases hn with ⟨z, r, hr, ha, rfl⟩ | ⟨mB, x, _, rfl, hm, hm2, _, hM⟩
 · exact absurd (all_sq ha) hr
 have H2 := Lib.hid (And.intro hM (H1.out.2.trans (hb.mono H1.out.2.size)))
 have hwd : ∀ (i : Nat) (p : Nat × Nat), (ptsF (fun k => plp (fsq k)) 4)[i]? = some p → WdP p := fun i p hp => by
   have e : ptsF (fun k => plp (fsq k)) 4 = [(0, 0), (4611686018427387904, 0), (0, 4611686018427387904), (4611686018427387904, 4611686018427387904)] := sqP_eq
   rw [e] at hp
   have hi := (List.getElem?_eq_some_iff.1 hp).1
   simp only [List.length_cons, List.length_nil] at hi
   rcases (show i = 0 ∨ i = 1 ∨ i = 2 ∨ i = 3 by omega) with rfl | rfl | rfl | rfl <;> (simp at hp; subst hp; exact ⟨by decide, by decide⟩)
 have HSz := Lib.hid hb.size
 have HWd := Lib.hid hwd
 clear hb hm hm2 hM hwd
 go_wp2_with fail
 refine (make_any H2.out.1 HWd.out 0 1 2).mono ?_
 rintro e w3 ⟨rfl, v3, hM, hf⟩
 have e1 : mkE (ptsF (fun k => plp (fsq k)) 4) (List.replicate 4 []) 0 1 2 = 0 := mk_sq1
 have e2 : mkS (ptsF (fun k => plp (fsq k)) 4) (List.replicate 4 []) 0 1 2 = sqA1 := (mkS_yes (a := 0) (b := 1) (c := 2) mk_sq1).trans sqA1_eq
 rw [e2] at hM
 rw [e1]
 have H3 := Lib.hid (And.intro hM hf)
 clear hM hf e1 e2
 go_wp2_with fail
 refine (make_any H3.out.1 HWd.out 1 3 2).mono ?_
 rintro e w4 ⟨rfl, v4, hM, hf⟩
 have e1 : mkE (ptsF (fun k => plp (fsq k)) 4) sqA1 1 3 2 = 0 := mk_sq2
 have e2 : mkS (ptsF (fun k => plp (fsq k)) 4) sqA1 1 3 2 = sqA2 := (mkS_yes (a := 1) (b := 3) (c := 2) mk_sq2).trans sqA2_eq
 rw [e2] at hM
 rw [e1]
 have H4 := Lib.hid (And.intro hM hf)
 clear hM hf e1 e2
 go_wp2_with fail
 refine (count_any H4.out.1 (by decide)).mono ?_
 rintro e w' ⟨rfl, hq⟩
 rw [hq]
 clear hq w'
 rw [show ((cnt sqA2 / 3 : Nat) : Int) = 2 from by decide]
 go_wp2_with fail
 refine (apex_any H4.out.1 1 2).mono ?_
 rintro e w' ⟨rfl, hq⟩
 rw [hq]
 clear hq w'
 rw [show apx sqA2 1 2 = some 0 from by decide]
 go_wp2_with fail
 refine (apex_any H4.out.1 2 1).mono ?_
 rintro e w' ⟨rfl, hq⟩
 rw [hq]
 clear hq w'
 rw [show apx sqA2 2 1 = some 3 from by decide]
 go_wp2_with fail
 refine (tris_m H4.out.1).mono ?_
 rintro e w5 ⟨v5, rfl, hr, hb⟩
 rw [tris_sq] at hr
 have H5 := Lib.hid (And.intro hr hb)
 clear hr hb
 have HM5 := Lib.hid (H4.out.1.later H5.out.2)
 go_wp2_with fail
 refine (bord_m HM5.out.1).mono ?_
 rintro e w6 ⟨v6, rfl, hr, hb⟩
 rw [bord_sq] at hr
 have H6 := Lib.hid (And.intro hr hb)
 clear hr hb
 have HM6 := Lib.hid (HM5.out.1.later H6.out.2)
 obtain ⟨a5, cc5, hv5, k5⟩ := rk_tri H5.out.1
 obtain ⟨g5, rfl, _, _, s1, s2, s3⟩ := k5 1 (1, 3, 2) rfl
 subst hv5
 obtain ⟨a6, cc6, hv6, k6⟩ := rk_pair H6.out.1
 obtain ⟨g6, rfl, _, _, r1, r2⟩ := k6 2 (2, 0) rfl
 subst hv6
 have t1 : w6.cell? ⟨g5, 3, none⟩ = some (.int .i64 1) := cell_later H6.out.2 s1
 have t2 : w6.cell? ⟨g5, 4, none⟩ = some (.int .i64 3) := cell_later H6.out.2 s2
 have t3 : w6.cell? ⟨g5, 5, none⟩ = some (.int .i64 2) := cell_later H6.out.2 s3
 have HR := Lib.hid (And.intro r1 r2)
 have HT := Lib.hid (And.intro t1 (And.intro t2 t3))
 clear k5 k6 s1 s2 s3 r1 r2
 go_wp2_with fail
 refine (edges_m HM6.out.1).mono ?_
 rintro e w7 ⟨v7, rfl, hr, hb⟩
 obtain ⟨a7, cc7, hv7, _⟩ := rk_pair hr
 rw [edges_sq] at hv7
 subst hv7
 have HB7 := Lib.hid hb
 have HM7 := Lib.hid (HM6.out.1.later hb)
 have u1 : w7.cell? ⟨g6, 4, none⟩ = some (.int .i64 2) := cell_later hb HR.out.1
 have u2 : w7.cell? ⟨g6, 5, none⟩ = some (.int .i64 0) := cell_later hb HR.out.2
 clear hr hb t1 t2 t3
 go_wp2_with fail
 refine (spokes_one HM7.out.1 0 1 2 rfl (by decide) (by omega)).mono ?_
 rintro e w8 ⟨⟨p8, q8, rfl⟩, hb⟩
 have HB8 := Lib.hid hb
 clear hb
 go_wp2
 go_ret
 have s0 := H1.out.2.size
 have bw : Below w1.heap.size w2 w4 := (H3.out.2.below HSz.out (fun k hk => hk.1)).trans ((H4.out.2.below (Nat.le_trans HSz.out H3.out.2.size) (fun k hk => by rcases hk with hk | hk; exact hk.1; have := HSz.out; omega)))
 exact ⟨rfl, H2.out.2.trans ((bw.mono s0).trans ((H5.out.2.mono (by have := bw.size; have := HSz.out; omega)).trans ((H6.out.2.mono (by have := bw.size; have := HSz.out; have := H5.out.2.size; omega)).trans ((HB7.out.mono (by have := bw.size; have := HSz.out; have := H5.out.2.size; have := H6.out.2.size; omega)).trans (HB8.out.mono (by have := bw.size; have := HSz.out; have := H5.out.2.size; have := H6.out.2.size; have := HB7.out.size; omega))))))⟩
end

/- Package mesh, plain: what is told depends on the triangles alone; how many are told. -/
section
open Go.Sort
theorem srt_tri_perm {l m : List (Nat × Nat × Nat)} (h : l.Perm m) : srt_tri l = srt_tri m := by
 have tr : ∀ a b c : Nat × Nat × Nat, (!(ltOf cf_tri b a)) = true → (!(ltOf cf_tri c b)) = true → (!(ltOf cf_tri c a)) = true := fun a b c h1 h2 => by
   rw [Bool.not_eq_true', ← Bool.not_eq_true, lt_tri] at *; omega
 have tt : ∀ a b : Nat × Nat × Nat, ((!(ltOf cf_tri b a)) || (!(ltOf cf_tri a b))) = true := fun a b => by
   rw [Bool.or_eq_true, Bool.not_eq_true', Bool.not_eq_true', ← Bool.not_eq_true, ← Bool.not_eq_true, lt_tri, lt_tri]; omega
 refine List.Perm.eq_of_pairwise (le := fun x y => (!(ltOf cf_tri y x)) = true) (fun a b _ _ h1 h2 => ?_) (List.pairwise_mergeSort tr tt l) (List.pairwise_mergeSort tr tt m) ((List.mergeSort_perm _ _).trans (h.trans (List.mergeSort_perm _ _).symm))
 exact tot_tri a b (by simpa using h2) (by simpa using h1)
theorem fan_nodup {A : List (List Wg)} (hu : Uq A) (a : Nat) : (A.getD a []).Nodup := by
 cases h : A[a]? with
 | none => rw [List.getD_eq_getElem?_getD, h]; exact List.nodup_nil
 | some fan =>
   rw [List.getD_eq_getElem?_getD, h]
   exact List.Pairwise.of_map _ (fun x y hxy e => hxy (by rw [e])) (hu a fan h)
theorem fan_mem {A : List (List Wg)} {a : Nat} {w : Wg} : w ∈ A.getD a [] ↔ Hw A a w.1 w.2 := by
 unfold Hw
 cases h : A[a]? with
 | none =>
   rw [List.getD_eq_getElem?_getD, h]
   exact ⟨fun e => (by cases e), fun ⟨_, e, _⟩ => (by cases e)⟩
 | some fan =>
   rw [List.getD_eq_getElem?_getD, h]
   exact ⟨fun e => ⟨fan, rfl, e⟩, fun ⟨f, e, hm⟩ => (by cases e; exact hm)⟩
theorem fan_perm {A A' : List (List Wg)} (hu : Uq A) (hu' : Uq A') (h : ∀ x y z, Hw A x y z ↔ Hw A' x y z) (a : Nat) : (A.getD a []).Perm (A'.getD a []) :=
 (List.perm_ext_iff_of_nodup (fan_nodup hu a) (fan_nodup hu' a)).2 fun w => by rw [fan_mem, fan_mem, h]
theorem told_same {α : Type} (f g : Nat → Wg → List α) (s : List α → List α) (hs : ∀ l m : List α, l.Perm m → s l = s m) {A A' : List (List Wg)} (hu : Uq A) (hu' : Uq A') (h : ∀ x y z, Hw A x y z ↔ Hw A' x y z) (hf : ∀ a w, f a w = g a w) (j : Nat) : toldK f s A j = toldK g s A' j := by
 unfold toldK
 have e : f = g := funext fun a => funext fun w => hf a w
 subst e
 congr 1
 funext a
 exact hs _ _ ((fan_perm hu hu' h a).flatMap_right (f a))
theorem tris_same {A A' : List (List Wg)} (hu : Uq A) (hu' : Uq A') (h : ∀ x y z, Hw A x y z ↔ Hw A' x y z) (hl : A.length = A'.length) : trisL A = trisL A' := by
 unfold trisL
 rw [hl]
 exact told_same fTri fTri srt_tri (fun _ _ => srt_tri_perm) hu hu' h (fun _ _ => rfl) _
def rawT (A : List (List Wg)) : List (Nat × Nat × Nat) := (List.range A.length).flatMap fun a => (A.getD a []).flatMap (fTri a)
theorem raw_len (A : List (List Wg)) : (trisL A).length = (rawT A).length := by
 unfold trisL rawT
 rw [told_len _ _ srt_tri_len, List.length_flatMap]
theorem fTri_mem {a : Nat} {w : Wg} {t : Nat × Nat × Nat} : t ∈ fTri a w ↔ t = (a, w.1, w.2) ∧ a < w.1 ∧ a < w.2 := by
 unfold fTri
 by_cases h : a < w.1 ∧ a < w.2
 · rw [if_pos h, List.mem_singleton]; exact ⟨fun e => ⟨e, h⟩, fun e => e.1⟩
 · rw [if_neg h]; exact ⟨fun e => (by cases e), fun e => absurd e.2 h⟩
theorem raw_mem {A : List (List Wg)} {t : Nat × Nat × Nat} : t ∈ rawT A ↔ Hw A t.1 t.2.1 t.2.2 ∧ t.1 < t.2.1 ∧ t.1 < t.2.2 := by
 unfold rawT
 rw [List.mem_flatMap]
 constructor
 · rintro ⟨a, _, ht⟩
   obtain ⟨w, hw, ht⟩ := List.mem_flatMap.1 ht
   obtain ⟨rfl, h1⟩ := fTri_mem.1 ht
   exact ⟨fan_mem.1 hw, h1⟩
 · rintro ⟨h, h1⟩
   refine ⟨t.1, ?_, List.mem_flatMap.2 ⟨(t.2.1, t.2.2), fan_mem.2 h, fTri_mem.2 ⟨rfl, h1⟩⟩⟩
   obtain ⟨fan, hf, _⟩ := h
   exact List.mem_range.2 (List.getElem?_eq_some_iff.1 hf).1
theorem tris_mem {A : List (List Wg)} {t : Nat × Nat × Nat} : t ∈ trisL A ↔ Hw A t.1 t.2.1 t.2.2 ∧ t.1 < t.2.1 ∧ t.1 < t.2.2 := by
 rw [← raw_mem]
 unfold trisL toldK rawT
 rw [List.mem_flatMap, List.mem_flatMap]
 constructor
 · rintro ⟨a, h1, h2⟩; exact ⟨a, h1, (List.mergeSort_perm _ _).mem_iff.1 h2⟩
 · rintro ⟨a, h1, h2⟩; exact ⟨a, h1, (List.mergeSort_perm _ _).mem_iff.2 h2⟩
theorem raw_nodup {A : List (List Wg)} (hu : Uq A) : (rawT A).Nodup := by
 unfold rawT List.Nodup
 rw [List.pairwise_flatMap]
 refine ⟨fun a _ => ?_, ?_⟩
 · rw [List.pairwise_flatMap]
   refine ⟨fun w _ => by unfold fTri; split <;> simp, ?_⟩
   refine (fan_nodup hu a).imp fun {x y} hxy => ?_
   intro t h1 s h2 e
   subst e
   obtain ⟨rfl, _⟩ := fTri_mem.1 h1
   obtain ⟨e, _⟩ := fTri_mem.1 h2
   injection e with _ e
   injection e with e1 e2
   exact hxy (Prod.ext e1 e2)
 · refine (List.nodup_range (n := A.length)).imp fun {x y} hxy => ?_
   intro t h1 s h2 e
   subst e
   obtain ⟨w, _, h1⟩ := List.mem_flatMap.1 h1
   obtain ⟨u, _, h2⟩ := List.mem_flatMap.1 h2
   obtain ⟨rfl, _⟩ := fTri_mem.1 h1
   obtain ⟨e, _⟩ := fTri_mem.1 h2
   injection e with e _
   exact hxy e
theorem raw_more {A A' : List (List Wg)} (hu : Uq A) (hu' : Uq A') {a b c : Nat} (hne : a ≠ b ∧ b ≠ c ∧ c ≠ a) (h0 : ∀ z, ¬ Hw A a b z) (h1 : ∀ z, ¬ Hw A b c z) (h2 : ∀ z, ¬ Hw A c a z)
   (h : ∀ x y z, Hw A' x y z ↔ Hw A x y z ∨ Rot a b c x y z) : (rawT A').length = (rawT A).length + 1 := by
 obtain ⟨t, ht1, ht2⟩ : ∃ t : Nat × Nat × Nat, Rot a b c t.1 t.2.1 t.2.2 ∧ t.1 < t.2.1 ∧ t.1 < t.2.2 := by
   by_cases q1 : a < b ∧ a < c
   · exact ⟨(a, b, c), Or.inl ⟨rfl, rfl, rfl⟩, q1⟩
   · by_cases q2 : b < c ∧ b < a
     · exact ⟨(b, c, a), Or.inr (Or.inl ⟨rfl, rfl, rfl⟩), q2⟩
     · exact ⟨(c, a, b), Or.inr (Or.inr ⟨rfl, rfl, rfl⟩), by dsimp only; omega⟩
 have hnot : t ∉ rawT A := fun hm => by
   have hw := (raw_mem.1 hm).1
   rcases ht1 with ⟨e1, e2, _⟩ | ⟨e1, e2, _⟩ | ⟨e1, e2, _⟩
   · rw [e1, e2] at hw; exact h0 _ hw
   · rw [e1, e2] at hw; exact h1 _ hw
   · rw [e1, e2] at hw; exact h2 _ hw
 have hp : (rawT A').Perm (t :: rawT A) := (List.perm_ext_iff_of_nodup (raw_nodup hu') (List.nodup_cons.2 ⟨hnot, raw_nodup hu⟩)).2 fun s => by
   rw [raw_mem, List.mem_cons, raw_mem, h]
   constructor
   · rintro ⟨g | g, g1⟩
     · exact Or.inr ⟨g, g1⟩
     · left
       obtain ⟨s1, s2, s3⟩ := s
       obtain ⟨t1, t2, t3⟩ := t
       dsimp only at *
       unfold Rot at g ht1
       have : s1 = t1 ∧ s2 = t2 ∧ s3 = t3 := by omega
       obtain ⟨rfl, rfl, rfl⟩ := this
       rfl
   · rintro (rfl | ⟨g, g1⟩)
     · exact ⟨Or.inr ht1, ht2⟩
     · exact ⟨Or.inl g, g1⟩
 rw [hp.length_eq, List.length_cons]
theorem mkA_hw {A : List (List Wg)} (hu : Uq A) {a b c : Nat} (ha : a < A.length) (hb : b < A.length) (hc : c < A.length) (hne : ¬ (a = b ∧ b = c)) (h0 : plc A (a : Nat) (b : Nat) = none) (h1 : plc A (b : Nat) (c : Nat) = none) (h2 : plc A (c : Nat) (a : Nat) = none) :
   Uq (mkA A a b c) ∧ (mkA A a b c).length = A.length ∧ (∀ x y z, Hw (mkA A a b c) x y z ↔ Hw A x y z ∨ Rot a b c x y z) ∧ cnt (mkA A a b c) = cnt A + 3 := by
 obtain ⟨g0, g1, g2⟩ := lay3_none hu ha hb hc hne h0 h1 h2
 have u1 := uq_lay hu (w := (b, c)) ha g0
 have l1 : (layA A a (b, c)).length = A.length := len_lay
 have u2 := uq_lay u1 (w := (c, a)) (by rw [l1]; exact hb) g1
 have l2 : (layA (layA A a (b, c)) b (c, a)).length = A.length := by rw [len_lay, l1]
 have u3 := uq_lay u2 (w := (a, b)) (by rw [l2]; exact hc) g2
 refine ⟨u3, by unfold mkA; rw [len_lay, l2], fun x y z => ?_, ?_⟩
 · unfold mkA
   rw [Hw_lay (by rw [l2]; exact hc), Hw_lay (by rw [l1]; exact hb), Hw_lay ha]
   unfold Rot
   simp only [Prod.mk.injEq]
   constructor
   · rintro (((g | g) | g) | g)
     · exact Or.inl g
     · exact Or.inr (Or.inl ⟨g.1, g.2.1, g.2.2⟩)
     · exact Or.inr (Or.inr (Or.inl ⟨g.1, g.2.1, g.2.2⟩))
     · exact Or.inr (Or.inr (Or.inr ⟨g.1, g.2.1, g.2.2⟩))
   · rintro (g | g | g | g)
     · exact Or.inl (Or.inl (Or.inl g))
     · exact Or.inl (Or.inl (Or.inr ⟨g.1, g.2.1, g.2.2⟩))
     · exact Or.inl (Or.inr ⟨g.1, g.2.1, g.2.2⟩)
     · exact Or.inr ⟨g.1, g.2.1, g.2.2⟩
 · unfold mkA
   rw [cnt_lay (by rw [l2]; exact hc), cnt_lay (by rw [l1]; exact hb), cnt_lay ha]
structure Std (P : List (Nat × Nat)) (A : List (List Wg)) : Prop where
 uq : Uq A
 len : A.length = P.length
 t3 : Tri3 P A
 cn : cnt A = 3 * (rawT A).length
theorem mk_cases {P : List (Nat × Nat)} {A : List (List Wg)} {a b c : Int} (h : mkE P A a b c = 0) (hl : A.length = P.length) : ∃ a' b' c' : Nat, a = (a' : Int) ∧ b = (b' : Int) ∧ c = (c' : Int) ∧ a' < A.length ∧ b' < A.length ∧ c' < A.length ∧ 0 < sgP P a' b' c' ∧ plc A (a' : Nat) (b' : Nat) = none ∧ plc A (b' : Nat) (c' : Nat) = none ∧ plc A (c' : Nat) (a' : Nat) = none := by
 unfold mkE at h
 by_cases h1 : [a, b, c].all (hasB P.length) = true
 · rw [if_pos h1] at h
   have hall := List.all_eq_true.1 h1
   have la := of_decide_eq_true (hall a (by simp))
   have lb := of_decide_eq_true (hall b (by simp))
   have lc := of_decide_eq_true (hall c (by simp))
   by_cases h2 : sgP P a.toNat b.toNat c.toNat ≤ 0
   · rw [if_pos h2] at h; omega
   · rw [if_neg h2] at h
     by_cases h3 : ((plc A a b).isSome || (plc A b c).isSome || (plc A c a).isSome) = true
     · rw [if_pos h3] at h; omega
     · simp only [Bool.or_eq_true, not_or, Bool.not_eq_true, Option.isSome_eq_false_iff, Option.isNone_iff_eq_none] at h3
       refine ⟨a.toNat, b.toNat, c.toNat, by omega, by omega, by omega, by omega, by omega, by omega, by omega, ?_, ?_, ?_⟩
       · rw [Int.toNat_of_nonneg la.1, Int.toNat_of_nonneg lb.1]; exact h3.1.1
       · rw [Int.toNat_of_nonneg lb.1, Int.toNat_of_nonneg lc.1]; exact h3.1.2
       · rw [Int.toNat_of_nonneg lc.1, Int.toNat_of_nonneg la.1]; exact h3.2
 · rw [if_neg h1] at h; omega
theorem Std.make {P : List (Nat × Nat)} {A : List (List Wg)} (h : Std P A) {a b c : Nat} (hE : mkE P A (a : Nat) (b : Nat) (c : Nat) = 0) :
   Std P (mkA A a b c) ∧ (∀ x y z, Hw (mkA A a b c) x y z ↔ Hw A x y z ∨ Rot a b c x y z) ∧ (rawT (mkA A a b c)).length = (rawT A).length + 1 ∧ (∀ x y z, Rot a b c x y z → ¬ Hw A x y z) := by
 obtain ⟨a', b', c', e1, e2, e3, ha, hb, hc, hs, h0, h1, h2⟩ := mk_cases hE h.len
 obtain rfl : a = a' := by omega
 obtain rfl : b = b' := by omega
 obtain rfl : c = c' := by omega
 have hne := sgP_ne hs
 obtain ⟨u, l, hw, cn⟩ := mkA_hw h.uq ha hb hc (fun e => hne.1 e.1) h0 h1 h2
 have q0 : ∀ z, ¬ Hw A a b z := fun z hz => plc_none.1 h0 a b z rfl rfl hz
 have q1 : ∀ z, ¬ Hw A b c z := fun z hz => plc_none.1 h1 b c z rfl rfl hz
 have q2 : ∀ z, ¬ Hw A c a z := fun z hz => plc_none.1 h2 c a z rfl rfl hz
 have hr := raw_more h.uq u hne q0 q1 q2 hw
 refine ⟨⟨u, l.trans h.len, ⟨fun x y z hx => ?_, fun x y z hx => ?_⟩, by rw [cn, hr, h.cn]; omega⟩, hw, hr, ?_⟩
 · rcases (hw x y z).1 hx with g | g
   · exact (hw _ _ _).2 (Or.inl (h.t3.turn x y z g))
   · refine (hw _ _ _).2 (Or.inr ?_)
     unfold Rot at g ⊢; omega
 · rcases (hw x y z).1 hx with g | g
   · exact h.t3.pos x y z g
   · rcases g with ⟨rfl, rfl, rfl⟩ | ⟨rfl, rfl, rfl⟩ | ⟨rfl, rfl, rfl⟩
     · exact hs
     · rw [sgP_turn]; exact hs
     · rw [← sgP_turn]; exact hs
 · rintro x y z (⟨rfl, rfl, _⟩ | ⟨rfl, rfl, _⟩ | ⟨rfl, rfl, _⟩) hx
   · exact q0 _ hx
   · exact q1 _ hx
   · exact q2 _ hx
theorem Std.same {P : List (Nat × Nat)} {A A' : List (List Wg)} (h : Std P A) (hu : Uq A') (hl : A'.length = A.length) (hw : ∀ x y z, Hw A' x y z ↔ Hw A x y z) (hc : cnt A' = cnt A) : Std P A' := by
 refine ⟨hu, hl.trans h.len, ⟨fun x y z hx => (hw _ _ _).2 (h.t3.turn x y z ((hw _ _ _).1 hx)), fun x y z hx => h.t3.pos x y z ((hw _ _ _).1 hx)⟩, ?_⟩
 rw [hc, h.cn, ← raw_len, ← raw_len, tris_same hu h.uq hw hl]
end

/- Package mesh: like lists are told to be the same. (gen_mza.py) -/
section
open Go.RowKit Go.Shelf Go.Lib
attribute [local go_sem ↓] Go.wp_at_zero Go.wp_at_succ
set_option maxRecDepth 100000
end

/- Package mesh: the laws' made: a mesh of as many of the triangles as can be made. (gen_mzb.py) -/
section
open Go.RowKit Go.Shelf Go.Lib
attribute [local go_sem ↓] Go.wp_at_zero Go.wp_at_succ
set_option maxRecDepth 100000
def TsP (W : World) (s : Value) (m : Nat) (t : Nat → Int × Int × Int) : Prop := ∃ a c, s = .slice a m c ∧ (m = 0 ∨ ∃ g off, a = some ⟨g, off, none⟩ ∧ g < W.heap.size ∧ ∀ k, k < m → W.cell? ⟨g, off + k * 3, none⟩ = some (.int .i64 (t k).1) ∧ W.cell? ⟨g, off + k * 3 + 1, none⟩ = some (.int .i64 (t k).2.1) ∧ W.cell? ⟨g, off + k * 3 + 2, none⟩ = some (.int .i64 (t k).2.2))
theorem pz_word {x : Nat} (h : x < 18446744073709551616) : pz x < 18446744073709551616 := by
 unfold pz; split
 · omega
 · exact h
theorem ptsF_word {f : Nat → Nat × Nat} {n : Nat} (h : ∀ k, WdP (f k)) (i : Nat) (p : Nat × Nat) (hp : (ptsF (fun k => plp (f k)) n)[i]? = some p) : WdP p := by
 have hi := (List.getElem?_eq_some_iff.1 hp).1
 rw [ptsF_len] at hi
 rw [ptsF_at _ hi] at hp
 cases hp
 exact ⟨pz_word (h i).1, pz_word (h i).2⟩
theorem std_new (P : List (Nat × Nat)) (n : Nat) (hn : P.length = n) : Std P (List.replicate n []) := by
 refine ⟨fun a fan h => ?_, by rw [List.length_replicate, hn], ⟨fun a b c h => absurd h hw_rep, fun a b c h => absurd h hw_rep⟩, ?_⟩
 · rw [List.getElem?_replicate] at h
   split at h
   · cases h; exact List.nodup_nil
   · cases h
 · have : rawT (List.replicate n []) = [] := by
     apply List.eq_nil_iff_forall_not_mem.2
     intro t ht
     exact hw_rep (raw_mem.1 ht).1
   rw [this, cnt_rep]; rfl
theorem Std.mkS {P : List (Nat × Nat)} {A : List (List Wg)} (h : Std P A) (a b c : Int) : Std P (mkS P A a b c) := by
 by_cases hE : mkE P A a b c = 0
 · obtain ⟨a', b', c', rfl, rfl, rfl, _⟩ := mk_cases hE h.len
   rw [mkS_yes hE]
   exact (h.make hE).1
 · rw [mkS_no hE]; exact h
def Mdl (B : Nat) (W : World) (mB : Nat) (x : Gx) (P : List (Nat × Nat)) : Prop := ∃ S A vs, (∀ k, S k → B ≤ k ∧ k < W.heap.size) ∧ Msh S W mB x P A (fun _ _ => none) vs ∧ Std P A
set_option maxHeartbeats 4000000 in
theorem made_any (s s2 : Value) (n m : Nat) (f : Nat → Nat × Nat) (t : Nat → Int × Int × Int) (W : World) (hP : Ps W s n f) (hT : TsP W s2 m t) (hm1 : m ≤ 1000) :
   Calls Tryz.prog 38 #[s, s2] W fun e w' => (e = .returned (.pointer none) ∨ ∃ mB x, e = .returned (.pointer (some ⟨mB, 0, none⟩)) ∧ W.heap.size ≤ mB ∧ mB < w'.heap.size ∧ Mdl W.heap.size w' mB x (ptsF (fun k => plp (f k)) n)) ∧ Below W.heap.size W w' := by
 obtain ⟨a2, c2, rfl, hT2⟩ := hT
 have HP := Lib.hid hP
 have HT := Lib.hid hT2
 obtain ⟨B, hB⟩ : ∃ B, W.heap.size = B := ⟨_, rfl⟩
 have HBe := Lib.hid hB
 rw [hB]
 clear hP hT2
 go_enter Tryz.func38, Tryz.ntmps38
 go_wp2_with fail
 refine (new_any s n f W HP.out).mono ?_
 rintro e w1 ⟨hn, hb⟩
 rw [hB] at hb
 have HB1 := Lib.hid hb
 rcases hn with ⟨z, r, hr, ha, rfl⟩ | ⟨mB, x, _, rfl, hm, hm2, hn20, hM⟩
 · have hr' : (r == 0) = false := by rw [beq_eq_false_iff_ne]; exact hr
   clear hb ha hB
   go_wp2
   go_ret
   exact ⟨Or.inl rfl, HB1.out⟩
 · rw [hB] at hm hM
   have HM := Lib.hid (show Mdl B w1 mB x (ptsF (fun k => plp (f k)) n) ∧ B ≤ mB ∧ mB < w1.heap.size from ⟨⟨_, _, _, fun k hk => ⟨hk.1, by omega⟩, hM, std_new _ n (ptsF_len _ _)⟩, hm, hm2⟩)
   have HW := Lib.hid (fun i p hp => ptsF_word (f := f) (n := n) HP.out.word i p hp)
   clear hb hm hm2 hM hB
   go_wp2_with fail
   go_loopw [7] (fun s7 wr => ∃ j : Nat, j ≤ m ∧ s7 = .int .i64 (j : Nat) ∧ Hid (Mdl B wr mB x (ptsF (fun k => plp (f k)) n) ∧ Below B W wr ∧ mB < wr.heap.size)) (fun s7 _ => m - (intOf s7).toNat)
   case atStart => exact ⟨0, Nat.zero_le _, rfl, Lib.hid ⟨HM.out.1, HB1.out, HM.out.2.2⟩⟩
   case round =>
     obtain ⟨j, hj, rfl, hI⟩ := hrel
     by_cases hlt : j < m
     · have hlt' : (j : Int) < (m : Int) := by omega
       have hlt2 : ¬ m ≤ j := by omega
       obtain ⟨g, off, rfl, hg, hc⟩ := HT.out.resolve_left (by omega)
       have HC : Hid (∀ w, Below B W w → w.cell? ⟨g, off + j * 3, none⟩ = some (.int .i64 (t j).1) ∧ w.cell? ⟨g, off + j * 3 + 1, none⟩ = some (.int .i64 (t j).2.1) ∧ w.cell? ⟨g, off + j * 3 + 2, none⟩ = some (.int .i64 (t j).2.2)) := Lib.hid (fun w hw => ⟨cell_later (HBe.out ▸ hw) (hc j hlt).1, cell_later (HBe.out ▸ hw) (hc j hlt).2.1, cell_later (HBe.out ▸ hw) (hc j hlt).2.2⟩)
       obtain ⟨⟨ta, tb, tc⟩, ht⟩ : ∃ q, t j = q := ⟨_, rfl⟩
       rw [ht] at HC
       dsimp only at HC
       have HS0 := Lib.hid (HC.out wr.drew hI.out.2.1.drew)
       obtain ⟨S, A, vs, hSb, hM, hSt⟩ := hI.out.1
       have HMs := Lib.hid (And.intro hSb (And.intro hM hSt))
       clear hc ht hSb hM hSt
       as_aux_lemma =>
        go_wp2_with fail
        refine wp_region_held_drew (S := (fun X => X.cell? ⟨g, off + j * 3, none⟩ = some (.int .i64 ta) ∧ X.cell? ⟨g, off + j * 3 + 1, none⟩ = some (.int .i64 tb) ∧ X.cell? ⟨g, off + j * 3 + 2, none⟩ = some (.int .i64 tc))) (by kernel_rfl) HS0.out (fun hS => ?_)
        refine take_at (i := 0) (d := some 21) (v := .pointer (some ⟨mB, 0, none⟩)) (by kernel_rfl) (by kernel_rfl) (by kernel_rfl) (by kernel_rfl) (fun _ _ _ h => h) ?_ hS ?_
        · intro o ho
          replace ho := Option.some.inj (Eq.trans (Eq.symm ho) rfl)
          subst ho
          refine Or.inl ⟨by rfl, ?_⟩
          intro w hSw
          obtain ⟨q0, q1, q2⟩ := hSw
          go_simp
        simp only [AP]
        refine take_at (i := 1) (d := some 22) (v := .slice (some ⟨g, off, none⟩) m c2) (by kernel_rfl) (by kernel_rfl) (by kernel_rfl) (by kernel_rfl) (fun _ _ _ h => h) ?_ hS ?_
        · intro o ho
          replace ho := Option.some.inj (Eq.trans (Eq.symm ho) rfl)
          subst ho
          refine Or.inl ⟨by rfl, ?_⟩
          intro w hSw
          obtain ⟨q0, q1, q2⟩ := hSw
          go_simp
        simp only [AP]
        refine take_at (i := 2) (d := some 23) (v := .int .i64 (j : Nat)) (by kernel_rfl) (by kernel_rfl) (by kernel_rfl) (by kernel_rfl) (fun _ _ _ h => h) ?_ hS ?_
        · intro o ho
          replace ho := Option.some.inj (Eq.trans (Eq.symm ho) rfl)
          subst ho
          refine Or.inl ⟨by rfl, ?_⟩
          intro w hSw
          obtain ⟨q0, q1, q2⟩ := hSw
          go_simp
        simp only [AP]
        refine take_at (i := 3) (d := some 24) (v := .pointer (some ⟨g, off + j * 3, none⟩)) (by kernel_rfl) (by kernel_rfl) (by kernel_rfl) (by kernel_rfl) (fun _ _ _ h => h) ?_ hS ?_
        · intro o ho
          replace ho := Option.some.inj (Eq.trans (Eq.symm ho) rfl)
          subst ho
          refine Or.inl ⟨by rfl, ?_⟩
          intro w hSw
          obtain ⟨q0, q1, q2⟩ := hSw
          go_simp
        simp only [AP]
        refine take_at (i := 4) (d := some 25) (v := .pointer (some ⟨g, off + j * 3, none⟩)) (by kernel_rfl) (by kernel_rfl) (by kernel_rfl) (by kernel_rfl) (fun _ _ _ h => h) ?_ hS ?_
        · intro o ho
          replace ho := Option.some.inj (Eq.trans (Eq.symm ho) rfl)
          subst ho
          refine Or.inl ⟨by rfl, ?_⟩
          intro w hSw
          obtain ⟨q0, q1, q2⟩ := hSw
          go_simp
        simp only [AP]
        refine take_at (i := 5) (d := some 26) (v := .int .i64 ta) (by kernel_rfl) (by kernel_rfl) (by kernel_rfl) (by kernel_rfl) (fun _ _ _ h => h) ?_ hS ?_
        · intro o ho
          replace ho := Option.some.inj (Eq.trans (Eq.symm ho) rfl)
          subst ho
          refine Or.inl ⟨by rfl, ?_⟩
          intro w hSw
          obtain ⟨q0, q1, q2⟩ := hSw
          go_simp
        simp only [AP]
        refine take_at (i := 6) (d := some 27) (v := .slice (some ⟨g, off, none⟩) m c2) (by kernel_rfl) (by kernel_rfl) (by kernel_rfl) (by kernel_rfl) (fun _ _ _ h => h) ?_ hS ?_
        · intro o ho
          replace ho := Option.some.inj (Eq.trans (Eq.symm ho) rfl)
          subst ho
          refine Or.inl ⟨by rfl, ?_⟩
          intro w hSw
          obtain ⟨q0, q1, q2⟩ := hSw
          go_simp
        simp only [AP]
        refine take_at (i := 7) (d := some 28) (v := .int .i64 (j : Nat)) (by kernel_rfl) (by kernel_rfl) (by kernel_rfl) (by kernel_rfl) (fun _ _ _ h => h) ?_ hS ?_
        · intro o ho
          replace ho := Option.some.inj (Eq.trans (Eq.symm ho) rfl)
          subst ho
          refine Or.inl ⟨by rfl, ?_⟩
          intro w hSw
          obtain ⟨q0, q1, q2⟩ := hSw
          go_simp
        simp only [AP]
        refine take_at (i := 8) (d := some 29) (v := .pointer (some ⟨g, off + j * 3, none⟩)) (by kernel_rfl) (by kernel_rfl) (by kernel_rfl) (by kernel_rfl) (fun _ _ _ h => h) ?_ hS ?_
        · intro o ho
          replace ho := Option.some.inj (Eq.trans (Eq.symm ho) rfl)
          subst ho
          refine Or.inl ⟨by rfl, ?_⟩
          intro w hSw
          obtain ⟨q0, q1, q2⟩ := hSw
          go_simp
        simp only [AP]
        refine take_at (i := 9) (d := some 30) (v := .pointer (some ⟨g, off + j * 3 + 1, none⟩)) (by kernel_rfl) (by kernel_rfl) (by kernel_rfl) (by kernel_rfl) (fun _ _ _ h => h) ?_ hS ?_
        · intro o ho
          replace ho := Option.some.inj (Eq.trans (Eq.symm ho) rfl)
          subst ho
          refine Or.inl ⟨by rfl, ?_⟩
          intro w hSw
          obtain ⟨q0, q1, q2⟩ := hSw
          go_simp
        simp only [AP]
        refine take_at (i := 10) (d := some 31) (v := .int .i64 tb) (by kernel_rfl) (by kernel_rfl) (by kernel_rfl) (by kernel_rfl) (fun _ _ _ h => h) ?_ hS ?_
        · intro o ho
          replace ho := Option.some.inj (Eq.trans (Eq.symm ho) rfl)
          subst ho
          refine Or.inl ⟨by rfl, ?_⟩
          intro w hSw
          obtain ⟨q0, q1, q2⟩ := hSw
          go_simp
        simp only [AP]
        refine take_at (i := 11) (d := some 32) (v := .slice (some ⟨g, off, none⟩) m c2) (by kernel_rfl) (by kernel_rfl) (by kernel_rfl) (by kernel_rfl) (fun _ _ _ h => h) ?_ hS ?_
        · intro o ho
          replace ho := Option.some.inj (Eq.trans (Eq.symm ho) rfl)
          subst ho
          refine Or.inl ⟨by rfl, ?_⟩
          intro w hSw
          obtain ⟨q0, q1, q2⟩ := hSw
          go_simp
        simp only [AP]
        refine take_at (i := 12) (d := some 33) (v := .int .i64 (j : Nat)) (by kernel_rfl) (by kernel_rfl) (by kernel_rfl) (by kernel_rfl) (fun _ _ _ h => h) ?_ hS ?_
        · intro o ho
          replace ho := Option.some.inj (Eq.trans (Eq.symm ho) rfl)
          subst ho
          refine Or.inl ⟨by rfl, ?_⟩
          intro w hSw
          obtain ⟨q0, q1, q2⟩ := hSw
          go_simp
        simp only [AP]
        refine take_at (i := 13) (d := some 34) (v := .pointer (some ⟨g, off + j * 3, none⟩)) (by kernel_rfl) (by kernel_rfl) (by kernel_rfl) (by kernel_rfl) (fun _ _ _ h => h) ?_ hS ?_
        · intro o ho
          replace ho := Option.some.inj (Eq.trans (Eq.symm ho) rfl)
          subst ho
          refine Or.inl ⟨by rfl, ?_⟩
          intro w hSw
          obtain ⟨q0, q1, q2⟩ := hSw
          go_simp
        simp only [AP]
        refine take_at (i := 14) (d := some 35) (v := .pointer (some ⟨g, off + j * 3 + 2, none⟩)) (by kernel_rfl) (by kernel_rfl) (by kernel_rfl) (by kernel_rfl) (fun _ _ _ h => h) ?_ hS ?_
        · intro o ho
          replace ho := Option.some.inj (Eq.trans (Eq.symm ho) rfl)
          subst ho
          refine Or.inl ⟨by rfl, ?_⟩
          intro w hSw
          obtain ⟨q0, q1, q2⟩ := hSw
          go_simp
        simp only [AP]
        refine take_at (i := 15) (d := some 36) (v := .int .i64 tc) (by kernel_rfl) (by kernel_rfl) (by kernel_rfl) (by kernel_rfl) (fun _ _ _ h => h) ?_ hS ?_
        · intro o ho
          replace ho := Option.some.inj (Eq.trans (Eq.symm ho) rfl)
          subst ho
          refine Or.inl ⟨by rfl, ?_⟩
          intro w hSw
          obtain ⟨q0, q1, q2⟩ := hSw
          go_simp
        simp only [AP]
        refine calA 16 fun KF hK => ?_
        rw [if_pos (by rfl)]
        go_simp
        have HMd := Lib.hid (HMs.out.2.1.later (Below.drew (Below.refl _ wr)))
        refine (make_any HMd.out.1 HW.out ta tb tc).mono ?_
        rintro e w3 ⟨rfl, v3, hM3, hf3⟩
        have hb3 : Below B wr.drew w3 := hf3.below (by have := hI.out.2.1.size; have := HBe.out; show B ≤ wr.heap.size; omega) (fun k hk => by rcases hk with hk | hk; exact (HMs.out.1 k hk).1; have := hI.out.2.1.size; have := HBe.out; have e : wr.drew.heap.size = wr.heap.size := rfl; omega)
        have HR : Hid (Mdl B w3 mB x (ptsF (fun k => plp (f k)) n) ∧ Below B W w3 ∧ mB < w3.heap.size) := by
            refine Lib.hid ⟨⟨_, _, _, fun k hk => ?_, hM3, HMs.out.2.2.mkS _ _ _⟩, hI.out.2.1.drew.trans hb3, Nat.lt_of_lt_of_le hI.out.2.2 hb3.size⟩
            have z1 : wr.drew.heap.size = wr.heap.size := rfl
            have z2 := hb3.size
            have z3 := hI.out.2.1.size
            have z4 := HBe.out
            rcases hk with (hk | hk) | hk
            · have := HMs.out.1 k hk; omega
            · omega
            · omega
        clear hM3 hf3 hb3
        refine hK.out _ _ (HC.out w3 HR.out.2.1) ?_
        clear hS
        intro hS
        clear hK KF
        try simp only [AP]
        refine wpAnyH_done (by kernel_rfl) ?_ _
        clear hS
        go_wp2
        exact ⟨⟨j + 1, by omega, by go_num, HR⟩, by simp [intOf]; omega⟩
     · obtain rfl : j = m := by omega
       as_aux_lemma =>
        go_wp2
        go_ret
        exact ⟨Or.inr ⟨mB, x, rfl, HM.out.2.1, hI.out.2.2, hI.out.1⟩, hI.out.2.1⟩
end

/- Package mesh, plain: a triangle made and killed; killed and made again. -/
section
open Go.RowKit Go.Shelf Go.Lib
structure UI (B : Nat) (W w : World) (mB : Nat) (x : Gx) (P : List (Nat × Nat)) (A0 : List (List Wg)) (B8 B9 : Nat) (v8 v9 : Value) (S : Nat → Prop) (A : List (List Wg)) (vs : List Value) : Prop where
 s : ∀ k, S k → B ≤ k ∧ k < w.heap.size ∧ v8.ownBlock ≠ some k ∧ v9.ownBlock ≠ some k
 m : Msh S w mB x P A (fun _ _ => none) vs
 r8 : Rk enc_tri 30 3 w B8 v8 (trisL A0)
 r9 : Rk enc_pair 71 2 w B9 v9 (edgesL A0)
 b : Below B W w
 bs : B ≤ W.heap.size
theorem UI.step {B : Nat} {W w w' : World} {mB : Nat} {x : Gx} {P : List (Nat × Nat)} {A0 A A' : List (List Wg)} {B8 B9 : Nat} {v8 v9 : Value} {S : Nat → Prop} {vs vs' : List Value} (h : UI B W w mB x P A0 B8 B9 v8 v9 S A vs)
   (hm : Msh (Upx S w w') w' mB x P A' (fun _ _ => none) vs') (hf : Frm S w w') : UI B W w' mB x P A0 B8 B9 v8 v9 (Upx S w w') A' vs' where
 s := fun k hk => by
   have hz := hf.size
   have hb := h.b.size
   have hbs := h.bs
   rcases hk with hk | hk
   · have := h.s k hk
     exact ⟨this.1, by omega, this.2.2.1, this.2.2.2⟩
   · exact ⟨by omega, hk.2, fun e => by have := (World.ownsRow.lt h.r8 k e).2; omega, fun e => by have := (World.ownsRow.lt h.r9 k e).2; omega⟩
 m := hm
 r8 := own_same h.r8 (fun g hg => hf.keep g (World.ownsRow.lt h.r8 g hg).2 (fun e => (h.s g e).2.2.1 hg))
 r9 := own_same h.r9 (fun g hg => hf.keep g (World.ownsRow.lt h.r9 g hg).2 (fun e => (h.s g e).2.2.2 hg))
 b := h.b.trans (hf.below (by have := h.b.size; have := h.bs; omega) (fun k hk => (h.s k hk).1))
 bs := h.bs
theorem UI.later {B : Nat} {W w w' : World} {mB : Nat} {x : Gx} {P : List (Nat × Nat)} {A0 A : List (List Wg)} {B8 B9 : Nat} {v8 v9 : Value} {S : Nat → Prop} {vs : List Value} (h : UI B W w mB x P A0 B8 B9 v8 v9 S A vs) (hb : Below w.heap.size w w') : UI B W w' mB x P A0 B8 B9 v8 v9 (Upx S w w') A vs :=
 h.step (h.m.later hb).1 (h.m.later hb).2
theorem cnt_le {A : List (List Wg)} {m : Nat} (h : ∀ a, (A.getD a []).length ≤ m) : cnt A ≤ A.length * m := by
 unfold cnt
 have : ∀ l : List (List Wg), (∀ fan ∈ l, fan.length ≤ m) → (l.map List.length).sum ≤ l.length * m := by
   intro l
   induction l with
   | nil => intro _; simp
   | cons a r ih =>
     intro hl
     have h1 := hl a (by simp)
     have h2 := ih (fun fan hf => hl fan (by simp [hf]))
     simp only [List.map_cons, List.sum_cons, List.length_cons, Nat.add_mul, Nat.one_mul]
     omega
 refine this A fun fan hf => ?_
 obtain ⟨i, hi⟩ := List.mem_iff_getElem?.1 hf
 have := h i
 rw [List.getD_eq_getElem?_getD, hi] at this
 exact this
end

/- Package mesh, plain: triangles, edges and border edges are counted. -/
section
open Go.Sort
def seen3 (A : List (List Wg)) : List (Nat × Nat × Nat) := (List.range A.length).flatMap fun a => (A.getD a []).map fun w => (a, w.1, w.2)
def dirs (A : List (List Wg)) : List (Nat × Nat) := (seen3 A).map fun t => (t.1, t.2.1)
theorem seen3_mem {A : List (List Wg)} {t : Nat × Nat × Nat} : t ∈ seen3 A ↔ Hw A t.1 t.2.1 t.2.2 := by
 unfold seen3
 rw [List.mem_flatMap]
 constructor
 · rintro ⟨a, _, ht⟩
   obtain ⟨w, hw, rfl⟩ := List.mem_map.1 ht
   exact fan_mem.1 hw
 · intro h
   refine ⟨t.1, ?_, List.mem_map.2 ⟨(t.2.1, t.2.2), fan_mem.2 h, rfl⟩⟩
   obtain ⟨fan, hf, _⟩ := h
   exact List.mem_range.2 (List.getElem?_eq_some_iff.1 hf).1
theorem dirs_mem {A : List (List Wg)} {p : Nat × Nat} : p ∈ dirs A ↔ ∃ c, Hw A p.1 p.2 c := by
 unfold dirs
 rw [List.mem_map]
 constructor
 · rintro ⟨t, ht, rfl⟩; exact ⟨_, seen3_mem.1 ht⟩
 · rintro ⟨c, h⟩; exact ⟨(p.1, p.2, c), seen3_mem.2 h, rfl⟩
theorem flat_nodup {α β : Type} (f : α → List β) : ∀ l : List α, l.Nodup → (∀ a ∈ l, (f a).Nodup) → (∀ a ∈ l, ∀ b ∈ l, ∀ x, x ∈ f a → x ∈ f b → a = b) → (l.flatMap f).Nodup := by
 intro l
 induction l with
 | nil => intro _ _ _; exact List.nodup_nil
 | cons a r ih =>
   intro hn h1 h2
   rw [List.flatMap_cons, List.nodup_append]
   rw [List.nodup_cons] at hn
   refine ⟨h1 a (by simp), ih hn.2 (fun b hb => h1 b (by simp [hb])) (fun b hb c hc => h2 b (by simp [hb]) c (by simp [hc])), fun x hx y hy e => ?_⟩
   subst e
   obtain ⟨b, hb, hy⟩ := List.mem_flatMap.1 hy
   exact hn.1 ((h2 a (by simp) b (by simp [hb]) x hx hy) ▸ hb)
theorem map_nodup {α β : Type} (f : α → β) : ∀ l : List α, l.Nodup → (∀ a ∈ l, ∀ b ∈ l, f a = f b → a = b) → (l.map f).Nodup := by
 intro l
 induction l with
 | nil => intro _ _; exact List.nodup_nil
 | cons a r ih =>
   intro hn h
   rw [List.nodup_cons] at hn
   rw [List.map_cons, List.nodup_cons]
   refine ⟨fun hm => ?_, ih hn.2 (fun b hb c hc => h b (by simp [hb]) c (by simp [hc]))⟩
   obtain ⟨b, hb, e⟩ := List.mem_map.1 hm
   exact hn.1 ((h a (by simp) b (by simp [hb]) e.symm) ▸ hb)
theorem seen3_nodup {A : List (List Wg)} (hu : Uq A) : (seen3 A).Nodup := by
 unfold seen3
 refine flat_nodup _ _ List.nodup_range (fun a _ => map_nodup _ _ (fan_nodup hu a) (fun x _ y _ e => ?_)) (fun a _ b _ x hx hy => ?_)
 · cases x; cases y; cases e; rfl
 · obtain ⟨_, _, e1⟩ := List.mem_map.1 hx
   obtain ⟨_, _, e2⟩ := List.mem_map.1 hy
   have := congrArg Prod.fst (e1.trans e2.symm)
   exact this
theorem hw_one {A : List (List Wg)} (hu : Uq A) {a b c d : Nat} (h : Hw A a b c) (g : Hw A a b d) : c = d := by
 obtain ⟨fan, hf, h1⟩ := h
 obtain ⟨fan', hf', h2⟩ := g
 rw [hf] at hf'; cases hf'
 have hn := hu a fan hf
 obtain ⟨i, hi, e1⟩ := List.mem_iff_getElem.1 h1
 obtain ⟨j, hj, e2⟩ := List.mem_iff_getElem.1 h2
 have p1 := fan_place hn (k := i) (w := (b, c)) (by rw [List.getElem?_eq_getElem hi, e1])
 have p2 := fan_place hn (k := j) (w := (b, d)) (by rw [List.getElem?_eq_getElem hj, e2])
 rw [p1] at p2
 cases p2
 rw [e1] at e2
 exact (Prod.mk.inj e2).2
theorem dirs_nodup {A : List (List Wg)} (hu : Uq A) : (dirs A).Nodup := by
 unfold dirs
 refine map_nodup _ _ (seen3_nodup hu) (fun x hx y hy e => ?_)
 have hx := seen3_mem.1 hx
 have hy := seen3_mem.1 hy
 obtain ⟨x1, x2, x3⟩ := x
 obtain ⟨y1, y2, y3⟩ := y
 simp only [Prod.mk.injEq] at e
 obtain ⟨rfl, rfl⟩ := e
 have := hw_one hu hx hy
 simp only at this
 rw [this]
theorem dirs_turn {P : List (Nat × Nat)} {A : List (List Wg)} (hu : Uq A) (ht : Tri3 P A) : ((seen3 A).map fun t => (t.2.2, t.1)).Perm (dirs A) := by
 refine (List.perm_ext_iff_of_nodup (map_nodup _ _ (seen3_nodup hu) (fun x hx y hy e => ?_)) (dirs_nodup hu)).2 fun p => ?_
 · have hx := ht.turn _ _ _ (ht.turn _ _ _ (seen3_mem.1 hx))
   have hy := ht.turn _ _ _ (ht.turn _ _ _ (seen3_mem.1 hy))
   obtain ⟨x1, x2, x3⟩ := x
   obtain ⟨y1, y2, y3⟩ := y
   simp only [Prod.mk.injEq] at e
   obtain ⟨rfl, rfl⟩ := e
   have := hw_one hu hx hy
   simp only at this
   rw [this]
 · rw [List.mem_map, dirs_mem]
   constructor
   · rintro ⟨t, ht', rfl⟩
     exact ⟨_, ht.turn _ _ _ (ht.turn _ _ _ (seen3_mem.1 ht'))⟩
   · rintro ⟨c, h⟩
     exact ⟨(p.2, c, p.1), seen3_mem.2 (ht.turn _ _ _ h), rfl⟩
def noBack (A : List (List Wg)) (p : Nat × Nat) : Bool := decide (plc A (p.2 : Nat) (p.1 : Nat) = none)
theorem noBack_iff {A : List (List Wg)} {p : Nat × Nat} : noBack A p = false ↔ (p.2, p.1) ∈ dirs A := by
 unfold noBack
 rw [decide_eq_false_iff_not, plc_none, dirs_mem]
 constructor
 · intro h
   by_cases g : ∃ c, Hw A p.2 p.1 c
   · exact g
   · exact absurd (fun a' b' c e1 e2 hc => g ⟨c, by have h1 : p.2 = a' := by omega
                                                    have h2 : p.1 = b' := by omega
                                                    rw [h1, h2]; exact hc⟩) h
 · rintro ⟨c, hc⟩ h
   exact h p.2 p.1 c rfl rfl hc
theorem swap_count {A : List (List Wg)} (hu : Uq A) (f : Nat × Nat → Bool) : (dirs A).countP (fun p => f p && !noBack A p) = (dirs A).countP (fun p => f (p.2, p.1) && !noBack A p) := by
 have hp : (((dirs A).filter fun p => !noBack A p).map fun p => (p.2, p.1)).Perm ((dirs A).filter fun p => !noBack A p) := by
   refine (List.perm_ext_iff_of_nodup (map_nodup _ _ ((dirs_nodup hu).filter _) (fun x _ y _ e => ?_)) ((dirs_nodup hu).filter _)).2 fun p => ?_
   · cases x; cases y; cases e; rfl
   · rw [List.mem_map, List.mem_filter]
     constructor
     · rintro ⟨q, hq, rfl⟩
       obtain ⟨h1, h2⟩ := List.mem_filter.1 hq
       have h2' := noBack_iff.1 (by simpa using h2)
       exact ⟨h2', by simpa using (noBack_iff (p := (q.2, q.1))).2 h1⟩
     · rintro ⟨h1, h2⟩
       have h2' := noBack_iff.1 (by simpa using h2)
       exact ⟨(p.2, p.1), List.mem_filter.2 ⟨h2', by simpa using (noBack_iff (p := (p.2, p.1))).2 h1⟩, rfl⟩
 have h1 := hp.countP_eq f
 rw [List.countP_map, List.countP_filter, List.countP_filter] at h1
 exact h1.symm
theorem count_both {α : Type} (f g : α → Bool) : ∀ l : List α, l.countP f = l.countP (fun p => f p && g p) + l.countP (fun p => f p && !g p) := by
 intro l
 induction l with
 | nil => rfl
 | cons a r ih =>
   rw [List.countP_cons, List.countP_cons, List.countP_cons, ih]
   cases f a <;> cases g a <;> simp <;> omega
theorem told_perm {α : Type} (f : Nat → Wg → List α) (s : List α → List α) (hs : ∀ l, (s l).Perm l) (A : List (List Wg)) (j : Nat) : (toldK f s A j).Perm ((List.range j).flatMap fun a => (A.getD a []).flatMap (f a)) := by
 unfold toldK
 generalize List.range j = l
 induction l with
 | nil => exact List.Perm.refl _
 | cons a r ih => rw [List.flatMap_cons, List.flatMap_cons]; exact (hs _).append ih
theorem seen3_flat {α : Type} (A : List (List Wg)) (g : Nat × Nat × Nat → List α) : ((List.range A.length).flatMap fun a => (A.getD a []).flatMap fun w => g (a, w.1, w.2)) = (seen3 A).flatMap g := by
 unfold seen3
 rw [List.flatMap_assoc]
 congr 1
 funext a
 rw [List.flatMap_map]
theorem bord_perm (A : List (List Wg)) : (bordL A).Perm ((dirs A).filter (noBack A)) := by
 refine (told_perm _ _ (fun l => List.mergeSort_perm l _) A A.length).trans ?_
 have e : (fun a w => fBord A a w) = fun a (w : Wg) => (fun t : Nat × Nat × Nat => if noBack A (t.1, t.2.1) = true then [(t.1, t.2.1)] else []) (a, w.1, w.2) := by
   funext a w
   unfold fBord noBack
   simp only [decide_eq_true_eq]
 have e2 : ∀ a, fBord A a = fun w => (fun t : Nat × Nat × Nat => if noBack A (t.1, t.2.1) = true then [(t.1, t.2.1)] else []) (a, w.1, w.2) := fun a => by
   funext w; exact congrFun (congrFun e a) w
 rw [show ((List.range A.length).flatMap fun a => (A.getD a []).flatMap (fBord A a)) = (List.range A.length).flatMap fun a => (A.getD a []).flatMap fun w => (fun t : Nat × Nat × Nat => if noBack A (t.1, t.2.1) = true then [(t.1, t.2.1)] else []) (a, w.1, w.2) from by
   congr 1; funext a; rw [e2 a], seen3_flat A (fun t => if noBack A (t.1, t.2.1) = true then [(t.1, t.2.1)] else [])]
 unfold dirs
 generalize seen3 A = l
 have : ∀ l : List (Nat × Nat × Nat), (l.flatMap fun t => if noBack A (t.1, t.2.1) = true then [(t.1, t.2.1)] else []) = (l.map fun t => (t.1, t.2.1)).filter (noBack A) := by
   intro l
   induction l with
   | nil => rfl
   | cons a r ih =>
     rw [List.flatMap_cons, ih, List.map_cons, List.filter_cons]
     split <;> simp
 rw [this]
theorem bord_mem {A : List (List Wg)} {p : Nat × Nat} (h : p ∈ bordL A) : p ∈ dirs A := (List.mem_filter.1 ((bord_perm A).mem_iff.1 h)).1
theorem bord_len (A : List (List Wg)) : (bordL A).length = (dirs A).countP (noBack A) := by
 rw [(bord_perm A).length_eq, List.countP_eq_length_filter]
theorem bord_even {P : List (Nat × Nat)} {A : List (List Wg)} (hu : Uq A) (ht : Tri3 P A) (x : Nat) : (bordL A).countP (fun p => p.1 == x) = (bordL A).countP (fun p => p.2 == x) := by
 rw [(bord_perm A).countP_eq, (bord_perm A).countP_eq, List.countP_filter, List.countP_filter]
 have h1 := count_both (fun p : Nat × Nat => p.1 == x) (noBack A) (dirs A)
 have h2 := count_both (fun p : Nat × Nat => p.2 == x) (noBack A) (dirs A)
 have h3 := swap_count hu (fun p : Nat × Nat => p.1 == x)
 have h4 : (dirs A).countP (fun p => p.1 == x) = (dirs A).countP (fun p => p.2 == x) := by
   rw [← (dirs_turn hu ht).countP_eq (fun p => p.2 == x)]
   unfold dirs
   rw [List.countP_map, List.countP_map]
   rfl
 simp only at h3
 omega
theorem edges_len (A : List (List Wg)) : (edgesL A).length = (seen3 A).countP (fun t => decide (t.1 < t.2.1)) + (seen3 A).countP (fun t => decide (t.1 < t.2.2) && noBack A (t.2.2, t.1)) := by
 unfold edgesL
 rw [(told_perm (fEdge A) srt_pair (fun l => List.mergeSort_perm l _) A A.length).length_eq]
 have e2 : ∀ a, fEdge A a = fun w => (fun t : Nat × Nat × Nat => (if t.1 < t.2.1 then [(t.1, t.2.1)] else []) ++ (if t.1 < t.2.2 ∧ noBack A (t.2.2, t.1) = true then [(t.1, t.2.2)] else [])) (a, w.1, w.2) := fun a => by
   funext w
   unfold fEdge noBack
   simp only [decide_eq_true_eq]
 rw [show ((List.range A.length).flatMap fun a => (A.getD a []).flatMap (fEdge A a)) = (List.range A.length).flatMap fun a => (A.getD a []).flatMap fun w => (fun t : Nat × Nat × Nat => (if t.1 < t.2.1 then [(t.1, t.2.1)] else []) ++ (if t.1 < t.2.2 ∧ noBack A (t.2.2, t.1) = true then [(t.1, t.2.2)] else [])) (a, w.1, w.2) from by
   congr 1; funext a; rw [e2 a], seen3_flat A (fun t => (if t.1 < t.2.1 then [(t.1, t.2.1)] else []) ++ (if t.1 < t.2.2 ∧ noBack A (t.2.2, t.1) = true then [(t.1, t.2.2)] else []))]
 generalize seen3 A = l
 induction l with
 | nil => rfl
 | cons a r ih =>
   rw [List.flatMap_cons, List.length_append, ih, List.countP_cons, List.countP_cons, List.length_append]
   by_cases h1 : a.1 < a.2.1 <;> by_cases h2 : a.1 < a.2.2 <;> cases h3 : noBack A (a.2.2, a.1) <;> simp [h1, h2] <;> omega
theorem dirs_len {A : List (List Wg)} : (dirs A).length = (seen3 A).length := by unfold dirs; rw [List.length_map]
theorem seen3_len (A : List (List Wg)) : (seen3 A).length = cnt A := by
 unfold seen3 cnt
 rw [List.length_flatMap]
 congr 1
 refine List.ext_getElem (by simp) (fun i h1 h2 => ?_)
 simp only [List.length_map, List.length_range] at h1
 simp [List.getD, List.getElem?_eq_getElem h1]
theorem euler {P : List (Nat × Nat)} {A : List (List Wg)} (h : Std P A) : 3 * (trisL A).length + (bordL A).length = 2 * (edgesL A).length := by
 have hu := h.uq
 have ht := h.t3
 rw [raw_len, ← h.cn, ← seen3_len, ← dirs_len, bord_len, edges_len]
 have k1 : (seen3 A).countP (fun t => decide (t.1 < t.2.1)) = (dirs A).countP (fun p => decide (p.1 < p.2)) := by
   unfold dirs; rw [List.countP_map]; rfl
 have k2 : (seen3 A).countP (fun t => decide (t.1 < t.2.2) && noBack A (t.2.2, t.1)) = (dirs A).countP (fun p => decide (p.2 < p.1) && noBack A p) := by
   rw [← (dirs_turn hu ht).countP_eq (fun p => decide (p.2 < p.1) && noBack A p), List.countP_map]; rfl
 have hne : ∀ p ∈ dirs A, p.1 ≠ p.2 := fun p hp => by
   obtain ⟨c, hc⟩ := dirs_mem.1 hp
   exact (ht.ne hc).1
 have k3 : (dirs A).length = (dirs A).countP (fun p => decide (p.1 < p.2)) + (dirs A).countP (fun p => decide (p.2 < p.1)) := by
   have := count_both (fun _ : Nat × Nat => true) (fun p => decide (p.1 < p.2)) (dirs A)
   rw [List.countP_true] at this
   rw [this]
   congr 1
   refine List.countP_congr fun p hp => ?_
   have := hne p hp
   simp; omega
 have k4 : (dirs A).countP (noBack A) = (dirs A).countP (fun p => decide (p.1 < p.2) && noBack A p) + (dirs A).countP (fun p => decide (p.2 < p.1) && noBack A p) := by
   rw [count_both (noBack A) (fun p => decide (p.1 < p.2)) (dirs A)]
   congr 1
   · exact List.countP_congr fun p _ => by rw [Bool.and_comm]
   · refine List.countP_congr fun p hp => ?_
     have := hne p hp
     simp
     exact ⟨fun h => ⟨by omega, h.1⟩, fun h => ⟨h.2, by omega⟩⟩
 have k5 := count_both (fun p : Nat × Nat => decide (p.1 < p.2)) (noBack A) (dirs A)
 have k6 := count_both (fun p : Nat × Nat => decide (p.2 < p.1)) (noBack A) (dirs A)
 have k7 := swap_count hu (fun p : Nat × Nat => decide (p.1 < p.2))
 simp only at k7
 omega
end

/- Package mesh, plain: the triangles are told in order. -/
section
open Go.Sort
theorem blk_nodup {A : List (List Wg)} (hu : Uq A) (a : Nat) : ((A.getD a []).flatMap (fTri a)).Nodup := by
 refine flat_nodup _ _ (fan_nodup hu a) (fun w _ => ?_) (fun w _ w' _ x h1 h2 => ?_)
 · unfold fTri; split
   · exact List.nodup_cons.2 ⟨by simp, List.nodup_nil⟩
   · exact List.nodup_nil
 · have e1 := (fTri_mem.1 h1).1
   have e2 := (fTri_mem.1 h2).1
   rw [e1] at e2
   cases w; cases w'
   simp only [Prod.mk.injEq, true_and] at e2
   rw [e2.1, e2.2]
theorem blk_first {A : List (List Wg)} {a : Nat} {x : Nat × Nat × Nat} (h : x ∈ srt_tri ((A.getD a []).flatMap (fTri a))) : x.1 = a := by
 have h' := (List.mergeSort_perm ((A.getD a []).flatMap (fTri a)) _).mem_iff.1 h
 obtain ⟨w, _, h2⟩ := List.mem_flatMap.1 h'
 rw [(fTri_mem.1 h2).1]
theorem blk_sorted {A : List (List Wg)} (hu : Uq A) (a : Nat) : (srt_tri ((A.getD a []).flatMap (fTri a))).Pairwise fun x y => ltOf cf_tri x y = true := by
 have tr : ∀ a b c : Nat × Nat × Nat, (!(ltOf cf_tri b a)) = true → (!(ltOf cf_tri c b)) = true → (!(ltOf cf_tri c a)) = true := fun a b c h1 h2 => by
   rw [Bool.not_eq_true', ← Bool.not_eq_true, lt_tri] at *; omega
 have tt : ∀ a b : Nat × Nat × Nat, ((!(ltOf cf_tri b a)) || (!(ltOf cf_tri a b))) = true := fun a b => by
   rw [Bool.or_eq_true, Bool.not_eq_true', Bool.not_eq_true', ← Bool.not_eq_true, ← Bool.not_eq_true, lt_tri, lt_tri]; omega
 have h1 := List.pairwise_mergeSort tr tt ((A.getD a []).flatMap (fTri a))
 have h2 : (srt_tri ((A.getD a []).flatMap (fTri a))).Nodup := (List.mergeSort_perm _ _).nodup_iff.2 (blk_nodup hu a)
 refine (List.Pairwise.and h1 h2).imp (fun {x y} h => ?_)
 cases e : ltOf cf_tri x y with
 | true => rfl
 | false => exact absurd (tot_tri x y e (by simpa using h.1)) h.2
theorem tris_sorted {A : List (List Wg)} (hu : Uq A) : (trisL A).Pairwise fun x y => ltOf cf_tri x y = true := by
 unfold trisL toldK
 rw [List.pairwise_flatMap]
 refine ⟨fun a _ => blk_sorted hu a, List.pairwise_lt_range.imp (fun {a b} hab x hx y hy => ?_)⟩
 rw [lt_tri, blk_first hx, blk_first hy]
 exact Or.inl hab
theorem tris_next {A : List (List Wg)} (hu : Uq A) {p j : Nat} {x y : Nat × Nat × Nat} (hpj : p < j) (hx : (trisL A)[p]? = some x) (hy : (trisL A)[j]? = some y) : x.1 < y.1 ∨ (x.1 = y.1 ∧ (x.2.1 < y.2.1 ∨ (x.2.1 = y.2.1 ∧ x.2.2 < y.2.2))) := by
 obtain ⟨h1, e1⟩ := List.getElem?_eq_some_iff.1 hx
 obtain ⟨h2, e2⟩ := List.getElem?_eq_some_iff.1 hy
 have := List.pairwise_iff_getElem.1 (tris_sorted hu) p j h1 h2 hpj
 rw [e1, e2, lt_tri] at this
 exact this
end
end Go.Proofs.YtcgbnjoajieggaaGreat
