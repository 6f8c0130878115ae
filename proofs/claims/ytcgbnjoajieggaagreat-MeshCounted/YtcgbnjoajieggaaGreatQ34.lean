/- Own texts, put together: Mi Mj Ms Mt Ml Mn. -/
import Derived.Test.YtcgbnjoajieggaaGreatQ4
import Derived.Test.YtcgbnjoajieggaaGreatQ7
import Derived.Test.YtcgbnjoajieggaaGreatQ32
import Derived.Test.YtcgbnjoajieggaaGreatQ33
import Derived.WalkSpells
namespace Go.Proofs.YtcgbnjoajieggaaGreat
/- Package mesh: Make. (gen_mi.py) -/
section
open Go.RowKit
attribute [local go_sem ↓] Go.wp_at_zero Go.wp_at_succ
set_option maxRecDepth 100000
theorem sg_same (p q : Nat) : sg3 p q p q p q ≤ 0 := by
 by_cases h : P3 p q p q p q
 · rw [sg3_yes h]
   have : S3 p q p q p q = 0 := by unfold S3; grind
   rw [this]; decide
 · rw [sg3_no h]; omega
noncomputable def sgP (P : List (Nat × Nat)) (a b c : Nat) : Int := sg3 (P.getD a (0, 0)).1 (P.getD a (0, 0)).2 (P.getD b (0, 0)).1 (P.getD b (0, 0)).2 (P.getD c (0, 0)).1 (P.getD c (0, 0)).2
noncomputable def mkE (P : List (Nat × Nat)) (A : List (List Wg)) (a b c : Int) : Int :=
 if [a, b, c].all (hasB P.length) = true then
   if sgP P a.toNat b.toNat c.toNat ≤ 0 then 14
   else if ((plc A a b).isSome || (plc A b c).isSome || (plc A c a).isSome) = true then 14 else 0
 else 11
def mkA (A : List (List Wg)) (a b c : Nat) : List (List Wg) := layA (layA (layA A a (b, c)) b (c, a)) c (a, b)
noncomputable def mkS (P : List (Nat × Nat)) (A : List (List Wg)) (a b c : Int) : List (List Wg) := if mkE P A a b c = 0 then mkA A a.toNat b.toNat c.toNat else A
theorem mkS_no {P : List (Nat × Nat)} {A : List (List Wg)} {a b c : Int} (h : mkE P A a b c ≠ 0) : mkS P A a b c = A := if_neg h
theorem mkS_yes {P : List (Nat × Nat)} {A : List (List Wg)} {a b c : Nat} (h : mkE P A (a : Nat) (b : Nat) (c : Nat) = 0) : mkS P A (a : Nat) (b : Nat) (c : Nat) = mkA A a b c := if_pos h
theorem lay3_none {A : List (List Wg)} (hu : Uq A) {a b c : Nat} (ha : a < A.length) (hb : b < A.length) (_hc : c < A.length) (hne : ¬ (a = b ∧ b = c)) (h0 : plc A (a : Nat) (b : Nat) = none) (h1 : plc A (b : Nat) (c : Nat) = none) (h2 : plc A (c : Nat) (a : Nat) = none) :
   plc A (a : Nat) (b : Nat) = none ∧ plc (layA A a (b, c)) (b : Nat) (c : Nat) = none ∧ plc (layA (layA A a (b, c)) b (c, a)) (c : Nat) (a : Nat) = none := by
 have g1 : plc (layA A a (b, c)) (b : Nat) (c : Nat) = none := by
   rw [plc_lay hu (w := (b, c)) ha h0, if_neg (by dsimp only; omega)]; exact h1
 refine ⟨h0, g1, ?_⟩
 rw [plc_lay (uq_lay hu ha h0) (w := (c, a)) (by rw [len_lay]; exact hb) g1, if_neg (by dsimp only; omega), plc_lay hu (w := (b, c)) ha h0, if_neg (by dsimp only; omega)]
 exact h2
theorem frm4 {S : Nat → Prop} {W w2 w3 w4 w5 : World} (b : Below W.heap.size W w2) (f3 : Frm S w2 w3) (f4 : Frm (Upx S w2 w3) w3 w4) (f5 : Frm (Upx (Upx S w2 w3) w3 w4) w4 w5) : Frm S W w5 ∧ ∀ k, Upx (Upx (Upx S w2 w3) w3 w4) w4 w5 k → Upx S W w5 k := by
 have s := b.size
 have s3 := f3.size
 have s4 := f4.size
 have s5 := f5.size
 have e1 : Frm S w2 w5 := (f3.trans f4).trans (f5.mono (Upx.up s3 s4))
 refine ⟨(Frm.later b).trans (e1.mono (fun k hk => Or.inl hk)), fun k hk => ?_⟩
 rcases hk with ((hk | hk) | hk) | hk
 · exact Or.inl hk
 · exact Or.inr ⟨by omega, by omega⟩
 · exact Or.inr ⟨by omega, by omega⟩
 · exact Or.inr ⟨by omega, hk.2⟩
section
variable {S : Nat → Prop} {W : World} {mB : Nat} {x : Gx} {P : List (Nat × Nat)} {A : List (List Wg)} {F : Int → Int → Option Int} {vs : List Value}
theorem Msh.step {W' : World} {A' : List (List Wg)} {vs' : List Value} (h : Msh S W mB x P A F vs) (hf : Frm S W W') (hg : Gd (Upx S W W') W' x P A' F vs') : Msh (Upx S W W') W' mB x P A' F vs' :=
 ⟨by have := h.box; unfold Mh CB at this ⊢; rw [hf.keep mB h.box.lt h.out]; exact this, fun e => by rcases e with e | e; exact h.out e; have := h.box.lt; omega, hg⟩
theorem Msh.later {W' : World} (h : Msh S W mB x P A F vs) (hb : Below W.heap.size W W') : Msh (Upx S W W') W' mB x P A F vs ∧ Frm S W W' :=
 ⟨h.step (Frm.later hb) ((h.g.later hb).more fun _ hk => Or.inl hk), Frm.later hb⟩
set_option maxHeartbeats 8000000 in
theorem make_any (h : Msh S W mB x P A F vs) (hw : ∀ (i : Nat) (p : Nat × Nat), P[i]? = some p → WdP p) (a b c : Int) :
   Calls Tryz.prog 15 #[.pointer (some ⟨mB, 0, none⟩), .int .i64 a, .int .i64 b, .int .i64 c] W fun e w' => e = .returned (.int .i64 (mkE P A a b c)) ∧ ∃ vs', Msh (Upx S W w') w' mB x P (mkS P A a b c) F vs' ∧ Frm S W w' := by
 have HM := Lib.hid h
 obtain ⟨W1, hW1⟩ : ∃ W1, W.alloc (.cells #[.int .i64 a, .int .i64 b, .int .i64 c] 3) = W1 := ⟨_, rfl⟩
 have b1 : Below W.heap.size W W1 := by rw [← hW1]; exact (Below.refl _ W).alloc (Nat.le_refl _) _
 have k1 : CB W1 W.heap.size #[.int .i64 a, .int .i64 b, .int .i64 c] 3 := by rw [← hW1]; exact CB.new W _ _
 have HG1 := Lib.hid (h.g.later b1)
 have HC : Hid (∀ (i : Nat) (y : Int), [a, b, c][i]? = some y → W1.cell? ⟨W.heap.size, i, none⟩ = some (.int .i64 y)) := Lib.hid (fun i y hi => by
   have hl := (List.getElem?_eq_some_iff.1 hi).1
   simp only [List.length_cons, List.length_nil] at hl
   rcases (show i = 0 ∨ i = 1 ∨ i = 2 by omega) with rfl | rfl | rfl
   · simp at hi; subst hi; exact k1.cell 0 (by simp)
   · simp at hi; subst hi; exact k1.cell 1 (by simp)
   · simp at hi; subst hi; exact k1.cell 2 (by simp))
 have HB1 := Lib.hid b1
 have HB := Lib.hid h.box
 have hmb : W.cell? ⟨mB, 0, none⟩ = some (.pointer (some ⟨x.gB, 0, none⟩)) := h.box.cell 0 (by simp)
 have HX : Hid (∃ n pa pc, P.length = n ∧ x.pv = .slice pa n pc) := Lib.hid (by obtain ⟨pa, pc, h1, _⟩ := h.g.m.pslice; exact ⟨_, pa, pc, rfl, h1⟩)
 clear b1 k1
 cases hh : [a, b, c].all (hasB P.length) with
 | false =>
   have hE : mkE P A a b c = 11 := by unfold mkE; rw [hh]; rfl
   rw [mkS_no (by rw [hE]; decide), hE]
   clear h hw
   go_enter Tryz.func15, Tryz.ntmps15
   go_wp2_with fail
   refine (none_some HB.out).mono ?_
   rintro e w' ⟨rfl, rfl⟩
   go_wp2_with fail
   try rw [hW1]
   refine (has_any HG1.out _ 3 3 [a, b, c] rfl (by omega) HC.out).mono ?_
   rintro e w' ⟨rfl, rfl⟩
   rw [hh]
   go_wp2
   go_ret
   exact ⟨rfl, _, (HM.out.later HB1.out).1, (HM.out.later HB1.out).2⟩
 | true =>
   have hall : ∀ y ∈ [a, b, c], hasB P.length y = true := List.all_eq_true.1 hh
   have la := of_decide_eq_true (hall a (by simp))
   have lb := of_decide_eq_true (hall b (by simp))
   have lc := of_decide_eq_true (hall c (by simp))
   obtain ⟨a, rfl⟩ : ∃ q : Nat, a = (q : Int) := ⟨a.toNat, by omega⟩
   obtain ⟨b, rfl⟩ : ∃ q : Nat, b = (q : Int) := ⟨b.toNat, by omega⟩
   obtain ⟨c, rfl⟩ : ∃ q : Nat, c = (q : Int) := ⟨c.toNat, by omega⟩
   clear hall
   have hPl := h.g.len
   have ha : a < A.length := by omega
   have hb : b < A.length := by omega
   have hc : c < A.length := by omega
   obtain ⟨z, hz'⟩ : ∃ z, sgP P a b c = z := ⟨_, rfl⟩
   have HE1 : Hid (z ≤ 0 → mkE P A (a : Nat) (b : Nat) (c : Nat) = 14) := Lib.hid (fun hz => by unfold mkE; rw [if_pos hh, if_pos (by simpa [hz'] using hz)])
   have HE2 : Hid (¬ z ≤ 0 → ((plc A (a : Nat) (b : Nat)).isSome || (plc A (b : Nat) (c : Nat)).isSome || (plc A (c : Nat) (a : Nat)).isSome) = true → mkE P A (a : Nat) (b : Nat) (c : Nat) = 14) := Lib.hid (fun hz ht => by unfold mkE; rw [if_pos hh, if_neg (by simpa [hz'] using hz), if_pos ht])
   have HE3 : Hid (¬ z ≤ 0 → ((plc A (a : Nat) (b : Nat)).isSome || (plc A (b : Nat) (c : Nat)).isSome || (plc A (c : Nat) (a : Nat)).isSome) = false → mkE P A (a : Nat) (b : Nat) (c : Nat) = 0) := Lib.hid (fun hz ht => by unfold mkE; rw [if_pos hh, if_neg (by simpa [hz'] using hz), if_neg (by rw [ht]; decide)])
   have HNE : Hid (¬ z ≤ 0 → ¬ (a = b ∧ b = c)) := Lib.hid (fun hz e => hz (by rw [← hz']; obtain ⟨rfl, rfl⟩ := e; exact sg_same _ _))
   obtain ⟨⟨ax, ay⟩, pa⟩ : ∃ p, P[a]? = some p := ⟨_, List.getElem?_eq_getElem (by omega)⟩
   obtain ⟨⟨bx, by'⟩, pb⟩ : ∃ p, P[b]? = some p := ⟨_, List.getElem?_eq_getElem (by omega)⟩
   obtain ⟨⟨cx, cy⟩, pc'⟩ : ∃ p, P[c]? = some p := ⟨_, List.getElem?_eq_getElem (by omega)⟩
   have hz : sg3 ax ay bx by' cx cy = z := by
     rw [← hz']; unfold sgP
     rw [List.getD_eq_getElem?_getD, List.getD_eq_getElem?_getD, List.getD_eq_getElem?_getD, pa, pb, pc']; rfl
   have HW6 : Hid (W6 ax ay bx by' cx cy) := Lib.hid ⟨hw a _ pa, hw b _ pb, hw c _ pc'⟩
   obtain ⟨gB, pv, av, pm, fm⟩ := x
   obtain ⟨qa, pc, hpv, hcell⟩ := HG1.out.m.pslice
   dsimp only at hpv
   subst hpv
   obtain ⟨pg, rfl, _, a1, a2⟩ := hcell a _ pa
   obtain ⟨pg', e1, _, b1, b2⟩ := hcell b _ pb
   obtain rfl : pg = pg' := by have := Option.some.inj e1; injection this
   obtain ⟨pg', e1, _, c1, c2⟩ := hcell c _ pc'
   obtain rfl : pg = pg' := by have := Option.some.inj e1; injection this
   obtain ⟨c0, _⟩ := HG1.out.m.cells
   obtain ⟨n, hn⟩ : ∃ n, P.length = n := ⟨_, rfl⟩
   dsimp only at a1 a2 b1 b2 c1 c2 c0
   rw [hn] at c0
   have HS0 := Lib.hid (show W1.drew.cell? ⟨gB, 0, none⟩ = some (.slice (some ⟨pg, 0, none⟩) n pc) ∧ W1.drew.cell? ⟨pg, a * 2, none⟩ = some (.float .f64 ax) ∧ W1.drew.cell? ⟨pg, a * 2 + 1, none⟩ = some (.float .f64 ay) ∧ W1.drew.cell? ⟨pg, b * 2, none⟩ = some (.float .f64 bx) ∧ W1.drew.cell? ⟨pg, b * 2 + 1, none⟩ = some (.float .f64 by') ∧ W1.drew.cell? ⟨pg, c * 2, none⟩ = some (.float .f64 cx) ∧ W1.drew.cell? ⟨pg, c * 2 + 1, none⟩ = some (.float .f64 cy) ∧ Below W1.heap.size W1 W1.drew from ⟨c0, a1, a2, b1, b2, c1, c2, (Below.refl _ _).drew⟩)
   have la1 : (a : Int) < (n : Int) := by omega
   have la2 : ¬ n ≤ a := by omega
   have lb1 : (b : Int) < (n : Int) := by omega
   have lb2 : ¬ n ≤ b := by omega
   have lc1 : (c : Int) < (n : Int) := by omega
   have lc2 : ¬ n ≤ c := by omega
   have hmb1 : W1.cell? ⟨mB, 0, none⟩ = some (.pointer (some ⟨gB, 0, none⟩)) := cell_later HB1.out hmb
   clear e1 hcell a1 a2 b1 b2 c1 c2 c0 pa pb pc' hz' h hw la lb lc hn hPl HX
   go_enter Tryz.func15, Tryz.ntmps15
   go_wp2_with fail
   refine (none_some HB.out).mono ?_
   rintro e w' ⟨rfl, rfl⟩
   go_wp2_with fail
   try rw [hW1]
   refine (has_any HG1.out _ 3 3 [(a : Int), (b : Int), (c : Int)] rfl (by omega) HC.out).mono ?_
   rintro e w' ⟨rfl, hq⟩
   rw [hq]
   clear hq w'
   rw [hh]
   go_wp2_with fail
   refine wp_region_held_drew (S := (fun W => W.cell? ⟨gB, 0, none⟩ = some (.slice (some ⟨pg, 0, none⟩) n pc) ∧ W.cell? ⟨pg, a * 2, none⟩ = some (.float .f64 ax) ∧ W.cell? ⟨pg, a * 2 + 1, none⟩ = some (.float .f64 ay) ∧ W.cell? ⟨pg, b * 2, none⟩ = some (.float .f64 bx) ∧ W.cell? ⟨pg, b * 2 + 1, none⟩ = some (.float .f64 by') ∧ W.cell? ⟨pg, c * 2, none⟩ = some (.float .f64 cx) ∧ W.cell? ⟨pg, c * 2 + 1, none⟩ = some (.float .f64 cy) ∧ Below W1.heap.size W1 W)) (by kernel_rfl) HS0.out (fun hS => ?_)
   refine take_at (i := 0) (d := some 25) (v := .pointer (some ⟨gB, 0, none⟩)) (by kernel_rfl) (by kernel_rfl) (by kernel_rfl) (by kernel_rfl) (fun _ _ _ h => h) ?_ hS ?_
   · intro o ho
     replace ho := Option.some.inj (Eq.trans (Eq.symm ho) rfl)
     subst ho
     refine Or.inl ⟨by rfl, ?_⟩
     intro w hSw
     obtain ⟨q0, q1, q2, q3, q4, q5, q6, q7⟩ := hSw
     go_simp
   simp only [Act.put, List.setIfInBounds_toArray, List.set_cons_zero, List.set_cons_succ]
   refine take_at (i := 1) (d := some 26) (v := .pointer (some ⟨gB, 0, none⟩)) (by kernel_rfl) (by kernel_rfl) (by kernel_rfl) (by kernel_rfl) (fun _ _ _ h => h) ?_ hS ?_
   · intro o ho
     replace ho := Option.some.inj (Eq.trans (Eq.symm ho) rfl)
     subst ho
     refine Or.inl ⟨by rfl, ?_⟩
     intro w hSw
     obtain ⟨q0, q1, q2, q3, q4, q5, q6, q7⟩ := hSw
     go_simp
   simp only [Act.put, List.setIfInBounds_toArray, List.set_cons_zero, List.set_cons_succ]
   refine take_at (i := 2) (d := some 27) (v := .pointer (some ⟨gB, 0, none⟩)) (by kernel_rfl) (by kernel_rfl) (by kernel_rfl) (by kernel_rfl) (fun _ _ _ h => h) ?_ hS ?_
   · intro o ho
     replace ho := Option.some.inj (Eq.trans (Eq.symm ho) rfl)
     subst ho
     refine Or.inl ⟨by rfl, ?_⟩
     intro w hSw
     obtain ⟨q0, q1, q2, q3, q4, q5, q6, q7⟩ := hSw
     go_simp
   simp only [Act.put, List.setIfInBounds_toArray, List.set_cons_zero, List.set_cons_succ]
   refine take_at (i := 3) (d := some 28) (v := .slice (some ⟨pg, 0, none⟩) n pc) (by kernel_rfl) (by kernel_rfl) (by kernel_rfl) (by kernel_rfl) (fun _ _ _ h => h) ?_ hS ?_
   · intro o ho
     replace ho := Option.some.inj (Eq.trans (Eq.symm ho) rfl)
     subst ho
     refine Or.inl ⟨by rfl, ?_⟩
     intro w hSw
     obtain ⟨q0, q1, q2, q3, q4, q5, q6, q7⟩ := hSw
     go_simp
   simp only [Act.put, List.setIfInBounds_toArray, List.set_cons_zero, List.set_cons_succ]
   refine take_at (i := 4) (d := some 29) (v := .int .i64 (a : Nat)) (by kernel_rfl) (by kernel_rfl) (by kernel_rfl) (by kernel_rfl) (fun _ _ _ h => h) ?_ hS ?_
   · intro o ho
     replace ho := Option.some.inj (Eq.trans (Eq.symm ho) rfl)
     subst ho
     refine Or.inl ⟨by rfl, ?_⟩
     intro w hSw
     obtain ⟨q0, q1, q2, q3, q4, q5, q6, q7⟩ := hSw
     go_simp
   simp only [Act.put, List.setIfInBounds_toArray, List.set_cons_zero, List.set_cons_succ]
   refine take_at (i := 5) (d := some 30) (v := .pointer (some ⟨pg, a * 2, none⟩)) (by kernel_rfl) (by kernel_rfl) (by kernel_rfl) (by kernel_rfl) (fun _ _ _ h => h) ?_ hS ?_
   · intro o ho
     replace ho := Option.some.inj (Eq.trans (Eq.symm ho) rfl)
     subst ho
     refine Or.inl ⟨by rfl, ?_⟩
     intro w hSw
     obtain ⟨q0, q1, q2, q3, q4, q5, q6, q7⟩ := hSw
     go_simp
   simp only [Act.put, List.setIfInBounds_toArray, List.set_cons_zero, List.set_cons_succ]
   refine take_at (i := 6) (d := some 31) (v := .agg #[.float .f64 ax, .float .f64 ay]) (by kernel_rfl) (by kernel_rfl) (by kernel_rfl) (by kernel_rfl) (fun _ _ _ h => h) ?_ hS ?_
   · intro o ho
     replace ho := Option.some.inj (Eq.trans (Eq.symm ho) rfl)
     subst ho
     refine Or.inl ⟨by rfl, ?_⟩
     intro w hSw
     obtain ⟨q0, q1, q2, q3, q4, q5, q6, q7⟩ := hSw
     go_simp
   simp only [Act.put, List.setIfInBounds_toArray, List.set_cons_zero, List.set_cons_succ]
   refine take_at (i := 7) (d := some 32) (v := .pointer (some ⟨gB, 0, none⟩)) (by kernel_rfl) (by kernel_rfl) (by kernel_rfl) (by kernel_rfl) (fun _ _ _ h => h) ?_ hS ?_
   · intro o ho
     replace ho := Option.some.inj (Eq.trans (Eq.symm ho) rfl)
     subst ho
     refine Or.inl ⟨by rfl, ?_⟩
     intro w hSw
     obtain ⟨q0, q1, q2, q3, q4, q5, q6, q7⟩ := hSw
     go_simp
   simp only [Act.put, List.setIfInBounds_toArray, List.set_cons_zero, List.set_cons_succ]
   refine take_at (i := 8) (d := some 33) (v := .pointer (some ⟨gB, 0, none⟩)) (by kernel_rfl) (by kernel_rfl) (by kernel_rfl) (by kernel_rfl) (fun _ _ _ h => h) ?_ hS ?_
   · intro o ho
     replace ho := Option.some.inj (Eq.trans (Eq.symm ho) rfl)
     subst ho
     refine Or.inl ⟨by rfl, ?_⟩
     intro w hSw
     obtain ⟨q0, q1, q2, q3, q4, q5, q6, q7⟩ := hSw
     go_simp
   simp only [Act.put, List.setIfInBounds_toArray, List.set_cons_zero, List.set_cons_succ]
   refine take_at (i := 9) (d := some 34) (v := .pointer (some ⟨gB, 0, none⟩)) (by kernel_rfl) (by kernel_rfl) (by kernel_rfl) (by kernel_rfl) (fun _ _ _ h => h) ?_ hS ?_
   · intro o ho
     replace ho := Option.some.inj (Eq.trans (Eq.symm ho) rfl)
     subst ho
     refine Or.inl ⟨by rfl, ?_⟩
     intro w hSw
     obtain ⟨q0, q1, q2, q3, q4, q5, q6, q7⟩ := hSw
     go_simp
   simp only [Act.put, List.setIfInBounds_toArray, List.set_cons_zero, List.set_cons_succ]
   refine take_at (i := 10) (d := some 35) (v := .slice (some ⟨pg, 0, none⟩) n pc) (by kernel_rfl) (by kernel_rfl) (by kernel_rfl) (by kernel_rfl) (fun _ _ _ h => h) ?_ hS ?_
   · intro o ho
     replace ho := Option.some.inj (Eq.trans (Eq.symm ho) rfl)
     subst ho
     refine Or.inl ⟨by rfl, ?_⟩
     intro w hSw
     obtain ⟨q0, q1, q2, q3, q4, q5, q6, q7⟩ := hSw
     go_simp
   simp only [Act.put, List.setIfInBounds_toArray, List.set_cons_zero, List.set_cons_succ]
   refine take_at (i := 11) (d := some 36) (v := .int .i64 (b : Nat)) (by kernel_rfl) (by kernel_rfl) (by kernel_rfl) (by kernel_rfl) (fun _ _ _ h => h) ?_ hS ?_
   · intro o ho
     replace ho := Option.some.inj (Eq.trans (Eq.symm ho) rfl)
     subst ho
     refine Or.inl ⟨by rfl, ?_⟩
     intro w hSw
     obtain ⟨q0, q1, q2, q3, q4, q5, q6, q7⟩ := hSw
     go_simp
   simp only [Act.put, List.setIfInBounds_toArray, List.set_cons_zero, List.set_cons_succ]
   refine take_at (i := 12) (d := some 37) (v := .pointer (some ⟨pg, b * 2, none⟩)) (by kernel_rfl) (by kernel_rfl) (by kernel_rfl) (by kernel_rfl) (fun _ _ _ h => h) ?_ hS ?_
   · intro o ho
     replace ho := Option.some.inj (Eq.trans (Eq.symm ho) rfl)
     subst ho
     refine Or.inl ⟨by rfl, ?_⟩
     intro w hSw
     obtain ⟨q0, q1, q2, q3, q4, q5, q6, q7⟩ := hSw
     go_simp
   simp only [Act.put, List.setIfInBounds_toArray, List.set_cons_zero, List.set_cons_succ]
   refine take_at (i := 13) (d := some 38) (v := .agg #[.float .f64 bx, .float .f64 by']) (by kernel_rfl) (by kernel_rfl) (by kernel_rfl) (by kernel_rfl) (fun _ _ _ h => h) ?_ hS ?_
   · intro o ho
     replace ho := Option.some.inj (Eq.trans (Eq.symm ho) rfl)
     subst ho
     refine Or.inl ⟨by rfl, ?_⟩
     intro w hSw
     obtain ⟨q0, q1, q2, q3, q4, q5, q6, q7⟩ := hSw
     go_simp
   simp only [Act.put, List.setIfInBounds_toArray, List.set_cons_zero, List.set_cons_succ]
   refine take_at (i := 14) (d := some 39) (v := .pointer (some ⟨gB, 0, none⟩)) (by kernel_rfl) (by kernel_rfl) (by kernel_rfl) (by kernel_rfl) (fun _ _ _ h => h) ?_ hS ?_
   · intro o ho
     replace ho := Option.some.inj (Eq.trans (Eq.symm ho) rfl)
     subst ho
     refine Or.inl ⟨by rfl, ?_⟩
     intro w hSw
     obtain ⟨q0, q1, q2, q3, q4, q5, q6, q7⟩ := hSw
     go_simp
   simp only [Act.put, List.setIfInBounds_toArray, List.set_cons_zero, List.set_cons_succ]
   refine take_at (i := 15) (d := some 40) (v := .pointer (some ⟨gB, 0, none⟩)) (by kernel_rfl) (by kernel_rfl) (by kernel_rfl) (by kernel_rfl) (fun _ _ _ h => h) ?_ hS ?_
   · intro o ho
     replace ho := Option.some.inj (Eq.trans (Eq.symm ho) rfl)
     subst ho
     refine Or.inl ⟨by rfl, ?_⟩
     intro w hSw
     obtain ⟨q0, q1, q2, q3, q4, q5, q6, q7⟩ := hSw
     go_simp
   simp only [Act.put, List.setIfInBounds_toArray, List.set_cons_zero, List.set_cons_succ]
   refine take_at (i := 16) (d := some 41) (v := .pointer (some ⟨gB, 0, none⟩)) (by kernel_rfl) (by kernel_rfl) (by kernel_rfl) (by kernel_rfl) (fun _ _ _ h => h) ?_ hS ?_
   · intro o ho
     replace ho := Option.some.inj (Eq.trans (Eq.symm ho) rfl)
     subst ho
     refine Or.inl ⟨by rfl, ?_⟩
     intro w hSw
     obtain ⟨q0, q1, q2, q3, q4, q5, q6, q7⟩ := hSw
     go_simp
   simp only [Act.put, List.setIfInBounds_toArray, List.set_cons_zero, List.set_cons_succ]
   refine take_at (i := 17) (d := some 42) (v := .slice (some ⟨pg, 0, none⟩) n pc) (by kernel_rfl) (by kernel_rfl) (by kernel_rfl) (by kernel_rfl) (fun _ _ _ h => h) ?_ hS ?_
   · intro o ho
     replace ho := Option.some.inj (Eq.trans (Eq.symm ho) rfl)
     subst ho
     refine Or.inl ⟨by rfl, ?_⟩
     intro w hSw
     obtain ⟨q0, q1, q2, q3, q4, q5, q6, q7⟩ := hSw
     go_simp
   simp only [Act.put, List.setIfInBounds_toArray, List.set_cons_zero, List.set_cons_succ]
   refine take_at (i := 18) (d := some 43) (v := .int .i64 (c : Nat)) (by kernel_rfl) (by kernel_rfl) (by kernel_rfl) (by kernel_rfl) (fun _ _ _ h => h) ?_ hS ?_
   · intro o ho
     replace ho := Option.some.inj (Eq.trans (Eq.symm ho) rfl)
     subst ho
     refine Or.inl ⟨by rfl, ?_⟩
     intro w hSw
     obtain ⟨q0, q1, q2, q3, q4, q5, q6, q7⟩ := hSw
     go_simp
   simp only [Act.put, List.setIfInBounds_toArray, List.set_cons_zero, List.set_cons_succ]
   refine take_at (i := 19) (d := some 44) (v := .pointer (some ⟨pg, c * 2, none⟩)) (by kernel_rfl) (by kernel_rfl) (by kernel_rfl) (by kernel_rfl) (fun _ _ _ h => h) ?_ hS ?_
   · intro o ho
     replace ho := Option.some.inj (Eq.trans (Eq.symm ho) rfl)
     subst ho
     refine Or.inl ⟨by rfl, ?_⟩
     intro w hSw
     obtain ⟨q0, q1, q2, q3, q4, q5, q6, q7⟩ := hSw
     go_simp
   simp only [Act.put, List.setIfInBounds_toArray, List.set_cons_zero, List.set_cons_succ]
   refine take_at (i := 20) (d := some 45) (v := .agg #[.float .f64 cx, .float .f64 cy]) (by kernel_rfl) (by kernel_rfl) (by kernel_rfl) (by kernel_rfl) (fun _ _ _ h => h) ?_ hS ?_
   · intro o ho
     replace ho := Option.some.inj (Eq.trans (Eq.symm ho) rfl)
     subst ho
     refine Or.inl ⟨by rfl, ?_⟩
     intro w hSw
     obtain ⟨q0, q1, q2, q3, q4, q5, q6, q7⟩ := hSw
     go_simp
   simp only [Act.put, List.setIfInBounds_toArray, List.set_cons_zero, List.set_cons_succ]
   refine call_at 21 (by kernel_rfl) (by kernel_rfl) ?_
   intro o ho
   replace ho := Option.some.inj (Eq.trans (Eq.symm ho) rfl)
   subst ho
   intro KF hK
   rw [if_pos (by rfl)]
   go_simp
   refine (sign3_any ax ay bx by' cx cy _ HW6.out).mono ?_
   rintro e w2 ⟨rfl, hbx⟩
   rw [hz]
   go_wp2_with fail
   have hb2 := below_step hS.2.2.2.2.2.2.2 hbx
   refine hK.out _ _ ⟨box_cell hbx hS.1, box_cell hbx hS.2.1, box_cell hbx hS.2.2.1, box_cell hbx hS.2.2.2.1, box_cell hbx hS.2.2.2.2.1, box_cell hbx hS.2.2.2.2.2.1, box_cell hbx hS.2.2.2.2.2.2.1, hb2⟩ ?_
   have HB2 := Lib.hid hb2
   clear hS hbx hb2
   intro hS
   clear hK KF
   try simp only [Act.put, List.setIfInBounds_toArray, List.set_cons_zero, List.set_cons_succ]
   have HBW := Lib.hid (HB1.out.trans (HB2.out.mono HB1.out.size))
   by_cases hle : z ≤ 0
   · have hE : mkE P A (a : Nat) (b : Nat) (c : Nat) = 14 := HE1.out hle
     have hd : decide (z ≤ 0) = true := decide_eq_true hle
     as_aux_lemma =>
      refine take_at (i := 22) (d := some 47) (v := .bool true) (by kernel_rfl) (by kernel_rfl) (by kernel_rfl) (by kernel_rfl) (fun _ _ _ h => h) ?_ hS ?_
      · intro o ho
        replace ho := Option.some.inj (Eq.trans (Eq.symm ho) rfl)
        subst ho
        refine Or.inl ⟨by rfl, ?_⟩
        intro w hSw
        obtain ⟨q0, q1, q2, q3, q4, q5, q6, q7⟩ := hSw
        go_simp
      simp only [Act.put, List.setIfInBounds_toArray, List.set_cons_zero, List.set_cons_succ]
      refine take_at (i := 23) (d := some 24) (v := .bool true) (by kernel_rfl) (by kernel_rfl) (by kernel_rfl) (by kernel_rfl) (fun _ _ _ h => h) ?_ hS ?_
      · intro o ho
        replace ho := Option.some.inj (Eq.trans (Eq.symm ho) rfl)
        subst ho
        refine Or.inl ⟨by rfl, ?_⟩
        intro w hSw
        obtain ⟨q0, q1, q2, q3, q4, q5, q6, q7⟩ := hSw
        go_simp
      simp only [Act.put, List.setIfInBounds_toArray, List.set_cons_zero, List.set_cons_succ]
      refine wpAnyH_done (by kernel_rfl) ?_ _
      clear hS
      go_wp2
      go_ret
      rw [mkS_no (by rw [hE]; decide), hE]
      exact ⟨rfl, _, (HM.out.later HBW.out).1, (HM.out.later HBW.out).2⟩
   · have hd : decide (z ≤ 0) = false := decide_eq_false hle
     have HG2 := Lib.hid (HG1.out.later HB2.out)
     refine take_at (i := 22) (d := some 47) (v := .bool false) (by kernel_rfl) (by kernel_rfl) (by kernel_rfl) (by kernel_rfl) (fun _ _ _ h => h) ?_ hS ?_
     · intro o ho
       replace ho := Option.some.inj (Eq.trans (Eq.symm ho) rfl)
       subst ho
       refine Or.inl ⟨by rfl, ?_⟩
       intro w hSw
       obtain ⟨q0, q1, q2, q3, q4, q5, q6, q7⟩ := hSw
       go_simp
     simp only [Act.put, List.setIfInBounds_toArray, List.set_cons_zero, List.set_cons_succ]
     refine take_at (i := 23) (d := some 24) (v := .bool false) (by kernel_rfl) (by kernel_rfl) (by kernel_rfl) (by kernel_rfl) (fun _ _ _ h => h) ?_ hS ?_
     · intro o ho
       replace ho := Option.some.inj (Eq.trans (Eq.symm ho) rfl)
       subst ho
       refine Or.inl ⟨by rfl, ?_⟩
       intro w hSw
       obtain ⟨q0, q1, q2, q3, q4, q5, q6, q7⟩ := hSw
       go_simp
     simp only [Act.put, List.setIfInBounds_toArray, List.set_cons_zero, List.set_cons_succ]
     refine wpAnyH_done (by kernel_rfl) ?_ _
     clear hS
     go_wp2_with fail
     refine (there_any HG2.out (a : Nat) (b : Nat)).mono ?_
     rintro e w' ⟨rfl, hq⟩
     rw [hq]
     clear hq w'
     cases ht0 : (plc A (a : Nat) (b : Nat)).isSome
     case true =>
       have hE : mkE P A (a : Nat) (b : Nat) (c : Nat) = 14 := HE2.out hle (by simp [ht0])
       as_aux_lemma =>
        go_wp2
        go_ret
        rw [mkS_no (by rw [hE]; decide), hE]
        exact ⟨rfl, _, (HM.out.later HBW.out).1, (HM.out.later HBW.out).2⟩
     go_wp2_with fail
     refine (there_any HG2.out (b : Nat) (c : Nat)).mono ?_
     rintro e w' ⟨rfl, hq⟩
     rw [hq]
     clear hq w'
     cases ht1 : (plc A (b : Nat) (c : Nat)).isSome
     case true =>
       have hE : mkE P A (a : Nat) (b : Nat) (c : Nat) = 14 := HE2.out hle (by simp [ht1])
       as_aux_lemma =>
        go_wp2
        go_ret
        rw [mkS_no (by rw [hE]; decide), hE]
        exact ⟨rfl, _, (HM.out.later HBW.out).1, (HM.out.later HBW.out).2⟩
     go_wp2_with fail
     refine (there_any HG2.out (c : Nat) (a : Nat)).mono ?_
     rintro e w' ⟨rfl, hq⟩
     rw [hq]
     clear hq w'
     cases ht2 : (plc A (c : Nat) (a : Nat)).isSome
     case true =>
       have hE : mkE P A (a : Nat) (b : Nat) (c : Nat) = 14 := HE2.out hle (by simp [ht2])
       as_aux_lemma =>
        go_wp2
        go_ret
        rw [mkS_no (by rw [hE]; decide), hE]
        exact ⟨rfl, _, (HM.out.later HBW.out).1, (HM.out.later HBW.out).2⟩
     have HN := Lib.hid (lay3_none HG2.out.uq ha hb hc (HNE.out hle) (by simpa using ht0) (by simpa using ht1) (by simpa using ht2))
     have hE : mkE P A (a : Nat) (b : Nat) (c : Nat) = 0 := HE3.out hle (by simp [ht0, ht1, ht2])
     have HSt := Lib.hid (And.intro hE (mkS_yes hE))
     clear hE ht0 ht1 ht2
     go_wp2_with fail
     refine (lay_any HG2.out a b c ha hb hc HN.out.1).mono ?_
     rintro e w3 ⟨rfl, v3, g3, f3⟩
     have H3 := Lib.hid (And.intro g3 f3)
     clear g3 f3
     go_wp2_with fail
     refine (lay_any H3.out.1 b c a (by rw [len_lay]; exact hb) (by rw [len_lay]; exact hc) (by rw [len_lay]; exact ha) HN.out.2.1).mono ?_
     rintro e w4 ⟨rfl, v4, g4, f4⟩
     have H4 := Lib.hid (And.intro g4 f4)
     clear g4 f4
     go_wp2_with fail
     refine (lay_any H4.out.1 c a b (by rw [len_lay, len_lay]; exact hc) (by rw [len_lay, len_lay]; exact ha) (by rw [len_lay, len_lay]; exact hb) HN.out.2.2).mono ?_
     rintro e w5 ⟨rfl, v5, g5, f5⟩
     have H5 := Lib.hid (And.intro g5 f5)
     clear g5 f5
     have HF := Lib.hid (frm4 HBW.out H3.out.2 H4.out.2 H5.out.2)
     go_wp2
     go_ret
     rw [HSt.out.2, HSt.out.1]
     exact ⟨rfl, _, HM.out.step HF.out.1 (H5.out.1.more HF.out.2), HF.out.1⟩
end
end

/- Package mesh: Kill. -/
section
open Go.RowKit
attribute [local go_sem ↓] Go.wp_at_zero Go.wp_at_succ
set_option maxRecDepth 100000
structure Tri3 (P : List (Nat × Nat)) (A : List (List Wg)) : Prop where
 turn : ∀ a b c, Hw A a b c → Hw A b c a
 pos : ∀ a b c, Hw A a b c → 0 < sgP P a b c
def Rot (a b c x y z : Nat) : Prop := (x = a ∧ y = b ∧ z = c) ∨ (x = b ∧ y = c ∧ z = a) ∨ (x = c ∧ y = a ∧ z = b)
theorem sg_ab (p q r s : Nat) : sg3 p q p q r s ≤ 0 := by
 by_cases h : P3 p q p q r s
 · rw [sg3_yes h]
   have : S3 p q p q r s = 0 := by unfold S3; grind
   rw [this]; decide
 · rw [sg3_no h]; omega
theorem sg_bc (p q r s : Nat) : sg3 p q r s r s ≤ 0 := by
 by_cases h : P3 p q r s r s
 · rw [sg3_yes h]
   have : S3 p q r s r s = 0 := by unfold S3; grind
   rw [this]; decide
 · rw [sg3_no h]; omega
theorem sg_ca (p q r s : Nat) : sg3 p q r s p q ≤ 0 := by
 by_cases h : P3 p q r s p q
 · rw [sg3_yes h]
   have : S3 p q r s p q = 0 := by unfold S3; grind
   rw [this]; decide
 · rw [sg3_no h]; omega
theorem sgP_ne {P : List (Nat × Nat)} {a b c : Nat} (h : 0 < sgP P a b c) : a ≠ b ∧ b ≠ c ∧ c ≠ a := by
 unfold sgP at h
 refine ⟨?_, ?_, ?_⟩
 · rintro rfl; have := sg_ab (P.getD a (0, 0)).1 (P.getD a (0, 0)).2 (P.getD c (0, 0)).1 (P.getD c (0, 0)).2; omega
 · rintro rfl; have := sg_bc (P.getD a (0, 0)).1 (P.getD a (0, 0)).2 (P.getD b (0, 0)).1 (P.getD b (0, 0)).2; omega
 · rintro rfl; have := sg_ca (P.getD c (0, 0)).1 (P.getD c (0, 0)).2 (P.getD b (0, 0)).1 (P.getD b (0, 0)).2; omega
theorem sgq_rot (p q : Rat) (h : p = q) : sgq p = sgq q := by rw [h]
theorem sg_turn (ax ay bx by' cx cy : Nat) : sg3 bx by' cx cy ax ay = sg3 ax ay bx by' cx cy := by
 by_cases h : P3 ax ay bx by' cx cy
 · rw [sg3_yes h, sg3_yes ⟨h.2.1, h.2.2, h.1⟩]
   exact sgq_rot _ _ (by unfold S3; grind)
 · rw [sg3_no h, sg3_no (fun e => h ⟨e.2.2, e.1, e.2.1⟩)]
theorem sgP_turn (P : List (Nat × Nat)) (a b c : Nat) : sgP P b c a = sgP P a b c := sg_turn _ _ _ _ _ _
theorem Tri3.ne {P : List (Nat × Nat)} {A : List (List Wg)} (h : Tri3 P A) {a b c : Nat} (hw : Hw A a b c) : a ≠ b ∧ b ≠ c ∧ c ≠ a := sgP_ne (h.pos a b c hw)
section
variable {S : Nat → Prop} {W : World} {mB : Nat} {x : Gx} {P : List (Nat × Nat)} {A : List (List Wg)} {F : Int → Int → Option Int} {vs : List Value}
end
end

/- Package mesh: a list of points cloned. -/
section
open Go.RowKit Go.Shelf Go.Lib
attribute [local go_sem ↓] Go.wp_at_zero Go.wp_at_succ
set_option maxRecDepth 100000
theorem below_grown' {B : Nat} {W V : World} {row : Option Nat} (h : W.grownBy V row) (hr : ∀ g, row = some g → B ≤ g) (hB : B ≤ W.heap.size) : Below B W V :=
 ⟨h.os, h.tape, h.output, h.size, fun k hk => h.block k (by omega) (fun e => by have := hr k e.symm; omega)⟩
def ptsF (f : Nat → Nat × Nat) (n : Nat) : List (Nat × Nat) := (List.range n).map f
theorem ptsF_len (f : Nat → Nat × Nat) (n : Nat) : (ptsF f n).length = n := by simp [ptsF]
theorem ptsF_at (f : Nat → Nat × Nat) {n i : Nat} (h : i < n) : (ptsF f n)[i]? = some (f i) := by simp [ptsF, h]
theorem qcs_cell {P : List (Nat × Nat)} {j : Nat} {u : Value} (h : (qcs P)[j]? = some u) : ∃ p, P[j / 2]? = some p ∧ ((j % 2 = 0 ∧ u = .float .f64 p.1) ∨ (j % 2 = 1 ∧ u = .float .f64 p.2)) := by
 have hj := (List.getElem?_eq_some_iff.1 h).1
 rw [qcs_len] at hj
 obtain ⟨p, hp⟩ : ∃ p, P[j / 2]? = some p := ⟨_, List.getElem?_eq_getElem (by omega)⟩
 obtain ⟨q1, q2⟩ := qcs_at hp
 refine ⟨p, hp, ?_⟩
 rcases Nat.mod_two_eq_zero_or_one j with e | e
 · rw [show j / 2 * 2 = j by omega, h] at q1
   exact Or.inl ⟨e, Option.some.inj q1⟩
 · rw [show j / 2 * 2 + 1 = j by omega, h] at q2
   exact Or.inr ⟨e, Option.some.inj q2⟩
theorem qcs_one (P : List (Nat × Nat)) : ∀ u ∈ qcs P, u.oneCell' = true := by
 intro u hu
 unfold qcs at hu
 obtain ⟨p, _, hp⟩ := List.mem_flatMap.1 hu
 simp at hp
 rcases hp with rfl | rfl <;> rfl
theorem ps_news {w : World} {ad : Addr} {n c j : Nat} {u : Value} {f : Nat → Nat × Nat} (h : Ps w (.slice (some ad) n c) n f) (hj : (qcs (ptsF f n))[j]? = some u) : w.cell? (ad.add j) = some u := by
 have hl := (List.getElem?_eq_some_iff.1 hj).1
 rw [qcs_len, ptsF_len] at hl
 obtain ⟨g, off, ha, hg, hcell⟩ := h.some (by omega)
 cases ha
 rw [Addr.add_lit]
 have hk : j / 2 < n := by omega
 obtain ⟨p, hp, hu⟩ := qcs_cell hj
 rw [ptsF_at f hk] at hp
 cases hp
 have q := hcell (j / 2) hk
 rcases hu with ⟨e, rfl⟩ | ⟨e, rfl⟩
 · rw [← q.1]; congr 2; omega
 · rw [← q.2]; congr 2; omega
set_option maxHeartbeats 1000000 in
theorem clone_pts (s : Value) (n : Nat) (f : Nat → Nat × Nat) (W : World) (h : Ps W s n f) (hn : n ≤ 1048576) :
   Calls Tryz.prog 57 #[s] W fun e w' => ∃ v, e = .returned v ∧ w'.ownsRow W.heap.size 36 2 v n (qcs (ptsF f n)) ∧ Below W.heap.size W w' := by
 obtain ⟨a, c, rfl, hc, hm⟩ := h.shape
 cases a with
 | none =>
   have hn0 : n = 0 := by
     rcases Nat.eq_zero_or_pos n with e | e
     · exact e
     · obtain ⟨g, off, e2, _⟩ := h.some e; cases e2
   subst hn0
   have HR : Hid (∀ w, World.ownsRow w W.heap.size 36 2 (.slice none 0 0) 0 (qcs (ptsF f 0))) := Lib.hid (fun w => World.ownsRow_nil w _ _ _)
   have qT := run_eql_slice_nil (P := Tryz.prog) W 27 36 none 0 c 0 0 Tryz.underlying27
   clear h
   go_enter Tryz.func57, Tryz.ntmps57
   go_wp2
   go_ret
   exact ⟨_, rfl, HR.out _, Below.refl _ _⟩
 | some ad =>
   have HP := Lib.hid h
   have HN : Hid ((qcs (ptsF f n)).length = n * 2) := Lib.hid (by rw [qcs_len, ptsF_len])
   have hown : (W.alloc (.cells #[] 36)).ownsRow W.heap.size 36 2 (.slice (some ⟨W.heap.size, 0, none⟩) 0 0) 0 [] := World.ownsRow_made W #[] 0 (Nat.le_refl _) (Nat.zero_le _) rfl
   have HO := Lib.hid hown
   have HB : Hid (Below W.heap.size W (W.alloc (.cells #[] 36))) := Lib.hid ((Below.refl _ _).alloc (Nat.le_refl _) _)
   obtain ⟨i0, hi0, hz0, hz1, hz2⟩ := info_parts (show (Tryz.prog.info? 36).map (fun i => (i.zero, i.size, i.bytes)) = some (some (.agg #[.float .f64 0, .float .f64 0]), 2, 16) by kernel_rfl)
   have qT := fun W' => run_eql_slice_nil (P := Tryz.prog) W' 27 36 (some ad) n c 0 0 Tryz.underlying27
   clear h hown
   go_enter Tryz.func57, Tryz.ntmps57
   go_wp2_with (at_builtin; refine wpList_append_own _ rfl _ _ 27 rfl W.heap.size 36 i0 (.agg #[.float .f64 0, .float .f64 0]) 2 16 Tryz.underlying27 hi0 hz0 hz1 hz2 rfl (by decide) (.slice (some ⟨W.heap.size, 0, none⟩) 0 0) 0 [] rfl HO.out ad n c (qcs (ptsF f n)) rfl HN.out (fun j u hj => ps_news (HP.out.later HB.out) hj) (qcs_one _) (by unfold maxLen; omega) (by omega) (by simp) ?_; intro v9 w9 hw9 hg9 hv9; have HV := Lib.hid (And.intro hw9 hg9); clear hw9 hg9 hv9)
   go_ret
   refine ⟨_, rfl, ?_, HB.out.trans (below_grown' HV.out.2 (fun g hg => (HO.out.lt g hg).1) (by simp))⟩
   have hv := HV.out.1
   rw [List.nil_append, Nat.zero_add] at hv
   exact hv
end

/- Package mesh: plain. (gen_mt.py) -/
section
open Go.RowKit Go.Shelf Go.Lib
attribute [local go_sem ↓] Go.wp_at_zero Go.wp_at_succ
attribute [local go_sem] run_store_float
set_option maxRecDepth 100000
def pz (x : Nat) : Nat := if FloatKind.f64.format.order x 0 == some .eq then 0 else x
theorem res_plain (W : World) (B x y : Nat) (tmps : Array Value) (h : CB W B #[.float .f64 x, .float .f64 y] 36)
   (t2 : tmps[2]? = some (.pointer (some ⟨B, 0, none⟩))) : (results Tryz.f78 tmps).run Tryz.prog W = .ok (.agg #[.float .f64 x, .float .f64 y]) W := by
 have c0 := h.cell 0 (by simp)
 have c1 := h.cell 1 (by simp)
 simp [results, Tryz.f78, go_sem, c0, c1, t2]
set_option maxHeartbeats 2000000 in
theorem plain_any (x y : Nat) (W : World) : Calls Tryz.prog 78 #[.agg #[.float .f64 x, .float .f64 y]] W fun e w' => e = .returned (.agg #[.float .f64 (pz x), .float .f64 (pz y)]) ∧ Below W.heap.size W w' := by
 obtain ⟨u, hu⟩ : ∃ u, pz x = u := ⟨_, rfl⟩
 obtain ⟨v, hv⟩ : ∃ v, pz y = v := ⟨_, rfl⟩
 rw [hu, hv]
 have hb2 : Below W.heap.size W ((W.alloc (.cells #[.float .f64 u, .float .f64 v] 36)).alloc (.cells #[.float .f64 u, .float .f64 v] 36)) := ((Below.refl _ W).alloc (Nat.le_refl _) _).alloc (by simp) _
 have HB := Lib.hid hb2
 have HC : Hid (CB ((W.alloc (.cells #[.float .f64 u, .float .f64 v] 36)).alloc (.cells #[.float .f64 u, .float .f64 v] 36)) (W.heap.size + 1) #[.float .f64 u, .float .f64 v] 36) := Lib.hid (by
   have := CB.new (W.alloc (.cells #[.float .f64 u, .float .f64 v] 36)) #[.float .f64 u, .float .f64 v] 36
   rwa [show (W.alloc (.cells #[.float .f64 u, .float .f64 v] 36)).heap.size = W.heap.size + 1 by simp] at this)
 clear hb2
 cases hx : (FloatKind.f64.format.order x 0 == some .eq) with
 | true =>
   have ex : u = 0 := by rw [← hu]; unfold pz; rw [hx]; rfl
   subst ex
   cases hy : (FloatKind.f64.format.order y 0 == some .eq) with
   | true =>
     have ey : v = 0 := by rw [← hv]; unfold pz; rw [hy]; rfl
     subst ey
     clear hu hv
     as_aux_lemma =>
      go_enter Tryz.func78, Tryz.ntmps78
      go_wp2
      exact bodyPost_ret (res_plain _ _ _ _ _ HC.out rfl) rfl ⟨rfl, HB.out⟩
   | false =>
     have ey : v = y := by rw [← hv]; unfold pz; rw [hy]; rfl
     subst ey
     clear hu hv
     as_aux_lemma =>
      go_enter Tryz.func78, Tryz.ntmps78
      go_wp2
      exact bodyPost_ret (res_plain _ _ _ _ _ HC.out rfl) rfl ⟨rfl, HB.out⟩
 | false =>
   have ex : u = x := by rw [← hu]; unfold pz; rw [hx]; rfl
   subst ex
   cases hy : (FloatKind.f64.format.order y 0 == some .eq) with
   | true =>
     have ey : v = 0 := by rw [← hv]; unfold pz; rw [hy]; rfl
     subst ey
     clear hu hv
     as_aux_lemma =>
      go_enter Tryz.func78, Tryz.ntmps78
      go_wp2
      exact bodyPost_ret (res_plain _ _ _ _ _ HC.out rfl) rfl ⟨rfl, HB.out⟩
   | false =>
     have ey : v = y := by rw [← hv]; unfold pz; rw [hy]; rfl
     subst ey
     clear hu hv
     as_aux_lemma =>
      go_enter Tryz.func78, Tryz.ntmps78
      go_wp2
      exact bodyPost_ret (res_plain _ _ _ _ _ HC.out rfl) rfl ⟨rfl, HB.out⟩
end

/- Package mesh: a row's tail sorted. -/
section
open Go.RowKit Go.Shelf Go.Sort Go.Lib
theorem flat_at {α : Type} (enc : α → List Value) {k : Nat} (hk : ∀ x, (enc x).length = k) (h0 : 0 < k) : ∀ (l : List α) (t : Nat), (l.flatMap enc)[t]? = (l[t / k]?).bind fun x => (enc x)[t % k]? := by
 intro l
 induction l with
 | nil => intro t; simp
 | cons a r ih =>
   intro t
   rw [List.flatMap_cons]
   by_cases h : t < k
   · rw [List.getElem?_append_left (by rw [hk]; exact h), Nat.div_eq_of_lt h, Nat.mod_eq_of_lt h]; rfl
   · rw [List.getElem?_append_right (by rw [hk]; omega), hk, ih]
     have e1 : t / k = (t - k) / k + 1 := by
       rw [Nat.div_eq t k, if_pos ⟨h0, by omega⟩]
     have e2 : t % k = (t - k) % k := Nat.mod_eq_sub_mod (by omega)
     rw [e1, e2, List.getElem?_cons_succ]
theorem flat_len {α : Type} (enc : α → List Value) {k : Nat} (hk : ∀ x, (enc x).length = k) : ∀ (l : List α), (l.flatMap enc).length = l.length * k := by
 intro l
 induction l with
 | nil => simp
 | cons a r ih => rw [List.flatMap_cons, List.length_append, hk, ih, List.length_cons, Nat.add_mul, Nat.one_mul, Nat.add_comm]
theorem grown_sort {α : Type} [Inhabited α] (enc : α → List Value) (k : Nat) (W : World) (g off m : Nat) (dk : Array α) (os : Array Obj) : W.grownBy (sortWorldK enc k W g off m dk os) (some g) := by
 refine ⟨rfl, rfl, rfl, ?_, fun b hb hn => ?_⟩
 · simp [sortWorldK, grow, putRowK, putRow, mapBlock, Sort.ahead]
 · have hn' : b ≠ g := fun e => hn (by rw [e])
   show (((W.heap.modify g _) ++ os))[b]? = _
   rw [Array.getElem?_append_left (by simpa using hb), Array.getElem?_modify]
   rw [if_neg (Ne.symm hn')]
theorem holds_tail {α : Type} [Inhabited α] (enc : α → List Value) {k : Nat} (hk : ∀ x, (enc x).length = k) (h0 : 0 < k) {W : World} {B T g n cap m : Nat} {xs : List α} (h : W.ownsRow B T k (.slice (some ⟨g, 0, none⟩) n cap) n (xs.flatMap enc)) (hl : xs.length = n) (hm : m ≤ n) :
   HoldsK enc k W g (m * k) (xs.drop m).toArray := by
 intro j hj
 have hj' : j < (n - m) * k := by simpa [flatK, hl] using hj
 have hlt : m * k + j < n * k := by
   have : m * k + (n - m) * k = n * k := by rw [← Nat.add_mul]; congr 1; omega
   omega
 refine ⟨?_, h.frozenAt _⟩
 rw [h.cellAt _ hlt, flat_at enc hk h0]
 have e1 : (m * k + j) / k = m + j / k := by rw [Nat.add_comm, Nat.mul_comm, Nat.add_mul_div_left _ _ h0, Nat.add_comm]
 have e2 : (m * k + j) % k = j % k := by rw [Nat.add_comm, Nat.mul_comm, Nat.add_mul_mod_self_left]
 have hjk : j / k < n - m := Nat.div_lt_of_lt_mul (by rw [Nat.mul_comm]; exact hj')
 rw [e1, e2, get_flatK _ _ _ _ (by simpa [hl] using hj')]
 obtain ⟨x, hx⟩ : ∃ x, xs[m + j / k]? = some x := ⟨_, List.getElem?_eq_getElem (by omega)⟩
 have hd : (xs.drop m).toArray[j / k]! = x := by
   rw [getElem!_pos _ _ (by simp; omega)]
   have := (List.getElem?_eq_some_iff.1 hx).2
   simpa using this
 rw [hx, hd, Option.bind_some, List.getElem?_eq_getElem (by rw [hk]; exact Nat.mod_lt _ h0)]
 rw [getElem!_pos _ _ (by rw [hk]; exact Nat.mod_lt _ h0)]
 rfl
theorem own_sorted {α : Type} [Inhabited α] (enc : α → List Value) {k : Nat} (hk : ∀ x, (enc x).length = k) (h0 : 0 < k) {W : World} {B T g n cap m q : Nat} {xs s : List α} {os : Array Obj} (h : W.ownsRow B T k (.slice (some ⟨g, 0, none⟩) n cap) n (xs.flatMap enc)) (hl : xs.length = n) (hm : m ≤ n) (hs : s.length = n - m) :
   (sortWorldK enc k W g (m * k) q s.toArray os).ownsRow B T k (.slice (some ⟨g, 0, none⟩) n cap) n ((xs.take m ++ s).flatMap enc) := by
 have hlen : (xs.take m ++ s).length = n := by rw [List.length_append, List.length_take, hs]; omega
 refine ⟨by rw [flat_len enc hk, hlen], ?_⟩
 rcases h.2 with ⟨e, _⟩ | ⟨g', cap', cur, e, h1, h2, h3, h4, h5, h6⟩
 · cases e
 · injection e with e1 _ e3
   injection e1 with e1
   injection e1 with e1
   subst e1 e3
   refine Or.inr ⟨g, cap, putCells id (m * k) (flatK enc k s.toArray) cur, rfl, h1, ?_, h3, h4, by simp [putCells, h5], ?_⟩
   · have hg := (Array.getElem?_eq_some_iff.1 h2).1
     show ((W.heap.modify g _) ++ os)[g]? = _
     rw [Array.getElem?_append_left (by simpa using hg), Array.getElem?_modify, if_pos rfl, h2]
     rfl
   · apply List.ext_getElem?
     intro t
     rw [flat_at enc hk h0]
     by_cases ht : t < n * k
     · rw [List.getElem?_take_of_lt ht, Array.getElem?_toList]
       have htc : t < cur.size := by rw [h5]; exact Nat.lt_of_lt_of_le ht (Nat.mul_le_mul_right _ h3)
       unfold putCells
       rw [Array.getElem?_mapIdx]
       have hold : cur[t]? = (xs[t / k]?).bind fun x => (enc x)[t % k]? := by
         rw [← flat_at enc hk h0, ← h6, List.getElem?_take_of_lt ht, Array.getElem?_toList]
       have hmn : m * k + (n - m) * k = n * k := by rw [← Nat.add_mul]; congr 1; omega
       by_cases hlo : m * k ≤ t
       · have ec : (m * k ≤ t ∧ t < m * k + (flatK enc k s.toArray).size) := ⟨hlo, by simp [flatK, hs]; omega⟩
         rw [Array.getElem?_eq_getElem htc, Option.map_some, if_pos ec]
         have e1 : t = m * k + (t - m * k) := by omega
         obtain ⟨j, hj⟩ : ∃ j, t - m * k = j := ⟨_, rfl⟩
         rw [hj] at e1 ⊢
         have f1 : t / k = m + j / k := by rw [e1, Nat.add_comm, Nat.mul_comm, Nat.add_mul_div_left _ _ h0, Nat.add_comm]
         have f2 : t % k = j % k := by rw [e1, Nat.add_comm, Nat.mul_comm, Nat.add_mul_mod_self_left]
         have hj' : j < (n - m) * k := by omega
         have hjk : j / k < s.length := by rw [hs]; exact Nat.div_lt_of_lt_mul (by rw [Nat.mul_comm]; exact hj')
         rw [f1, f2, List.getElem?_append_right (by rw [List.length_take]; exact Nat.le_trans (Nat.min_le_left _ _) (Nat.le_add_right _ _)), List.length_take, Nat.min_eq_left (by omega), Nat.add_sub_cancel_left, List.getElem?_eq_getElem hjk, Option.bind_some]
         have := get_flatK enc k s.toArray j (by simpa [hs] using hj')
         rw [this, List.getElem?_eq_getElem (by rw [hk]; exact Nat.mod_lt _ h0)]
         have hd : s.toArray[j / k]! = s[j / k] := by rw [getElem!_pos _ _ (by simpa using hjk)]; simp
         rw [hd, getElem!_pos _ _ (by rw [hk]; exact Nat.mod_lt _ h0)]
         rfl
       · have hlt : t / k < m := Nat.div_lt_of_lt_mul (by rw [Nat.mul_comm]; omega)
         rw [Array.getElem?_eq_getElem htc, Option.map_some, if_neg (fun e => hlo e.1), ← Array.getElem?_eq_getElem htc, hold, List.getElem?_append_left (by rw [List.length_take]; omega), List.getElem?_take_of_lt hlt]
     · rw [List.getElem?_eq_none (by rw [List.length_take]; omega)]
       have : n ≤ t / k := by
         rw [Nat.le_div_iff_mul_le h0]; omega
       rw [List.getElem?_eq_none (by rw [hlen]; exact this)]; rfl
end

/- Package mesh: rows of numbers held against each other; the sort at pairs and triples. (gen_mn.py) -/
section
open Go.RowKit Go.Shelf Go.Sort Go.Lib
attribute [local go_sem ↓] Go.wp_at_zero Go.wp_at_succ
set_option maxRecDepth 100000
def hl : List Int → List Int → Int
 | x :: xs, y :: ys => if Lib.compareInt x y = 0 then hl xs ys else Lib.compareInt x y
 | _, _ => 0
theorem cmp_zero (x y : Int) : Lib.compareInt x y = 0 ↔ x = y := by unfold Lib.compareInt; split <;> (try split) <;> omega
theorem cmp_neg (x y : Int) : Lib.compareInt x y < 0 ↔ x < y := by unfold Lib.compareInt; split <;> (try split) <;> omega
theorem hl_nil (a : List Int) : hl [] a = 0 := by cases a <;> rfl
theorem hl_neg : ∀ (xs ys : List Int), xs.length = ys.length → (hl xs ys < 0 ↔ ∃ i x y, xs[i]? = some x ∧ ys[i]? = some y ∧ x < y ∧ xs.take i = ys.take i) := by
 intro xs
 induction xs with
 | nil => intro ys h; rw [hl_nil]; simp
 | cons a r ih =>
   intro ys h
   cases ys with
   | nil => simp at h
   | cons b s =>
     unfold hl
     by_cases e : Lib.compareInt a b = 0
     · rw [if_pos e, ih s (by simpa using h)]
       have ab := (cmp_zero a b).1 e
       subst ab
       constructor
       · rintro ⟨i, x, y, h1, h2, h3, h4⟩
         exact ⟨i + 1, x, y, h1, h2, h3, by rw [List.take_succ_cons, List.take_succ_cons, h4]⟩
       · rintro ⟨i, x, y, h1, h2, h3, h4⟩
         cases i with
         | zero => simp at h1 h2; omega
         | succ i =>
           rw [List.take_succ_cons, List.take_succ_cons] at h4
           exact ⟨i, x, y, h1, h2, h3, (List.cons.inj h4).2⟩
     · rw [if_neg e, cmp_neg]
       constructor
       · intro hh; exact ⟨0, a, b, rfl, rfl, hh, rfl⟩
       · rintro ⟨i, x, y, h1, h2, h3, h4⟩
         cases i with
         | zero => simp at h1 h2; omega
         | succ i =>
           rw [List.take_succ_cons, List.take_succ_cons] at h4
           exact absurd ((cmp_zero a b).2 (List.cons.inj h4).1) e
set_option maxHeartbeats 2000000 in
theorem held_pair (a b d f : Int) (W : World) : Calls Tryz.prog 65 #[.agg #[.int .i64 a, .int .i64 b], .agg #[.int .i64 d, .int .i64 f]] W fun e w' => e = .returned (.int .i64 (hl [a, b] [d, f])) ∧ GrW W w' := by
 obtain ⟨z, hz⟩ : ∃ z, hl [a, b] [d, f] = z := ⟨_, rfl⟩
 rw [hz]
 have HZ := Lib.hid hz
 obtain ⟨xs, hxs⟩ : ∃ xs, [a, b] = xs := ⟨_, rfl⟩
 obtain ⟨ys, hys⟩ : ∃ ys, [d, f] = ys := ⟨_, rfl⟩
 obtain ⟨W2, hW2⟩ : ∃ X, (W.alloc (.cells #[.int .i64 a, .int .i64 b] 71)).alloc (.cells #[.int .i64 d, .int .i64 f] 71) = X := ⟨_, rfl⟩
 have G2 : Hid (GrW W W2) := Lib.hid (by rw [← hW2]; exact ((GrW.refl W).alloc _).alloc _)
 have k1 : CB W2 W.heap.size #[.int .i64 a, .int .i64 b] 71 := by rw [← hW2]; exact (CB.new W _ _).later ((Below.refl _ _).alloc (Nat.le_refl _) _)
 have k2 : CB W2 (W.heap.size + 1) #[.int .i64 d, .int .i64 f] 71 := by
   have := CB.new (W.alloc (.cells #[.int .i64 a, .int .i64 b] 71)) #[.int .i64 d, .int .i64 f] 71
   rw [hW2] at this
   have e : (W.alloc (.cells #[.int .i64 a, .int .i64 b] 71)).heap.size = W.heap.size + 1 := by simp
   rw [e] at this; exact this
 have HX : Hid (∀ (k : Nat), k < 2 → ∃ x y, xs[k]? = some x ∧ ys[k]? = some y ∧ W2.cell? ⟨W.heap.size, k, none⟩ = some (.int .i64 x) ∧ W2.cell? ⟨W.heap.size + 1, k, none⟩ = some (.int .i64 y)) := Lib.hid (fun k hk => by
   subst hxs hys
   rcases (show k = 0 ∨ k = 1 by omega) with rfl | rfl
   · exact ⟨_, _, rfl, rfl, k1.cell 0 (by simp), k2.cell 0 (by simp)⟩
   · exact ⟨_, _, rfl, rfl, k1.cell 1 (by simp), k2.cell 1 (by simp)⟩)
 have HL : Hid (xs.length = 2 ∧ ys.length = 2 ∧ hl xs ys = z) := Lib.hid (by subst hxs hys; exact ⟨rfl, rfl, hz⟩)
 clear hxs hys hz HZ
 have kc1 : W2.cell? ⟨W.heap.size, 0, none⟩ = some (.int .i64 a) := k1.cell 0 (by simp)
 have kc2 : W2.cell? ⟨W.heap.size, 1, none⟩ = some (.int .i64 b) := k1.cell 1 (by simp)
 clear k1 k2
 go_enter Tryz.func65, Tryz.ntmps65
 go_wp2_with fail
 try rw [hW2]
 clear hW2 kc1 kc2
 obtain ⟨b1, hb1⟩ : ∃ q, W.heap.size = q := ⟨_, rfl⟩
 rw [hb1] at HX
 try rw [hb1]
 clear hb1
 go_loopw [9] (fun i wr => ∃ k : Nat, k ≤ 2 ∧ i = .int .i64 (k : Nat) ∧ Hid (GrW W2 wr ∧ hl (xs.drop k) (ys.drop k) = z)) (fun i _ => 2 - (intOf i).toNat)
 case atStart => exact ⟨0, Nat.zero_le _, rfl, Lib.hid ⟨GrW.refl _, HL.out.2.2⟩⟩
 case round =>
   obtain ⟨k, hk, rfl, hB⟩ := hrel
   by_cases hlt : k < 2
   · have hlt' : (k : Int) < 2 := by omega
     have hlt2 : ¬ (2 : Int) ≤ (k : Int) := by omega
     have hlt3 : ¬ 2 ≤ k := by omega
     have hk0 : (0 : Int) ≤ (k : Int) := by omega
     obtain ⟨x, y, hx, hy, c1, c2⟩ := HX.out k hlt
     have HD : Hid (hl (xs.drop k) (ys.drop k) = if Lib.compareInt x y = 0 then hl (xs.drop (k + 1)) (ys.drop (k + 1)) else Lib.compareInt x y) := Lib.hid (by
       obtain ⟨l1, e1⟩ := List.getElem?_eq_some_iff.1 hx
       obtain ⟨l2, e2⟩ := List.getElem?_eq_some_iff.1 hy
       rw [List.drop_eq_getElem_cons l1, List.drop_eq_getElem_cons l2, e1, e2]; rfl)
     obtain ⟨v, hv⟩ : ∃ v, Lib.compareInt x y = v := ⟨_, rfl⟩
     rw [hv] at HD
     have q1 := box_cell hB.out.1.below c1
     have q2 := box_cell hB.out.1.below c2
     have HS := Lib.hid (And.intro q1 (And.intro q2 hB.out.1.drew))
     clear hx hy c1 c2 q1 q2
     go_wp2_with fail
     refine wp_region_held_drew (S := (fun W => W.cell? ⟨b1, k, none⟩ = some (.int .i64 x) ∧ W.cell? ⟨b1 + 1, k, none⟩ = some (.int .i64 y) ∧ GrW W2 W)) (by kernel_rfl) HS.out (fun hS => ?_)
     refine take_at (i := 0) (d := some 12) (v := .int .i64 (k : Nat)) (by kernel_rfl) (by kernel_rfl) (by kernel_rfl) (by kernel_rfl) (fun _ _ _ h => h) ?_ hS ?_
     · intro o ho
       replace ho := Option.some.inj (Eq.trans (Eq.symm ho) rfl)
       subst ho
       refine Or.inl ⟨by rfl, ?_⟩
       intro w hSw
       obtain ⟨q1, q2, _⟩ := hSw
       go_simp
     simp only [Act.put, List.setIfInBounds_toArray, List.set_cons_zero, List.set_cons_succ]
     refine take_at (i := 1) (d := some 13) (v := .pointer (some ⟨b1, k, none⟩)) (by kernel_rfl) (by kernel_rfl) (by kernel_rfl) (by kernel_rfl) (fun _ _ _ h => h) ?_ hS ?_
     · intro o ho
       replace ho := Option.some.inj (Eq.trans (Eq.symm ho) rfl)
       subst ho
       refine Or.inl ⟨by rfl, ?_⟩
       intro w hSw
       obtain ⟨q1, q2, _⟩ := hSw
       go_simp
     simp only [Act.put, List.setIfInBounds_toArray, List.set_cons_zero, List.set_cons_succ]
     refine take_at (i := 2) (d := some 14) (v := .int .i64 x) (by kernel_rfl) (by kernel_rfl) (by kernel_rfl) (by kernel_rfl) (fun _ _ _ h => h) ?_ hS ?_
     · intro o ho
       replace ho := Option.some.inj (Eq.trans (Eq.symm ho) rfl)
       subst ho
       refine Or.inl ⟨by rfl, ?_⟩
       intro w hSw
       obtain ⟨q1, q2, _⟩ := hSw
       go_simp
     simp only [Act.put, List.setIfInBounds_toArray, List.set_cons_zero, List.set_cons_succ]
     refine take_at (i := 3) (d := some 15) (v := .int .i64 (k : Nat)) (by kernel_rfl) (by kernel_rfl) (by kernel_rfl) (by kernel_rfl) (fun _ _ _ h => h) ?_ hS ?_
     · intro o ho
       replace ho := Option.some.inj (Eq.trans (Eq.symm ho) rfl)
       subst ho
       refine Or.inl ⟨by rfl, ?_⟩
       intro w hSw
       obtain ⟨q1, q2, _⟩ := hSw
       go_simp
     simp only [Act.put, List.setIfInBounds_toArray, List.set_cons_zero, List.set_cons_succ]
     refine take_at (i := 4) (d := some 16) (v := .pointer (some ⟨b1 + 1, k, none⟩)) (by kernel_rfl) (by kernel_rfl) (by kernel_rfl) (by kernel_rfl) (fun _ _ _ h => h) ?_ hS ?_
     · intro o ho
       replace ho := Option.some.inj (Eq.trans (Eq.symm ho) rfl)
       subst ho
       refine Or.inl ⟨by rfl, ?_⟩
       intro w hSw
       obtain ⟨q1, q2, _⟩ := hSw
       go_simp
     simp only [Act.put, List.setIfInBounds_toArray, List.set_cons_zero, List.set_cons_succ]
     refine take_at (i := 5) (d := some 17) (v := .int .i64 y) (by kernel_rfl) (by kernel_rfl) (by kernel_rfl) (by kernel_rfl) (fun _ _ _ h => h) ?_ hS ?_
     · intro o ho
       replace ho := Option.some.inj (Eq.trans (Eq.symm ho) rfl)
       subst ho
       refine Or.inl ⟨by rfl, ?_⟩
       intro w hSw
       obtain ⟨q1, q2, _⟩ := hSw
       go_simp
     simp only [Act.put, List.setIfInBounds_toArray, List.set_cons_zero, List.set_cons_succ]
     refine call_at 6 (by kernel_rfl) (by kernel_rfl) ?_
     intro o ho
     replace ho := Option.some.inj (Eq.trans (Eq.symm ho) rfl)
     subst ho
     intro KF hK
     rw [if_pos (by rfl)]
     go_simp
     refine (Tryz.cmp_Compare_int x y _).mono ?_
     rintro e wx ⟨rfl, hbx⟩
     subst hbx
     rw [hv]
     go_wp2_with fail
     refine hK.out _ _ hS ?_
     clear hS
     intro hS
     clear hK KF
     try simp only [Act.put, List.setIfInBounds_toArray, List.set_cons_zero, List.set_cons_succ]
     refine take_at (i := 7) (d := some 6) (v := .int .i64 v) (by kernel_rfl) (by kernel_rfl) (by kernel_rfl) (by kernel_rfl) (fun _ _ _ h => h) ?_ hS ?_
     · intro o ho
       replace ho := Option.some.inj (Eq.trans (Eq.symm ho) rfl)
       subst ho
       refine Or.inl ⟨by rfl, ?_⟩
       intro w hSw
       obtain ⟨q1, q2, _⟩ := hSw
       go_simp
     simp only [Act.put, List.setIfInBounds_toArray, List.set_cons_zero, List.set_cons_succ]
     refine wpAnyH_done (by kernel_rfl) ?_ _
     obtain ⟨w3, hw3⟩ : ∃ X, wr.drew = X := ⟨_, rfl⟩
     rw [hw3] at hS
     try rw [hw3]
     have HG := Lib.hid hS.2.2
     clear hS hw3
     by_cases h0 : v = 0
     · subst h0
       have HE := Lib.hid (hB.out.2.symm.trans HD.out)
       clear HD
       go_wp2
       refine ⟨⟨k + 1, by omega, by go_num, Lib.hid ⟨HG.out, ?_⟩⟩, by simp [intOf]; omega⟩
       have := HE.out; rw [if_pos rfl] at this; exact this.symm
     · have HE := Lib.hid (hB.out.2.symm.trans (HD.out.trans (if_neg h0)))
       have h0' : (v == 0) = false := by rw [beq_eq_false_iff_ne]; exact h0
       clear HD
       go_wp2
       go_ret
       exact ⟨by rw [HE.out]; rfl, G2.out.trans HG.out⟩
   · obtain rfl : k = 2 := by omega
     have HE : Hid (z = 0) := Lib.hid (by have h := hB.out.2; rw [List.drop_of_length_le (by have := HL.out.1; omega), hl_nil] at h; exact h.symm)
     go_wp2
     go_ret
     exact ⟨by rw [HE.out]; rfl, G2.out.trans hB.out.1⟩
def enc_pair (x : Nat × Nat) : List Value := [.int .i64 ((x.1 : Nat) : Int), .int .i64 ((x.2 : Nat) : Int)]
def cf_pair (x y : Nat × Nat) : Int := hl [((x.1 : Nat) : Int), ((x.2 : Nat) : Int)] [((y.1 : Nat) : Int), ((y.2 : Nat) : Int)]
theorem lt_pair (x y : Nat × Nat) : ltOf cf_pair x y = true ↔ x.1 < y.1 ∨ (x.1 = y.1 ∧ x.2 < y.2) := by
 unfold ltOf cf_pair
 rw [decide_eq_true_iff, hl_neg [((x.1 : Nat) : Int), ((x.2 : Nat) : Int)] [((y.1 : Nat) : Int), ((y.2 : Nat) : Int)] rfl]
 constructor
 · rintro ⟨i, u, v, h1, h2, h3, h4⟩
   have hi := (List.getElem?_eq_some_iff.1 h1).1
   simp only [List.length_cons, List.length_nil] at hi
   rcases (show i = 0 ∨ i = 1 by omega) with rfl | rfl
   · simp at h1 h2 h4
     omega
   · simp at h1 h2 h4
     omega
 · intro h
   rcases h with h | ⟨h, h'⟩
   · exact ⟨0, _, _, rfl, rfl, by omega, rfl⟩
   · exact ⟨1, _, _, rfl, rfl, by omega, by simp; omega⟩
theorem enc_pair_len (x : Nat × Nat) : (enc_pair x).length = 2 := rfl
theorem swo_pair : Sort.SWO (ltOf cf_pair) where
 irrefl x := by rw [← Bool.not_eq_true, lt_pair]; omega
 trans x y z h1 h2 := by rw [lt_pair] at *; omega
 ntrans x y z h1 h2 := by rw [← Bool.not_eq_true, lt_pair] at *; omega
theorem tot_pair (x y : Nat × Nat) (h1 : ltOf cf_pair x y = false) (h2 : ltOf cf_pair y x = false) : x = y := by
 rw [← Bool.not_eq_true, lt_pair] at h1 h2
 obtain ⟨x1, x2⟩ := x
 obtain ⟨y1, y2⟩ := y
 dsimp only at h1 h2
 have : x1 = y1 ∧ x2 = y2 := by omega
 simp only [this]
def srt_pair (l : List (Nat × Nat)) : List (Nat × Nat) := l.mergeSort fun x y => !(ltOf cf_pair) y x
theorem sort_pair {W : World} {B n m : Nat} {v : Value} {xs : List (Nat × Nat)} (h : W.ownsRow B 71 2 v n (xs.flatMap enc_pair)) (hl : xs.length = n) (hm : m ≤ n) (hn : n < 4611686018427387904) (p : Option Addr) (c : Nat) (hp : n - m = 0 ∨ ∃ g, v.ownBlock = some g ∧ p = some ⟨g, m * 2, none⟩) :
   Calls Tryz.prog 88 #[.slice p (n - m) c, .func (.func 65) #[] #[]] W fun e w' => e = .returned (.tuple #[]) ∧ w'.ownsRow B 71 2 v n ((xs.take m ++ srt_pair (xs.drop m)).flatMap enc_pair) ∧ W.grownBy w' v.ownBlock := by
 by_cases h0 : n - m = 0
 · rw [h0]
   have hd : xs.drop m = [] := List.drop_of_length_le (by omega)
   have e0 : xs.take m ++ srt_pair (xs.drop m) = xs := by rw [hd]; unfold srt_pair; rw [List.mergeSort_nil, List.append_nil, List.take_of_length_le (by omega)]
   rw [e0]
   refine (AnyF.slices_SortFunc_none Tryz.sortPair p c _ W).mono ?_
   rintro e w' ⟨rfl, rfl⟩
   exact ⟨rfl, h, ⟨rfl, rfl, rfl, Nat.le_refl _, fun _ _ _ => rfl⟩⟩
 · obtain ⟨g, hg, rfl⟩ := hp.resolve_left h0
   obtain ⟨cap, rfl⟩ : ∃ cap, v = .slice (some ⟨g, 0, none⟩) n cap := by
     rcases h.2 with ⟨rfl, _⟩ | ⟨g', cap, cur, rfl, _⟩
     · cases hg
     · have : g' = g := by simpa [Value.ownBlock] using hg
       rw [this]; exact ⟨cap, rfl⟩
   have hH := holds_tail enc_pair enc_pair_len (by decide) h hl hm
   have hsz : (xs.drop m).toArray.size = n - m := by simp [hl]
   have eg : ∀ args w, (callFunc 65 args).run Tryz.prog w = .ok (.enter 65 args) w := enters_of Tryz.func65 (by kernel_rfl) rfl
   have hcmp : CmpLays Tryz.prog 65 #[] enc_pair 2 cf_pair g (m * 2) (xs.drop m).toArray.size W := fun _ _ _ _ x y => held_pair ((x.1 : Nat) : Int) ((x.2 : Nat) : Int) ((y.1 : Nat) : Int) ((y.2 : Nat) : Int) _
   have hS := AnyQ.slices_SortFunc_total Tryz.sortPair 2 Tryz.isAgg71 Tryz.sizeOf71 enc_pair enc_pair_len (fun x v hv => by simp [enc_pair] at hv; rcases hv with rfl | rfl <;> rfl) cf_pair swo_pair 65 #[] g (m * 2) c (xs.drop m).toArray W eg hcmp hH (h.lt g rfl).2 (by rw [hsz]; omega) tot_pair
   rw [hsz] at hS
   refine hS.mono ?_
   rintro e w' ⟨rfl, q, os, rfl⟩
   have hlen : (srt_pair (xs.drop m)).length = n - m := by unfold srt_pair; rw [(List.mergeSort_perm _ _).length_eq]; simp [hl]
   exact ⟨rfl, own_sorted enc_pair enc_pair_len (by decide) h hl hm hlen, grown_sort enc_pair _ W g _ q _ os⟩
set_option maxHeartbeats 2000000 in
theorem held_tri (a b c d f g : Int) (W : World) : Calls Tryz.prog 87 #[.agg #[.int .i64 a, .int .i64 b, .int .i64 c], .agg #[.int .i64 d, .int .i64 f, .int .i64 g]] W fun e w' => e = .returned (.int .i64 (hl [a, b, c] [d, f, g])) ∧ GrW W w' := by
 obtain ⟨z, hz⟩ : ∃ z, hl [a, b, c] [d, f, g] = z := ⟨_, rfl⟩
 rw [hz]
 have HZ := Lib.hid hz
 obtain ⟨xs, hxs⟩ : ∃ xs, [a, b, c] = xs := ⟨_, rfl⟩
 obtain ⟨ys, hys⟩ : ∃ ys, [d, f, g] = ys := ⟨_, rfl⟩
 obtain ⟨W2, hW2⟩ : ∃ X, (W.alloc (.cells #[.int .i64 a, .int .i64 b, .int .i64 c] 30)).alloc (.cells #[.int .i64 d, .int .i64 f, .int .i64 g] 30) = X := ⟨_, rfl⟩
 have G2 : Hid (GrW W W2) := Lib.hid (by rw [← hW2]; exact ((GrW.refl W).alloc _).alloc _)
 have k1 : CB W2 W.heap.size #[.int .i64 a, .int .i64 b, .int .i64 c] 30 := by rw [← hW2]; exact (CB.new W _ _).later ((Below.refl _ _).alloc (Nat.le_refl _) _)
 have k2 : CB W2 (W.heap.size + 1) #[.int .i64 d, .int .i64 f, .int .i64 g] 30 := by
   have := CB.new (W.alloc (.cells #[.int .i64 a, .int .i64 b, .int .i64 c] 30)) #[.int .i64 d, .int .i64 f, .int .i64 g] 30
   rw [hW2] at this
   have e : (W.alloc (.cells #[.int .i64 a, .int .i64 b, .int .i64 c] 30)).heap.size = W.heap.size + 1 := by simp
   rw [e] at this; exact this
 have HX : Hid (∀ (k : Nat), k < 3 → ∃ x y, xs[k]? = some x ∧ ys[k]? = some y ∧ W2.cell? ⟨W.heap.size, k, none⟩ = some (.int .i64 x) ∧ W2.cell? ⟨W.heap.size + 1, k, none⟩ = some (.int .i64 y)) := Lib.hid (fun k hk => by
   subst hxs hys
   rcases (show k = 0 ∨ k = 1 ∨ k = 2 by omega) with rfl | rfl | rfl
   · exact ⟨_, _, rfl, rfl, k1.cell 0 (by simp), k2.cell 0 (by simp)⟩
   · exact ⟨_, _, rfl, rfl, k1.cell 1 (by simp), k2.cell 1 (by simp)⟩
   · exact ⟨_, _, rfl, rfl, k1.cell 2 (by simp), k2.cell 2 (by simp)⟩)
 have HL : Hid (xs.length = 3 ∧ ys.length = 3 ∧ hl xs ys = z) := Lib.hid (by subst hxs hys; exact ⟨rfl, rfl, hz⟩)
 clear hxs hys hz HZ
 have kc1 : W2.cell? ⟨W.heap.size, 0, none⟩ = some (.int .i64 a) := k1.cell 0 (by simp)
 have kc2 : W2.cell? ⟨W.heap.size, 1, none⟩ = some (.int .i64 b) := k1.cell 1 (by simp)
 have kc3 : W2.cell? ⟨W.heap.size, 2, none⟩ = some (.int .i64 c) := k1.cell 2 (by simp)
 clear k1 k2
 go_enter Tryz.func87, Tryz.ntmps87
 go_wp2_with fail
 try rw [hW2]
 clear hW2 kc1 kc2 kc3
 obtain ⟨b1, hb1⟩ : ∃ q, W.heap.size = q := ⟨_, rfl⟩
 rw [hb1] at HX
 try rw [hb1]
 clear hb1
 go_loopw [9] (fun i wr => ∃ k : Nat, k ≤ 3 ∧ i = .int .i64 (k : Nat) ∧ Hid (GrW W2 wr ∧ hl (xs.drop k) (ys.drop k) = z)) (fun i _ => 3 - (intOf i).toNat)
 case atStart => exact ⟨0, Nat.zero_le _, rfl, Lib.hid ⟨GrW.refl _, HL.out.2.2⟩⟩
 case round =>
   obtain ⟨k, hk, rfl, hB⟩ := hrel
   by_cases hlt : k < 3
   · have hlt' : (k : Int) < 3 := by omega
     have hlt2 : ¬ (3 : Int) ≤ (k : Int) := by omega
     have hlt3 : ¬ 3 ≤ k := by omega
     have hk0 : (0 : Int) ≤ (k : Int) := by omega
     obtain ⟨x, y, hx, hy, c1, c2⟩ := HX.out k hlt
     have HD : Hid (hl (xs.drop k) (ys.drop k) = if Lib.compareInt x y = 0 then hl (xs.drop (k + 1)) (ys.drop (k + 1)) else Lib.compareInt x y) := Lib.hid (by
       obtain ⟨l1, e1⟩ := List.getElem?_eq_some_iff.1 hx
       obtain ⟨l2, e2⟩ := List.getElem?_eq_some_iff.1 hy
       rw [List.drop_eq_getElem_cons l1, List.drop_eq_getElem_cons l2, e1, e2]; rfl)
     obtain ⟨v, hv⟩ : ∃ v, Lib.compareInt x y = v := ⟨_, rfl⟩
     rw [hv] at HD
     have q1 := box_cell hB.out.1.below c1
     have q2 := box_cell hB.out.1.below c2
     have HS := Lib.hid (And.intro q1 (And.intro q2 hB.out.1.drew))
     clear hx hy c1 c2 q1 q2
     go_wp2_with fail
     refine wp_region_held_drew (S := (fun W => W.cell? ⟨b1, k, none⟩ = some (.int .i64 x) ∧ W.cell? ⟨b1 + 1, k, none⟩ = some (.int .i64 y) ∧ GrW W2 W)) (by kernel_rfl) HS.out (fun hS => ?_)
     refine take_at (i := 0) (d := some 12) (v := .int .i64 (k : Nat)) (by kernel_rfl) (by kernel_rfl) (by kernel_rfl) (by kernel_rfl) (fun _ _ _ h => h) ?_ hS ?_
     · intro o ho
       replace ho := Option.some.inj (Eq.trans (Eq.symm ho) rfl)
       subst ho
       refine Or.inl ⟨by rfl, ?_⟩
       intro w hSw
       obtain ⟨q1, q2, _⟩ := hSw
       go_simp
     simp only [Act.put, List.setIfInBounds_toArray, List.set_cons_zero, List.set_cons_succ]
     refine take_at (i := 1) (d := some 13) (v := .pointer (some ⟨b1, k, none⟩)) (by kernel_rfl) (by kernel_rfl) (by kernel_rfl) (by kernel_rfl) (fun _ _ _ h => h) ?_ hS ?_
     · intro o ho
       replace ho := Option.some.inj (Eq.trans (Eq.symm ho) rfl)
       subst ho
       refine Or.inl ⟨by rfl, ?_⟩
       intro w hSw
       obtain ⟨q1, q2, _⟩ := hSw
       go_simp
     simp only [Act.put, List.setIfInBounds_toArray, List.set_cons_zero, List.set_cons_succ]
     refine take_at (i := 2) (d := some 14) (v := .int .i64 x) (by kernel_rfl) (by kernel_rfl) (by kernel_rfl) (by kernel_rfl) (fun _ _ _ h => h) ?_ hS ?_
     · intro o ho
       replace ho := Option.some.inj (Eq.trans (Eq.symm ho) rfl)
       subst ho
       refine Or.inl ⟨by rfl, ?_⟩
       intro w hSw
       obtain ⟨q1, q2, _⟩ := hSw
       go_simp
     simp only [Act.put, List.setIfInBounds_toArray, List.set_cons_zero, List.set_cons_succ]
     refine take_at (i := 3) (d := some 15) (v := .int .i64 (k : Nat)) (by kernel_rfl) (by kernel_rfl) (by kernel_rfl) (by kernel_rfl) (fun _ _ _ h => h) ?_ hS ?_
     · intro o ho
       replace ho := Option.some.inj (Eq.trans (Eq.symm ho) rfl)
       subst ho
       refine Or.inl ⟨by rfl, ?_⟩
       intro w hSw
       obtain ⟨q1, q2, _⟩ := hSw
       go_simp
     simp only [Act.put, List.setIfInBounds_toArray, List.set_cons_zero, List.set_cons_succ]
     refine take_at (i := 4) (d := some 16) (v := .pointer (some ⟨b1 + 1, k, none⟩)) (by kernel_rfl) (by kernel_rfl) (by kernel_rfl) (by kernel_rfl) (fun _ _ _ h => h) ?_ hS ?_
     · intro o ho
       replace ho := Option.some.inj (Eq.trans (Eq.symm ho) rfl)
       subst ho
       refine Or.inl ⟨by rfl, ?_⟩
       intro w hSw
       obtain ⟨q1, q2, _⟩ := hSw
       go_simp
     simp only [Act.put, List.setIfInBounds_toArray, List.set_cons_zero, List.set_cons_succ]
     refine take_at (i := 5) (d := some 17) (v := .int .i64 y) (by kernel_rfl) (by kernel_rfl) (by kernel_rfl) (by kernel_rfl) (fun _ _ _ h => h) ?_ hS ?_
     · intro o ho
       replace ho := Option.some.inj (Eq.trans (Eq.symm ho) rfl)
       subst ho
       refine Or.inl ⟨by rfl, ?_⟩
       intro w hSw
       obtain ⟨q1, q2, _⟩ := hSw
       go_simp
     simp only [Act.put, List.setIfInBounds_toArray, List.set_cons_zero, List.set_cons_succ]
     refine call_at 6 (by kernel_rfl) (by kernel_rfl) ?_
     intro o ho
     replace ho := Option.some.inj (Eq.trans (Eq.symm ho) rfl)
     subst ho
     intro KF hK
     rw [if_pos (by rfl)]
     go_simp
     refine (Tryz.cmp_Compare_int x y _).mono ?_
     rintro e wx ⟨rfl, hbx⟩
     subst hbx
     rw [hv]
     go_wp2_with fail
     refine hK.out _ _ hS ?_
     clear hS
     intro hS
     clear hK KF
     try simp only [Act.put, List.setIfInBounds_toArray, List.set_cons_zero, List.set_cons_succ]
     refine take_at (i := 7) (d := some 6) (v := .int .i64 v) (by kernel_rfl) (by kernel_rfl) (by kernel_rfl) (by kernel_rfl) (fun _ _ _ h => h) ?_ hS ?_
     · intro o ho
       replace ho := Option.some.inj (Eq.trans (Eq.symm ho) rfl)
       subst ho
       refine Or.inl ⟨by rfl, ?_⟩
       intro w hSw
       obtain ⟨q1, q2, _⟩ := hSw
       go_simp
     simp only [Act.put, List.setIfInBounds_toArray, List.set_cons_zero, List.set_cons_succ]
     refine wpAnyH_done (by kernel_rfl) ?_ _
     obtain ⟨w3, hw3⟩ : ∃ X, wr.drew = X := ⟨_, rfl⟩
     rw [hw3] at hS
     try rw [hw3]
     have HG := Lib.hid hS.2.2
     clear hS hw3
     by_cases h0 : v = 0
     · subst h0
       have HE := Lib.hid (hB.out.2.symm.trans HD.out)
       clear HD
       go_wp2
       refine ⟨⟨k + 1, by omega, by go_num, Lib.hid ⟨HG.out, ?_⟩⟩, by simp [intOf]; omega⟩
       have := HE.out; rw [if_pos rfl] at this; exact this.symm
     · have HE := Lib.hid (hB.out.2.symm.trans (HD.out.trans (if_neg h0)))
       have h0' : (v == 0) = false := by rw [beq_eq_false_iff_ne]; exact h0
       clear HD
       go_wp2
       go_ret
       exact ⟨by rw [HE.out]; rfl, G2.out.trans HG.out⟩
   · obtain rfl : k = 3 := by omega
     have HE : Hid (z = 0) := Lib.hid (by have h := hB.out.2; rw [List.drop_of_length_le (by have := HL.out.1; omega), hl_nil] at h; exact h.symm)
     go_wp2
     go_ret
     exact ⟨by rw [HE.out]; rfl, G2.out.trans hB.out.1⟩
def enc_tri (x : Nat × Nat × Nat) : List Value := [.int .i64 ((x.1 : Nat) : Int), .int .i64 ((x.2.1 : Nat) : Int), .int .i64 ((x.2.2 : Nat) : Int)]
def cf_tri (x y : Nat × Nat × Nat) : Int := hl [((x.1 : Nat) : Int), ((x.2.1 : Nat) : Int), ((x.2.2 : Nat) : Int)] [((y.1 : Nat) : Int), ((y.2.1 : Nat) : Int), ((y.2.2 : Nat) : Int)]
theorem lt_tri (x y : Nat × Nat × Nat) : ltOf cf_tri x y = true ↔ x.1 < y.1 ∨ (x.1 = y.1 ∧ (x.2.1 < y.2.1 ∨ (x.2.1 = y.2.1 ∧ x.2.2 < y.2.2))) := by
 unfold ltOf cf_tri
 rw [decide_eq_true_iff, hl_neg [((x.1 : Nat) : Int), ((x.2.1 : Nat) : Int), ((x.2.2 : Nat) : Int)] [((y.1 : Nat) : Int), ((y.2.1 : Nat) : Int), ((y.2.2 : Nat) : Int)] rfl]
 constructor
 · rintro ⟨i, u, v, h1, h2, h3, h4⟩
   have hi := (List.getElem?_eq_some_iff.1 h1).1
   simp only [List.length_cons, List.length_nil] at hi
   rcases (show i = 0 ∨ i = 1 ∨ i = 2 by omega) with rfl | rfl | rfl
   · simp at h1 h2 h4
     omega
   · simp at h1 h2 h4
     omega
   · simp at h1 h2 h4
     omega
 · intro h
   rcases h with h | ⟨h, h' | ⟨h', h''⟩⟩
   · exact ⟨0, _, _, rfl, rfl, by omega, rfl⟩
   · exact ⟨1, _, _, rfl, rfl, by omega, by simp; omega⟩
   · exact ⟨2, _, _, rfl, rfl, by omega, by simp; omega⟩
theorem enc_tri_len (x : Nat × Nat × Nat) : (enc_tri x).length = 3 := rfl
theorem swo_tri : Sort.SWO (ltOf cf_tri) where
 irrefl x := by rw [← Bool.not_eq_true, lt_tri]; omega
 trans x y z h1 h2 := by rw [lt_tri] at *; omega
 ntrans x y z h1 h2 := by rw [← Bool.not_eq_true, lt_tri] at *; omega
theorem tot_tri (x y : Nat × Nat × Nat) (h1 : ltOf cf_tri x y = false) (h2 : ltOf cf_tri y x = false) : x = y := by
 rw [← Bool.not_eq_true, lt_tri] at h1 h2
 obtain ⟨x1, x2, x3⟩ := x
 obtain ⟨y1, y2, y3⟩ := y
 dsimp only at h1 h2
 have : x1 = y1 ∧ x2 = y2 ∧ x3 = y3 := by omega
 simp only [this]
def srt_tri (l : List (Nat × Nat × Nat)) : List (Nat × Nat × Nat) := l.mergeSort fun x y => !(ltOf cf_tri) y x
theorem sort_tri {W : World} {B n m : Nat} {v : Value} {xs : List (Nat × Nat × Nat)} (h : W.ownsRow B 30 3 v n (xs.flatMap enc_tri)) (hl : xs.length = n) (hm : m ≤ n) (hn : n < 4611686018427387904) (p : Option Addr) (c : Nat) (hp : n - m = 0 ∨ ∃ g, v.ownBlock = some g ∧ p = some ⟨g, m * 3, none⟩) :
   Calls Tryz.prog 86 #[.slice p (n - m) c, .func (.func 87) #[] #[]] W fun e w' => e = .returned (.tuple #[]) ∧ w'.ownsRow B 30 3 v n ((xs.take m ++ srt_tri (xs.drop m)).flatMap enc_tri) ∧ W.grownBy w' v.ownBlock := by
 by_cases h0 : n - m = 0
 · rw [h0]
   have hd : xs.drop m = [] := List.drop_of_length_le (by omega)
   have e0 : xs.take m ++ srt_tri (xs.drop m) = xs := by rw [hd]; unfold srt_tri; rw [List.mergeSort_nil, List.append_nil, List.take_of_length_le (by omega)]
   rw [e0]
   refine (AnyF.slices_SortFunc_none Tryz.sortTri p c _ W).mono ?_
   rintro e w' ⟨rfl, rfl⟩
   exact ⟨rfl, h, ⟨rfl, rfl, rfl, Nat.le_refl _, fun _ _ _ => rfl⟩⟩
 · obtain ⟨g, hg, rfl⟩ := hp.resolve_left h0
   obtain ⟨cap, rfl⟩ : ∃ cap, v = .slice (some ⟨g, 0, none⟩) n cap := by
     rcases h.2 with ⟨rfl, _⟩ | ⟨g', cap, cur, rfl, _⟩
     · cases hg
     · have : g' = g := by simpa [Value.ownBlock] using hg
       rw [this]; exact ⟨cap, rfl⟩
   have hH := holds_tail enc_tri enc_tri_len (by decide) h hl hm
   have hsz : (xs.drop m).toArray.size = n - m := by simp [hl]
   have eg : ∀ args w, (callFunc 87 args).run Tryz.prog w = .ok (.enter 87 args) w := enters_of Tryz.func87 (by kernel_rfl) rfl
   have hcmp : CmpLays Tryz.prog 87 #[] enc_tri 3 cf_tri g (m * 3) (xs.drop m).toArray.size W := fun _ _ _ _ x y => held_tri ((x.1 : Nat) : Int) ((x.2.1 : Nat) : Int) ((x.2.2 : Nat) : Int) ((y.1 : Nat) : Int) ((y.2.1 : Nat) : Int) ((y.2.2 : Nat) : Int) _
   have hS := AnyQ.slices_SortFunc_total Tryz.sortTri 3 Tryz.isAgg30 Tryz.sizeOf30 enc_tri enc_tri_len (fun x v hv => by simp [enc_tri] at hv; rcases hv with rfl | rfl | rfl <;> rfl) cf_tri swo_tri 87 #[] g (m * 3) c (xs.drop m).toArray W eg hcmp hH (h.lt g rfl).2 (by rw [hsz]; omega) tot_tri
   rw [hsz] at hS
   refine hS.mono ?_
   rintro e w' ⟨rfl, q, os, rfl⟩
   have hlen : (srt_tri (xs.drop m)).length = n - m := by unfold srt_tri; rw [(List.mergeSort_perm _ _).length_eq]; simp [hl]
   exact ⟨rfl, own_sorted enc_tri enc_tri_len (by decide) h hl hm hlen, grown_sort enc_tri _ W g _ q _ os⟩
end
end Go.Proofs.YtcgbnjoajieggaaGreat
