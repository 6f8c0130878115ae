/- Own texts, put together: Mcc. -/
import Derived.Test.YtcgbnjoajieggaaGreatQ38
import Derived.Test.YtcgbnjoajieggaaGreatQ39
/- Package mesh: which of two triangles comes first. (gen_mcc.py) -/
namespace Go.Proofs.YtcgbnjoajieggaaGreat
open Go.RowKit Go.Shelf Go.Lib
attribute [local go_sem ↓] Go.wp_at_zero Go.wp_at_succ
set_option maxRecDepth 100000
set_option maxHeartbeats 4000000 in
theorem less_any (x0 x1 x2 y0 y1 y2 : Nat) (h : x0 < y0 ∨ (x0 = y0 ∧ (x1 < y1 ∨ (x1 = y1 ∧ x2 < y2)))) (W : World) :
   Calls Tryz.prog 41 #[.agg #[.int .i64 (x0 : Nat), .int .i64 (x1 : Nat), .int .i64 (x2 : Nat)], .agg #[.int .i64 (y0 : Nat), .int .i64 (y1 : Nat), .int .i64 (y2 : Nat)]] W fun e w' => e = .returned (.bool true) ∧ Below W.heap.size W w' := by
 obtain ⟨w1, hw1⟩ : ∃ X, W.alloc (.cells #[.int .i64 (x0 : Nat), .int .i64 (x1 : Nat), .int .i64 (x2 : Nat)] 30) = X := ⟨_, rfl⟩
 obtain ⟨b0, hb0⟩ : ∃ q, W.heap.size = q := ⟨_, rfl⟩
 obtain ⟨w2, hw2⟩ : ∃ X, w1.alloc (.cells #[.int .i64 (y0 : Nat), .int .i64 (y1 : Nat), .int .i64 (y2 : Nat)] 30) = X := ⟨_, rfl⟩
 obtain ⟨b1, hb1⟩ : ∃ q, w1.heap.size = q := ⟨_, rfl⟩
 have n1 : Below W.heap.size W w1 := by rw [← hw1]; exact (Below.refl _ W).alloc (Nat.le_refl _) _
 have n2 : Below w1.heap.size w1 w2 := by rw [← hw2]; exact (Below.refl _ w1).alloc (Nat.le_refl _) _
 have H2 : Hid (CB w2 b0 #[.int .i64 (x0 : Nat), .int .i64 (x1 : Nat), .int .i64 (x2 : Nat)] 30 ∧ CB w2 b1 #[.int .i64 (y0 : Nat), .int .i64 (y1 : Nat), .int .i64 (y2 : Nat)] 30 ∧ Below W.heap.size W w2) := Lib.hid
   ⟨CB.later (by rw [← hb0, ← hw1]; exact CB.new W _ _) n2, by rw [← hb1, ← hw2]; exact CB.new w1 _ _, n1.trans (n2.mono n1.size)⟩
 clear n1 n2
 have hz : b1 = b0 + 1 := by rw [← hb1, ← hb0, ← hw1, World.size_alloc]
 subst hz
 have hs1 : w1.heap.size = b0 + 1 := hb1
 clear hb1
 go_enter Tryz.func41, Tryz.ntmps41
 go_wp2_with fail
 try rw [hw1]
 try rw [hb0]
 try rw [hw2]
 go_loopw [5] (fun s5 wr => ∃ k : Nat, k ≤ 2 ∧ (1 ≤ k → x0 = y0) ∧ (2 ≤ k → x1 = y1) ∧ s5 = .int .i64 (k : Nat) ∧ Hid (wr.cell? ⟨b0, 0, none⟩ = some (.int .i64 (x0 : Nat)) ∧ wr.cell? ⟨b0, 1, none⟩ = some (.int .i64 (x1 : Nat)) ∧ wr.cell? ⟨b0, 2, none⟩ = some (.int .i64 (x2 : Nat)) ∧ wr.cell? ⟨b0 + 1, 0, none⟩ = some (.int .i64 (y0 : Nat)) ∧ wr.cell? ⟨b0 + 1, 1, none⟩ = some (.int .i64 (y1 : Nat)) ∧ wr.cell? ⟨b0 + 1, 2, none⟩ = some (.int .i64 (y2 : Nat)) ∧ Below W.heap.size W wr)) (fun s5 _ => 3 - (intOf s5).toNat)
 case atStart => exact ⟨0, by omega, by omega, by omega, rfl, H2.out.1.cell 0 (by simp), H2.out.1.cell 1 (by simp), H2.out.1.cell 2 (by simp), H2.out.2.1.cell 0 (by simp), H2.out.2.1.cell 1 (by simp), H2.out.2.1.cell 2 (by simp), H2.out.2.2⟩
 case round =>
   obtain ⟨k, hk, e1, e2, rfl, hI⟩ := hrel
   clear H2
   by_cases hk0 : k = 0
   · obtain ⟨HE1, HE2⟩ : Hid (1 ≤ k → x0 = y0) ∧ Hid (2 ≤ k → x1 = y1) := ⟨Lib.hid e1, Lib.hid e2⟩
     have HI := hI
     clear hI e1 e2
     by_cases hx : x0 = y0
     · have hx' : ((x0 : Int) != (y0 : Int)) = false := by rw [bne_eq_false_iff_eq]; omega
       have HX := Lib.hid hx
       clear hx h
       subst hk0
       as_aux_lemma =>
        go_wp2_with fail
        refine wp_region_held_drew (S := (fun X => X.cell? ⟨b0, 0, none⟩ = some (.int .i64 (x0 : Nat)) ∧ X.cell? ⟨b0, 1, none⟩ = some (.int .i64 (x1 : Nat)) ∧ X.cell? ⟨b0, 2, none⟩ = some (.int .i64 (x2 : Nat)) ∧ X.cell? ⟨b0 + 1, 0, none⟩ = some (.int .i64 (y0 : Nat)) ∧ X.cell? ⟨b0 + 1, 1, none⟩ = some (.int .i64 (y1 : Nat)) ∧ X.cell? ⟨b0 + 1, 2, none⟩ = some (.int .i64 (y2 : Nat)) ∧ Below W.heap.size W X)) (by kernel_rfl) ⟨HI.out.1, HI.out.2.1, HI.out.2.2.1, HI.out.2.2.2.1, HI.out.2.2.2.2.1, HI.out.2.2.2.2.2.1, Below.drew HI.out.2.2.2.2.2.2⟩ (fun hS => ?_)
        refine take_at (i := 0) (d := some 10) (v := .int .i64 0) (by kernel_rfl) (by kernel_rfl) (by kernel_rfl) (by kernel_rfl) (fun _ _ _ h => h) ?_ hS ?_
        · intro o ho
          replace ho := Option.some.inj (Eq.trans (Eq.symm ho) rfl)
          subst ho
          refine Or.inl ⟨by rfl, ?_⟩
          intro w hSw
          obtain ⟨q0, q1, q2, r0, r1, r2, _⟩ := hSw
          go_simp
        simp only [Act.put, List.setIfInBounds_toArray, List.set_cons_zero, List.set_cons_succ]
        refine take_at (i := 1) (d := some 11) (v := .pointer (some ⟨b0, 0, none⟩)) (by kernel_rfl) (by kernel_rfl) (by kernel_rfl) (by kernel_rfl) (fun _ _ _ h => h) ?_ hS ?_
        · intro o ho
          replace ho := Option.some.inj (Eq.trans (Eq.symm ho) rfl)
          subst ho
          refine Or.inl ⟨by rfl, ?_⟩
          intro w hSw
          obtain ⟨q0, q1, q2, r0, r1, r2, _⟩ := hSw
          go_simp
        simp only [Act.put, List.setIfInBounds_toArray, List.set_cons_zero, List.set_cons_succ]
        refine take_at (i := 2) (d := some 12) (v := .int .i64 (x0 : Nat)) (by kernel_rfl) (by kernel_rfl) (by kernel_rfl) (by kernel_rfl) (fun _ _ _ h => h) ?_ hS ?_
        · intro o ho
          replace ho := Option.some.inj (Eq.trans (Eq.symm ho) rfl)
          subst ho
          refine Or.inl ⟨by rfl, ?_⟩
          intro w hSw
          obtain ⟨q0, q1, q2, r0, r1, r2, _⟩ := hSw
          go_simp
        simp only [Act.put, List.setIfInBounds_toArray, List.set_cons_zero, List.set_cons_succ]
        refine take_at (i := 3) (d := some 13) (v := .int .i64 0) (by kernel_rfl) (by kernel_rfl) (by kernel_rfl) (by kernel_rfl) (fun _ _ _ h => h) ?_ hS ?_
        · intro o ho
          replace ho := Option.some.inj (Eq.trans (Eq.symm ho) rfl)
          subst ho
          refine Or.inl ⟨by rfl, ?_⟩
          intro w hSw
          obtain ⟨q0, q1, q2, r0, r1, r2, _⟩ := hSw
          go_simp
        simp only [Act.put, List.setIfInBounds_toArray, List.set_cons_zero, List.set_cons_succ]
        refine take_at (i := 4) (d := some 14) (v := .pointer (some ⟨b0 + 1, 0, none⟩)) (by kernel_rfl) (by kernel_rfl) (by kernel_rfl) (by kernel_rfl) (fun _ _ _ h => h) ?_ hS ?_
        · intro o ho
          replace ho := Option.some.inj (Eq.trans (Eq.symm ho) rfl)
          subst ho
          refine Or.inl ⟨by rfl, ?_⟩
          intro w hSw
          obtain ⟨q0, q1, q2, r0, r1, r2, _⟩ := hSw
          go_simp
        simp only [Act.put, List.setIfInBounds_toArray, List.set_cons_zero, List.set_cons_succ]
        refine take_at (i := 5) (d := some 15) (v := .int .i64 (y0 : Nat)) (by kernel_rfl) (by kernel_rfl) (by kernel_rfl) (by kernel_rfl) (fun _ _ _ h => h) ?_ hS ?_
        · intro o ho
          replace ho := Option.some.inj (Eq.trans (Eq.symm ho) rfl)
          subst ho
          refine Or.inl ⟨by rfl, ?_⟩
          intro w hSw
          obtain ⟨q0, q1, q2, r0, r1, r2, _⟩ := hSw
          go_simp
        simp only [Act.put, List.setIfInBounds_toArray, List.set_cons_zero, List.set_cons_succ]
        refine take_at (i := 6) (d := some 16) (v := .bool false) (by kernel_rfl) (by kernel_rfl) (by kernel_rfl) (by kernel_rfl) (fun _ _ _ h => h) ?_ hS ?_
        · intro o ho
          replace ho := Option.some.inj (Eq.trans (Eq.symm ho) rfl)
          subst ho
          refine Or.inl ⟨by rfl, ?_⟩
          intro w hSw
          obtain ⟨q0, q1, q2, r0, r1, r2, _⟩ := hSw
          go_simp
        simp only [Act.put, List.setIfInBounds_toArray, List.set_cons_zero, List.set_cons_succ]
        refine wpAnyH_done (by kernel_rfl) ?_ _
        replace HI := Lib.hid hS
        clear hS
        go_wp2_with fail
        exact ⟨⟨1, by omega, fun _ => HX.out, fun h => absurd h (by omega), by go_num, HI⟩, by simp [intOf]⟩
     · have hx' : ((x0 : Int) != (y0 : Int)) = true := by rw [bne_iff_ne]; omega
       have hy' : (x0 : Int) < (y0 : Int) := by have := HE1.out; have := HE2.out; omega
       clear hx h
       subst hk0
       as_aux_lemma =>
        go_wp2_with fail
        refine wp_region_held_drew (S := (fun X => X.cell? ⟨b0, 0, none⟩ = some (.int .i64 (x0 : Nat)) ∧ X.cell? ⟨b0, 1, none⟩ = some (.int .i64 (x1 : Nat)) ∧ X.cell? ⟨b0, 2, none⟩ = some (.int .i64 (x2 : Nat)) ∧ X.cell? ⟨b0 + 1, 0, none⟩ = some (.int .i64 (y0 : Nat)) ∧ X.cell? ⟨b0 + 1, 1, none⟩ = some (.int .i64 (y1 : Nat)) ∧ X.cell? ⟨b0 + 1, 2, none⟩ = some (.int .i64 (y2 : Nat)) ∧ Below W.heap.size W X)) (by kernel_rfl) ⟨HI.out.1, HI.out.2.1, HI.out.2.2.1, HI.out.2.2.2.1, HI.out.2.2.2.2.1, HI.out.2.2.2.2.2.1, Below.drew HI.out.2.2.2.2.2.2⟩ (fun hS => ?_)
        refine take_at (i := 0) (d := some 10) (v := .int .i64 0) (by kernel_rfl) (by kernel_rfl) (by kernel_rfl) (by kernel_rfl) (fun _ _ _ h => h) ?_ hS ?_
        · intro o ho
          replace ho := Option.some.inj (Eq.trans (Eq.symm ho) rfl)
          subst ho
          refine Or.inl ⟨by rfl, ?_⟩
          intro w hSw
          obtain ⟨q0, q1, q2, r0, r1, r2, _⟩ := hSw
          go_simp
        simp only [Act.put, List.setIfInBounds_toArray, List.set_cons_zero, List.set_cons_succ]
        refine take_at (i := 1) (d := some 11) (v := .pointer (some ⟨b0, 0, none⟩)) (by kernel_rfl) (by kernel_rfl) (by kernel_rfl) (by kernel_rfl) (fun _ _ _ h => h) ?_ hS ?_
        · intro o ho
          replace ho := Option.some.inj (Eq.trans (Eq.symm ho) rfl)
          subst ho
          refine Or.inl ⟨by rfl, ?_⟩
          intro w hSw
          obtain ⟨q0, q1, q2, r0, r1, r2, _⟩ := hSw
          go_simp
        simp only [Act.put, List.setIfInBounds_toArray, List.set_cons_zero, List.set_cons_succ]
        refine take_at (i := 2) (d := some 12) (v := .int .i64 (x0 : Nat)) (by kernel_rfl) (by kernel_rfl) (by kernel_rfl) (by kernel_rfl) (fun _ _ _ h => h) ?_ hS ?_
        · intro o ho
          replace ho := Option.some.inj (Eq.trans (Eq.symm ho) rfl)
          subst ho
          refine Or.inl ⟨by rfl, ?_⟩
          intro w hSw
          obtain ⟨q0, q1, q2, r0, r1, r2, _⟩ := hSw
          go_simp
        simp only [Act.put, List.setIfInBounds_toArray, List.set_cons_zero, List.set_cons_succ]
        refine take_at (i := 3) (d := some 13) (v := .int .i64 0) (by kernel_rfl) (by kernel_rfl) (by kernel_rfl) (by kernel_rfl) (fun _ _ _ h => h) ?_ hS ?_
        · intro o ho
          replace ho := Option.some.inj (Eq.trans (Eq.symm ho) rfl)
          subst ho
          refine Or.inl ⟨by rfl, ?_⟩
          intro w hSw
          obtain ⟨q0, q1, q2, r0, r1, r2, _⟩ := hSw
          go_simp
        simp only [Act.put, List.setIfInBounds_toArray, List.set_cons_zero, List.set_cons_succ]
        refine take_at (i := 4) (d := some 14) (v := .pointer (some ⟨b0 + 1, 0, none⟩)) (by kernel_rfl) (by kernel_rfl) (by kernel_rfl) (by kernel_rfl) (fun _ _ _ h => h) ?_ hS ?_
        · intro o ho
          replace ho := Option.some.inj (Eq.trans (Eq.symm ho) rfl)
          subst ho
          refine Or.inl ⟨by rfl, ?_⟩
          intro w hSw
          obtain ⟨q0, q1, q2, r0, r1, r2, _⟩ := hSw
          go_simp
        simp only [Act.put, List.setIfInBounds_toArray, List.set_cons_zero, List.set_cons_succ]
        refine take_at (i := 5) (d := some 15) (v := .int .i64 (y0 : Nat)) (by kernel_rfl) (by kernel_rfl) (by kernel_rfl) (by kernel_rfl) (fun _ _ _ h => h) ?_ hS ?_
        · intro o ho
          replace ho := Option.some.inj (Eq.trans (Eq.symm ho) rfl)
          subst ho
          refine Or.inl ⟨by rfl, ?_⟩
          intro w hSw
          obtain ⟨q0, q1, q2, r0, r1, r2, _⟩ := hSw
          go_simp
        simp only [Act.put, List.setIfInBounds_toArray, List.set_cons_zero, List.set_cons_succ]
        refine take_at (i := 6) (d := some 16) (v := .bool true) (by kernel_rfl) (by kernel_rfl) (by kernel_rfl) (by kernel_rfl) (fun _ _ _ h => h) ?_ hS ?_
        · intro o ho
          replace ho := Option.some.inj (Eq.trans (Eq.symm ho) rfl)
          subst ho
          refine Or.inl ⟨by rfl, ?_⟩
          intro w hSw
          obtain ⟨q0, q1, q2, r0, r1, r2, _⟩ := hSw
          go_simp
        simp only [Act.put, List.setIfInBounds_toArray, List.set_cons_zero, List.set_cons_succ]
        refine wpAnyH_done (by kernel_rfl) ?_ _
        replace HI := Lib.hid hS
        clear hS
        go_wp2_with fail
        refine wp_region_held_drew (S := (fun X => X.cell? ⟨b0, 0, none⟩ = some (.int .i64 (x0 : Nat)) ∧ X.cell? ⟨b0, 1, none⟩ = some (.int .i64 (x1 : Nat)) ∧ X.cell? ⟨b0, 2, none⟩ = some (.int .i64 (x2 : Nat)) ∧ X.cell? ⟨b0 + 1, 0, none⟩ = some (.int .i64 (y0 : Nat)) ∧ X.cell? ⟨b0 + 1, 1, none⟩ = some (.int .i64 (y1 : Nat)) ∧ X.cell? ⟨b0 + 1, 2, none⟩ = some (.int .i64 (y2 : Nat)) ∧ Below W.heap.size W X)) (by kernel_rfl) ⟨HI.out.1, HI.out.2.1, HI.out.2.2.1, HI.out.2.2.2.1, HI.out.2.2.2.2.1, HI.out.2.2.2.2.2.1, Below.drew HI.out.2.2.2.2.2.2⟩ (fun hS => ?_)
        refine take_at (i := 0) (d := some 17) (v := .int .i64 0) (by kernel_rfl) (by kernel_rfl) (by kernel_rfl) (by kernel_rfl) (fun _ _ _ h => h) ?_ hS ?_
        · intro o ho
          replace ho := Option.some.inj (Eq.trans (Eq.symm ho) rfl)
          subst ho
          refine Or.inl ⟨by rfl, ?_⟩
          intro w hSw
          obtain ⟨q0, q1, q2, r0, r1, r2, _⟩ := hSw
          go_simp
        simp only [Act.put, List.setIfInBounds_toArray, List.set_cons_zero, List.set_cons_succ]
        refine take_at (i := 1) (d := some 18) (v := .pointer (some ⟨b0, 0, none⟩)) (by kernel_rfl) (by kernel_rfl) (by kernel_rfl) (by kernel_rfl) (fun _ _ _ h => h) ?_ hS ?_
        · intro o ho
          replace ho := Option.some.inj (Eq.trans (Eq.symm ho) rfl)
          subst ho
          refine Or.inl ⟨by rfl, ?_⟩
          intro w hSw
          obtain ⟨q0, q1, q2, r0, r1, r2, _⟩ := hSw
          go_simp
        simp only [Act.put, List.setIfInBounds_toArray, List.set_cons_zero, List.set_cons_succ]
        refine take_at (i := 2) (d := some 19) (v := .int .i64 (x0 : Nat)) (by kernel_rfl) (by kernel_rfl) (by kernel_rfl) (by kernel_rfl) (fun _ _ _ h => h) ?_ hS ?_
        · intro o ho
          replace ho := Option.some.inj (Eq.trans (Eq.symm ho) rfl)
          subst ho
          refine Or.inl ⟨by rfl, ?_⟩
          intro w hSw
          obtain ⟨q0, q1, q2, r0, r1, r2, _⟩ := hSw
          go_simp
        simp only [Act.put, List.setIfInBounds_toArray, List.set_cons_zero, List.set_cons_succ]
        refine take_at (i := 3) (d := some 20) (v := .int .i64 0) (by kernel_rfl) (by kernel_rfl) (by kernel_rfl) (by kernel_rfl) (fun _ _ _ h => h) ?_ hS ?_
        · intro o ho
          replace ho := Option.some.inj (Eq.trans (Eq.symm ho) rfl)
          subst ho
          refine Or.inl ⟨by rfl, ?_⟩
          intro w hSw
          obtain ⟨q0, q1, q2, r0, r1, r2, _⟩ := hSw
          go_simp
        simp only [Act.put, List.setIfInBounds_toArray, List.set_cons_zero, List.set_cons_succ]
        refine take_at (i := 4) (d := some 21) (v := .pointer (some ⟨b0 + 1, 0, none⟩)) (by kernel_rfl) (by kernel_rfl) (by kernel_rfl) (by kernel_rfl) (fun _ _ _ h => h) ?_ hS ?_
        · intro o ho
          replace ho := Option.some.inj (Eq.trans (Eq.symm ho) rfl)
          subst ho
          refine Or.inl ⟨by rfl, ?_⟩
          intro w hSw
          obtain ⟨q0, q1, q2, r0, r1, r2, _⟩ := hSw
          go_simp
        simp only [Act.put, List.setIfInBounds_toArray, List.set_cons_zero, List.set_cons_succ]
        refine take_at (i := 5) (d := some 22) (v := .int .i64 (y0 : Nat)) (by kernel_rfl) (by kernel_rfl) (by kernel_rfl) (by kernel_rfl) (fun _ _ _ h => h) ?_ hS ?_
        · intro o ho
          replace ho := Option.some.inj (Eq.trans (Eq.symm ho) rfl)
          subst ho
          refine Or.inl ⟨by rfl, ?_⟩
          intro w hSw
          obtain ⟨q0, q1, q2, r0, r1, r2, _⟩ := hSw
          go_simp
        simp only [Act.put, List.setIfInBounds_toArray, List.set_cons_zero, List.set_cons_succ]
        refine take_at (i := 6) (d := some 23) (v := .bool true) (by kernel_rfl) (by kernel_rfl) (by kernel_rfl) (by kernel_rfl) (fun _ _ _ h => h) ?_ hS ?_
        · intro o ho
          replace ho := Option.some.inj (Eq.trans (Eq.symm ho) rfl)
          subst ho
          refine Or.inl ⟨by rfl, ?_⟩
          intro w hSw
          obtain ⟨q0, q1, q2, r0, r1, r2, _⟩ := hSw
          go_simp
        simp only [Act.put, List.setIfInBounds_toArray, List.set_cons_zero, List.set_cons_succ]
        refine take_at (i := 7) (d := some 4) (v := .bool true) (by kernel_rfl) (by kernel_rfl) (by kernel_rfl) (by kernel_rfl) (fun _ _ _ h => h) ?_ hS ?_
        · intro o ho
          replace ho := Option.some.inj (Eq.trans (Eq.symm ho) rfl)
          subst ho
          refine Or.inl ⟨by rfl, ?_⟩
          intro w hSw
          obtain ⟨q0, q1, q2, r0, r1, r2, _⟩ := hSw
          go_simp
        simp only [Act.put, List.setIfInBounds_toArray, List.set_cons_zero, List.set_cons_succ]
        refine wpAnyH_done (by kernel_rfl) ?_ _
        replace HI := Lib.hid hS
        clear hS
        go_wp2_with fail
        go_ret
        exact ⟨rfl, HI.out.2.2.2.2.2.2⟩
   by_cases hk1 : k = 1
   · obtain ⟨HE1, HE2⟩ : Hid (1 ≤ k → x0 = y0) ∧ Hid (2 ≤ k → x1 = y1) := ⟨Lib.hid e1, Lib.hid e2⟩
     have HI := hI
     clear hI e1 e2
     by_cases hx : x1 = y1
     · have hx' : ((x1 : Int) != (y1 : Int)) = false := by rw [bne_eq_false_iff_eq]; omega
       have HX := Lib.hid hx
       clear hx h
       subst hk1
       as_aux_lemma =>
        go_wp2_with fail
        refine wp_region_held_drew (S := (fun X => X.cell? ⟨b0, 0, none⟩ = some (.int .i64 (x0 : Nat)) ∧ X.cell? ⟨b0, 1, none⟩ = some (.int .i64 (x1 : Nat)) ∧ X.cell? ⟨b0, 2, none⟩ = some (.int .i64 (x2 : Nat)) ∧ X.cell? ⟨b0 + 1, 0, none⟩ = some (.int .i64 (y0 : Nat)) ∧ X.cell? ⟨b0 + 1, 1, none⟩ = some (.int .i64 (y1 : Nat)) ∧ X.cell? ⟨b0 + 1, 2, none⟩ = some (.int .i64 (y2 : Nat)) ∧ Below W.heap.size W X)) (by kernel_rfl) ⟨HI.out.1, HI.out.2.1, HI.out.2.2.1, HI.out.2.2.2.1, HI.out.2.2.2.2.1, HI.out.2.2.2.2.2.1, Below.drew HI.out.2.2.2.2.2.2⟩ (fun hS => ?_)
        refine take_at (i := 0) (d := some 10) (v := .int .i64 1) (by kernel_rfl) (by kernel_rfl) (by kernel_rfl) (by kernel_rfl) (fun _ _ _ h => h) ?_ hS ?_
        · intro o ho
          replace ho := Option.some.inj (Eq.trans (Eq.symm ho) rfl)
          subst ho
          refine Or.inl ⟨by rfl, ?_⟩
          intro w hSw
          obtain ⟨q0, q1, q2, r0, r1, r2, _⟩ := hSw
          go_simp
        simp only [Act.put, List.setIfInBounds_toArray, List.set_cons_zero, List.set_cons_succ]
        refine take_at (i := 1) (d := some 11) (v := .pointer (some ⟨b0, 1, none⟩)) (by kernel_rfl) (by kernel_rfl) (by kernel_rfl) (by kernel_rfl) (fun _ _ _ h => h) ?_ hS ?_
        · intro o ho
          replace ho := Option.some.inj (Eq.trans (Eq.symm ho) rfl)
          subst ho
          refine Or.inl ⟨by rfl, ?_⟩
          intro w hSw
          obtain ⟨q0, q1, q2, r0, r1, r2, _⟩ := hSw
          go_simp
        simp only [Act.put, List.setIfInBounds_toArray, List.set_cons_zero, List.set_cons_succ]
        refine take_at (i := 2) (d := some 12) (v := .int .i64 (x1 : Nat)) (by kernel_rfl) (by kernel_rfl) (by kernel_rfl) (by kernel_rfl) (fun _ _ _ h => h) ?_ hS ?_
        · intro o ho
          replace ho := Option.some.inj (Eq.trans (Eq.symm ho) rfl)
          subst ho
          refine Or.inl ⟨by rfl, ?_⟩
          intro w hSw
          obtain ⟨q0, q1, q2, r0, r1, r2, _⟩ := hSw
          go_simp
        simp only [Act.put, List.setIfInBounds_toArray, List.set_cons_zero, List.set_cons_succ]
        refine take_at (i := 3) (d := some 13) (v := .int .i64 1) (by kernel_rfl) (by kernel_rfl) (by kernel_rfl) (by kernel_rfl) (fun _ _ _ h => h) ?_ hS ?_
        · intro o ho
          replace ho := Option.some.inj (Eq.trans (Eq.symm ho) rfl)
          subst ho
          refine Or.inl ⟨by rfl, ?_⟩
          intro w hSw
          obtain ⟨q0, q1, q2, r0, r1, r2, _⟩ := hSw
          go_simp
        simp only [Act.put, List.setIfInBounds_toArray, List.set_cons_zero, List.set_cons_succ]
        refine take_at (i := 4) (d := some 14) (v := .pointer (some ⟨b0 + 1, 1, none⟩)) (by kernel_rfl) (by kernel_rfl) (by kernel_rfl) (by kernel_rfl) (fun _ _ _ h => h) ?_ hS ?_
        · intro o ho
          replace ho := Option.some.inj (Eq.trans (Eq.symm ho) rfl)
          subst ho
          refine Or.inl ⟨by rfl, ?_⟩
          intro w hSw
          obtain ⟨q0, q1, q2, r0, r1, r2, _⟩ := hSw
          go_simp
        simp only [Act.put, List.setIfInBounds_toArray, List.set_cons_zero, List.set_cons_succ]
        refine take_at (i := 5) (d := some 15) (v := .int .i64 (y1 : Nat)) (by kernel_rfl) (by kernel_rfl) (by kernel_rfl) (by kernel_rfl) (fun _ _ _ h => h) ?_ hS ?_
        · intro o ho
          replace ho := Option.some.inj (Eq.trans (Eq.symm ho) rfl)
          subst ho
          refine Or.inl ⟨by rfl, ?_⟩
          intro w hSw
          obtain ⟨q0, q1, q2, r0, r1, r2, _⟩ := hSw
          go_simp
        simp only [Act.put, List.setIfInBounds_toArray, List.set_cons_zero, List.set_cons_succ]
        refine take_at (i := 6) (d := some 16) (v := .bool false) (by kernel_rfl) (by kernel_rfl) (by kernel_rfl) (by kernel_rfl) (fun _ _ _ h => h) ?_ hS ?_
        · intro o ho
          replace ho := Option.some.inj (Eq.trans (Eq.symm ho) rfl)
          subst ho
          refine Or.inl ⟨by rfl, ?_⟩
          intro w hSw
          obtain ⟨q0, q1, q2, r0, r1, r2, _⟩ := hSw
          go_simp
        simp only [Act.put, List.setIfInBounds_toArray, List.set_cons_zero, List.set_cons_succ]
        refine wpAnyH_done (by kernel_rfl) ?_ _
        replace HI := Lib.hid hS
        clear hS
        go_wp2_with fail
        exact ⟨⟨2, by omega, fun _ => HE1.out (by omega), fun _ => HX.out, by go_num, HI⟩, by simp [intOf]⟩
     · have hx' : ((x1 : Int) != (y1 : Int)) = true := by rw [bne_iff_ne]; omega
       have hy' : (x1 : Int) < (y1 : Int) := by have := HE1.out; have := HE2.out; omega
       clear hx h
       subst hk1
       as_aux_lemma =>
        go_wp2_with fail
        refine wp_region_held_drew (S := (fun X => X.cell? ⟨b0, 0, none⟩ = some (.int .i64 (x0 : Nat)) ∧ X.cell? ⟨b0, 1, none⟩ = some (.int .i64 (x1 : Nat)) ∧ X.cell? ⟨b0, 2, none⟩ = some (.int .i64 (x2 : Nat)) ∧ X.cell? ⟨b0 + 1, 0, none⟩ = some (.int .i64 (y0 : Nat)) ∧ X.cell? ⟨b0 + 1, 1, none⟩ = some (.int .i64 (y1 : Nat)) ∧ X.cell? ⟨b0 + 1, 2, none⟩ = some (.int .i64 (y2 : Nat)) ∧ Below W.heap.size W X)) (by kernel_rfl) ⟨HI.out.1, HI.out.2.1, HI.out.2.2.1, HI.out.2.2.2.1, HI.out.2.2.2.2.1, HI.out.2.2.2.2.2.1, Below.drew HI.out.2.2.2.2.2.2⟩ (fun hS => ?_)
        refine take_at (i := 0) (d := some 10) (v := .int .i64 1) (by kernel_rfl) (by kernel_rfl) (by kernel_rfl) (by kernel_rfl) (fun _ _ _ h => h) ?_ hS ?_
        · intro o ho
          replace ho := Option.some.inj (Eq.trans (Eq.symm ho) rfl)
          subst ho
          refine Or.inl ⟨by rfl, ?_⟩
          intro w hSw
          obtain ⟨q0, q1, q2, r0, r1, r2, _⟩ := hSw
          go_simp
        simp only [Act.put, List.setIfInBounds_toArray, List.set_cons_zero, List.set_cons_succ]
        refine take_at (i := 1) (d := some 11) (v := .pointer (some ⟨b0, 1, none⟩)) (by kernel_rfl) (by kernel_rfl) (by kernel_rfl) (by kernel_rfl) (fun _ _ _ h => h) ?_ hS ?_
        · intro o ho
          replace ho := Option.some.inj (Eq.trans (Eq.symm ho) rfl)
          subst ho
          refine Or.inl ⟨by rfl, ?_⟩
          intro w hSw
          obtain ⟨q0, q1, q2, r0, r1, r2, _⟩ := hSw
          go_simp
        simp only [Act.put, List.setIfInBounds_toArray, List.set_cons_zero, List.set_cons_succ]
        refine take_at (i := 2) (d := some 12) (v := .int .i64 (x1 : Nat)) (by kernel_rfl) (by kernel_rfl) (by kernel_rfl) (by kernel_rfl) (fun _ _ _ h => h) ?_ hS ?_
        · intro o ho
          replace ho := Option.some.inj (Eq.trans (Eq.symm ho) rfl)
          subst ho
          refine Or.inl ⟨by rfl, ?_⟩
          intro w hSw
          obtain ⟨q0, q1, q2, r0, r1, r2, _⟩ := hSw
          go_simp
        simp only [Act.put, List.setIfInBounds_toArray, List.set_cons_zero, List.set_cons_succ]
        refine take_at (i := 3) (d := some 13) (v := .int .i64 1) (by kernel_rfl) (by kernel_rfl) (by kernel_rfl) (by kernel_rfl) (fun _ _ _ h => h) ?_ hS ?_
        · intro o ho
          replace ho := Option.some.inj (Eq.trans (Eq.symm ho) rfl)
          subst ho
          refine Or.inl ⟨by rfl, ?_⟩
          intro w hSw
          obtain ⟨q0, q1, q2, r0, r1, r2, _⟩ := hSw
          go_simp
        simp only [Act.put, List.setIfInBounds_toArray, List.set_cons_zero, List.set_cons_succ]
        refine take_at (i := 4) (d := some 14) (v := .pointer (some ⟨b0 + 1, 1, none⟩)) (by kernel_rfl) (by kernel_rfl) (by kernel_rfl) (by kernel_rfl) (fun _ _ _ h => h) ?_ hS ?_
        · intro o ho
          replace ho := Option.some.inj (Eq.trans (Eq.symm ho) rfl)
          subst ho
          refine Or.inl ⟨by rfl, ?_⟩
          intro w hSw
          obtain ⟨q0, q1, q2, r0, r1, r2, _⟩ := hSw
          go_simp
        simp only [Act.put, List.setIfInBounds_toArray, List.set_cons_zero, List.set_cons_succ]
        refine take_at (i := 5) (d := some 15) (v := .int .i64 (y1 : Nat)) (by kernel_rfl) (by kernel_rfl) (by kernel_rfl) (by kernel_rfl) (fun _ _ _ h => h) ?_ hS ?_
        · intro o ho
          replace ho := Option.some.inj (Eq.trans (Eq.symm ho) rfl)
          subst ho
          refine Or.inl ⟨by rfl, ?_⟩
          intro w hSw
          obtain ⟨q0, q1, q2, r0, r1, r2, _⟩ := hSw
          go_simp
        simp only [Act.put, List.setIfInBounds_toArray, List.set_cons_zero, List.set_cons_succ]
        refine take_at (i := 6) (d := some 16) (v := .bool true) (by kernel_rfl) (by kernel_rfl) (by kernel_rfl) (by kernel_rfl) (fun _ _ _ h => h) ?_ hS ?_
        · intro o ho
          replace ho := Option.some.inj (Eq.trans (Eq.symm ho) rfl)
          subst ho
          refine Or.inl ⟨by rfl, ?_⟩
          intro w hSw
          obtain ⟨q0, q1, q2, r0, r1, r2, _⟩ := hSw
          go_simp
        simp only [Act.put, List.setIfInBounds_toArray, List.set_cons_zero, List.set_cons_succ]
        refine wpAnyH_done (by kernel_rfl) ?_ _
        replace HI := Lib.hid hS
        clear hS
        go_wp2_with fail
        refine wp_region_held_drew (S := (fun X => X.cell? ⟨b0, 0, none⟩ = some (.int .i64 (x0 : Nat)) ∧ X.cell? ⟨b0, 1, none⟩ = some (.int .i64 (x1 : Nat)) ∧ X.cell? ⟨b0, 2, none⟩ = some (.int .i64 (x2 : Nat)) ∧ X.cell? ⟨b0 + 1, 0, none⟩ = some (.int .i64 (y0 : Nat)) ∧ X.cell? ⟨b0 + 1, 1, none⟩ = some (.int .i64 (y1 : Nat)) ∧ X.cell? ⟨b0 + 1, 2, none⟩ = some (.int .i64 (y2 : Nat)) ∧ Below W.heap.size W X)) (by kernel_rfl) ⟨HI.out.1, HI.out.2.1, HI.out.2.2.1, HI.out.2.2.2.1, HI.out.2.2.2.2.1, HI.out.2.2.2.2.2.1, Below.drew HI.out.2.2.2.2.2.2⟩ (fun hS => ?_)
        refine take_at (i := 0) (d := some 17) (v := .int .i64 1) (by kernel_rfl) (by kernel_rfl) (by kernel_rfl) (by kernel_rfl) (fun _ _ _ h => h) ?_ hS ?_
        · intro o ho
          replace ho := Option.some.inj (Eq.trans (Eq.symm ho) rfl)
          subst ho
          refine Or.inl ⟨by rfl, ?_⟩
          intro w hSw
          obtain ⟨q0, q1, q2, r0, r1, r2, _⟩ := hSw
          go_simp
        simp only [Act.put, List.setIfInBounds_toArray, List.set_cons_zero, List.set_cons_succ]
        refine take_at (i := 1) (d := some 18) (v := .pointer (some ⟨b0, 1, none⟩)) (by kernel_rfl) (by kernel_rfl) (by kernel_rfl) (by kernel_rfl) (fun _ _ _ h => h) ?_ hS ?_
        · intro o ho
          replace ho := Option.some.inj (Eq.trans (Eq.symm ho) rfl)
          subst ho
          refine Or.inl ⟨by rfl, ?_⟩
          intro w hSw
          obtain ⟨q0, q1, q2, r0, r1, r2, _⟩ := hSw
          go_simp
        simp only [Act.put, List.setIfInBounds_toArray, List.set_cons_zero, List.set_cons_succ]
        refine take_at (i := 2) (d := some 19) (v := .int .i64 (x1 : Nat)) (by kernel_rfl) (by kernel_rfl) (by kernel_rfl) (by kernel_rfl) (fun _ _ _ h => h) ?_ hS ?_
        · intro o ho
          replace ho := Option.some.inj (Eq.trans (Eq.symm ho) rfl)
          subst ho
          refine Or.inl ⟨by rfl, ?_⟩
          intro w hSw
          obtain ⟨q0, q1, q2, r0, r1, r2, _⟩ := hSw
          go_simp
        simp only [Act.put, List.setIfInBounds_toArray, List.set_cons_zero, List.set_cons_succ]
        refine take_at (i := 3) (d := some 20) (v := .int .i64 1) (by kernel_rfl) (by kernel_rfl) (by kernel_rfl) (by kernel_rfl) (fun _ _ _ h => h) ?_ hS ?_
        · intro o ho
          replace ho := Option.some.inj (Eq.trans (Eq.symm ho) rfl)
          subst ho
          refine Or.inl ⟨by rfl, ?_⟩
          intro w hSw
          obtain ⟨q0, q1, q2, r0, r1, r2, _⟩ := hSw
          go_simp
        simp only [Act.put, List.setIfInBounds_toArray, List.set_cons_zero, List.set_cons_succ]
        refine take_at (i := 4) (d := some 21) (v := .pointer (some ⟨b0 + 1, 1, none⟩)) (by kernel_rfl) (by kernel_rfl) (by kernel_rfl) (by kernel_rfl) (fun _ _ _ h => h) ?_ hS ?_
        · intro o ho
          replace ho := Option.some.inj (Eq.trans (Eq.symm ho) rfl)
          subst ho
          refine Or.inl ⟨by rfl, ?_⟩
          intro w hSw
          obtain ⟨q0, q1, q2, r0, r1, r2, _⟩ := hSw
          go_simp
        simp only [Act.put, List.setIfInBounds_toArray, List.set_cons_zero, List.set_cons_succ]
        refine take_at (i := 5) (d := some 22) (v := .int .i64 (y1 : Nat)) (by kernel_rfl) (by kernel_rfl) (by kernel_rfl) (by kernel_rfl) (fun _ _ _ h => h) ?_ hS ?_
        · intro o ho
          replace ho := Option.some.inj (Eq.trans (Eq.symm ho) rfl)
          subst ho
          refine Or.inl ⟨by rfl, ?_⟩
          intro w hSw
          obtain ⟨q0, q1, q2, r0, r1, r2, _⟩ := hSw
          go_simp
        simp only [Act.put, List.setIfInBounds_toArray, List.set_cons_zero, List.set_cons_succ]
        refine take_at (i := 6) (d := some 23) (v := .bool true) (by kernel_rfl) (by kernel_rfl) (by kernel_rfl) (by kernel_rfl) (fun _ _ _ h => h) ?_ hS ?_
        · intro o ho
          replace ho := Option.some.inj (Eq.trans (Eq.symm ho) rfl)
          subst ho
          refine Or.inl ⟨by rfl, ?_⟩
          intro w hSw
          obtain ⟨q0, q1, q2, r0, r1, r2, _⟩ := hSw
          go_simp
        simp only [Act.put, List.setIfInBounds_toArray, List.set_cons_zero, List.set_cons_succ]
        refine take_at (i := 7) (d := some 4) (v := .bool true) (by kernel_rfl) (by kernel_rfl) (by kernel_rfl) (by kernel_rfl) (fun _ _ _ h => h) ?_ hS ?_
        · intro o ho
          replace ho := Option.some.inj (Eq.trans (Eq.symm ho) rfl)
          subst ho
          refine Or.inl ⟨by rfl, ?_⟩
          intro w hSw
          obtain ⟨q0, q1, q2, r0, r1, r2, _⟩ := hSw
          go_simp
        simp only [Act.put, List.setIfInBounds_toArray, List.set_cons_zero, List.set_cons_succ]
        refine wpAnyH_done (by kernel_rfl) ?_ _
        replace HI := Lib.hid hS
        clear hS
        go_wp2_with fail
        go_ret
        exact ⟨rfl, HI.out.2.2.2.2.2.2⟩
   by_cases hk2 : k = 2
   · obtain ⟨HE1, HE2⟩ : Hid (1 ≤ k → x0 = y0) ∧ Hid (2 ≤ k → x1 = y1) := ⟨Lib.hid e1, Lib.hid e2⟩
     have HI := hI
     clear hI e1 e2
     by_cases hx : x2 = y2
     · have := HE1.out; have := HE2.out; omega
     · have hx' : ((x2 : Int) != (y2 : Int)) = true := by rw [bne_iff_ne]; omega
       have hy' : (x2 : Int) < (y2 : Int) := by have := HE1.out; have := HE2.out; omega
       clear hx h
       subst hk2
       as_aux_lemma =>
        go_wp2_with fail
        refine wp_region_held_drew (S := (fun X => X.cell? ⟨b0, 0, none⟩ = some (.int .i64 (x0 : Nat)) ∧ X.cell? ⟨b0, 1, none⟩ = some (.int .i64 (x1 : Nat)) ∧ X.cell? ⟨b0, 2, none⟩ = some (.int .i64 (x2 : Nat)) ∧ X.cell? ⟨b0 + 1, 0, none⟩ = some (.int .i64 (y0 : Nat)) ∧ X.cell? ⟨b0 + 1, 1, none⟩ = some (.int .i64 (y1 : Nat)) ∧ X.cell? ⟨b0 + 1, 2, none⟩ = some (.int .i64 (y2 : Nat)) ∧ Below W.heap.size W X)) (by kernel_rfl) ⟨HI.out.1, HI.out.2.1, HI.out.2.2.1, HI.out.2.2.2.1, HI.out.2.2.2.2.1, HI.out.2.2.2.2.2.1, Below.drew HI.out.2.2.2.2.2.2⟩ (fun hS => ?_)
        refine take_at (i := 0) (d := some 10) (v := .int .i64 2) (by kernel_rfl) (by kernel_rfl) (by kernel_rfl) (by kernel_rfl) (fun _ _ _ h => h) ?_ hS ?_
        · intro o ho
          replace ho := Option.some.inj (Eq.trans (Eq.symm ho) rfl)
          subst ho
          refine Or.inl ⟨by rfl, ?_⟩
          intro w hSw
          obtain ⟨q0, q1, q2, r0, r1, r2, _⟩ := hSw
          go_simp
        simp only [Act.put, List.setIfInBounds_toArray, List.set_cons_zero, List.set_cons_succ]
        refine take_at (i := 1) (d := some 11) (v := .pointer (some ⟨b0, 2, none⟩)) (by kernel_rfl) (by kernel_rfl) (by kernel_rfl) (by kernel_rfl) (fun _ _ _ h => h) ?_ hS ?_
        · intro o ho
          replace ho := Option.some.inj (Eq.trans (Eq.symm ho) rfl)
          subst ho
          refine Or.inl ⟨by rfl, ?_⟩
          intro w hSw
          obtain ⟨q0, q1, q2, r0, r1, r2, _⟩ := hSw
          go_simp
        simp only [Act.put, List.setIfInBounds_toArray, List.set_cons_zero, List.set_cons_succ]
        refine take_at (i := 2) (d := some 12) (v := .int .i64 (x2 : Nat)) (by kernel_rfl) (by kernel_rfl) (by kernel_rfl) (by kernel_rfl) (fun _ _ _ h => h) ?_ hS ?_
        · intro o ho
          replace ho := Option.some.inj (Eq.trans (Eq.symm ho) rfl)
          subst ho
          refine Or.inl ⟨by rfl, ?_⟩
          intro w hSw
          obtain ⟨q0, q1, q2, r0, r1, r2, _⟩ := hSw
          go_simp
        simp only [Act.put, List.setIfInBounds_toArray, List.set_cons_zero, List.set_cons_succ]
        refine take_at (i := 3) (d := some 13) (v := .int .i64 2) (by kernel_rfl) (by kernel_rfl) (by kernel_rfl) (by kernel_rfl) (fun _ _ _ h => h) ?_ hS ?_
        · intro o ho
          replace ho := Option.some.inj (Eq.trans (Eq.symm ho) rfl)
          subst ho
          refine Or.inl ⟨by rfl, ?_⟩
          intro w hSw
          obtain ⟨q0, q1, q2, r0, r1, r2, _⟩ := hSw
          go_simp
        simp only [Act.put, List.setIfInBounds_toArray, List.set_cons_zero, List.set_cons_succ]
        refine take_at (i := 4) (d := some 14) (v := .pointer (some ⟨b0 + 1, 2, none⟩)) (by kernel_rfl) (by kernel_rfl) (by kernel_rfl) (by kernel_rfl) (fun _ _ _ h => h) ?_ hS ?_
        · intro o ho
          replace ho := Option.some.inj (Eq.trans (Eq.symm ho) rfl)
          subst ho
          refine Or.inl ⟨by rfl, ?_⟩
          intro w hSw
          obtain ⟨q0, q1, q2, r0, r1, r2, _⟩ := hSw
          go_simp
        simp only [Act.put, List.setIfInBounds_toArray, List.set_cons_zero, List.set_cons_succ]
        refine take_at (i := 5) (d := some 15) (v := .int .i64 (y2 : Nat)) (by kernel_rfl) (by kernel_rfl) (by kernel_rfl) (by kernel_rfl) (fun _ _ _ h => h) ?_ hS ?_
        · intro o ho
          replace ho := Option.some.inj (Eq.trans (Eq.symm ho) rfl)
          subst ho
          refine Or.inl ⟨by rfl, ?_⟩
          intro w hSw
          obtain ⟨q0, q1, q2, r0, r1, r2, _⟩ := hSw
          go_simp
        simp only [Act.put, List.setIfInBounds_toArray, List.set_cons_zero, List.set_cons_succ]
        refine take_at (i := 6) (d := some 16) (v := .bool true) (by kernel_rfl) (by kernel_rfl) (by kernel_rfl) (by kernel_rfl) (fun _ _ _ h => h) ?_ hS ?_
        · intro o ho
          replace ho := Option.some.inj (Eq.trans (Eq.symm ho) rfl)
          subst ho
          refine Or.inl ⟨by rfl, ?_⟩
          intro w hSw
          obtain ⟨q0, q1, q2, r0, r1, r2, _⟩ := hSw
          go_simp
        simp only [Act.put, List.setIfInBounds_toArray, List.set_cons_zero, List.set_cons_succ]
        refine wpAnyH_done (by kernel_rfl) ?_ _
        replace HI := Lib.hid hS
        clear hS
        go_wp2_with fail
        refine wp_region_held_drew (S := (fun X => X.cell? ⟨b0, 0, none⟩ = some (.int .i64 (x0 : Nat)) ∧ X.cell? ⟨b0, 1, none⟩ = some (.int .i64 (x1 : Nat)) ∧ X.cell? ⟨b0, 2, none⟩ = some (.int .i64 (x2 : Nat)) ∧ X.cell? ⟨b0 + 1, 0, none⟩ = some (.int .i64 (y0 : Nat)) ∧ X.cell? ⟨b0 + 1, 1, none⟩ = some (.int .i64 (y1 : Nat)) ∧ X.cell? ⟨b0 + 1, 2, none⟩ = some (.int .i64 (y2 : Nat)) ∧ Below W.heap.size W X)) (by kernel_rfl) ⟨HI.out.1, HI.out.2.1, HI.out.2.2.1, HI.out.2.2.2.1, HI.out.2.2.2.2.1, HI.out.2.2.2.2.2.1, Below.drew HI.out.2.2.2.2.2.2⟩ (fun hS => ?_)
        refine take_at (i := 0) (d := some 17) (v := .int .i64 2) (by kernel_rfl) (by kernel_rfl) (by kernel_rfl) (by kernel_rfl) (fun _ _ _ h => h) ?_ hS ?_
        · intro o ho
          replace ho := Option.some.inj (Eq.trans (Eq.symm ho) rfl)
          subst ho
          refine Or.inl ⟨by rfl, ?_⟩
          intro w hSw
          obtain ⟨q0, q1, q2, r0, r1, r2, _⟩ := hSw
          go_simp
        simp only [Act.put, List.setIfInBounds_toArray, List.set_cons_zero, List.set_cons_succ]
        refine take_at (i := 1) (d := some 18) (v := .pointer (some ⟨b0, 2, none⟩)) (by kernel_rfl) (by kernel_rfl) (by kernel_rfl) (by kernel_rfl) (fun _ _ _ h => h) ?_ hS ?_
        · intro o ho
          replace ho := Option.some.inj (Eq.trans (Eq.symm ho) rfl)
          subst ho
          refine Or.inl ⟨by rfl, ?_⟩
          intro w hSw
          obtain ⟨q0, q1, q2, r0, r1, r2, _⟩ := hSw
          go_simp
        simp only [Act.put, List.setIfInBounds_toArray, List.set_cons_zero, List.set_cons_succ]
        refine take_at (i := 2) (d := some 19) (v := .int .i64 (x2 : Nat)) (by kernel_rfl) (by kernel_rfl) (by kernel_rfl) (by kernel_rfl) (fun _ _ _ h => h) ?_ hS ?_
        · intro o ho
          replace ho := Option.some.inj (Eq.trans (Eq.symm ho) rfl)
          subst ho
          refine Or.inl ⟨by rfl, ?_⟩
          intro w hSw
          obtain ⟨q0, q1, q2, r0, r1, r2, _⟩ := hSw
          go_simp
        simp only [Act.put, List.setIfInBounds_toArray, List.set_cons_zero, List.set_cons_succ]
        refine take_at (i := 3) (d := some 20) (v := .int .i64 2) (by kernel_rfl) (by kernel_rfl) (by kernel_rfl) (by kernel_rfl) (fun _ _ _ h => h) ?_ hS ?_
        · intro o ho
          replace ho := Option.some.inj (Eq.trans (Eq.symm ho) rfl)
          subst ho
          refine Or.inl ⟨by rfl, ?_⟩
          intro w hSw
          obtain ⟨q0, q1, q2, r0, r1, r2, _⟩ := hSw
          go_simp
        simp only [Act.put, List.setIfInBounds_toArray, List.set_cons_zero, List.set_cons_succ]
        refine take_at (i := 4) (d := some 21) (v := .pointer (some ⟨b0 + 1, 2, none⟩)) (by kernel_rfl) (by kernel_rfl) (by kernel_rfl) (by kernel_rfl) (fun _ _ _ h => h) ?_ hS ?_
        · intro o ho
          replace ho := Option.some.inj (Eq.trans (Eq.symm ho) rfl)
          subst ho
          refine Or.inl ⟨by rfl, ?_⟩
          intro w hSw
          obtain ⟨q0, q1, q2, r0, r1, r2, _⟩ := hSw
          go_simp
        simp only [Act.put, List.setIfInBounds_toArray, List.set_cons_zero, List.set_cons_succ]
        refine take_at (i := 5) (d := some 22) (v := .int .i64 (y2 : Nat)) (by kernel_rfl) (by kernel_rfl) (by kernel_rfl) (by kernel_rfl) (fun _ _ _ h => h) ?_ hS ?_
        · intro o ho
          replace ho := Option.some.inj (Eq.trans (Eq.symm ho) rfl)
          subst ho
          refine Or.inl ⟨by rfl, ?_⟩
          intro w hSw
          obtain ⟨q0, q1, q2, r0, r1, r2, _⟩ := hSw
          go_simp
        simp only [Act.put, List.setIfInBounds_toArray, List.set_cons_zero, List.set_cons_succ]
        refine take_at (i := 6) (d := some 23) (v := .bool true) (by kernel_rfl) (by kernel_rfl) (by kernel_rfl) (by kernel_rfl) (fun _ _ _ h => h) ?_ hS ?_
        · intro o ho
          replace ho := Option.some.inj (Eq.trans (Eq.symm ho) rfl)
          subst ho
          refine Or.inl ⟨by rfl, ?_⟩
          intro w hSw
          obtain ⟨q0, q1, q2, r0, r1, r2, _⟩ := hSw
          go_simp
        simp only [Act.put, List.setIfInBounds_toArray, List.set_cons_zero, List.set_cons_succ]
        refine take_at (i := 7) (d := some 4) (v := .bool true) (by kernel_rfl) (by kernel_rfl) (by kernel_rfl) (by kernel_rfl) (fun _ _ _ h => h) ?_ hS ?_
        · intro o ho
          replace ho := Option.some.inj (Eq.trans (Eq.symm ho) rfl)
          subst ho
          refine Or.inl ⟨by rfl, ?_⟩
          intro w hSw
          obtain ⟨q0, q1, q2, r0, r1, r2, _⟩ := hSw
          go_simp
        simp only [Act.put, List.setIfInBounds_toArray, List.set_cons_zero, List.set_cons_succ]
        refine wpAnyH_done (by kernel_rfl) ?_ _
        replace HI := Lib.hid hS
        clear hS
        go_wp2_with fail
        go_ret
        exact ⟨rfl, HI.out.2.2.2.2.2.2⟩
   omega
end Go.Proofs.YtcgbnjoajieggaaGreat
