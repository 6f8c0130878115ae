/- Own texts, put together: Efm. -/
import Derived.Test.YtgoadpnoagaflaaDoorQ39
/- Package elefile: whether a file may be. -/
namespace Go.Proofs.YtgoadpnoagaflaaDoor
set_option maxRecDepth 100000
open Go.RowKit Go.Shelf Go.Lib
attribute [local go_sem] run_store_float
set_option maxHeartbeats 4000000 in
theorem amissE_any (Bf : Nat) (f c k : Int) (lv : Value) (q : Rt) (w : World) (hf : CB w Bf #[.int .i64 f, .int .i64 c, .int .i64 k, lv] 28) (ht : Is w q.2.1 q.1.t) (ha : Fs w q.2.2 q.1.a) :
   Calls Tryd.prog 39 #[.agg #[q.2.1, q.2.2], .pointer (some ⟨Bf, 0, none⟩)] w fun e w' => e = .returned (.bool (amissE c k q.1)) ∧ Below w.heap.size w w' := by
 obtain ⟨⟨ts, ls⟩, tv, av⟩ := q
 try dsimp only at ht ha ⊢
 obtain ⟨ta, tc, rfl, h1, h2, _⟩ := ht.form
 obtain ⟨aa, ac, rfl, h3, h4, _⟩ := ha.form
 obtain ⟨W1, hW1⟩ : ∃ W1, w.alloc (.cells #[.slice ta ts.length tc, .slice aa ls.length ac] 34) = W1 := ⟨_, rfl⟩
 have b1 : Below w.heap.size w W1 := by rw [← hW1]; exact (Below.refl _ w).alloc (Nat.le_refl _) _
 have cn : CB W1 w.heap.size #[.slice ta ts.length tc, .slice aa ls.length ac] 34 := by rw [← hW1]; exact CB.new w _ _
 have cf := hf.later b1
 have is1 := ht.later b1
 have fs1 := ha.later b1
 obtain ⟨bt, hbt⟩ : ∃ b, Hid (ts.any strayE = b) := ⟨_, Lib.hid rfl⟩
 obtain ⟨ba, hba⟩ : ∃ b, Hid (ls.any endl = b) := ⟨_, Lib.hid rfl⟩
 have HC : Hid (Calls Tryd.prog 40 #[.slice ta ts.length tc, .func (.func 41) #[] #[]] W1 fun e w' => e = .returned (.bool bt) ∧ Below W1.heap.size W1 w') := Lib.hid (by
   rw [← hbt.out]
   exact inE_has (q := strayE) _ ts W1 is1 (fun j hj W hW => by
     refine (strayE_any ts[j] W).mono ?_
     rintro e w' ⟨rfl, rfl⟩
     exact ⟨rfl, hW⟩))
 have HA : Hid (∀ W2, Below W1.heap.size W1 W2 → Calls Tryd.prog 42 #[.slice aa ls.length ac, .func (.func 43) #[] #[]] W2 fun e w' => e = .returned (.bool ba) ∧ Below W2.heap.size W2 w') := Lib.hid (fun W2 hb2 => by
   rw [← hba.out]
   exact flE_has (q := endl) _ ls W2 (fs1.later hb2) (fun j hj W hW => by
     refine (endlessE_any ls[j] W (fs1.word _ (List.getElem_mem hj))).mono ?_
     rintro e w' ⟨rfl, rfl⟩
     exact ⟨rfl, hW⟩))
 have HL : Hid (CB W1 w.heap.size #[.slice ta ts.length tc, .slice aa ls.length ac] 34 ∧ CB W1 Bf #[.int .i64 f, .int .i64 c, .int .i64 k, lv] 28 ∧ Below w.heap.size w W1) := Lib.hid ⟨cn, cf, b1⟩
 obtain ⟨j0, j1⟩ := cn.cells2E
 obtain ⟨k0, k1, k2, k3⟩ := cf.cells4E
 have ht' : (ts.length : Int) ≤ 9223372036854775807 := by omega
 have hl' : (ls.length : Int) ≤ 9223372036854775807 := by omega
 obtain ⟨m, hm⟩ : ∃ m, ts.length = m := ⟨_, rfl⟩
 obtain ⟨n, hn⟩ : ∃ n, ls.length = n := ⟨_, rfl⟩
 have HAm : Hid (amissE c k ⟨ts, ls⟩ = (decide ((m : Int) ≠ c) || bt || decide ((n : Int) ≠ k) || ba)) := Lib.hid (by unfold amissE; simp only [hn, hm, hbt.out, hba.out])
 rw [HAm.out]
 rw [hm] at HC HL j0 ht' hW1 ⊢
 rw [hn] at HA HL j1 hl' hW1 ⊢
 clear hf ht ha cn cf is1 fs1 b1 hn hm HAm hbt hba h1 h2 h3 h4
 by_cases hk : (m : Int) = c
 rotate_left
 · have hk1 : decide ((m : Int) ≠ c) = true := by simpa using hk
   rw [hk1]
   go_enter Tryd.func39, Tryd.ntmps39
   go_wp2
   go_ret
   exact ⟨rfl, HL.out.2.2⟩
 have hk1 : decide ((m : Int) ≠ c) = false := by simpa using hk
 rw [hk1]
 subst hk
 cases bt
 rotate_left
 · go_enter Tryd.func39, Tryd.ntmps39
   go_wp2_with (first | (go_at_call 40; refine HC.out.mono ?_; rintro e W2 ⟨rfl, hb2⟩; have HB2 := Lib.hid hb2; clear hb2))
   go_ret
   exact ⟨rfl, HL.out.2.2.trans (HB2.out.mono HL.out.2.2.size)⟩
 by_cases hk2 : (n : Int) = k
 rotate_left
 · have hk3 : decide ((n : Int) ≠ k) = true := by simpa using hk2
   rw [hk3]
   go_enter Tryd.func39, Tryd.ntmps39
   go_wp2_with (first | (go_at_call 40; refine HC.out.mono ?_; rintro e W2 ⟨rfl, hb2⟩; have HB2 := Lib.hid hb2; have i1 := (HL.out.1.later hb2).cell 1 (by simp); have l2 := (HL.out.2.1.later hb2).cell 2 (by simp); clear hb2))
   go_ret
   exact ⟨rfl, HL.out.2.2.trans (HB2.out.mono HL.out.2.2.size)⟩
 have hk3 : decide ((n : Int) ≠ k) = false := by simpa using hk2
 rw [hk3]
 subst hk2
 cases ba
 all_goals
   go_enter Tryd.func39, Tryd.ntmps39
   go_wp2_with (first
     | (go_at_call 40; refine HC.out.mono ?_; rintro e W2 ⟨rfl, hb2⟩; have HB2 := Lib.hid hb2; have i1 := (HL.out.1.later hb2).cell 1 (by simp); have l2 := (HL.out.2.1.later hb2).cell 2 (by simp); clear hb2)
     | (go_at_call 42; refine (HA.out _ HB2.out).mono ?_; rintro e W3 ⟨rfl, hb3⟩; have HB3 := Lib.hid hb3; clear hb3))
   go_ret
   exact ⟨rfl, HL.out.2.2.trans ((HB2.out.trans (HB3.out.mono HB2.out.size)).mono HL.out.2.2.size)⟩
set_option maxHeartbeats 8000000 in
theorem mayE_any (f c k : Int) (v : Value) (rs : List Rt) (w : World) (hv : Rv w v rs) :
   Calls Tryd.prog 20 #[.agg #[.int .i64 f, .int .i64 c, .int .i64 k, v]] w fun e w' => e = .returned (.bool (mayE ⟨f, c, k, rs.map (·.1)⟩)) ∧ Below w.heap.size w w' := by
 obtain ⟨aa, ac, rfl, h1, h2, _⟩ := hv.form
 obtain ⟨W1, hW1⟩ : ∃ W1, w.alloc (.cells #[.int .i64 f, .int .i64 c, .int .i64 k, .slice aa rs.length ac] 28) = W1 := ⟨_, rfl⟩
 have b1 : Below w.heap.size w W1 := by rw [← hW1]; exact (Below.refl _ w).alloc (Nat.le_refl _) _
 have cf : CB W1 w.heap.size #[.int .i64 f, .int .i64 c, .int .i64 k, .slice aa rs.length ac] 28 := by rw [← hW1]; exact CB.new w _ _
 have nv1 := hv.later b1
 have HA : Hid (Calls Tryd.prog 44 #[.slice aa rs.length ac, .func (.func 39) #[] #[.pointer (some ⟨w.heap.size, 0, none⟩)]] W1 fun e w' => e = .returned (.bool (rs.any fun q => amissE c k q.1)) ∧ Below W1.heap.size W1 w') := Lib.hid (amE_has (q := fun q => amissE c k q.1) w.heap.size _ rs W1 nv1 (fun j hj W hW => by
     refine (amissE_any w.heap.size f c k _ rs[j] W (cf.later hW) ((nv1.sub _ (List.getElem_mem hj)).1.later hW) ((nv1.sub _ (List.getElem_mem hj)).2.later hW)).mono ?_
     rintro e w' ⟨rfl, hb⟩
     exact ⟨rfl, hW.trans (hb.mono hW.size)⟩))
 have e1 : (rs.map (·.1)).any (amissE c k) = rs.any fun q => amissE c k q.1 := by simp [List.any_map, Function.comp_def]
 obtain ⟨bA, hbA⟩ : ∃ b, (rs.any fun q => amissE c k q.1) = b := ⟨_, rfl⟩
 rw [hbA] at HA
 obtain ⟨n, hn⟩ : ∃ n, rs.length = n := ⟨_, rfl⟩
 have HW : Hid (mayE ⟨f, c, k, rs.map (·.1)⟩ = ((decide (f = 0) || decide (f = 1)) && (decide (c = 3) || decide (c = 6)) && decide (0 ≤ k) && decide (k ≤ 16) && decide ((n : Int) ≤ 1048576) && !bA)) := Lib.hid (by
   unfold mayE
   simp only [e1, hbA, show (rs.map (·.1)).length = n by rw [← hn]; simp]
   congr 2
   by_cases h : n ≤ 1048576
   · rw [decide_eq_true h, decide_eq_true (by omega)]
   · rw [decide_eq_false h, decide_eq_false (by omega)])
 rw [HW.out]
 rw [hn] at HA hW1 cf ⊢
 have hl' : (n : Int) ≤ 9223372036854775807 := by omega
 have HL := Lib.hid b1
 obtain ⟨k0, k1, k2, k3⟩ := cf.cells4E
 clear hv nv1 cf b1 e1 hbA hn HW h1 h2
 by_cases hf : f = 0 ∨ f = 1
 rotate_left
 · have e1 : (decide (f = 0) || decide (f = 1)) = false := by simp; omega
   rw [e1]
   have g1 : ¬ f = 0 := fun e => hf (Or.inl e)
   have g2 : ¬ f = 1 := fun e => hf (Or.inr e)
   clear hf
   go_enter Tryd.func20, Tryd.ntmps20
   go_wp2
   go_ret
   exact ⟨rfl, HL.out⟩
 have e1 : (decide (f = 0) || decide (f = 1)) = true := by simpa using hf
 rw [e1, Bool.true_and]
 clear e1
 by_cases hc : c = 3 ∨ c = 6
 rotate_left
 · have e2 : (decide (c = 3) || decide (c = 6)) = false := by simp; omega
   rw [e2]
   have g1 : ¬ c = 3 := fun e => hc (Or.inl e)
   have g2 : ¬ c = 6 := fun e => hc (Or.inr e)
   clear hc
   rcases hf with rfl | rfl
   all_goals
     go_enter Tryd.func20, Tryd.ntmps20
     go_wp2
     go_ret
     exact ⟨rfl, HL.out⟩
 have e2 : (decide (c = 3) || decide (c = 6)) = true := by simpa using hc
 rw [e2, Bool.true_and]
 clear e2
 by_cases hk : 0 ≤ k
 rotate_left
 · rw [decide_eq_false hk]
   rcases hf with rfl | rfl
   all_goals
     rcases hc with rfl | rfl
     all_goals
       go_enter Tryd.func20, Tryd.ntmps20
       go_wp2
       go_ret
       exact ⟨rfl, HL.out⟩
 rw [decide_eq_true hk, Bool.true_and]
 by_cases hk2 : k ≤ 16
 rotate_left
 · rw [decide_eq_false hk2]
   rcases hf with rfl | rfl
   all_goals
     rcases hc with rfl | rfl
     all_goals
       go_enter Tryd.func20, Tryd.ntmps20
       go_wp2
       go_ret
       exact ⟨rfl, HL.out⟩
 rw [decide_eq_true hk2, Bool.true_and]
 by_cases hn : (n : Int) ≤ 1048576
 rotate_left
 · rw [decide_eq_false hn]
   rcases hf with rfl | rfl
   all_goals
     rcases hc with rfl | rfl
     all_goals
       go_enter Tryd.func20, Tryd.ntmps20
       go_wp2
       go_ret
       exact ⟨rfl, HL.out⟩
 rw [decide_eq_true hn, Bool.true_and]
 rcases hf with rfl | rfl
 all_goals
   rcases hc with rfl | rfl
   all_goals
     go_enter Tryd.func20, Tryd.ntmps20
     go_wp2_with (first | (go_at_call 44; refine HA.out.mono ?_; rintro e W2 ⟨rfl, hb2⟩; have HB2 := Lib.hid (HL.out.trans (hb2.mono HL.out.size)); clear hb2))
     go_ret
     exact ⟨rfl, HB2.out⟩
end Go.Proofs.YtgoadpnoagaflaaDoor
