/- Own texts, put together: Md Me Mf. -/
import Derived.Test.YtcgbnjoajieggaaGreatQ4
import Derived.Test.YtcgbnjoajieggaaGreatQ8
import Derived.Test.YtcgbnjoajieggaaGreatQ28
import Derived.ArgAppend
import Derived.Lib.Hide
namespace Go.Proofs.YtcgbnjoajieggaaGreat
/- Package mesh: none, see, has, there, lay. -/
section
open Go.RowKit
attribute [local go_sem ↓] Go.wp_at_zero Go.wp_at_succ
set_option maxRecDepth 100000
def plcI (A : List (List Wg)) (a b : Int) : Option Int := (plc A a b).map fun (k : Nat) => (k : Int)
structure Gd (S : Nat → Prop) (W : World) (x : Gx) (P : List (Nat × Nat)) (A : List (List Wg)) (F : Int → Int → Option Int) (vs : List Value) : Prop where
 m : Gm S W x P A (plcI A) (cnt A) F vs
 uq : Uq A
 len : A.length = P.length
 few : P.length ≤ 1048576
 nums : ∀ a b c, Hw A a b c → b < A.length ∧ c < A.length
section
variable {S : Nat → Prop} {W W' : World} {x : Gx} {P : List (Nat × Nat)} {A : List (List Wg)} {F : Int → Int → Option Int} {vs : List Value}
theorem Gd.later (h : Gd S W x P A F vs) (hb : Below W.heap.size W W') : Gd S W' x P A F vs := ⟨h.m.later hb, h.uq, h.len, h.few, h.nums⟩
theorem Gd.more {T : Nat → Prop} (h : Gd S W x P A F vs) (hT : ∀ k, S k → T k) : Gd T W x P A F vs := ⟨h.m.more hT, h.uq, h.len, h.few, h.nums⟩
theorem Gd.same (h : Gd S W x P A F vs) (T : Nat → Prop) (hb : ∀ k, S k → k < W.heap.size → W'.heap[k]? = W.heap[k]?) (hT : ∀ k, S k → k < W.heap.size → T k) : Gd T W' x P A F vs := ⟨h.m.same T hb hT, h.uq, h.len, h.few, h.nums⟩
theorem Gm.cells {f : Int → Int → Option Int} {c : Nat} (h : Gm S W x P A f c F vs) : W.cell? ⟨x.gB, 0, none⟩ = some x.pv ∧ W.cell? ⟨x.gB, 1, none⟩ = some x.av ∧ W.cell? ⟨x.gB, 2, none⟩ = some (.map (some x.pm)) ∧ W.cell? ⟨x.gB, 3, none⟩ = some (.map (some x.fm)) :=
 ⟨h.box.cell 0 (by simp), h.box.cell 1 (by simp), h.box.cell 2 (by simp), h.box.cell 3 (by simp)⟩
theorem Gm.pslice {f : Int → Int → Option Int} {c : Nat} (h : Gm S W x P A f c F vs) : ∃ pa pc, x.pv = .slice pa P.length pc ∧ ∀ (i : Nat) (p : Nat × Nat), P[i]? = some p → ∃ g, pa = some ⟨g, 0, none⟩ ∧ g < W.heap.size ∧ W.cell? ⟨g, i * 2, none⟩ = some (.float .f64 p.1) ∧ W.cell? ⟨g, i * 2 + 1, none⟩ = some (.float .f64 p.2) := by
 rcases h.pts with ⟨h1, a, c, h2⟩ | ⟨h1, _⟩
 · subst h1
   exact ⟨a, c, h2, fun i p hp => by simp at hp⟩
 · rcases h1.2 with ⟨h2, h3⟩ | ⟨g, cap, cur, h2, h3⟩
   · refine ⟨none, 0, by rw [h2, h3], fun i p hp => ?_⟩
     have := (List.getElem?_eq_some_iff.1 hp).1
     omega
   · refine ⟨_, cap, h2, fun i p hp => ⟨g, rfl, (Array.getElem?_eq_some_iff.1 h3.2.1).1, ?_⟩⟩
     have hi := (List.getElem?_eq_some_iff.1 hp).1
     rw [h2] at h1
     obtain ⟨q1, q2⟩ := qcs_at hp
     exact ⟨by rw [h1.cellAt _ (by omega)]; exact q1, by rw [h1.cellAt _ (by omega)]; exact q2⟩
theorem Gm.aslice {f : Int → Int → Option Int} {c : Nat} (h : Gm S W x P A f c F vs) : ∃ aa ac, x.av = .slice aa A.length ac ∧ ∀ (i : Nat) (v : Value), vs[i]? = some v → ∃ g, aa = some ⟨g, 0, none⟩ ∧ g < W.heap.size ∧ W.cell? ⟨g, i, none⟩ = some v ∧ W.frozen? ⟨g, i, none⟩ = false ∧ x.av.ownBlock = some g := by
 have h1 := h.row
 rcases h1.2 with ⟨h2, h3⟩ | ⟨g, cap, cur, h2, h3⟩
 · refine ⟨none, 0, by rw [h2, h3], fun i v hv => ?_⟩
   have := (List.getElem?_eq_some_iff.1 hv).1
   have := h.len
   omega
 · refine ⟨_, cap, h2, fun i v hv => ⟨g, rfl, (Array.getElem?_eq_some_iff.1 h3.2.1).1, ?_⟩⟩
   have hi := (List.getElem?_eq_some_iff.1 hv).1
   have hl := h.len
   rw [h2] at h1
   exact ⟨by rw [h1.cellAt _ (by omega)]; exact hv, h1.frozenAt _, by rw [h2]; rfl⟩
theorem Gm.fslice {f : Int → Int → Option Int} {c : Nat} (h : Gm S W x P A f c F vs) {i : Nat} {v : Value} (hv : vs[i]? = some v) : ∃ fa fc, v = .slice fa (A.getD i []).length fc ∧ ∀ (k : Nat) (w : Wg), (A.getD i [])[k]? = some w → ∃ g, fa = some ⟨g, 0, none⟩ ∧ g < W.heap.size ∧ W.cell? ⟨g, k * 2, none⟩ = some (.int .i64 (w.1 : Nat)) ∧ W.cell? ⟨g, k * 2 + 1, none⟩ = some (.int .i64 (w.2 : Nat)) ∧ W.frozen? ⟨g, k * 2, none⟩ = false ∧ W.frozen? ⟨g, k * 2 + 1, none⟩ = false ∧ v.ownBlock = some g := by
 have h1 := h.fans i v hv
 rcases h1.2 with ⟨h2, h3⟩ | ⟨g, cap, cur, h2, h3⟩
 · refine ⟨none, 0, by rw [h2, h3], fun k w hw => ?_⟩
   have := (List.getElem?_eq_some_iff.1 hw).1
   omega
 · refine ⟨_, cap, h2, fun k w hw => ⟨g, rfl, (Array.getElem?_eq_some_iff.1 h3.2.1).1, ?_⟩⟩
   have hi := (List.getElem?_eq_some_iff.1 hw).1
   rw [h2] at h1
   obtain ⟨q1, q2⟩ := wcs_at hw
   exact ⟨by rw [h1.cellAt _ (by omega)]; exact q1, by rw [h1.cellAt _ (by omega)]; exact q2, h1.frozenAt _, h1.frozenAt _, by rw [h2]; rfl⟩
end
def Mh (W : World) (mB gB : Nat) : Prop := CB W mB #[.pointer (some ⟨gB, 0, none⟩)] 77
theorem none_some {W : World} {mB gB : Nat} (h : Mh W mB gB) : Calls Tryz.prog 45 #[.pointer (some ⟨mB, 0, none⟩)] W fun e w' => e = .returned (.bool false) ∧ w' = W := by
 have h0 : W.cell? ⟨mB, 0, none⟩ = some (.pointer (some ⟨gB, 0, none⟩)) := h.cell 0 (by simp)
 clear h
 go_enter Tryz.func45, Tryz.ntmps45
 go_wp2
 go_ret
 exact ⟨rfl, rfl⟩
theorem see_some {W : World} {mB gB : Nat} (h : Mh W mB gB) : Calls Tryz.prog 54 #[.pointer (some ⟨mB, 0, none⟩)] W fun e w' => e = .returned (.pointer (some ⟨gB, 0, none⟩)) ∧ w' = W := by
 have H := Lib.hid h
 have h0 : W.cell? ⟨mB, 0, none⟩ = some (.pointer (some ⟨gB, 0, none⟩)) := h.cell 0 (by simp)
 clear h
 go_enter Tryz.func54, Tryz.ntmps54
 go_wp2_with fail
 refine (none_some H.out).mono ?_
 rintro e w' ⟨rfl, rfl⟩
 go_wp2
 go_ret
 exact ⟨rfl, rfl⟩
theorem there_any {S : Nat → Prop} {W : World} {x : Gx} {P : List (Nat × Nat)} {A : List (List Wg)} {F : Int → Int → Option Int} {vs : List Value} (h : Gd S W x P A F vs) (a b : Int) :
   Calls Tryz.prog 50 #[.pointer (some ⟨x.gB, 0, none⟩), .int .i64 a, .int .i64 b] W fun e w' => e = .returned (.bool (plc A a b).isSome) ∧ w' = W := by
 obtain ⟨_, _, h2, _⟩ := h.m.cells
 have hL := h.m.map.look a b
 have e1 : (plcI A a b).isSome = (plc A a b).isSome := by simp [plcI]
 rw [e1] at hL
 unfold k2 at hL
 obtain ⟨t, ht⟩ : ∃ t, (plc A a b).isSome = t := ⟨_, rfl⟩
 obtain ⟨z, hz⟩ : ∃ z, (plcI A a b).getD 0 = z := ⟨_, rfl⟩
 rw [hz, ht] at hL
 rw [ht]
 clear h hz ht e1
 go_enter Tryz.func50, Tryz.ntmps50
 go_wp2
 go_ret
 exact ⟨rfl, rfl⟩
end

/- Package mesh: has. -/
section
open Go.RowKit
attribute [local go_sem ↓] Go.wp_at_zero Go.wp_at_succ
set_option maxRecDepth 100000
def hasB (n : Nat) (y : Int) : Bool := decide (0 ≤ y ∧ y < (n : Int))
theorem has_any {S : Nat → Prop} {W : World} {x : Gx} {P : List (Nat × Nat)} {A : List (List Wg)} {F : Int → Int → Option Int} {vs : List Value} (h : Gd S W x P A F vs) (g c n : Nat) (xs : List Int) (hn : xs.length = n) (hn3 : n ≤ 1000)
   (hx : ∀ (i : Nat) (y : Int), xs[i]? = some y → W.cell? ⟨g, i, none⟩ = some (.int .i64 y)) :
   Calls Tryz.prog 48 #[.pointer (some ⟨x.gB, 0, none⟩), .slice (some ⟨g, 0, none⟩) n c] W fun e w' => e = .returned (.bool (xs.all (hasB P.length))) ∧ w' = W := by
 obtain ⟨h0, _⟩ := h.m.cells
 obtain ⟨pa, pc, hp, _⟩ := h.m.pslice
 rw [hp] at h0
 obtain ⟨m, hm⟩ : ∃ m, P.length = m := ⟨_, rfl⟩
 rw [hm] at h0 ⊢
 have HX := Lib.hid hx
 clear h hp hx hm
 go_enter Tryz.func48, Tryz.ntmps48
 go_wp2
 go_loopw [9] (fun i wr => ∃ k : Nat, k ≤ n ∧ i = .int .i64 (k : Nat) ∧ Hid (∀ (j : Nat) (y : Int), j < k → xs[j]? = some y → hasB m y = true) ∧ wr = W) (fun i _ => n - (intOf i).toNat)
 case atStart => exact ⟨0, Nat.zero_le _, rfl, Lib.hid (fun j y hj => by omega), rfl⟩
 case round =>
   obtain ⟨k, hk, rfl, hB, rfl⟩ := hrel
   by_cases hlt : k < n
   · have hlt' : (k : Int) < (n : Int) := by omega
     have hk0 : (0 : Int) ≤ (k : Int) := by omega
     obtain ⟨y, hy⟩ : ∃ y, xs[k]? = some y := ⟨_, List.getElem?_eq_getElem (by omega)⟩
     have cy := HX.out k y hy
     have HY := Lib.hid hy
     clear hy
     by_cases hb : hasB m y = true
     · have h1 : 0 ≤ y ∧ y < (m : Int) := by unfold hasB at hb; exact of_decide_eq_true hb
       have h2 : ¬ y < 0 := by omega
       have h3 : ¬ (m : Int) ≤ y := by omega
       have h3' : y < (m : Int) := h1.2
       have HB := Lib.hid hb
       clear hb h1
       as_aux_lemma =>
        go_wp2
        refine ⟨⟨k + 1, by omega, by go_num, Lib.hid (fun j z hj hz => ?_), by trivial⟩, by simp [intOf]; omega⟩
        by_cases e : j = k
        · subst e
          rw [HY.out] at hz; cases hz; exact HB.out
        · exact hB.out j z (by omega) hz
     · have HN : Hid (xs.all (hasB m) = false) := Lib.hid (by
         rw [List.all_eq_false]
         exact ⟨y, List.mem_of_getElem? HY.out, by simpa using hb⟩)
       by_cases h1 : y < 0
       · clear hb
         go_wp2
         go_ret
         exact ⟨by rw [HN.out]; rfl, rfl⟩
       · have h3 : (m : Int) ≤ y := by
           apply Classical.byContradiction
           intro h3
           exact hb (by unfold hasB; exact decide_eq_true (by omega))
         have h4 : ¬ y < (m : Int) := by omega
         clear hb
         as_aux_lemma =>
          go_wp2
          go_ret
          exact ⟨by rw [HN.out]; rfl, rfl⟩
   · obtain rfl : k = n := by omega
     have hltb : decide ((k : Int) < (k : Int)) = false := decide_eq_false (by omega)
     have HN : Hid (xs.all (hasB m) = true) := Lib.hid (by
       rw [List.all_eq_true]
       intro y hy
       obtain ⟨j, hj⟩ := List.mem_iff_getElem?.1 hy
       have := (List.getElem?_eq_some_iff.1 hj).1
       exact hB.out j y (by omega) hj)
     as_aux_lemma =>
      go_wp2
      go_ret
      exact ⟨by rw [HN.out]; rfl, rfl⟩
end

/- Package mesh: lay. (gen_mf.py) -/
section
open Go.RowKit
attribute [local go_sem ↓] Go.wp_at_zero Go.wp_at_succ
set_option maxRecDepth 100000
section
variable {P : Program} {ops : Array Oper} {Q : Exit → Act → World → Prop} {md : Region.Mode} {S : World → Prop}
theorem two_atM (i j : Nat) {fuel : Nat} {listed : Array Bool} {a : Act} {w : World} (hr : Region.ready md ops listed = [i, j])
   (hi : (ops[i]?).isSome = true) (hj : (ops[j]?).isSome = true)
   (h : ∀ o, ops[i]? = some o → ∀ K' : Act → World → Prop, Shut (∀ a w, S w → (S w → wpAnyH P md ops Q S fuel (listed.setIfInBounds i true) a w) → K' a w) → if Region.wanted o (yielded ops a.tmps) = true then Oper.wp P o a w K' Q else K' (a.put o.dst undef) w)
   (h2 : ∀ o, ops[j]? = some o → ∀ K' : Act → World → Prop, Shut (∀ a w, S w → (S w → wpAnyH P md ops Q S fuel (listed.setIfInBounds j true) a w) → K' a w) → if Region.wanted o (yielded ops a.tmps) = true then Oper.wp P o a w K' Q else K' (a.put o.dst undef) w) :
   wpAnyH P md ops Q S (fuel + 1) listed a w := by
 obtain ⟨o, ho⟩ := Option.isSome_iff_exists.1 hi
 obtain ⟨o2, ho2⟩ := Option.isSome_iff_exists.1 hj
 exact wpAnyH_ready hr (by simp) (AllReadyH.cons ho (h o ho) (AllReadyH.cons ho2 (h2 o2 ho2) AllReadyH.nil))
end
theorem Uq.len {A : List (List Wg)} (hu : Uq A) (hn : ∀ a b c, Hw A a b c → b < A.length ∧ c < A.length) (a : Nat) : (A.getD a []).length ≤ A.length := by
 by_cases ha : a < A.length
 · have hg : A[a]? = some (A.getD a []) := by rw [List.getD_eq_getElem?_getD, List.getElem?_eq_getElem ha]; rfl
   have h1 := hu a _ hg
   have h2 : ∀ x ∈ (A.getD a []).map (·.1), x ∈ List.range A.length := by
     intro x hx
     obtain ⟨w, hw, rfl⟩ := List.mem_map.1 hx
     exact List.mem_range.2 (hn a w.1 w.2 ⟨_, hg, hw⟩).1
   have := List.Nodup.length_le_of_subset h1 h2
   simpa using this
 · rw [List.getD_eq_getElem?_getD, List.getElem?_eq_none (by omega)]; simp
section
variable {aa : Act} {W : World} {o : Oper} {K : Act → World → Prop} {Q : Exit → Act → World → Prop}
theorem ok_mapUpdate {t1 t2 t3 B : Nat} {kx : Value} {v : Int} {W' : World} (ho : o.op = .mapUpdate 85 (.tmp t1) (.tmp t2) (.tmp t3)) (h1 : aa.eval (.tmp t1) = .map (some B)) (h2 : aa.eval (.tmp t2) = kx) (h3 : aa.eval (.tmp t3) = .int .i64 v)
   (hm : (Instr.mapUpdate 85 (.map (some B)) kx (.int .i64 v)).run Tryz.prog W = .ok () W') (h : K (aa.put o.dst undef) W') : Oper.wp Tryz.prog o aa W K Q := by
 unfold Oper.wp execOp
 rw [ho]
 simp only [h1, h2, h3]
 go_simp
 exact h
theorem ok_wedge {t : Nat} {b c : Int} (ho : o.op = .buildSlice 94 1 #[(0, .tmp t)]) (hv : aa.eval (.tmp t) = .agg #[.int .i64 b, .int .i64 c]) (h : K (aa.put o.dst (.slice (some ⟨W.heap.size, 0, none⟩) 1 1)) (W.alloc (.cells #[.int .i64 b, .int .i64 c] 90))) : Oper.wp Tryz.prog o aa W K Q := by
 unfold Oper.wp execOp
 rw [ho]
 simp only [List.map_toArray, List.map_cons, List.map_nil, hv]
 go_simp
 exact h
theorem ok_ldFan {t g i : Nat} {x : Option Addr} {n c : Nat} (ho : o.op = .load 94 (.tmp t)) (hv : aa.eval (.tmp t) = .pointer (some ⟨g, i, none⟩)) (hc : W.cell? ⟨g, i, none⟩ = some (.slice x n c)) (h : K (aa.put o.dst (.slice x n c)) W) : Oper.wp Tryz.prog o aa W K Q := by
 unfold Oper.wp execOp
 rw [ho]
 simp only [hv]
 go_simp
 exact h
theorem ok_stFan {t u B i : Nat} {x y : Option Addr} {n m c d : Nat} (ho : o.op = .store 94 (.tmp t) (.tmp u)) (hv : aa.eval (.tmp t) = .pointer (some ⟨B, i, none⟩)) (hu : aa.eval (.tmp u) = .slice x n c) (hc : W.cell? ⟨B, i, none⟩ = some (.slice y m d)) (hf : W.frozen? ⟨B, i, none⟩ = false) (h : K (aa.put o.dst undef) (W.setCell ⟨B, i, none⟩ (.slice x n c))) : Oper.wp Tryz.prog o aa W K Q := by
 unfold Oper.wp execOp
 rw [ho]
 simp only [hv, hu]
 go_simp
 exact h
theorem append_fan (w : World) (ty : TypeId) (v : Value) (fan : List Wg) (hv : w.ownsRow 0 90 2 v fan.length (wcs fan)) (X c : Nat) (b d : Nat) (h0 : w.cell? ⟨X, 0, none⟩ = some (.int .i64 (b : Nat))) (h1 : w.cell? ⟨X, 1, none⟩ = some (.int .i64 (d : Nat))) (hm : fan.length ≤ 2000000) :
   ∃ v' w', (Builtin.append_ #[94, 94] ty #[v, .slice (some ⟨X, 0, none⟩) 1 c]).run Tryz.prog w = .ok v' w' ∧ w'.ownsRow 0 90 2 v' (fan.length + 1) (wcs (fan ++ [(b, d)])) ∧ w.grownBy w' v.ownBlock ∧ (v'.ownBlock = v.ownBlock ∨ ∀ g, v'.ownBlock = some g → w.heap.size ≤ g) := by
 obtain ⟨i0, hi0, hz0, hz1, hz2⟩ := info_parts (show (Tryz.prog.info? 90).map (fun i => (i.zero, i.size, i.bytes)) = some (some (.agg #[.int .i64 0, .int .i64 0]), 2, 16) by kernel_rfl)
 have hnews : ∀ j u, [Value.int .i64 (b : Nat), Value.int .i64 (d : Nat)][j]? = some u → w.cell? ((⟨X, 0, none⟩ : Addr).add j) = some u := by
   intro j u hu
   have hj : j < 2 := by have := (List.getElem?_eq_some_iff.1 hu).1; simpa using this
   rw [Addr.add_lit]
   rcases (show j = 0 ∨ j = 1 by omega) with rfl | rfl
   · simp at hu; subst hu; simpa using h0
   · simp at hu; subst hu; simpa using h1
 have ho : ∀ u ∈ [Value.int .i64 (b : Nat), Value.int .i64 (d : Nat)], u.oneCell' = true := by
   intro u hu
   simp at hu
   rcases hu with rfl | rfl <;> rfl
 have hw : wcs (fan ++ [(b, d)]) = wcs fan ++ [.int .i64 (b : Nat), .int .i64 (d : Nat)] := by unfold wcs; rw [List.flatMap_append]; rfl
 rw [hw]
 obtain ⟨v', w', e1, e2, e3, e4⟩ := run_append_own (P := Tryz.prog) w 0 94 ty 90 i0 (.agg #[.int .i64 0, .int .i64 0]) 2 16 Tryz.underlying94 hi0 hz0 hz1 hz2 rfl (by decide) v fan.length (wcs fan) hv ⟨X, 0, none⟩ 1 c _ rfl hnews ho (by unfold maxLen; omega) (by omega) (Nat.zero_le _)
 refine ⟨v', w', e1, e2, e3, ?_⟩
 rcases hv.2 with ⟨rfl, h0⟩ | ⟨g, cap, cur, rfl, _, hg, hnc, hcm, hcs, htk⟩
 · have hl : wcs fan = [] := List.eq_nil_of_length_eq_zero (by rw [wcs_len]; omega)
   obtain ⟨v2, w2, f1, f2, f3, f4⟩ := run_append_own (P := Tryz.prog) w w.heap.size 94 ty 90 i0 (.agg #[.int .i64 0, .int .i64 0]) 2 16 Tryz.underlying94 hi0 hz0 hz1 hz2 rfl (by decide) (.slice none 0 0) 0 [] (World.ownsRow_nil w _ _ 2) ⟨X, 0, none⟩ 1 c _ rfl hnews ho (by unfold maxLen; omega) (by omega) (Nat.le_refl _)
   rw [f1] at e1
   injection e1 with e1 _
   subst e1
   exact Or.inr fun g hg => (f2.lt g hg).1
 · by_cases hroom : fan.length + 1 ≤ cap
   · have hr := run_append_room (P := Tryz.prog) w 94 ty 90 i0 Tryz.underlying94 hi0 g fan.length cap cur hg ⟨X, 0, none⟩ 1 c _ (by rw [hz1]; rfl) hnews ho hroom (by rw [hz1, hcs]; simp only [List.length_cons, List.length_nil]; omega)
     rw [hr] at e1
     injection e1 with e1 _
     exact Or.inl (by rw [← e1]; rfl)
   · obtain ⟨v2, w2, f1, f2, f3⟩ := run_append_arg_grows (P := Tryz.prog) w 94 ty 90 i0 (.agg #[.int .i64 0, .int .i64 0]) 2 16 Tryz.underlying94 hi0 hz0 hz1 hz2 rfl (by decide) ⟨g, 0, none⟩ fan.length cap (wcs fan) (wcs_len fan) (fun j u hu => by
         have := hv.cells (g := g) rfl j u hu
         exact this) ⟨X, 0, none⟩ 1 c _ rfl hnews (by omega) (by unfold maxLen; omega) (by omega)
     rw [f1] at e1
     injection e1 with e1 _
     subst e1
     exact Or.inr fun g hg => (f2.lt g hg).1
theorem wp_append_fan (s x : Operand) (ho : o.op = .call { callee := .builtin .append, args := #[s, x], argTypes := #[94, 94] })
   {v : Value} {fan : List Wg} {X c b d : Nat} (hs : aa.eval s = v) (hv : W.ownsRow 0 90 2 v fan.length (wcs fan)) (hx : aa.eval x = .slice (some ⟨X, 0, none⟩) 1 c) (h0 : W.cell? ⟨X, 0, none⟩ = some (.int .i64 (b : Nat))) (h1 : W.cell? ⟨X, 1, none⟩ = some (.int .i64 (d : Nat))) (hm : fan.length ≤ 2000000)
   (h : ∀ v' w', w'.ownsRow 0 90 2 v' (fan.length + 1) (wcs (fan ++ [(b, d)])) → W.grownBy w' v.ownBlock → (v'.ownBlock = v.ownBlock ∨ ∀ g, v'.ownBlock = some g → W.heap.size ≤ g) → K (aa.put o.dst v') w') : Oper.wp Tryz.prog o aa W K Q := by
 obtain ⟨v', w', e1, e2, e3, e4⟩ := append_fan W o.type v fan hv X c b d h0 h1 hm
 unfold Oper.wp execOp
 simp only [ho, resolve, invoke, builtin, Sem.run_bind, Sem.run_pure, Result.andThen_ok, List.map_toArray, List.map_cons, List.map_nil, hs, hx, e1]
 exact h v' w' e2 e3 e4
end
theorem lay_end {S : Nat → Prop} {W W2 W3 W4 : World} {gB pm fm ag n ac a b c : Nat} {pv v v' : Value} {P : List (Nat × Nat)} {A : List (List Wg)} {F : Int → Int → Option Int} {vs : List Value} (h : Gd S W ⟨gB, pv, .slice (some ⟨ag, 0, none⟩) n ac, pm, fm⟩ P A F vs)
   (hv : vs[a]? = some v) (hb : b < A.length) (hc : c < A.length) (hn : plc A (a : Nat) (b : Nat) = none) (hl : A.length = n) (W1 : World) (h1 : Below W.heap.size W W1)
   (hm2 : MapF W2 pm (putF (plcI A) (a : Nat) (b : Nat) (some ((A.getD a []).length : Nat))) (if (plcI A (a : Nat) (b : Nat)).isSome then cnt A else cnt A + 1)) (ho2 : ObM pm W1 W2) (h3 : Below W2.heap.size W2 W3)
   (hw : W4.ownsRow 0 90 2 v' ((A.getD a []).length + 1) (wcs (A.getD a [] ++ [(b, c)]))) (hg : W3.grownBy W4 v.ownBlock) (hob : v'.ownBlock = v.ownBlock ∨ ∀ g, v'.ownBlock = some g → W3.heap.size ≤ g) :
   Gd (Upx S W (W4.setCell ⟨ag, a, none⟩ v')) (W4.setCell ⟨ag, a, none⟩ v') ⟨gB, pv, .slice (some ⟨ag, 0, none⟩) n ac, pm, fm⟩ P (layA A a (b, c)) F (vs.set a v') ∧ Frm S W (W4.setCell ⟨ag, a, none⟩ v') := by
 have ha : a < A.length := by have := h.m.len; have := (List.getElem?_eq_some_iff.1 hv).1; omega
 have g1 := (h.later h1)
 have g2 := g1.m.put hm2 ho2
 have g3 := g2.later h3
 have r3 := g3.row
 have agS : S ag := h.m.sA ag rfl
 have ne1 : ∀ k, (Value.slice (some ⟨ag, 0, none⟩) n ac).ownBlock ≠ some k → k ≠ ag := fun k hk e => hk (by rw [e]; rfl)
 have hvr := g3.fans a v hv
 have r4 : W4.ownsRow 0 94 1 (.slice (some ⟨ag, 0, none⟩) n ac) A.length vs := r3.kept hg (Or.inr (fun e => own_type r3 hvr (by decide) (g := ag) rfl e.symm))
 have r5 := (hl ▸ r4 : W4.ownsRow 0 94 1 (.slice (some ⟨ag, 0, none⟩) n ac) n vs).stored a v'
 have hne : v'.ownBlock ≠ some ag := fun e => own_type hw r4 (by decide) e rfl
 have oth : ∀ k, k ≠ ag → (W4.setCell ⟨ag, a, none⟩ v').heap[k]? = W4.heap[k]? := fun k hk => heap_setCell_other W4 ⟨ag, a, none⟩ k v' (fun e => hk e)
 have g5 := g3.fan (W' := W4.setCell ⟨ag, a, none⟩ v') (v' := v') (fan := A.getD a [] ++ [(b, c)]) hv
   (fun k hk hk1 hk2 => (oth k (ne1 k hk1)).trans (hg.block k hk (fun e => hk2 e.symm)))
   (by rw [List.length_append]; exact own_same hw (fun g hg => oth g (fun e => hne (by rw [← e]; exact hg))))
   hob (by rw [hl]; exact r5.1)
 have s13 : W.heap.size ≤ W3.heap.size := Nat.le_trans h1.size (Nat.le_trans (Nat.le_of_eq ho2.size.symm) h3.size)
 have e1 : putF (plcI A) (a : Nat) (b : Nat) (some ((A.getD a []).length : Nat)) = plcI (layA A a (b, c)) := by
   funext x y
   unfold putF plcI
   rw [plc_lay h.uq (w := (b, c)) ha hn]
   by_cases e : x = (a : Nat) ∧ y = (b : Nat)
   · rw [if_pos e, if_pos e]; rfl
   · rw [if_neg e, if_neg e]
 have e2 : (if (plcI A (a : Nat) (b : Nat)).isSome then cnt A else cnt A + 1) = cnt (layA A a (b, c)) := by
   rw [cnt_lay ha]
   simp [plcI, hn]
 rw [e1, e2] at g5
 refine ⟨⟨g5.more (fun k hk => ?_), uq_lay h.uq ha hn, by rw [len_lay]; exact h.len, h.few, fun x y z hx => ?_⟩, ?_⟩
 · rcases hk with hk | hk
   · exact Or.inl hk
   · exact Or.inr ⟨by omega, hk.2⟩
 · rw [len_lay]
   rcases (Hw_lay ha).1 hx with h0 | h0
   · exact h.nums x y z h0
   · injection h0.2 with e3 e4
     rw [e3, e4]; exact ⟨hb, hc⟩
 · refine ⟨?_, ?_, ?_, ?_, fun k hk hs => ?_⟩
   · show W4.os = W.os
     rw [hg.os, h3.os, ho2.os, h1.os]
   · show W4.tape = W.tape
     rw [hg.tape, h3.tape, ho2.tape, h1.tape]
   · show W4.output = W.output
     rw [hg.output, h3.output, ho2.output, h1.output]
   · have := hg.size
     have e : (W4.setCell ⟨ag, a, none⟩ v').heap.size = W4.heap.size := by simp [World.setCell]
     omega
   · have k1 : k < W1.heap.size := Nat.lt_of_lt_of_le hk h1.size
     have k2 : k < W2.heap.size := by rw [ho2.size]; exact k1
     rw [oth k (fun e => hs (by rw [e]; exact agS)), hg.block k (Nat.lt_of_lt_of_le k2 h3.size) (fun e => hs (h.m.sV a v k hv e.symm)), h3.block k k2, ho2.keep k (fun e => hs (by rw [e]; exact h.m.sP)), h1.block k hk]
theorem lay_end2 {S : Nat → Prop} {W W2 W3 W4 : World} {gB pm fm ag n ac a b c : Nat} {pv v v' u1 u2 u3 u4 u5 : Value} {P : List (Nat × Nat)} {A : List (List Wg)} {F : Int → Int → Option Int} {vs : List Value} (h : Gd S W ⟨gB, pv, .slice (some ⟨ag, 0, none⟩) n ac, pm, fm⟩ P A F vs)
   (hv : vs[a]? = some v) (hb : b < A.length) (hc : c < A.length) (hn : plc A (a : Nat) (b : Nat) = none) (hl : A.length = n) (W1 : World) (h1 : Below W.heap.size W W1)
   (hm2 : MapF W2 pm (putF (plcI A) (a : Nat) (b : Nat) (some ((A.getD a []).length : Nat))) (if (plcI A (a : Nat) (b : Nat)).isSome then cnt A else cnt A + 1)) (ho2 : ObM pm W1 W2) (h3 : Below W2.heap.size W2 W3)
   (hw : W4.ownsRow 0 90 2 v' ((A.getD a []).length + 1) (wcs (A.getD a [] ++ [(b, c)]))) (hg : W3.grownBy W4 v.ownBlock) (hob : v'.ownBlock = v.ownBlock ∨ ∀ g, v'.ownBlock = some g → W3.heap.size ≤ g)
   (bx : Nat) (n6 : some gB ≠ v.ownBlock) (n7 : some bx ≠ v.ownBlock) (n8 : some ag ≠ v.ownBlock) (n4 : gB ≠ ag) (n5 : bx ≠ ag) (q : W3.cell? ⟨gB, 1, none⟩ = some u1 ∧ W3.cell? ⟨gB, 2, none⟩ = some u2 ∧ W3.cell? ⟨bx, 0, none⟩ = some u3 ∧ W3.cell? ⟨bx, 1, none⟩ = some u4) (q5 : W3.cell? ⟨ag, a, none⟩ = some u5) :
   (W4.cell? ⟨gB, 1, none⟩ = some u1 ∧ W4.cell? ⟨gB, 2, none⟩ = some u2 ∧ W4.cell? ⟨bx, 0, none⟩ = some u3 ∧ W4.cell? ⟨bx, 1, none⟩ = some u4) ∧ (∃ va vn vc, v' = .slice va vn vc) ∧ W4.cell? ⟨ag, a, none⟩ = some u5 ∧ W4.frozen? ⟨ag, a, none⟩ = false ∧
   ((W4.setCell ⟨ag, a, none⟩ v').cell? ⟨gB, 1, none⟩ = some u1 ∧ (W4.setCell ⟨ag, a, none⟩ v').cell? ⟨gB, 2, none⟩ = some u2 ∧ (W4.setCell ⟨ag, a, none⟩ v').cell? ⟨bx, 0, none⟩ = some u3 ∧ (W4.setCell ⟨ag, a, none⟩ v').cell? ⟨bx, 1, none⟩ = some u4) ∧
   ∃ vs', Gd (Upx S W (W4.setCell ⟨ag, a, none⟩ v')) (W4.setCell ⟨ag, a, none⟩ v') ⟨gB, pv, .slice (some ⟨ag, 0, none⟩) n ac, pm, fm⟩ P (layA A a (b, c)) F vs' ∧ Frm S W (W4.setCell ⟨ag, a, none⟩ v') := by
 have st : ∀ {g i : Nat} {u : Value}, g ≠ ag → W4.cell? ⟨g, i, none⟩ = some u → (W4.setCell ⟨ag, a, none⟩ v').cell? ⟨g, i, none⟩ = some u := fun hne hu => by
   rw [World.cell?_of_block (heap_setCell_other W4 ⟨ag, a, none⟩ _ v' (fun e => hne e))]; exact hu
 have e1 := hg.cell q.1 n6
 have e2 := hg.cell q.2.1 n6
 have e3 := hg.cell q.2.2.1 n7
 have e4 := hg.cell q.2.2.2 n7
 have r3 := (((h.later h1).m.put hm2 ho2).later h3).row
 have r4 := r3.kept hg (Or.inr (fun e => n8 e))
 refine ⟨⟨e1, e2, e3, e4⟩, ?_, hg.cell q5 n8, World.ownsRow.frozenAt (hl ▸ r4 : W4.ownsRow 0 94 1 (.slice (some ⟨ag, 0, none⟩) n ac) n vs) a, ⟨st n4 e1, st n4 e2, st n5 e3, st n5 e4⟩, _, lay_end h hv hb hc hn hl W1 h1 hm2 ho2 h3 hw hg hob⟩
 rcases hw.2 with ⟨e, _⟩ | ⟨g, cap, cur, e, _⟩
 · exact ⟨_, _, _, e⟩
 · exact ⟨_, _, _, e⟩
set_option maxHeartbeats 8000000 in
theorem lay_any {S : Nat → Prop} {W : World} {x : Gx} {P : List (Nat × Nat)} {A : List (List Wg)} {F : Int → Int → Option Int} {vs : List Value} (h : Gd S W x P A F vs) (a b c : Nat) (ha : a < A.length) (hb : b < A.length) (hc : c < A.length) (hn : plc A (a : Nat) (b : Nat) = none) :
   Calls Tryz.prog 51 #[.pointer (some ⟨x.gB, 0, none⟩), .int .i64 (a : Nat), .agg #[.int .i64 (b : Nat), .int .i64 (c : Nat)]] W fun e w' => e = .returned (.tuple #[]) ∧ ∃ vs', Gd (Upx S W w') w' x P (layA A a (b, c)) F vs' ∧ Frm S W w' := by
 obtain ⟨v, hv⟩ : ∃ v, vs[a]? = some v := ⟨_, List.getElem?_eq_getElem (by have := h.m.len; omega)⟩
 obtain ⟨gB, pv, av, pm, fm⟩ := x
 obtain ⟨_, c1, c2, _⟩ := h.m.cells
 obtain ⟨aa, ac, hav, hA⟩ := h.m.aslice
 obtain ⟨ag, rfl, hag, hcv, hfz, hob⟩ := hA a v hv
 dsimp only at hav c1 c2
 subst hav
 obtain ⟨fa, fc, rfl, _⟩ := h.m.fslice hv
 obtain ⟨n, hl⟩ : ∃ n, A.length = n := ⟨_, rfl⟩
 obtain ⟨m, hm⟩ : ∃ m, (A.getD a []).length = m := ⟨_, rfl⟩
 have hm2 : m ≤ 2000000 := by have := Uq.len h.uq h.nums a; have := h.len; have := h.few; omega
 have HSM := Lib.hid (hm ▸ hm2 : (A.getD a []).length ≤ 2000000)
 obtain ⟨W1, hW1⟩ : ∃ W1, W.alloc (.cells #[.int .i64 (b : Nat), .int .i64 (c : Nat)] 90) = W1 := ⟨_, rfl⟩
 have b1 : Below W.heap.size W W1 := by rw [← hW1]; exact (Below.refl _ W).alloc (Nat.le_refl _) _
 have k1 : CB W1 W.heap.size #[.int .i64 (b : Nat), .int .i64 (c : Nat)] 90 := by rw [← hW1]; exact CB.new W _ _
 obtain ⟨bx, hbx⟩ : ∃ q, W.heap.size = q := ⟨_, rfl⟩
 have g1 := h.later b1
 obtain ⟨W2, hmu, hmp, ho2⟩ := (g1.m.map.same (w' := W1.drew) rfl).put (a : Nat) (b : Nat) ((A.getD a []).length : Nat)
 have o12 : ObM pm W1 W2 := ⟨ho2.os, ho2.tape, ho2.output, ho2.size, ho2.keep⟩
 have g2 := g1.m.put hmp o12
 have b3 : Below W2.heap.size W2 (W2.drew.alloc (.cells #[.int .i64 (b : Nat), .int .i64 (c : Nat)] 90)) := (Below.drew (Below.refl _ _)).alloc (Nat.le_refl _) _
 have g3 := g2.later b3
 have n1 : gB ≠ pm := cb_mp g1.m.box g1.m.map
 have n2 : ag ≠ pm := fun e => own_mp g1.m.row g1.m.map (by rw [← e]; rfl)
 have n3 : bx ≠ pm := cb_mp (hbx ▸ k1) g1.m.map
 have n4 : gB ≠ ag := fun e => own_cb g1.m.row g1.m.box (by decide) (by rw [e]; rfl)
 have n5 : bx ≠ ag := by omega
 have n6 := own_cb (g3.fans a _ hv) g3.box (by decide)
 have n7 : (Value.slice fa (A.getD a []).length fc).ownBlock ≠ some bx := fun e => by have := ((h.m.fans a _ hv).lt bx e).2; omega
 have n8 : (Value.slice fa (A.getD a []).length fc).ownBlock ≠ some ag := fun e => own_type (g3.fans a _ hv) g3.row (by decide) e rfl
 dsimp only at n6 hmu
 have s : ∀ (g i : Nat), g ≠ pm → W2.cell? ⟨g, i, none⟩ = W1.cell? ⟨g, i, none⟩ := fun g i hg => World.cell?_of_block (o12.keep g hg)
 rw [hbx] at k1
 have p1 := cell_later b1 c1
 have p2 := cell_later b1 c2
 have p3 := k1.cell 0 (by simp)
 have p4 := k1.cell 1 (by simp)
 have p5 := cell_later b1 hcv
 have q1 := (s gB 1 n1).trans p1
 have q2 := (s gB 2 n1).trans p2
 have q3 := (s bx 0 n3).trans p3
 have q4 := (s bx 1 n3).trans p4
 have q5 := (s ag a n2).trans p5
 have r1 := cell_later b3 q1
 have r2 := cell_later b3 q2
 have r3 := cell_later b3 q3
 have r4 := cell_later b3 q4
 have r5 := cell_later b3 q5
 have kw := CB.new W2.drew #[.int .i64 (b : Nat), .int .i64 (c : Nat)] 90
 have D1 := Lib.hid (And.intro (show _ ∧ _ ∧ _ ∧ _ from ⟨hl ▸ r1, r2, r3, r4⟩) (And.intro (g3.fans a _ hv) (And.intro (kw.cell 0 (by simp)) (kw.cell 1 (by simp)))))
 have C4 := Lib.hid (hm ▸ r5)
 have C3 := Lib.hid (show W2.drew.cell? ⟨ag, a, none⟩ = some (.slice fa m fc) from hm ▸ q5)
 have C2 := Lib.hid (show W2.cell? ⟨gB, 1, none⟩ = some (.slice (some ⟨ag, 0, none⟩) n ac) ∧ W2.cell? ⟨gB, 2, none⟩ = some (.map (some pm)) ∧ W2.cell? ⟨bx, 0, none⟩ = some (.int .i64 (b : Nat)) ∧ W2.cell? ⟨bx, 1, none⟩ = some (.int .i64 (c : Nat)) ∧ W2.cell? ⟨ag, a, none⟩ = some (.slice fa m fc) from ⟨hl ▸ q1, q2, q3, q4, hm ▸ q5⟩)
 have C1 := Lib.hid (show W1.drew.cell? ⟨gB, 1, none⟩ = some (.slice (some ⟨ag, 0, none⟩) n ac) ∧ W1.drew.cell? ⟨gB, 2, none⟩ = some (.map (some pm)) ∧ W1.drew.cell? ⟨bx, 0, none⟩ = some (.int .i64 (b : Nat)) ∧ W1.drew.cell? ⟨bx, 1, none⟩ = some (.int .i64 (c : Nat)) ∧ W1.drew.cell? ⟨ag, a, none⟩ = some (.slice fa m fc) from ⟨hl ▸ p1, p2, p3, p4, hm ▸ p5⟩)
 have HMU := Lib.hid (show (Instr.mapUpdate 85 (.map (some pm)) (.agg #[.int .i64 (a : Nat), .int .i64 (b : Nat)]) (.int .i64 (m : Nat))).run Tryz.prog W1.drew = .ok () W2 from hm ▸ hmu)
 have hL : Gd S W ⟨gB, pv, .slice (some ⟨ag, 0, none⟩) n ac, pm, fm⟩ P A F vs := hl ▸ h
 have K4 := Lib.hid (fun (v' : Value) (W4 : World) (hown : W4.ownsRow 0 90 2 v' ((A.getD a []).length + 1) (wcs (A.getD a [] ++ [(b, c)]))) (hgr : (W2.drew.alloc (.cells #[.int .i64 (b : Nat), .int .i64 (c : Nat)] 90)).grownBy W4 (Value.slice fa (A.getD a []).length fc).ownBlock) (hob : v'.ownBlock = (Value.slice fa (A.getD a []).length fc).ownBlock ∨ ∀ g, v'.ownBlock = some g → (W2.drew.alloc (.cells #[.int .i64 (b : Nat), .int .i64 (c : Nat)] 90)).heap.size ≤ g) =>
   lay_end2 hL hv hb hc hn hl W1 b1 hmp o12 b3 hown hgr hob bx (fun e => n6 e.symm) (fun e => n7 e.symm) (fun e => n8 e.symm) n4 n5 D1.out.1 r5)
 clear p1 p2 p3 p4 p5 q1 q2 q3 q4 q5 r1 r2 r3 r4 r5 kw hmu hmp ho2 o12 g2 b3 g3 n1 n2 n3 n4 n5 n6 n7 n8 s hL g1 k1 b1 h hA hcv hfz hob c1 c2 hv
 subst hm
 have han : a < n := by omega
 have han2 : (a : Int) < (n : Int) := by omega
 have han3 : ¬ n ≤ a := by omega
 have han4 : (0 : Int) ≤ (a : Int) := by omega
 go_enter Tryz.func51, Tryz.ntmps51
 go_wp2_with fail
 try rw [hW1]
 try rw [hbx]
 refine wp_region_held_drew (S := (fun W => W.cell? ⟨gB, 1, none⟩ = some (.slice (some ⟨ag, 0, none⟩) n ac) ∧ W.cell? ⟨gB, 2, none⟩ = some (.map (some pm)) ∧ W.cell? ⟨bx, 0, none⟩ = some (.int .i64 (b : Nat)) ∧ W.cell? ⟨bx, 1, none⟩ = some (.int .i64 (c : Nat)) ∧ W.cell? ⟨ag, a, none⟩ = some (.slice fa (A.getD a []).length fc))) (by kernel_rfl) ⟨C1.out.1, C1.out.2.1, C1.out.2.2.1, C1.out.2.2.2.1, C1.out.2.2.2.2⟩ (fun hS => ?_)
 refine take_at (i := 0) (d := some 6) (v := .pointer (some ⟨gB, 0, none⟩)) (by kernel_rfl) (by kernel_rfl) (by kernel_rfl) (by kernel_rfl) (fun _ _ _ h => h) ?_ hS ?_
 · intro o ho
   replace ho := Option.some.inj (Eq.trans (Eq.symm ho) rfl)
   subst ho
   refine Or.inl ⟨by rfl, ?_⟩
   intro w hSw
   obtain ⟨q1, q2, q3, q4, q5⟩ := hSw
   go_simp
 simp only [Act.put, List.setIfInBounds_toArray, List.set_cons_zero, List.set_cons_succ]
 refine take_at (i := 1) (d := some 7) (v := .pointer (some ⟨gB, 0, none⟩)) (by kernel_rfl) (by kernel_rfl) (by kernel_rfl) (by kernel_rfl) (fun _ _ _ h => h) ?_ hS ?_
 · intro o ho
   replace ho := Option.some.inj (Eq.trans (Eq.symm ho) rfl)
   subst ho
   refine Or.inl ⟨by rfl, ?_⟩
   intro w hSw
   obtain ⟨q1, q2, q3, q4, q5⟩ := hSw
   go_simp
 simp only [Act.put, List.setIfInBounds_toArray, List.set_cons_zero, List.set_cons_succ]
 refine take_at (i := 2) (d := some 8) (v := .pointer (some ⟨gB, 2, none⟩)) (by kernel_rfl) (by kernel_rfl) (by kernel_rfl) (by kernel_rfl) (fun _ _ _ h => h) ?_ hS ?_
 · intro o ho
   replace ho := Option.some.inj (Eq.trans (Eq.symm ho) rfl)
   subst ho
   refine Or.inl ⟨by rfl, ?_⟩
   intro w hSw
   obtain ⟨q1, q2, q3, q4, q5⟩ := hSw
   go_simp
 simp only [Act.put, List.setIfInBounds_toArray, List.set_cons_zero, List.set_cons_succ]
 refine take_at (i := 3) (d := some 9) (v := .map (some pm)) (by kernel_rfl) (by kernel_rfl) (by kernel_rfl) (by kernel_rfl) (fun _ _ _ h => h) ?_ hS ?_
 · intro o ho
   replace ho := Option.some.inj (Eq.trans (Eq.symm ho) rfl)
   subst ho
   refine Or.inl ⟨by rfl, ?_⟩
   intro w hSw
   obtain ⟨q1, q2, q3, q4, q5⟩ := hSw
   go_simp
 simp only [Act.put, List.setIfInBounds_toArray, List.set_cons_zero, List.set_cons_succ]
 refine take_at (i := 4) (d := some 10) (v := .int .i64 (a : Nat)) (by kernel_rfl) (by kernel_rfl) (by kernel_rfl) (by kernel_rfl) (fun _ _ _ h => h) ?_ hS ?_
 · intro o ho
   replace ho := Option.some.inj (Eq.trans (Eq.symm ho) rfl)
   subst ho
   refine Or.inl ⟨by rfl, ?_⟩
   intro w hSw
   obtain ⟨q1, q2, q3, q4, q5⟩ := hSw
   go_simp
 simp only [Act.put, List.setIfInBounds_toArray, List.set_cons_zero, List.set_cons_succ]
 refine take_at (i := 5) (d := some 11) (v := .pointer (some ⟨bx, 0, none⟩)) (by kernel_rfl) (by kernel_rfl) (by kernel_rfl) (by kernel_rfl) (fun _ _ _ h => h) ?_ hS ?_
 · intro o ho
   replace ho := Option.some.inj (Eq.trans (Eq.symm ho) rfl)
   subst ho
   refine Or.inl ⟨by rfl, ?_⟩
   intro w hSw
   obtain ⟨q1, q2, q3, q4, q5⟩ := hSw
   go_simp
 simp only [Act.put, List.setIfInBounds_toArray, List.set_cons_zero, List.set_cons_succ]
 refine take_at (i := 6) (d := some 12) (v := .int .i64 (b : Nat)) (by kernel_rfl) (by kernel_rfl) (by kernel_rfl) (by kernel_rfl) (fun _ _ _ h => h) ?_ hS ?_
 · intro o ho
   replace ho := Option.some.inj (Eq.trans (Eq.symm ho) rfl)
   subst ho
   refine Or.inl ⟨by rfl, ?_⟩
   intro w hSw
   obtain ⟨q1, q2, q3, q4, q5⟩ := hSw
   go_simp
 simp only [Act.put, List.setIfInBounds_toArray, List.set_cons_zero, List.set_cons_succ]
 refine take_at (i := 7) (d := some 13) (v := .agg #[.int .i64 (a : Nat), .int .i64 (b : Nat)]) (by kernel_rfl) (by kernel_rfl) (by kernel_rfl) (by kernel_rfl) (fun _ _ _ h => h) ?_ hS ?_
 · intro o ho
   replace ho := Option.some.inj (Eq.trans (Eq.symm ho) rfl)
   subst ho
   refine Or.inl ⟨by rfl, ?_⟩
   intro w hSw
   obtain ⟨q1, q2, q3, q4, q5⟩ := hSw
   go_simp
 simp only [Act.put, List.setIfInBounds_toArray, List.set_cons_zero, List.set_cons_succ]
 refine take_at (i := 8) (d := some 14) (v := .pointer (some ⟨gB, 0, none⟩)) (by kernel_rfl) (by kernel_rfl) (by kernel_rfl) (by kernel_rfl) (fun _ _ _ h => h) ?_ hS ?_
 · intro o ho
   replace ho := Option.some.inj (Eq.trans (Eq.symm ho) rfl)
   subst ho
   refine Or.inl ⟨by rfl, ?_⟩
   intro w hSw
   obtain ⟨q1, q2, q3, q4, q5⟩ := hSw
   go_simp
 simp only [Act.put, List.setIfInBounds_toArray, List.set_cons_zero, List.set_cons_succ]
 refine take_at (i := 9) (d := some 15) (v := .pointer (some ⟨gB, 0, none⟩)) (by kernel_rfl) (by kernel_rfl) (by kernel_rfl) (by kernel_rfl) (fun _ _ _ h => h) ?_ hS ?_
 · intro o ho
   replace ho := Option.some.inj (Eq.trans (Eq.symm ho) rfl)
   subst ho
   refine Or.inl ⟨by rfl, ?_⟩
   intro w hSw
   obtain ⟨q1, q2, q3, q4, q5⟩ := hSw
   go_simp
 simp only [Act.put, List.setIfInBounds_toArray, List.set_cons_zero, List.set_cons_succ]
 refine take_at (i := 10) (d := some 16) (v := .pointer (some ⟨gB, 1, none⟩)) (by kernel_rfl) (by kernel_rfl) (by kernel_rfl) (by kernel_rfl) (fun _ _ _ h => h) ?_ hS ?_
 · intro o ho
   replace ho := Option.some.inj (Eq.trans (Eq.symm ho) rfl)
   subst ho
   refine Or.inl ⟨by rfl, ?_⟩
   intro w hSw
   obtain ⟨q1, q2, q3, q4, q5⟩ := hSw
   go_simp
 simp only [Act.put, List.setIfInBounds_toArray, List.set_cons_zero, List.set_cons_succ]
 refine take_at (i := 11) (d := some 17) (v := .slice (some ⟨ag, 0, none⟩) n ac) (by kernel_rfl) (by kernel_rfl) (by kernel_rfl) (by kernel_rfl) (fun _ _ _ h => h) ?_ hS ?_
 · intro o ho
   replace ho := Option.some.inj (Eq.trans (Eq.symm ho) rfl)
   subst ho
   refine Or.inl ⟨by rfl, ?_⟩
   intro w hSw
   obtain ⟨q1, q2, q3, q4, q5⟩ := hSw
   go_simp
 simp only [Act.put, List.setIfInBounds_toArray, List.set_cons_zero, List.set_cons_succ]
 refine take_at (i := 12) (d := some 18) (v := .int .i64 (a : Nat)) (by kernel_rfl) (by kernel_rfl) (by kernel_rfl) (by kernel_rfl) (fun _ _ _ h => h) ?_ hS ?_
 · intro o ho
   replace ho := Option.some.inj (Eq.trans (Eq.symm ho) rfl)
   subst ho
   refine Or.inl ⟨by rfl, ?_⟩
   intro w hSw
   obtain ⟨q1, q2, q3, q4, q5⟩ := hSw
   go_simp
 simp only [Act.put, List.setIfInBounds_toArray, List.set_cons_zero, List.set_cons_succ]
 refine take_at (i := 13) (d := some 19) (v := .pointer (some ⟨ag, a, none⟩)) (by kernel_rfl) (by kernel_rfl) (by kernel_rfl) (by kernel_rfl) (fun _ _ _ h => h) ?_ hS ?_
 · intro o ho
   replace ho := Option.some.inj (Eq.trans (Eq.symm ho) rfl)
   subst ho
   refine Or.inl ⟨by rfl, ?_⟩
   intro w hSw
   obtain ⟨q1, q2, q3, q4, q5⟩ := hSw
   go_simp
 simp only [Act.put, List.setIfInBounds_toArray, List.set_cons_zero, List.set_cons_succ]
 refine take_at (i := 14) (d := some 20) (v := .slice fa (A.getD a []).length fc) (by kernel_rfl) (by kernel_rfl) (by kernel_rfl) (by kernel_rfl) (fun _ _ _ h => h) ?_ hS ?_
 · intro o ho
   replace ho := Option.some.inj (Eq.trans (Eq.symm ho) rfl)
   subst ho
   refine Or.inl ⟨by rfl, ?_⟩
   intro w hSw
   obtain ⟨q1, q2, q3, q4, q5⟩ := hSw
   go_simp
 simp only [Act.put, List.setIfInBounds_toArray, List.set_cons_zero, List.set_cons_succ]
 refine take_at (i := 15) (d := some 21) (v := .int .i64 ((A.getD a []).length : Nat)) (by kernel_rfl) (by kernel_rfl) (by kernel_rfl) (by kernel_rfl) (fun _ _ _ h => h) ?_ hS ?_
 · intro o ho
   replace ho := Option.some.inj (Eq.trans (Eq.symm ho) rfl)
   subst ho
   refine Or.inl ⟨by rfl, ?_⟩
   intro w hSw
   obtain ⟨q1, q2, q3, q4, q5⟩ := hSw
   go_simp
 simp only [Act.put, List.setIfInBounds_toArray, List.set_cons_zero, List.set_cons_succ]
 refine call_at 16 (by kernel_rfl) (by kernel_rfl) ?_
 intro o ho
 replace ho := Option.some.inj (Eq.trans (Eq.symm ho) rfl)
 subst ho
 intro KF hK
 rw [if_pos (by rfl)]
 refine ok_mapUpdate rfl rfl rfl rfl HMU.out ?_
 refine hK.out _ _ C2.out ?_
 clear hS
 intro hS
 clear hK KF
 try simp only [Act.put]
 refine wpAnyH_done (by kernel_rfl) ?_ _
 clear hS
 go_wp2_with fail
 refine wp_region_held_drew (S := (fun W => W.cell? ⟨gB, 1, none⟩ = some (.slice (some ⟨ag, 0, none⟩) n ac) ∧ W.cell? ⟨gB, 2, none⟩ = some (.map (some pm)) ∧ W.cell? ⟨bx, 0, none⟩ = some (.int .i64 (b : Nat)) ∧ W.cell? ⟨bx, 1, none⟩ = some (.int .i64 (c : Nat)))) (by kernel_rfl) ⟨C2.out.1, C2.out.2.1, C2.out.2.2.1, C2.out.2.2.2.1⟩ (fun hS => ?_)
 refine take_at (i := 0) (d := some 22) (v := .pointer (some ⟨gB, 0, none⟩)) (by kernel_rfl) (by kernel_rfl) (by kernel_rfl) (by kernel_rfl) (fun _ _ _ h => h) ?_ hS ?_
 · intro o ho
   replace ho := Option.some.inj (Eq.trans (Eq.symm ho) rfl)
   subst ho
   refine Or.inl ⟨by rfl, ?_⟩
   intro w hSw
   obtain ⟨q1, q2, q3, q4⟩ := hSw
   go_simp
 simp only [Act.put, List.setIfInBounds_toArray, List.set_cons_zero, List.set_cons_succ]
 refine take_at (i := 1) (d := some 23) (v := .pointer (some ⟨gB, 0, none⟩)) (by kernel_rfl) (by kernel_rfl) (by kernel_rfl) (by kernel_rfl) (fun _ _ _ h => h) ?_ hS ?_
 · intro o ho
   replace ho := Option.some.inj (Eq.trans (Eq.symm ho) rfl)
   subst ho
   refine Or.inl ⟨by rfl, ?_⟩
   intro w hSw
   obtain ⟨q1, q2, q3, q4⟩ := hSw
   go_simp
 simp only [Act.put, List.setIfInBounds_toArray, List.set_cons_zero, List.set_cons_succ]
 refine take_at (i := 2) (d := some 24) (v := .pointer (some ⟨gB, 1, none⟩)) (by kernel_rfl) (by kernel_rfl) (by kernel_rfl) (by kernel_rfl) (fun _ _ _ h => h) ?_ hS ?_
 · intro o ho
   replace ho := Option.some.inj (Eq.trans (Eq.symm ho) rfl)
   subst ho
   refine Or.inl ⟨by rfl, ?_⟩
   intro w hSw
   obtain ⟨q1, q2, q3, q4⟩ := hSw
   go_simp
 simp only [Act.put, List.setIfInBounds_toArray, List.set_cons_zero, List.set_cons_succ]
 refine take_at (i := 3) (d := some 25) (v := .slice (some ⟨ag, 0, none⟩) n ac) (by kernel_rfl) (by kernel_rfl) (by kernel_rfl) (by kernel_rfl) (fun _ _ _ h => h) ?_ hS ?_
 · intro o ho
   replace ho := Option.some.inj (Eq.trans (Eq.symm ho) rfl)
   subst ho
   refine Or.inl ⟨by rfl, ?_⟩
   intro w hSw
   obtain ⟨q1, q2, q3, q4⟩ := hSw
   go_simp
 simp only [Act.put, List.setIfInBounds_toArray, List.set_cons_zero, List.set_cons_succ]
 refine take_at (i := 4) (d := some 26) (v := .int .i64 (a : Nat)) (by kernel_rfl) (by kernel_rfl) (by kernel_rfl) (by kernel_rfl) (fun _ _ _ h => h) ?_ hS ?_
 · intro o ho
   replace ho := Option.some.inj (Eq.trans (Eq.symm ho) rfl)
   subst ho
   refine Or.inl ⟨by rfl, ?_⟩
   intro w hSw
   obtain ⟨q1, q2, q3, q4⟩ := hSw
   go_simp
 simp only [Act.put, List.setIfInBounds_toArray, List.set_cons_zero, List.set_cons_succ]
 refine take_at (i := 5) (d := some 27) (v := .pointer (some ⟨gB, 0, none⟩)) (by kernel_rfl) (by kernel_rfl) (by kernel_rfl) (by kernel_rfl) (fun _ _ _ h => h) ?_ hS ?_
 · intro o ho
   replace ho := Option.some.inj (Eq.trans (Eq.symm ho) rfl)
   subst ho
   refine Or.inl ⟨by rfl, ?_⟩
   intro w hSw
   obtain ⟨q1, q2, q3, q4⟩ := hSw
   go_simp
 simp only [Act.put, List.setIfInBounds_toArray, List.set_cons_zero, List.set_cons_succ]
 refine take_at (i := 6) (d := some 28) (v := .pointer (some ⟨gB, 0, none⟩)) (by kernel_rfl) (by kernel_rfl) (by kernel_rfl) (by kernel_rfl) (fun _ _ _ h => h) ?_ hS ?_
 · intro o ho
   replace ho := Option.some.inj (Eq.trans (Eq.symm ho) rfl)
   subst ho
   refine Or.inl ⟨by rfl, ?_⟩
   intro w hSw
   obtain ⟨q1, q2, q3, q4⟩ := hSw
   go_simp
 simp only [Act.put, List.setIfInBounds_toArray, List.set_cons_zero, List.set_cons_succ]
 refine take_at (i := 7) (d := some 29) (v := .pointer (some ⟨gB, 1, none⟩)) (by kernel_rfl) (by kernel_rfl) (by kernel_rfl) (by kernel_rfl) (fun _ _ _ h => h) ?_ hS ?_
 · intro o ho
   replace ho := Option.some.inj (Eq.trans (Eq.symm ho) rfl)
   subst ho
   refine Or.inl ⟨by rfl, ?_⟩
   intro w hSw
   obtain ⟨q1, q2, q3, q4⟩ := hSw
   go_simp
 simp only [Act.put, List.setIfInBounds_toArray, List.set_cons_zero, List.set_cons_succ]
 refine take_at (i := 8) (d := some 30) (v := .slice (some ⟨ag, 0, none⟩) n ac) (by kernel_rfl) (by kernel_rfl) (by kernel_rfl) (by kernel_rfl) (fun _ _ _ h => h) ?_ hS ?_
 · intro o ho
   replace ho := Option.some.inj (Eq.trans (Eq.symm ho) rfl)
   subst ho
   refine Or.inl ⟨by rfl, ?_⟩
   intro w hSw
   obtain ⟨q1, q2, q3, q4⟩ := hSw
   go_simp
 simp only [Act.put, List.setIfInBounds_toArray, List.set_cons_zero, List.set_cons_succ]
 refine take_at (i := 9) (d := some 31) (v := .int .i64 (a : Nat)) (by kernel_rfl) (by kernel_rfl) (by kernel_rfl) (by kernel_rfl) (fun _ _ _ h => h) ?_ hS ?_
 · intro o ho
   replace ho := Option.some.inj (Eq.trans (Eq.symm ho) rfl)
   subst ho
   refine Or.inl ⟨by rfl, ?_⟩
   intro w hSw
   obtain ⟨q1, q2, q3, q4⟩ := hSw
   go_simp
 simp only [Act.put, List.setIfInBounds_toArray, List.set_cons_zero, List.set_cons_succ]
 refine take_at (i := 10) (d := some 32) (v := .pointer (some ⟨ag, a, none⟩)) (by kernel_rfl) (by kernel_rfl) (by kernel_rfl) (by kernel_rfl) (fun _ _ _ h => h) ?_ hS ?_
 · intro o ho
   replace ho := Option.some.inj (Eq.trans (Eq.symm ho) rfl)
   subst ho
   refine Or.inl ⟨by rfl, ?_⟩
   intro w hSw
   obtain ⟨q1, q2, q3, q4⟩ := hSw
   go_simp
 simp only [Act.put, List.setIfInBounds_toArray, List.set_cons_zero, List.set_cons_succ]
 refine take_at (i := 12) (d := some 34) (v := .agg #[.int .i64 (b : Nat), .int .i64 (c : Nat)]) (by kernel_rfl) (by kernel_rfl) (by kernel_rfl) (by kernel_rfl) (fun _ _ _ h => h) ?_ hS ?_
 · intro o ho
   replace ho := Option.some.inj (Eq.trans (Eq.symm ho) rfl)
   subst ho
   refine Or.inl ⟨by rfl, ?_⟩
   intro w hSw
   obtain ⟨q1, q2, q3, q4⟩ := hSw
   go_simp
 simp only [Act.put, List.setIfInBounds_toArray, List.set_cons_zero, List.set_cons_succ]
 refine two_atM 11 13 (by kernel_rfl) (by kernel_rfl) (by kernel_rfl) ?_ ?_
 · intro o ho
   replace ho := Option.some.inj (Eq.trans (Eq.symm ho) rfl)
   subst ho
   intro KF hK
   rw [if_pos (by rfl)]
   refine ok_ldFan rfl rfl C3.out ?_
   refine hK.out _ _ hS ?_
   clear hS
   intro hS
   clear hK KF
   try simp only [Act.put, List.setIfInBounds_toArray]
   refine call_at 13 (by kernel_rfl) (by kernel_rfl) ?_
   intro o ho
   replace ho := Option.some.inj (Eq.trans (Eq.symm ho) rfl)
   subst ho
   intro KF hK
   rw [if_pos (by rfl)]
   refine ok_wedge rfl rfl ?_
   refine hK.out _ _ D1.out.1 ?_
   clear hS
   intro hS
   clear hK KF
   try simp only [Act.put]
   refine call_at 14 (by kernel_rfl) (by kernel_rfl) ?_
   intro o ho
   replace ho := Option.some.inj (Eq.trans (Eq.symm ho) rfl)
   subst ho
   intro KF hK
   rw [if_pos (by rfl)]
   refine wp_append_fan _ _ rfl rfl D1.out.2.1 rfl D1.out.2.2.1 D1.out.2.2.2 HSM.out ?_
   intro v' W4 hv4 hg4 hb4
   have HF4 := Lib.hid (And.intro hv4 (And.intro hg4 hb4))
   clear hv4 hg4 hb4
   have H4 := Lib.hid (K4.out v' W4 HF4.out.1 HF4.out.2.1 HF4.out.2.2)
   refine hK.out _ _ H4.out.1 ?_
   clear hS
   intro hS
   clear hK KF
   try simp only [Act.put]
   obtain ⟨va, vn, vc, hv4⟩ := H4.out.2.1
   subst hv4
   refine take_at (i := 15) (d := some 37) (v := .pointer (some ⟨ag, a, none⟩)) (by kernel_rfl) (by kernel_rfl) (by kernel_rfl) (by kernel_rfl) (fun _ _ _ h => h) ?_ hS ?_
   · intro o ho
     replace ho := Option.some.inj (Eq.trans (Eq.symm ho) rfl)
     subst ho
     refine Or.inl ⟨by rfl, ?_⟩
     intro w hSw
     obtain ⟨q1, q2, q3, q4⟩ := hSw
     go_simp
   simp only [Act.put]
   refine call_at 16 (by kernel_rfl) (by kernel_rfl) ?_
   intro o ho
   replace ho := Option.some.inj (Eq.trans (Eq.symm ho) rfl)
   subst ho
   intro KF hK
   rw [if_pos (by rfl)]
   refine ok_stFan rfl rfl rfl H4.out.2.2.1 H4.out.2.2.2.1 ?_
   refine hK.out _ _ H4.out.2.2.2.2.1 ?_
   clear hS
   intro hS
   clear hK KF
   try simp only [Act.put]
   refine wpAnyH_done (by kernel_rfl) ?_ _
   clear hS
   go_wp2
   go_end0
   obtain ⟨vs2, hvs⟩ := H4.out.2.2.2.2.2
   exact ⟨rfl, ⟨vs2, hvs.1⟩, hvs.2⟩
 · intro o ho
   replace ho := Option.some.inj (Eq.trans (Eq.symm ho) rfl)
   subst ho
   intro KF hK
   rw [if_pos (by rfl)]
   refine ok_wedge rfl rfl ?_
   refine hK.out _ _ D1.out.1 ?_
   clear hS
   intro hS
   clear hK KF
   try simp only [Act.put, List.setIfInBounds_toArray]
   refine call_at 11 (by kernel_rfl) (by kernel_rfl) ?_
   intro o ho
   replace ho := Option.some.inj (Eq.trans (Eq.symm ho) rfl)
   subst ho
   intro KF hK
   rw [if_pos (by rfl)]
   refine ok_ldFan rfl rfl C4.out ?_
   refine hK.out _ _ hS ?_
   clear hS
   intro hS
   clear hK KF
   try simp only [Act.put]
   refine call_at 14 (by kernel_rfl) (by kernel_rfl) ?_
   intro o ho
   replace ho := Option.some.inj (Eq.trans (Eq.symm ho) rfl)
   subst ho
   intro KF hK
   rw [if_pos (by rfl)]
   refine wp_append_fan _ _ rfl rfl D1.out.2.1 rfl D1.out.2.2.1 D1.out.2.2.2 HSM.out ?_
   intro v' W4 hv4 hg4 hb4
   have HF4 := Lib.hid (And.intro hv4 (And.intro hg4 hb4))
   clear hv4 hg4 hb4
   have H4 := Lib.hid (K4.out v' W4 HF4.out.1 HF4.out.2.1 HF4.out.2.2)
   refine hK.out _ _ H4.out.1 ?_
   clear hS
   intro hS
   clear hK KF
   try simp only [Act.put]
   obtain ⟨va, vn, vc, hv4⟩ := H4.out.2.1
   subst hv4
   refine take_at (i := 15) (d := some 37) (v := .pointer (some ⟨ag, a, none⟩)) (by kernel_rfl) (by kernel_rfl) (by kernel_rfl) (by kernel_rfl) (fun _ _ _ h => h) ?_ hS ?_
   · intro o ho
     replace ho := Option.some.inj (Eq.trans (Eq.symm ho) rfl)
     subst ho
     refine Or.inl ⟨by rfl, ?_⟩
     intro w hSw
     obtain ⟨q1, q2, q3, q4⟩ := hSw
     go_simp
   simp only [Act.put]
   refine call_at 16 (by kernel_rfl) (by kernel_rfl) ?_
   intro o ho
   replace ho := Option.some.inj (Eq.trans (Eq.symm ho) rfl)
   subst ho
   intro KF hK
   rw [if_pos (by rfl)]
   refine ok_stFan rfl rfl rfl H4.out.2.2.1 H4.out.2.2.2.1 ?_
   refine hK.out _ _ H4.out.2.2.2.2.1 ?_
   clear hS
   intro hS
   clear hK KF
   try simp only [Act.put]
   refine wpAnyH_done (by kernel_rfl) ?_ _
   clear hS
   go_wp2
   go_end0
   obtain ⟨vs2, hvs⟩ := H4.out.2.2.2.2.2
   exact ⟨rfl, ⟨vs2, hvs.1⟩, hvs.2⟩
end
end Go.Proofs.YtcgbnjoajieggaaGreat
