/- Own texts, put together: Xm Xn. -/
import Derived.Test.YtocnkgfoffpbfaaGreatDoorQ27
import Derived.RangeFuncNested
import Derived.RangeFuncBound
import Derived.RangeFuncCalls
import Derived.RangeFuncLeaves
import Derived.RangeFuncBox
import Derived.RangeFuncWrites
import Derived.Shelf.Abstract
import Derived.Shelf.RegionOpen
import Derived.WalkKit
import Derived.OwnWalkIn
import Derived.TacticsInMore
import Derived.LoopNIn
import Derived.LoopIn
/- Package expand: a list times a float. -/
namespace Go.Proofs.YtocnkgfoffpbfaaGreatDoor
open Go.RowKit

def SafeB (b : Nat) : Prop := 2580562586483294208 ≤ frung b ∧ frung b ≤ 6633802251116740608
theorem safe_low : fval 2580562586483294208 = U 624 := by
 rw [(fval_pos_lt (by omega)).1, show fmag 2580562586483294208 = 4503599627370496 by decide, show fpl 2580562586483294208 = -502 by decide]
 unfold U
 rw [show ((624 : Nat) : Int) - 1074 = -502 + ((52 : Nat) : Int) by omega, p2_add, p2_nat, Rat.mul_comm]
theorem SafeB.fin {b : Nat} (h : SafeB b) : Fin64 b := by unfold Fin64; have := h.2; omega
theorem SafeB.ab {b : Nat} (h : SafeB b) : U 624 ≤ ab (fval b) ∧ Go.Proofs.YtocnkgfoffpbfaaGreatDoor.ab (fval b) ≤ U 1524 := by
 rw [← ab_fval b h.fin, ← safe_low, show U 1524 = p2 450 from rfl, ← safe_top]
 have f := h.fin
 unfold Fin64 at f
 constructor
 · rcases Nat.lt_or_ge 2580562586483294208 (frung b) with e | e
   · exact Rat.le_of_lt (fval_lt e f)
   · rw [show frung b = 2580562586483294208 by have := h.1; omega]; exact Rat.le_refl
 · rcases Nat.lt_or_ge (frung b) 6633802251116740608 with e | e
   · exact Rat.le_of_lt (fval_lt e (by omega))
   · rw [show frung b = 6633802251116740608 by have := h.2; omega]; exact Rat.le_refl
theorem SafeB.unit {b : Nat} (h : SafeB b) : ∃ B, 572 ≤ B ∧ B ≤ 1472 ∧ M (U B) (fval b) ∧ Go.Proofs.YtocnkgfoffpbfaaGreatDoor.ab (fval b) < U (B + 53) := by
 obtain ⟨a1, a2⟩ := h.ab
 have f := F_fval h.fin
 have hb0 : fval b ≠ 0 := by
   intro e
   rw [e] at a1
   have := U_pos 624
   rw [show Go.Proofs.YtocnkgfoffpbfaaGreatDoor.ab 0 = 0 by unfold Go.Proofs.YtocnkgfoffpbfaaGreatDoor.ab; grind] at a1
   grind
 obtain ⟨K, _, k1, k2⟩ := binade (F.mult0 f) hb0
 have h1 : 624 ≤ K := by
   have : U 624 < U (K + 1) := by grind
   have := U_lt_iff.1 this
   omega
 have h2 : K ≤ 1524 := by
   have : U K ≤ U 1524 := by grind
   exact U_le_iff.1 this
 exact ⟨K - 52, by omega, by omega, f.mult k1, by rw [show K - 52 + 53 = K + 1 by omega]; exact k2⟩

structure SS (b B : Nat) (de re outs : List Nat) (Q : Nat) : Prop where
 inv : SInv (fval b) B (vals de) (vals re) (vals outs) (fval Q)
 fin : Fin64 Q ∧ Q < 18446744073709551616
 fo : ∀ x ∈ outs, Fin64 x
 sd : ∀ x ∈ de, SafeB x
 sr : ∀ x ∈ re, SafeB x
 cnt : outs.length ≤ 2 * de.length

theorem SS.start {b B : Nat} {es : List Nat} (h : Ex (vals es)) (hs : ∀ x ∈ es, SafeB x) : SS b B [] es [] 0 :=
 ⟨by rw [fval0]; exact SInv.start h (fun x hx => by obtain ⟨y, hy, rfl⟩ := List.mem_map.1 hx; exact ⟨F_fval (hs y hy).fin, (hs y hy).ab.1⟩), ⟨fin0, by omega⟩, by simp, by simp, hs, by simp⟩
theorem SS.lim {b B : Nat} {de re outs : List Nat} {Q : Nat} (I : SS b B de re outs Q) (hB : 572 ≤ B ∧ B ≤ 1472) : ab (fval Q) ≤ U 1976 ∧ ∀ x ∈ outs, ab (fval x) < U 1976 := by
 have hd : ∀ d ∈ vals de, ab d < U 1525 := fun d hd => by
   obtain ⟨y, hy, rfl⟩ := List.mem_map.1 hd
   have := (I.sd y hy).ab.2
   have := U_lt_iff.2 (show 1524 < 1525 by omega)
   grind
 constructor
 · have h1 := I.inv.qb 1525 hd (by omega)
   rw [U_mulX' (r := B + 504) (by omega)] at h1
   have := U_mono (show B + 504 ≤ 1976 by omega)
   grind
 · intro x hx
   have h1 := I.inv.hb 1525 hd (by omega) (fval x) (by simp [vals]; exact ⟨x, hx, rfl⟩)
   rw [U_mulX' (r := B + 451) (by omega)] at h1
   have := U_mono (show B + 451 ≤ 1976 by omega)
   grind
theorem SS.step {b B : Nat} {de re outs : List Nat} {Q x T t Q1 h1 Q2 h2 : Nat} (I : SS b B de (x :: re) outs Q) (hb : SafeB b) (hB : 572 ≤ B ∧ B ≤ 1472) (mb : M (U B) (fval b)) (bb : ab (fval b) < U (B + 53))
   (p0 : Pair (SafeP x b) (fval x * fval b) T t) (p1 : Pair (TameW Q t) (fval Q + fval t) Q1 h1) (p2 : Pair (TameW T Q1) (fval T + fval Q1) Q2 h2) : SS b B (de ++ [x]) re (gw (gw outs h1) h2) Q2 := by
 have sx := I.sr x (by simp)
 have lQ := (I.lim hB).1
 have m1 := U_lt_iff.2 (show 1974 < 1975 by omega)
 have u5 := U_succ 1975
 have u6 := U_succ 1976
 have u7 := U_succ 1977
 have u4 := U_succ 1974
 have up := U_pos 1974
 have lt : U 1978 ≤ U 2074 := U_mono (by omega)
 have lxb : ab (fval x * fval b) ≤ U 1974 := by
   rw [ab_mul, ← U_mulX' (s := 1524) (t := 1524) (r := 1974) (by omega)]
   have g1 := Rat.mul_le_mul_of_nonneg_right sx.ab.2 (ab_nonneg (fval b))
   have g2 := Rat.mul_le_mul_of_nonneg_left hb.ab.2 (Rat.le_of_lt (U_pos 1524))
   grind
 obtain ⟨fT, ft, lT, l_t, ⟨_, r0, e0⟩ | ⟨c, _⟩⟩ := p0
 · obtain ⟨T0, k0, R0⟩ := rv_rnd r0
   have bT : ab (fval T) ≤ U 1974 := R0.le_pow' lxb
   have bt : ab (fval t) ≤ U 1974 := by
     have := R0.rest_le
     rw [show fval x * fval b - fval T = fval t by grind] at this
     grind
   have t1 : TameW Q t := ⟨tame_of I.fin.1 (by grind), tame_of ft (by grind)⟩
   obtain ⟨fQ1, fh1, lQ1, lh1, ⟨_, r1, e1⟩ | ⟨c, _⟩⟩ := p1
   · obtain ⟨T1, k1, R1⟩ := rv_rnd r1
     have bQ1 : ab (fval Q1) ≤ U 1977 := R1.le_pow' (by have := ab_add (fval Q) (fval t); grind)
     have t2 : TameW T Q1 := ⟨tame_of fT (by grind), tame_of fQ1 (by grind)⟩
     obtain ⟨fQ2, fh2, lQ2, lh2, ⟨_, r2, e2⟩ | ⟨c, _⟩⟩ := p2
     · obtain ⟨T2, k2, R2⟩ := rv_rnd r2
       have J := I.inv.step (x := fval x) (re := vals re) hB.1 mb bb R0 e0 (F_fval ft) R1 e1 (F_fval fh1) R2 e2 (F_fval fh2)
       refine ⟨?_, ⟨fQ2, lQ2⟩, ?_, ?_, fun y hy => I.sr y (by simp [hy]), ?_⟩
       · rw [vals_gw, vals_gw, show vals (de ++ [x]) = vals de ++ [fval x] by simp [vals]]; exact J
       · intro y hy
         rcases gw_mem hy with hy | rfl
         · rcases gw_mem hy with hy | rfl
           · exact I.fo y hy
           · exact fh1
         · exact fh2
       · intro y hy
         rcases List.mem_append.1 hy with hy | hy
         · exact I.sd y hy
         · rw [List.mem_singleton.1 hy]; exact sx
       · have g1 := gw_length (gw outs h1) h2
         have g2 := gw_length outs h1
         have := I.cnt
         simp
         omega
     · exact absurd t2 c
   · exact absurd t1 c
 · exact absurd ⟨Or.inr sx, Or.inr hb⟩ c
theorem SS.done {b B : Nat} {de outs : List Nat} {Q : Nat} (I : SS b B de [] outs Q) (hB : 572 ≤ B ∧ B ≤ 1472) : Up 1977 (gw outs Q) ∧ (vals (gw outs Q)).sum = (vals de).sum * fval b ∧ (gw outs Q).length ≤ 2 * de.length + 1 := by
 obtain ⟨h1, h2, h3⟩ := SInv.done I.inv
 rw [← vals_gw] at h1 h2
 obtain ⟨l1, l2⟩ := I.lim hB
 have m1 := U_lt_iff.2 (show 1976 < 1977 by omega)
 refine ⟨⟨h1, fun y hy => ?_, fun y hy => ?_⟩, h2, ?_⟩
 · rcases gw_mem hy with hy | rfl
   · exact I.fo y hy
   · exact I.fin.1
 · rcases gw_mem hy with hy | rfl
   · have := l2 y hy
     grind
   · grind
 · have g2 := gw_length outs Q
   have := I.cnt
   omega

structure SW (w : World) (es de re outs : List Nat) (v : Value) (wr : World) : Prop where
 e1 : es = de ++ re
 row : Fr wr w.heap.size v outs
 bel : Below w.heap.size w wr
theorem SW.done {w wr wr' : World} {es de re outs : List Nat} {v : Value} (h : SW w es de re outs v wr) (hb : Below wr.heap.size wr wr') : SW w es de re outs v wr' := ⟨h.e1, h.row.later hb, h.bel.trans (hb.mono h.bel.size)⟩
theorem SW.grown {w wr wr' : World} {es de re outs outs' : List Nat} {v v' : Value} (h : SW w es de re outs v wr) (hr : Fr wr' w.heap.size v' outs') (hb : Below w.heap.size wr wr') : SW w es de re outs' v' wr' := ⟨h.e1, hr, h.bel.trans hb⟩

set_option maxRecDepth 100000 in
set_option maxHeartbeats 8000000 in
theorem scaled_walk (n c b : Nat) (a : Option Addr) (es : List Nat) (w : World) (f1 : Fs w (.slice a n c) es) (u1 : Ex (vals es)) (hs : ∀ x ∈ es, SafeB x) (hb : SafeB b) (hbw : b < 18446744073709551616) (hn : es.length = n) (ln : n ≤ 1000) :
   Calls Tryz.prog 127 #[.slice a n c, .float .f64 b] w fun e w' => (∃ v bs, e = .returned v ∧ Fr w' w.heap.size v bs ∧ Up 1977 bs ∧ (vals bs).sum = (vals es).sum * fval b ∧ bs.length ≤ 2 * n + 1) ∧ Below w.heap.size w w' := by
 obtain ⟨B, B1, B2, mb, bb⟩ := hb.unit
 have H1 : Hid (Fs w (.slice a n c) es) := f1
 have HU : Hid (Ex (vals es) ∧ (∀ x ∈ es, SafeB x) ∧ SafeB b ∧ b < 18446744073709551616) := ⟨u1, hs, hb, hbw⟩
 have HB : Hid ((572 ≤ B ∧ B ≤ 1472) ∧ M (U B) (fval b) ∧ ab (fval b) < U (B + 53)) := ⟨⟨B1, B2⟩, mb, bb⟩
 have HL : Hid (es.length = n) := hn
 have l1 : (n : Int) ≤ 1000 := by omega
 obtain ⟨i0, hi0, hz0, hz1, hz2⟩ := info_parts infoF
 clear f1 u1 hs hb hbw hn ln B1 B2 mb bb
 go_enter Tryz.func127, Tryz.ntmps127
 go_wp2_with (at_make; refine wpList_make_own _ rfl _ _ _ rfl w.heap.size 22 i0 _ 1 undF hi0 hz0 hz1 .i64 .i64 _ (2 * n) rfl rfl (by omega) (by rw [hz2]; omega) (by unfold maxLen; omega) (by simp) ?_; intro w1 hown hgrow; have HJ : Hid (SW w es [] es [] (.slice (some ⟨w.heap.size, 0, none⟩) 0 (2 * n)) w1) := ⟨rfl, ⟨by simpa [f64s] using hown, by simp⟩, (Below.refl _ _).grown hgrow (Nat.le_refl _) (by simp)⟩; clear hown hgrow)
 go_loopw [18, 5, 6] (fun i v Q wr => ∃ (de re outs : List Nat) (Q' : Nat), i = .int .i64 ((de.length : Nat) : Int) ∧ Q = .float .f64 Q' ∧ Hid (SS b B de re outs Q') ∧ Hid (SW w es de re outs v wr)) (fun i _ _ _ => n - (intOf i).toNat)
 case atStart => exact ⟨[], es, [], 0, rfl, rfl, SS.start HU.out.1 HU.out.2.1, HJ.out⟩
 case round =>
   clear HJ
   obtain ⟨de, re, outs, Q, rfl, rfl, hS, hW⟩ := hrel
   have HK : Hid (de.length + re.length = n) := by
     have h1 := HL.out
     rw [hW.out.e1, List.length_append] at h1
     exact h1
   cases re with
   | cons x re =>
     have hlt : de.length < n := by have := HK.out; simp at this; omega
     obtain ⟨k, hk⟩ : ∃ k, de.length = k := ⟨_, rfl⟩
     have HKK : Hid (de.length = k) := hk
     rw [hk] at hlt ⊢
     have hlt' : (k : Int) < (n : Int) := by omega
     have hk0 : (0 : Int) ≤ (k : Int) := by omega
     have hge : es.getD k 0 = x := by
       rw [hW.out.e1, ← hk]
       simp [List.getD]
     obtain ⟨⟨a', c', e', _, _, hf⟩, hw⟩ := H1.out
     cases e'
     rcases hf with hf | ⟨g, off, rfl, hf⟩
     · exfalso
       rw [hf] at hlt
       simp at hlt
     have hcell := box_cell hW.out.bel (hf k (by rw [HL.out]; exact hlt))
     rw [hge] at hcell
     have HX : Hid (x < 18446744073709551616) := hw x (by rw [hW.out.e1]; simp)
     have HO : Hid (outs.length ≤ 1000000) := by have := hS.out.cnt; show _ ≤ _; omega
     clear hk hge hf hw
     go_wp2_with fail
     refine (prod_pair x b _ HX.out HU.out.2.2.2).mono ?_
     rintro e w2 ⟨⟨T, t, rfl, p0⟩, hb2⟩
     have HP0 : Hid (Pair (SafeP x b) (fval x * fval b) T t) := p0
     have HW2 : Hid (SW w es de (x :: re) outs u5 w2) := hW.out.done hb2
     clear p0 hb2 hcell
     go_wp2_with fail
     refine (sum_pair Q t _ hS.out.fin.2 HP0.out.2.2.2.1).mono ?_
     rintro e w3 ⟨⟨Q1, h1, rfl, p1⟩, hb3⟩
     have HP1 : Hid (Pair (TameW Q t) (fval Q + fval t) Q1 h1) := p1
     have HW3 : Hid (SW w es de (x :: re) outs u5 w3) := HW2.out.done hb3
     clear p1 hb3
     go_wp2_with fail
     refine (grown_any w.heap.size u5 outs h1 _ HW3.out.row HW3.out.bel.size HP1.out.2.2.2.1 HO.out).mono ?_
     rintro e w4 ⟨⟨v4, rfl, hr4⟩, hb4⟩
     have HW4 : Hid (SW w es de (x :: re) (gw outs h1) v4 w4) := HW3.out.grown hr4 hb4
     clear hr4 hb4
     go_wp2_with fail
     refine (sum_pair T Q1 _ HP0.out.2.2.1 HP1.out.2.2.1).mono ?_
     rintro e w5 ⟨⟨Q2, h2, rfl, p2⟩, hb5⟩
     have HP2 : Hid (Pair (TameW T Q1) (fval T + fval Q1) Q2 h2) := p2
     have HW5 : Hid (SW w es de (x :: re) (gw outs h1) v4 w5) := HW4.out.done hb5
     clear p2 hb5
     go_wp2_with fail
     refine (grown_any w.heap.size v4 (gw outs h1) h2 _ HW5.out.row HW5.out.bel.size HP2.out.2.2.2.1 (by have := gw_length outs h1; have := hS.out.cnt; have := HKK.out; omega)).mono ?_
     rintro e w6 ⟨⟨v6, rfl, hr6⟩, hb6⟩
     have HW6 : Hid (SW w es (de ++ [x]) re (gw (gw outs h1) h2) v6 w6) := ⟨by rw [HW5.out.e1]; simp, hr6, HW5.out.bel.trans hb6⟩
     have HS6 : Hid (SS b B (de ++ [x]) re (gw (gw outs h1) h2) Q2) := hS.out.step HU.out.2.2.1 HB.out.1 HB.out.2.1 HB.out.2.2 HP0.out HP1.out HP2.out
     clear hr6 hb6
     go_wp2
     exact ⟨⟨de ++ [x], re, gw (gw outs h1) h2, Q2, by rw [List.length_append, HKK.out]; go_num, rfl, HS6, HW6⟩, by simp [intOf]; omega⟩
   | nil =>
     have hk : de.length = n := by have := HK.out; simpa using this
     rw [hk]
     have hltb : decide ((n : Int) < (n : Int)) = false := decide_eq_false (by omega)
     have HD : Hid (Up 1977 (gw outs Q) ∧ (vals (gw outs Q)).sum = (vals es).sum * fval b ∧ (gw outs Q).length ≤ 2 * n + 1) := by
       have e1 := hW.out.e1
       rw [List.append_nil] at e1
       have := hS.out.done HB.out.1
       rw [hk, ← e1] at this
       exact this
     have HO : Hid (outs.length ≤ 1000000) := by have := hS.out.cnt; show _ ≤ _; omega
     clear hk
     go_wp2_with fail
     refine (grown_any w.heap.size u5 outs Q _ hW.out.row hW.out.bel.size hS.out.fin.2 HO.out).mono ?_
     rintro e w4 ⟨⟨v4, rfl, hr4⟩, hb4⟩
     have HW4 : Hid (SW w es de [] (gw outs Q) v4 w4) := hW.out.grown hr4 hb4
     clear hr4 hb4
     go_wp2
     go_ret
     exact ⟨⟨v4, _, rfl, HW4.out.row, HD.out.1, HD.out.2.1, HD.out.2.2⟩, HW4.out.bel⟩

end Go.Proofs.YtocnkgfoffpbfaaGreatDoor

/- Package slices: Backward, of floats. -/
namespace Go.Proofs.YtocnkgfoffpbfaaGreatDoor
open Go.RowKit Go.Shelf

attribute [local go_sem] Oper.semAt_some

abbrev Wd := { b : Nat // b < 18446744073709551616 }
def upf {α : Type} (f : Nat → α) (k : Nat) : List α := (List.range k).map f
theorem upf_succ {α : Type} (f : Nat → α) (k : Nat) : upf f (k + 1) = upf f k ++ [f k] := by simp [upf, List.range_succ]
theorem upf_length {α : Type} (f : Nat → α) (k : Nat) : (upf f k).length = k := by simp [upf]
def KB (n₀ Bs : Nat) (W W' : World) : Prop := Below n₀ W W' ∧ W'.heap[Bs]? = W.heap[Bs]?

set_option maxRecDepth 100000 in
set_option maxHeartbeats 2000000 in
theorem back1_in (n : Nat) (hn : 1 ≤ n) (l Bs n₀ b off len cap : Nat) (zs : Nat → Wd) (hlen : len ≤ 1000000) (hb : b < n₀) (J Jx : List (Nat × Wd) → World → Prop)
   (hY : ∀ pre x W, J pre W → pre.length < len → YieldAt Fence.wide (n - 1) Tryz.prog l #[.int .i64 (x.1 : Int), .float .f64 x.2.1] W fun e W' =>
     (e = .returned (.bool true) ∧ J (pre ++ [x]) W' ∧ KB n₀ Bs W W') ∨ (e = .returned (.bool false) ∧ Jx (pre ++ [x]) W'))
   (W : World) (hBs : Boxed W Bs 114 (.slice (some ⟨b, off, none⟩) len cap)) (hc : ∀ j, j < len → W.cell? ⟨b, off + j, none⟩ = some (.float .f64 (zs j).1)) (h0 : J [] W) :
   CallsIn Fence.wide n Tryz.prog 156 #[.func (.yield l) #[] #[], .pointer (some ⟨Bs, 0, none⟩)] W fun e W' => (∃ v, e = .returned v) ∧
     ((∃ ys, ys = upf (fun j => (len - 1 - j, zs (len - 1 - j))) len ∧ J ys W') ∨ (∃ pre, True ∧ Jx pre W')) := by
 have l1 : (len : Int) ≤ 1000000 := by omega
 have hbox := hBs.cell
 refine callsIn_of_wp Tryz.func156 rfl trivial ?_ rfl
 simp only [Tryz.ntmps156, List.size_toArray, List.length_cons, List.length_nil, Nat.reduceAdd, Nat.reduceSub, Array.replicate_succ, Array.replicate_zero, List.push_toArray, List.append_toArray, List.nil_append, List.cons_append]
 gi_wp2
 gi_loopw [3] (fun i wr => ∃ k r : Nat, k + r = len ∧ i = .int .i64 ((r : Int) - 1) ∧ Hid (J (upf (fun j => (len - 1 - j, zs (len - 1 - j))) k) wr) ∧ Hid (Below n₀ W wr) ∧ Boxed wr Bs 114 (.slice (some ⟨b, off, none⟩) len cap))
   (fun i _ => (intOf i + 1).toNat)
 case atStart => exact ⟨0, len, by omega, by go_num, h0, Below.refl _ _, hBs⟩
 case round =>
   obtain ⟨k, r, hkr, rfl, hJs, hnx, hbx⟩ := hrel
   have hcb := hbx.cell
   cases r with
   | zero =>
     have hk : k = len := by omega
     clear hbox
     rw [show ((0 : Nat) : Int) - 1 = -1 by omega]
     gi_wp2
     go_end0
     exact ⟨⟨_, rfl⟩, .inl ⟨_, rfl, by rw [← hk]; have := hJs.out; rw [hk] at this ⊢; exact this⟩⟩
   | succ j =>
     have hj : j < len := by omega
     have hcx : wr.cell? ⟨b, off + j, none⟩ = some (.float .f64 (zs j).1) := (hnx.out.cell (p := ⟨b, off + j, none⟩) hb).trans (hc j hj)
     obtain ⟨fn, tmps, assign, body, hy, hR⟩ := hY _ (j, zs j) wr hJs.out (by rw [upf_length]; omega)
     dsimp only at hy
     have e1 : (((j + 1 : Nat) : Int) - 1) = (j : Int) := by omega
     rw [e1]
     have hj' : (j : Int) < (len : Int) := by omega
     have hj0 : (0 : Int) ≤ (j : Int) := by omega
     have HKR : Hid (k + (j + 1) = len) := hkr
     clear e1 hkr hbox
     gi_wp2
     refine hR.mono ?_
     rintro e W3 (⟨rfl, hJ3, hk3⟩ | ⟨rfl, hJx3⟩)
     · gi_wp2
       go_roundw
       case rel => exact ⟨k + 1, j, by have := HKR.out; omega, by go_num, by rw [upf_succ, show len - 1 - k = j by have := HKR.out; omega]; exact hJ3, hnx.out.trans hk3.1, hk3.2.trans hbx⟩
       case measure => simp [intOf]
     · gi_wp2
       refine bodyPost_ret (results_none rfl _ _ _) rfl ?_
       exact ⟨⟨_, rfl⟩, .inr ⟨_, trivial, hJx3⟩⟩

set_option maxRecDepth 100000 in
set_option maxHeartbeats 1000000 in
theorem back1_nil (n : Nat) (l Bs cap : Nat) (a : Option Addr) (J : List (Nat × Wd) → World → Prop) (W : World) (hBs : W.cell? ⟨Bs, 0, none⟩ = some (.slice a 0 cap)) (h0 : J [] W) :
   CallsIn Fence.wide n Tryz.prog 156 #[.func (.yield l) #[] #[], .pointer (some ⟨Bs, 0, none⟩)] W fun e W' => (∃ v, e = .returned v) ∧ J [] W' := by
 refine callsIn_of_wp Tryz.func156 rfl trivial ?_ rfl
 simp only [Tryz.ntmps156, List.size_toArray, List.length_cons, List.length_nil, Nat.reduceAdd, Nat.reduceSub, Array.replicate_succ, Array.replicate_zero, List.push_toArray, List.append_toArray, List.nil_append, List.cons_append]
 gi_wp2
 gi_loopw [3] (fun i wr => i = .int .i64 (-1) ∧ J [] wr) (fun _ _ => 0)
 case atStart => exact ⟨by go_num, h0⟩
 case round =>
   obtain ⟨rfl, hJs⟩ := hrel
   gi_wp2
   go_end0
   exact ⟨⟨_, rfl⟩, hJs⟩

set_option maxRecDepth 100000 in
set_option maxHeartbeats 1000000 in
theorem back_in (n : Nat) (a : Option Addr) (len cap : Nat) (w : World) :
   CallsIn Fence.wide n Tryz.prog 144 #[.slice a len cap] w fun e w' => e = .returned (.func (.func 156) #[] #[.pointer (some ⟨w.heap.size, 0, none⟩)]) ∧ w' = w.alloc (.cells #[.slice a len cap] 114) := by
 refine callsIn_of_wp Tryz.func144 rfl trivial ?_ rfl
 simp only [Tryz.ntmps144, List.size_toArray, List.length_cons, List.length_nil, Nat.reduceAdd, Nat.reduceSub, Array.replicate_succ, Array.replicate_zero, List.push_toArray, List.append_toArray, List.nil_append, List.cons_append]
 gi_wp2
 go_ret
 exact ⟨rfl, rfl⟩

theorem back_stops (n : Nat) (hn : 1 ≤ n) (Bs n₀ len cap : Nat) (a : Option Addr) (zs : Nat → Wd) (hlen : len ≤ 1000000) (w : World) (hBs : Boxed w Bs 114 (.slice a len cap)) (hn₀ : n₀ ≤ w.heap.size)
   (hI : len = 0 ∨ ∃ b off, a = some ⟨b, off, none⟩ ∧ b < n₀ ∧ ∀ j, j < len → w.cell? ⟨b, off + j, none⟩ = some (.float .f64 (zs j).1)) :
   SeqStopsK Fence.wide n Tryz.prog 156 #[.pointer (some ⟨Bs, 0, none⟩)] (fun x : Nat × Wd => #[Value.int .i64 (x.1 : Int), Value.float .f64 x.2.1]) (KB n₀ Bs) (fun ys => ys = upf (fun j => (len - 1 - j, zs (len - 1 - j))) len)
     (fun _ => True) len w := fun l J Jx W hW _ _ hY h0 => by
 have hbx : Boxed W Bs 114 (.slice a len cap) := (hW.block _ hBs.lt).trans hBs
 rcases hI with rfl | ⟨b, off, rfl, hb, hc⟩
 · exact (back1_nil n l Bs cap a J W hbx.cell h0).mono fun e W' ⟨he, hj⟩ => ⟨he, .inl ⟨_, rfl, hj⟩⟩
 · exact back1_in n hn l Bs n₀ b off len cap zs hlen hb J Jx hY W hbx (fun j hj => (hW.cell (p := ⟨b, off + j, none⟩) (by show b < _; omega)).trans (hc j hj)) h0

end Go.Proofs.YtocnkgfoffpbfaaGreatDoor
