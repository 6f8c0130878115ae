/- Own texts, put together: Pm Ra. -/
import Derived.Test.YtmcllgoeldfgmaaDoorQ15
import Derived.Deep.CutRange
import Derived.Deep.DeepCutAuto
import Derived.Test.YtmcllgoeldfgmaaDoorRows
import Derived.ProofKit
import Derived.LaidMore
import Derived.OpenShut
import Derived.Laws.Cover2
import Derived.Lib.LaidTab
/- ExpandLeads: the walk. -/
namespace Go.Proofs.YtmcllgoeldfgmaaDoor
open Go.RowKit Go.Shelf
attribute [local go_sem ↓] Go.wp_at_zero Go.wp_at_succ

theorem sgq_sgn (q : Rat) : sgq q = sgnR q := by unfold sgq sgnR cmpR; grind
theorem cmp_less {p q : Rat} (h : p < q) : CmpX (some p) (some q) = -1 := by show cmpR p q = -1; unfold cmpR; rw [if_pos h]
theorem lead_low {ds : List Rat} {c : Rat} (h : Ex (ds ++ [c])) {l m : Int} (hc : c = (m : Rat) * p2 l) (hm : m % 2 = 1) (hl : -1074 ≤ l) : ab ds.sum < p2 l := by
  by_cases e : ds = []
  · subst e; rw [List.sum_nil, show ab 0 = 0 by unfold ab; grind]; exact p2_pos l
  · obtain ⟨t, h1, h2⟩ := lo_many (fun d hd => (List.pairwise_append.1 h.1).2.2 d hd c (by simp)) e
    exact (lo_low hc hm hl).1 ⟨t, h.left.bound h1, h2⟩
theorem lastW_mem {es : List Nat} (h : es ≠ []) : lastW es ∈ es := by
  obtain ⟨ds, hd⟩ := vals_last h
  have : lastW es ∈ ds ++ [lastW es] := by simp
  rwa [← hd] at this
theorem lead_facts {es : List Nat} (h : Up 2065 es) (hne : es ≠ []) : sgnR (fval (lastW es)) = sgnR (vals es).sum ∧ (∀ l, LowOf (fval (lastW es)) l → -1074 ≤ l ∧ l ≤ 1024 ∧ ab ((vals es).sum - fval (lastW es)) < p2 l) := by
  obtain ⟨ds, hd⟩ := vals_last hne
  have e2 : vals es = vals ds ++ [fval (lastW es)] := by
    conv => lhs; rw [hd]
    simp [vals]
  refine ⟨?_, ?_⟩
  · rw [← sgq_sgn, ← sgq_sgn]; exact sgq_last h.ex
  · intro l hl
    have hx := h.ex
    rw [e2] at hx
    have hf : Fin64 (lastW es) := h.fin _ (lastW_mem hne)
    rcases hl with ⟨h0, _⟩ | ⟨m, hm⟩
    · exact absurd h0 (hx.2 _ (by simp))
    · have ho : (2 * m + 1) % 2 = 1 := by omega
      obtain ⟨b1, b2⟩ := low_bounds (x := lastW es) (by rw [den_fin hf]; exact hm) ho
      refine ⟨b1, b2, ?_⟩
      have := lead_low hx hm ho b1
      rw [e2, List.sum_append, List.sum_cons, List.sum_nil, Rat.add_zero, show (vals ds).sum + fval (lastW es) - fval (lastW es) = (vals ds).sum by grind]
      exact this
theorem signS_any (s : Value) (es : List Nat) (w : World) (sa : Int) (h : Fs w s es) (hm : MayC es) (hs : sgnR (vals es).sum = sa) : Calls Tryd.prog 43 #[s] w fun e w' => e = .returned (.int .i64 sa) ∧ Below w.heap.size w w' := by
  refine (signE_any s es w h).mono ?_
  rintro e w' ⟨⟨z, rfl, hz, _⟩, hw⟩
  rw [hw]
  exact ⟨by rw [hz hm, sgq_sgn, hs], Below.refl _ _⟩
theorem checkT_any (s : Value) (es : List Nat) (w : World) (h : Fs w s es) (hm : MayC es) : Calls Tryd.prog 42 #[s] w fun e w' => e = .returned (.bool true) ∧ Below w.heap.size w w' := by
  refine (check_any s es w h).mono ?_
  rintro e w' ⟨⟨z, rfl, hz⟩, hw⟩
  rw [hw]
  exact ⟨by rw [hz.2 hm], Below.refl _ _⟩
theorem checkF_any (s : Value) (es : List Nat) (w : World) (h : Fs w s es) (hm : ¬ MayC es) : Calls Tryd.prog 42 #[s] w fun e w' => e = .returned (.bool false) ∧ Below w.heap.size w w' := by
  refine (check_any s es w h).mono ?_
  rintro e w' ⟨⟨z, rfl, hz⟩, hw⟩
  rw [hw]
  refine ⟨?_, Below.refl _ _⟩
  cases z with
  | false => rfl
  | true => exact absurd (hz.1 rfl) hm

set_option maxRecDepth 100000 in
set_option maxHeartbeats 2000000 in
theorem leads_long (a : Option Addr) (n c : Nat) (w : World) (hl : 100 < n) : Calls Tryd.prog 7 #[.slice a n c] w fun e w' => e = .returned (.bool true) ∧ Below w.heap.size w w' := by
  have l1 : (100 : Int) < (n : Int) := by omega
  go_enter Tryd.func7, Tryd.ntmps7
  go_wp2_with fail
  refine (worksE_any _).mono ?_
  rintro e w1 ⟨rfl, hb1⟩
  have HB1 : Hid (Below w.heap.size w w1) := hb1
  clear hb1
  go_wp2_with fail
  refine (worksE_any _).mono ?_
  rintro e w2 ⟨rfl, hb2⟩
  have HB2 : Hid (Below w.heap.size w w2) := below_step HB1.out hb2
  clear hb2
  go_wp2_with fail
  go_ret
  exact ⟨rfl, HB2.out⟩

set_option maxRecDepth 100000 in
set_option maxHeartbeats 2000000 in
theorem leads_not (a : Option Addr) (n c : Nat) (es : List Nat) (w : World) (hl : n ≤ 100) (hs : Fs w (.slice a n c) es) (hm : ¬ MayC es) : Calls Tryd.prog 7 #[.slice a n c] w fun e w' => e = .returned (.bool true) ∧ Below w.heap.size w w' := by
  have l1 : (n : Int) ≤ 100 := by omega
  have l2 : decide ((n : Int) > 100) = false := decide_eq_false (by omega)
  have l3 : decide ((100 : Int) < (n : Int)) = false := decide_eq_false (by omega)
  have HS : Hid (Fs w (.slice a n c) es) := hs
  have HM : Hid (¬ MayC es) := hm
  clear hs hm hl
  go_enter Tryd.func7, Tryd.ntmps7
  go_wp2_with fail
  refine (worksE_any _).mono ?_
  rintro e w1 ⟨rfl, hb1⟩
  have HB1 : Hid (Below w.heap.size w w1) := hb1
  clear hb1
  go_wp2_with fail
  refine (checkF_any _ es _ (HS.out.later HB1.out) HM.out).mono ?_
  rintro e w2 ⟨rfl, hb2⟩
  have HB2 : Hid (Below w.heap.size w w2) := below_step HB1.out hb2
  clear hb2
  go_wp2_with fail
  refine (worksE_any _).mono ?_
  rintro e w3 ⟨rfl, hb3⟩
  have HB3 : Hid (Below w.heap.size w w3) := below_step HB2.out hb3
  clear hb3
  go_wp2_with fail
  go_ret
  exact ⟨rfl, HB3.out⟩

set_option maxRecDepth 100000 in
set_option maxHeartbeats 2000000 in
theorem leads_none (a : Option Addr) (c : Nat) (w : World) (hT : Tab w) (hs : Fs w (.slice a 0 c) []) (hm : MayC []) : Calls Tryd.prog 7 #[.slice a 0 c] w fun e w' => e = .returned (.bool true) ∧ Below w.heap.size w w' := by
  have HS : Hid (Fs w (.slice a 0 c) []) := hs
  have HM : Hid (MayC []) := hm
  have HT : Hid (Tab w) := hT
  clear hs hm hT
  go_enter Tryd.func7, Tryd.ntmps7
  go_wp2_with fail
  refine (worksE_any _).mono ?_
  rintro e w1 ⟨rfl, hb1⟩
  have HB1 : Hid (Below w.heap.size w w1) := hb1
  clear hb1
  go_wp2_with fail
  refine (checkT_any _ [] _ (HS.out.later HB1.out) HM.out).mono ?_
  rintro e w2 ⟨rfl, hb2⟩
  have HB2 : Hid (Below w.heap.size w w2) := below_step HB1.out hb2
  clear hb2
  go_wp2_with fail
  refine (numberV_none _ _ _).mono ?_
  rintro e w3 ⟨v3, y3, rfl, hn3, hy3, hb3⟩
  obtain ⟨a3, n3, c3, low3, neg3, nn3, rfl, hn3⟩ := isNum_form hn3
  have hy3 : y3 = some 0 := hy3
  subst hy3
  have HB3 : Hid (Below w.heap.size w w3) := below_step HB2.out hb3
  have HN3 : Hid (IsNum w3 (.agg #[.slice a3 n3 c3, .int .i64 low3, .bool neg3, .bool nn3]) (some 0)) := hn3
  have HC : Hid (Below w3.heap.size w3 (w3.alloc (.cells #[.slice a3 n3 c3, .int .i64 low3, .bool neg3, .bool nn3] 27))) := (Below.refl _ _).alloc (Nat.le_refl _) _
  clear hb3 hn3
  go_wp2_with fail
  refine (sign_any _ _ _ (HN3.out.later HC.out)).mono ?_
  rw [show sgnR ((some (0 : Rat)).getD 0) = 0 from sgnR_zero]
  rintro e w4 ⟨rfl, hb4⟩
  have HB4 : Hid (Below w.heap.size w w4) := below_step (below_step HB3.out HC.out) hb4
  clear hb4
  go_wp2_with fail
  refine (signS_any _ [] _ 0 (HS.out.later HB4.out) HM.out sgnR_zero).mono ?_
  rintro e w5 ⟨rfl, hb5⟩
  have HB5 : Hid (Below w.heap.size w w5) := below_step HB4.out hb5
  clear hb5
  go_wp2_with fail
  go_ret
  exact ⟨rfl, HB5.out⟩

set_option maxRecDepth 100000 in
set_option maxHeartbeats 8000000 in
theorem leads_pos (g off k c0 x : Nat) (es : List Nat) (w : World) (hT : Tab w) (hs : Fs w (.slice (some ⟨g, off, none⟩) (k + 1) c0) es) (hk : k < 100) (hlen : es.length = k + 1) (hx : lastW es = x) (hxw : x < 18446744073709551616) (hc : w.cell? ⟨g, off + k, none⟩ = some (.float .f64 x)) (hm : MayC es) (hsg : ¬ sgnR ((vals es).sum - fval x) < 0) :
    Calls Tryd.prog 7 #[.slice (some ⟨g, off, none⟩) (k + 1) c0] w fun e w' => e = .returned (.bool true) ∧ Below w.heap.size w w' := by
  have HT : Hid (Tab w) := hT
  have HS : Hid (Fs w (.slice (some ⟨g, off, none⟩) (k + 1) c0) es) := hs
  have HM : Hid (MayC es) := hm
  have HL : Hid (es.length = k + 1) := hlen
  have HXW : Hid (x < 18446744073709551616) := hxw
  have hne : es ≠ [] := by rintro rfl; simp at hlen
  have HU : Hid (Up 2065 es) := check_up hm
  have HFX : Hid (Fin64 x) := by show Fin64 x; rw [← hx]; exact HU.out.fin _ (lastW_mem hne)
  have hlf := lead_facts HU.out hne
  rw [hx] at hlf
  obtain ⟨A, HA⟩ : ∃ A, Hid ((vals es).sum = A) := ⟨_, rfl⟩
  obtain ⟨Bx, HBx⟩ : ∃ A, Hid (fval x = A) := ⟨_, rfl⟩
  rw [HA.out, HBx.out] at hlf hsg
  obtain ⟨sa, HSa⟩ : ∃ s, Hid (sgnR A = s) := ⟨_, rfl⟩
  obtain ⟨sd, HSd⟩ : ∃ s, Hid (sgnR (A - Bx) = s) := ⟨_, rfl⟩
  rw [HSd.out] at hsg
  have HG : Hid (sgnR Bx = sgnR A) := hlf.1
  have HLW : Hid (∀ l, LowOf Bx l → -1074 ≤ l ∧ l ≤ 1024 ∧ ab (A - Bx) < p2 l) := hlf.2
  have HSV : Hid (sgnR (vals es).sum = sa) := by show _ = _; rw [HA.out]; exact HSa.out
  have HDA : Hid (Bd 1200 (-1074) A) := by
    show Bd _ _ _
    rw [← HA.out, ← den_sum HU.out.fin]
    have := denL_bd es es.length (Nat.le_refl _)
    unfold denL at this
    rw [List.take_length] at this
    exact this.mono (by omega) (Int.le_refl _)
  have HDB : Hid (Bd 1200 (-1074) Bx) := by show Bd _ _ _; rw [← HBx.out]; exact (fval_bd HFX.out).mono (by omega) (Int.le_refl _)
  have l9 : (k : Int) < 100 := by omega
  have l1 : (k : Int) + 1 ≤ 100 := by omega
  have l2 : decide ((k : Int) + 1 > 100) = false := decide_eq_false (by omega)
  have l3 : decide ((100 : Int) < (k : Int) + 1) = false := decide_eq_false (by omega)
  have l0 : ((k : Int) + 1 == 0) = false := by simp; omega
  have e3 : (k : Int) < (k : Int) + 1 := by omega
  have e4 : (0 : Int) ≤ (k : Int) := by omega
  have hgw : g < w.heap.size := World.block_lt_of_cell? _ _ hc
  have hsd := decide_eq_false hsg
  clear hT hs hk hlen hx hxw hm hlf hne
  go_enter Tryd.func7, Tryd.ntmps7
  go_wp2_with fail
  refine (worksE_any _).mono ?_
  rintro e w1 ⟨rfl, hb1⟩
  have HB1 : Hid (Below w.heap.size w w1) := hb1
  clear hb1
  go_wp2_with fail
  refine (checkT_any _ es _ (HS.out.later HB1.out) HM.out).mono ?_
  rintro e w2 ⟨rfl, hb2⟩
  have HB2 : Hid (Below w.heap.size w w2) := below_step HB1.out hb2
  clear hb2
  go_wp2_with fail
  refine (numberV_any _ es _ (HT.out.later HB2.out) (HS.out.later HB2.out) (by rw [HL.out]; omega) HU.out.fin).mono ?_
  rintro e w3 ⟨v3, y3, rfl, hn3, hy3, hb3⟩
  obtain ⟨a3, n3, c3, low3, neg3, nn3, rfl, hn3⟩ := isNum_form hn3
  have hy3 : y3 = some A := by rw [← HA.out]; exact hy3
  subst hy3
  have HB3 : Hid (Below w.heap.size w w3) := below_step HB2.out hb3
  have HN3 : Hid (IsNum w3 (.agg #[.slice a3 n3 c3, .int .i64 low3, .bool neg3, .bool nn3]) (some A)) := hn3
  have g3 : w3.cell? ⟨g, off + k, none⟩ = some (.float .f64 x) := cell_later HB3.out hc
  have hg3 : g < w3.heap.size := by have := HB3.out.size; omega
  have HC3 : Hid (Below w3.heap.size w3 (w3.alloc (.cells #[.slice a3 n3 c3, .int .i64 low3, .bool neg3, .bool nn3] 27))) := (Below.refl _ _).alloc (Nat.le_refl _) _
  clear hb3 hn3 HB1 HB2 hc
  go_wp2_with fail
  refine (ofW_any x _ (HT.out.later (below_step HB3.out HC3.out)) HXW.out).mono ?_
  rintro e w4 ⟨v4, y4, rfl, hn4, hy4, hb4⟩
  obtain ⟨a4, n4, c4, low4, neg4, nn4, rfl, hn4⟩ := isNum_form hn4
  have hy4 : y4 = some Bx := by rw [← HBx.out]; exact hy4.trans (if_pos HFX.out)
  subst hy4
  have HB4 : Hid (Below w.heap.size w w4) := below_step (below_step HB3.out HC3.out) hb4
  have HN4 : Hid (IsNum w4 (.agg #[.slice a4 n4 c4, .int .i64 low4, .bool neg4, .bool nn4]) (some Bx)) := hn4
  have HN3 : Hid (IsNum w4 (.agg #[.slice a3 n3 c3, .int .i64 low3, .bool neg3, .bool nn3]) (some A)) := HN3.out.later (thru HC3.out hb4)
  have p30 : w4.cell? ⟨w3.heap.size, 0, none⟩ = some (.slice a3 n3 c3) := cell_later hb4 (by go_simp)
  have p31 : w4.cell? ⟨w3.heap.size, 1, none⟩ = some (.int .i64 low3) := cell_later hb4 (by go_simp)
  have p32 : w4.cell? ⟨w3.heap.size, 2, none⟩ = some (.bool neg3) := cell_later hb4 (by go_simp)
  have p33 : w4.cell? ⟨w3.heap.size, 3, none⟩ = some (.bool nn3) := cell_later hb4 (by go_simp)
  have hs4 : w3.heap.size < w4.heap.size := by have := hb4.size; simp at this; omega
  have HC4 : Hid (Below w4.heap.size w4 (w4.alloc (.cells #[.slice a4 n4 c4, .int .i64 low4, .bool neg4, .bool nn4] 27))) := (Below.refl _ _).alloc (Nat.le_refl _) _
  clear hb4 hn4 g3 hg3 HC3
  go_wp2_with fail
  refine (sub_any _ _ _ _ _ (HN3.out.later HC4.out) (HN4.out.later HC4.out) (HT.out.later (below_step HB4.out HC4.out))).mono ?_
  rintro e w5 ⟨v5, y5, rfl, hn5, hy5, hb5⟩
  obtain ⟨a5, n5, c5, low5, neg5, nn5, rfl, hn5⟩ := isNum_form hn5
  have e5 := op2_may hy5 ((HDA.out.sub HDB.out).may (by omega) (by omega))
  subst e5
  clear hy5
  have HB5 : Hid (Below w.heap.size w w5) := below_step (below_step HB4.out HC4.out) hb5
  have HN5 : Hid (IsNum w5 (.agg #[.slice a5 n5 c5, .int .i64 low5, .bool neg5, .bool nn5]) (some (A - Bx))) := hn5
  have HN3 : Hid (IsNum w5 (.agg #[.slice a3 n3 c3, .int .i64 low3, .bool neg3, .bool nn3]) (some A)) := HN3.out.later (thru HC4.out hb5)
  have HN4 : Hid (IsNum w5 (.agg #[.slice a4 n4 c4, .int .i64 low4, .bool neg4, .bool nn4]) (some Bx)) := HN4.out.later (thru HC4.out hb5)
  have q30 : w5.cell? ⟨w3.heap.size, 0, none⟩ = some (.slice a3 n3 c3) := cell_later (thru HC4.out hb5) p30
  have q31 : w5.cell? ⟨w3.heap.size, 1, none⟩ = some (.int .i64 low3) := cell_later (thru HC4.out hb5) p31
  have q32 : w5.cell? ⟨w3.heap.size, 2, none⟩ = some (.bool neg3) := cell_later (thru HC4.out hb5) p32
  have q33 : w5.cell? ⟨w3.heap.size, 3, none⟩ = some (.bool nn3) := cell_later (thru HC4.out hb5) p33
  have q40 : w5.cell? ⟨w4.heap.size, 0, none⟩ = some (.slice a4 n4 c4) := cell_later hb5 (by go_simp)
  have q41 : w5.cell? ⟨w4.heap.size, 1, none⟩ = some (.int .i64 low4) := cell_later hb5 (by go_simp)
  have q42 : w5.cell? ⟨w4.heap.size, 2, none⟩ = some (.bool neg4) := cell_later hb5 (by go_simp)
  have q43 : w5.cell? ⟨w4.heap.size, 3, none⟩ = some (.bool nn4) := cell_later hb5 (by go_simp)
  have hs5 : w4.heap.size < w5.heap.size := by have := hb5.size; simp at this; omega
  have HC5 : Hid (Below w5.heap.size w5 (w5.alloc (.cells #[.slice a5 n5 c5, .int .i64 low5, .bool neg5, .bool nn5] 27))) := (Below.refl _ _).alloc (Nat.le_refl _) _
  clear hb5 hn5 HC4 p30 p31 p32 p33
  go_wp2_with fail
  refine (sign_any _ _ _ (HN5.out.later HC5.out)).mono ?_
  rw [show sgnR ((some (A - Bx)).getD 0) = sd from HSd.out]
  rintro e w6 ⟨rfl, hb6⟩
  have hc6 := thru HC5.out hb6
  have r30 : w6.cell? ⟨w3.heap.size, 0, none⟩ = some (.slice a3 n3 c3) := cell_later hc6 q30
  have r31 : w6.cell? ⟨w3.heap.size, 1, none⟩ = some (.int .i64 low3) := cell_later hc6 q31
  have r32 : w6.cell? ⟨w3.heap.size, 2, none⟩ = some (.bool neg3) := cell_later hc6 q32
  have r33 : w6.cell? ⟨w3.heap.size, 3, none⟩ = some (.bool nn3) := cell_later hc6 q33
  have r40 : w6.cell? ⟨w4.heap.size, 0, none⟩ = some (.slice a4 n4 c4) := cell_later hc6 q40
  have r41 : w6.cell? ⟨w4.heap.size, 1, none⟩ = some (.int .i64 low4) := cell_later hc6 q41
  have r42 : w6.cell? ⟨w4.heap.size, 2, none⟩ = some (.bool neg4) := cell_later hc6 q42
  have r43 : w6.cell? ⟨w4.heap.size, 3, none⟩ = some (.bool nn4) := cell_later hc6 q43
  have r50 : w6.cell? ⟨w5.heap.size, 0, none⟩ = some (.slice a5 n5 c5) := cell_later hb6 (by go_simp)
  have r51 : w6.cell? ⟨w5.heap.size, 1, none⟩ = some (.int .i64 low5) := cell_later hb6 (by go_simp)
  have r52 : w6.cell? ⟨w5.heap.size, 2, none⟩ = some (.bool neg5) := cell_later hb6 (by go_simp)
  have r53 : w6.cell? ⟨w5.heap.size, 3, none⟩ = some (.bool nn5) := cell_later hb6 (by go_simp)
  have HB6 : Hid (Below w.heap.size w w6) := below_step HB5.out hc6
  have HN3 : Hid (IsNum w6 (.agg #[.slice a3 n3 c3, .int .i64 low3, .bool neg3, .bool nn3]) (some A)) := HN3.out.later hc6
  have HN4 : Hid (IsNum w6 (.agg #[.slice a4 n4 c4, .int .i64 low4, .bool neg4, .bool nn4]) (some Bx)) := HN4.out.later hc6
  have HN5 : Hid (IsNum w6 (.agg #[.slice a5 n5 c5, .int .i64 low5, .bool neg5, .bool nn5]) (some (A - Bx))) := HN5.out.later hc6
  clear hc6 hb6 HC5 q30 q31 q32 q33 q40 q41 q42 q43
  go_upto_region 10 with fail
  have HBC : Hid (Below w.heap.size w w6) := HB6.out
  clear HB6 HB5 HB4 HB3
  have HD : Hid ((A - Bx) = ab (A - Bx)) := by
    have h1 : ¬ sgnR (A - Bx) < 0 := by rw [HSd.out]; omega
    show _ = _
    unfold sgnR cmpR at h1
    unfold ab
    grind
  generalize hwq : w6 = wq at *
  refine wp_region_held_drew (S := (fun W => W.cell? ⟨w3.heap.size, 0, none⟩ = some (.slice a3 n3 c3) ∧ W.cell? ⟨w3.heap.size, 1, none⟩ = some (.int .i64 low3) ∧ W.cell? ⟨w3.heap.size, 2, none⟩ = some (.bool neg3) ∧ W.cell? ⟨w3.heap.size, 3, none⟩ = some (.bool nn3) ∧ W.cell? ⟨w4.heap.size, 0, none⟩ = some (.slice a4 n4 c4) ∧ W.cell? ⟨w4.heap.size, 1, none⟩ = some (.int .i64 low4) ∧ W.cell? ⟨w4.heap.size, 2, none⟩ = some (.bool neg4) ∧ W.cell? ⟨w4.heap.size, 3, none⟩ = some (.bool nn4) ∧ W.cell? ⟨w5.heap.size, 0, none⟩ = some (.slice a5 n5 c5) ∧ W.cell? ⟨w5.heap.size, 1, none⟩ = some (.int .i64 low5) ∧ W.cell? ⟨w5.heap.size, 2, none⟩ = some (.bool neg5) ∧ W.cell? ⟨w5.heap.size, 3, none⟩ = some (.bool nn5) ∧ Below wq.heap.size wq W)) (by kernel_rfl) ⟨r30, r31, r32, r33, r40, r41, r42, r43, r50, r51, r52, r53, (Below.refl _ _).drew⟩ (fun hS => ?_)
  refine take_at (i := 0) (d := some 47) (v := .agg #[.slice a4 n4 c4, .int .i64 low4, .bool neg4, .bool nn4]) (by kernel_rfl) (by kernel_rfl) (by kernel_rfl) (by kernel_rfl) (fun _ _ _ h => h) ?_ hS ?_
  · intro o ho
    simp only [List.getElem?_toArray, List.getElem?_cons_zero, Option.some.injEq] at ho
    subst ho
    refine Or.inl ⟨by rfl, ?_⟩
    intro w hSw
    (try dsimp only at hSw)
    go_simp
  simp only [Act.put, List.setIfInBounds_toArray, List.set_cons_zero, List.set_cons_succ]
  refine take_at (i := 2) (d := some 49) (v := .agg #[.slice a3 n3 c3, .int .i64 low3, .bool neg3, .bool nn3]) (by kernel_rfl) (by kernel_rfl) (by kernel_rfl) (by kernel_rfl) (fun _ _ _ h => h) ?_ hS ?_
  · intro o ho
    simp only [List.getElem?_toArray, List.getElem?_cons_succ, List.getElem?_cons_zero, Option.some.injEq] at ho
    subst ho
    refine Or.inl ⟨by rfl, ?_⟩
    intro w hSw
    (try dsimp only at hSw)
    go_simp
  simp only [Act.put, List.setIfInBounds_toArray, List.set_cons_zero, List.set_cons_succ]
  refine call_at 1 (by kernel_rfl) (by kernel_rfl) ?_
  intro o ho
  simp only [List.getElem?_toArray, List.getElem?_cons_succ, List.getElem?_cons_zero, Option.some.injEq] at ho
  subst ho
  intro KF hK
  go_simp
  refine (sign_any _ _ _ (HN4.out.later (keep12_bel hS))).mono ?_
  rw [show sgnR ((some Bx).getD 0) = sa from (HG.out.trans HSa.out)]
  rintro e wx ⟨rfl, hbx⟩
  go_wp2_with fail
  refine hK.out _ _ (keep12 hS hbx) ?_
  clear hS hbx
  intro hS
  clear hK KF
  try simp only [Act.put, List.setIfInBounds_toArray, List.set_cons_zero, List.set_cons_succ]
  refine call_at 3 (by kernel_rfl) (by kernel_rfl) ?_
  intro o ho
  simp only [List.getElem?_toArray, List.getElem?_cons_succ, List.getElem?_cons_zero, Option.some.injEq] at ho
  subst ho
  intro KF hK
  go_simp
  refine (sign_any _ _ _ (HN3.out.later (keep12_bel hS))).mono ?_
  rw [show sgnR ((some A).getD 0) = sa from HSa.out]
  rintro e wx ⟨rfl, hbx⟩
  go_wp2_with fail
  refine hK.out _ _ (keep12 hS hbx) ?_
  clear hS hbx
  intro hS
  clear hK KF
  try simp only [Act.put, List.setIfInBounds_toArray, List.set_cons_zero, List.set_cons_succ]
  refine take_at (i := 4) (d := some 51) (v := .bool true) (by kernel_rfl) (by kernel_rfl) (by kernel_rfl) (by kernel_rfl) (fun _ _ _ h => h) ?_ hS ?_
  · intro o ho
    simp only [List.getElem?_toArray, List.getElem?_cons_succ, List.getElem?_cons_zero, Option.some.injEq] at ho
    subst ho
    refine Or.inl ⟨by rfl, ?_⟩
    intro w hSw
    (try dsimp only at hSw)
    go_simp
  simp only [Act.put, List.setIfInBounds_toArray, List.set_cons_zero, List.set_cons_succ]
  refine take_at (i := 5) (d := some 52) (v := .bool true) (by kernel_rfl) (by kernel_rfl) (by kernel_rfl) (by kernel_rfl) (fun _ _ _ h => h) ?_ hS ?_
  · intro o ho
    simp only [List.getElem?_toArray, List.getElem?_cons_succ, List.getElem?_cons_zero, Option.some.injEq] at ho
    subst ho
    refine Or.inl ⟨by rfl, ?_⟩
    intro w hSw
    (try dsimp only at hSw)
    go_simp
  simp only [Act.put, List.setIfInBounds_toArray, List.set_cons_zero, List.set_cons_succ]
  refine take_at (i := 6) (d := some 53) (v := .slice (some ⟨g, off, none⟩) (k + 1) c0) (by kernel_rfl) (by kernel_rfl) (by kernel_rfl) (by kernel_rfl) (fun _ _ _ h => h) ?_ hS ?_
  · intro o ho
    simp only [List.getElem?_toArray, List.getElem?_cons_succ, List.getElem?_cons_zero, Option.some.injEq] at ho
    subst ho
    refine Or.inl ⟨by rfl, ?_⟩
    intro w hSw
    (try dsimp only at hSw)
    go_simp
  simp only [Act.put, List.setIfInBounds_toArray, List.set_cons_zero, List.set_cons_succ]
  refine take_at (i := 8) (d := some 55) (v := .agg #[.slice a3 n3 c3, .int .i64 low3, .bool neg3, .bool nn3]) (by kernel_rfl) (by kernel_rfl) (by kernel_rfl) (by kernel_rfl) (fun _ _ _ h => h) ?_ hS ?_
  · intro o ho
    simp only [List.getElem?_toArray, List.getElem?_cons_succ, List.getElem?_cons_zero, Option.some.injEq] at ho
    subst ho
    refine Or.inl ⟨by rfl, ?_⟩
    intro w hSw
    (try dsimp only at hSw)
    go_simp
  simp only [Act.put, List.setIfInBounds_toArray, List.set_cons_zero, List.set_cons_succ]
  refine call_at 7 (by kernel_rfl) (by kernel_rfl) ?_
  intro o ho
  simp only [List.getElem?_toArray, List.getElem?_cons_succ, List.getElem?_cons_zero, Option.some.injEq] at ho
  subst ho
  intro KF hK
  go_simp
  refine (signS_any _ es _ sa (HS.out.later (thru HBC.out (keep12_bel hS))) HM.out HSV.out).mono ?_
  rintro e wx ⟨rfl, hbx⟩
  go_wp2_with fail
  refine hK.out _ _ (keep12 hS hbx) ?_
  clear hS hbx
  intro hS
  clear hK KF
  try simp only [Act.put, List.setIfInBounds_toArray, List.set_cons_zero, List.set_cons_succ]
  refine call_at 9 (by kernel_rfl) (by kernel_rfl) ?_
  intro o ho
  simp only [List.getElem?_toArray, List.getElem?_cons_succ, List.getElem?_cons_zero, Option.some.injEq] at ho
  subst ho
  intro KF hK
  go_simp
  refine (sign_any _ _ _ (HN3.out.later (keep12_bel hS))).mono ?_
  rw [show sgnR ((some A).getD 0) = sa from HSa.out]
  rintro e wx ⟨rfl, hbx⟩
  go_wp2_with fail
  refine hK.out _ _ (keep12 hS hbx) ?_
  clear hS hbx
  intro hS
  clear hK KF
  try simp only [Act.put, List.setIfInBounds_toArray, List.set_cons_zero, List.set_cons_succ]
  refine take_at (i := 10) (d := some 57) (v := .bool true) (by kernel_rfl) (by kernel_rfl) (by kernel_rfl) (by kernel_rfl) (fun _ _ _ h => h) ?_ hS ?_
  · intro o ho
    simp only [List.getElem?_toArray, List.getElem?_cons_succ, List.getElem?_cons_zero, Option.some.injEq] at ho
    subst ho
    refine Or.inl ⟨by rfl, ?_⟩
    intro w hSw
    (try dsimp only at hSw)
    go_simp
  simp only [Act.put, List.setIfInBounds_toArray, List.set_cons_zero, List.set_cons_succ]
  refine take_at (i := 11) (d := some 58) (v := .bool true) (by kernel_rfl) (by kernel_rfl) (by kernel_rfl) (by kernel_rfl) (fun _ _ _ h => h) ?_ hS ?_
  · intro o ho
    simp only [List.getElem?_toArray, List.getElem?_cons_succ, List.getElem?_cons_zero, Option.some.injEq] at ho
    subst ho
    refine Or.inl ⟨by rfl, ?_⟩
    intro w hSw
    (try dsimp only at hSw)
    go_simp
  simp only [Act.put, List.setIfInBounds_toArray, List.set_cons_zero, List.set_cons_succ]
  refine take_at (i := 12) (d := some 59) (v := .bool true) (by kernel_rfl) (by kernel_rfl) (by kernel_rfl) (by kernel_rfl) (fun _ _ _ h => h) ?_ hS ?_
  · intro o ho
    simp only [List.getElem?_toArray, List.getElem?_cons_succ, List.getElem?_cons_zero, Option.some.injEq] at ho
    subst ho
    refine Or.inl ⟨by rfl, ?_⟩
    intro w hSw
    (try dsimp only at hSw)
    go_simp
  simp only [Act.put, List.setIfInBounds_toArray, List.set_cons_zero, List.set_cons_succ]
  refine take_at (i := 13) (d := some 60) (v := .agg #[.slice a5 n5 c5, .int .i64 low5, .bool neg5, .bool nn5]) (by kernel_rfl) (by kernel_rfl) (by kernel_rfl) (by kernel_rfl) (fun _ _ _ h => h) ?_ hS ?_
  · intro o ho
    simp only [List.getElem?_toArray, List.getElem?_cons_succ, List.getElem?_cons_zero, Option.some.injEq] at ho
    subst ho
    refine Or.inl ⟨by rfl, ?_⟩
    intro w hSw
    (try dsimp only at hSw)
    go_simp
  simp only [Act.put, List.setIfInBounds_toArray, List.set_cons_zero, List.set_cons_succ]
  refine take_at (i := 15) (d := some 62) (v := .agg #[.slice a4 n4 c4, .int .i64 low4, .bool neg4, .bool nn4]) (by kernel_rfl) (by kernel_rfl) (by kernel_rfl) (by kernel_rfl) (fun _ _ _ h => h) ?_ hS ?_
  · intro o ho
    simp only [List.getElem?_toArray, List.getElem?_cons_succ, List.getElem?_cons_zero, Option.some.injEq] at ho
    subst ho
    refine Or.inl ⟨by rfl, ?_⟩
    intro w hSw
    (try dsimp only at hSw)
    go_simp
  simp only [Act.put, List.setIfInBounds_toArray, List.set_cons_zero, List.set_cons_succ]
  refine call_at 14 (by kernel_rfl) (by kernel_rfl) ?_
  intro o ho
  simp only [List.getElem?_toArray, List.getElem?_cons_succ, List.getElem?_cons_zero, Option.some.injEq] at ho
  subst ho
  intro KF hK
  go_simp
  refine (int_any 1 _ (HT.out.later (thru HBC.out (keep12_bel hS))) (by omega) (by omega)).mono ?_
  rintro e wx ⟨v61, y61, rfl, hn61, hy61, hbx⟩
  obtain ⟨a61, n61, c61, low61, neg61, nn61, rfl, hn61⟩ := isNum_form hn61
  subst hy61
  go_wp2_with fail
  refine hK.out _ _ (keep12 hS hbx) ?_
  clear hS hbx
  intro hS
  clear hK KF
  try simp only [Act.put, List.setIfInBounds_toArray, List.set_cons_zero, List.set_cons_succ]
  refine call_at 16 (by kernel_rfl) (by kernel_rfl) ?_
  intro o ho
  simp only [List.getElem?_toArray, List.getElem?_cons_succ, List.getElem?_cons_zero, Option.some.injEq] at ho
  subst ho
  intro KF hK
  go_simp
  refine (low_any _ _ _ (HN4.out.later (keep12_bel hS))).mono ?_
  rintro e wx ⟨⟨l, rfl, hlo⟩, hbx⟩
  have HLX : Hid (-1074 ≤ l ∧ l ≤ 1024 ∧ ab (A - Bx) < p2 l) := HLW.out l hlo
  clear hlo
  have hn61 := hn61.later hbx
  go_wp2_with fail
  refine hK.out _ _ (keep12 hS hbx) ?_
  clear hS hbx
  intro hS
  clear hK KF
  try simp only [Act.put, List.setIfInBounds_toArray, List.set_cons_zero, List.set_cons_succ]
  refine call_at 17 (by kernel_rfl) (by kernel_rfl) ?_
  intro o ho
  simp only [List.getElem?_toArray, List.getElem?_cons_succ, List.getElem?_cons_zero, Option.some.injEq] at ho
  subst ho
  intro KF hK
  go_simp
  refine (shift_any _ _ _ _ hn61).mono ?_
  rintro e wx ⟨v64, y64, rfl, hn64, hy64, hbx⟩
  obtain ⟨a64, n64, c64, low64, neg64, nn64, rfl, hn64⟩ := isNum_form hn64
  have e64 := shiftX_may hy64 (((int_bd 1 (by omega) (by omega)).shift l).may (by have := HLX.out; omega) (by have := HLX.out; omega))
  subst e64
  clear hy64
  clear hn61
  go_wp2_with fail
  refine hK.out _ _ (keep12 hS hbx) ?_
  clear hS hbx
  intro hS
  clear hK KF
  try simp only [Act.put, List.setIfInBounds_toArray, List.set_cons_zero, List.set_cons_succ]
  refine call_at 18 (by kernel_rfl) (by kernel_rfl) ?_
  intro o ho
  simp only [List.getElem?_toArray, List.getElem?_cons_succ, List.getElem?_cons_zero, Option.some.injEq] at ho
  subst ho
  intro KF hK
  go_simp
  refine (cmp_any _ _ _ _ _ (HN5.out.later (keep12_bel hS)) hn64).mono ?_
  rw [show CmpX (some (A - Bx)) (some (((1 : Int) : Rat) * p2 l)) = -1 from (cmp_less (by rw [HD.out, show ((1 : Int) : Rat) = 1 from rfl, Rat.one_mul]; exact HLX.out.2.2))]
  rintro e wx ⟨rfl, hbx⟩
  clear hn64
  go_wp2_with fail
  refine hK.out _ _ (keep12 hS hbx) ?_
  clear hS hbx
  intro hS
  clear hK KF
  try simp only [Act.put, List.setIfInBounds_toArray, List.set_cons_zero, List.set_cons_succ]
  refine take_at (i := 19) (d := some 66) (v := .bool true) (by kernel_rfl) (by kernel_rfl) (by kernel_rfl) (by kernel_rfl) (fun _ _ _ h => h) ?_ hS ?_
  · intro o ho
    simp only [List.getElem?_toArray, List.getElem?_cons_succ, List.getElem?_cons_zero, Option.some.injEq] at ho
    subst ho
    refine Or.inl ⟨by rfl, ?_⟩
    intro w hSw
    (try dsimp only at hSw)
    go_simp
  simp only [Act.put, List.setIfInBounds_toArray, List.set_cons_zero, List.set_cons_succ]
  refine take_at (i := 20) (d := some 67) (v := .bool true) (by kernel_rfl) (by kernel_rfl) (by kernel_rfl) (by kernel_rfl) (fun _ _ _ h => h) ?_ hS ?_
  · intro o ho
    simp only [List.getElem?_toArray, List.getElem?_cons_succ, List.getElem?_cons_zero, Option.some.injEq] at ho
    subst ho
    refine Or.inl ⟨by rfl, ?_⟩
    intro w hSw
    (try dsimp only at hSw)
    go_simp
  simp only [Act.put, List.setIfInBounds_toArray, List.set_cons_zero, List.set_cons_succ]
  refine take_at (i := 21) (d := some 2) (v := .bool true) (by kernel_rfl) (by kernel_rfl) (by kernel_rfl) (by kernel_rfl) (fun _ _ _ h => h) ?_ hS ?_
  · intro o ho
    simp only [List.getElem?_toArray, List.getElem?_cons_succ, List.getElem?_cons_zero, Option.some.injEq] at ho
    subst ho
    refine Or.inl ⟨by rfl, ?_⟩
    intro w hSw
    (try dsimp only at hSw)
    go_simp
  simp only [Act.put, List.setIfInBounds_toArray, List.set_cons_zero, List.set_cons_succ]
  refine wpAnyH_done (by kernel_rfl) ?_ _
  go_wp2
  go_ret
  exact ⟨rfl, thru HBC.out (keep12_bel hS)⟩

set_option maxRecDepth 100000 in
set_option maxHeartbeats 8000000 in
theorem leads_neg (g off k c0 x : Nat) (es : List Nat) (w : World) (hT : Tab w) (hs : Fs w (.slice (some ⟨g, off, none⟩) (k + 1) c0) es) (hk : k < 100) (hlen : es.length = k + 1) (hx : lastW es = x) (hxw : x < 18446744073709551616) (hc : w.cell? ⟨g, off + k, none⟩ = some (.float .f64 x)) (hm : MayC es) (hsg : sgnR ((vals es).sum - fval x) < 0) :
    Calls Tryd.prog 7 #[.slice (some ⟨g, off, none⟩) (k + 1) c0] w fun e w' => e = .returned (.bool true) ∧ Below w.heap.size w w' := by
  have HT : Hid (Tab w) := hT
  have HS : Hid (Fs w (.slice (some ⟨g, off, none⟩) (k + 1) c0) es) := hs
  have HM : Hid (MayC es) := hm
  have HL : Hid (es.length = k + 1) := hlen
  have HXW : Hid (x < 18446744073709551616) := hxw
  have hne : es ≠ [] := by rintro rfl; simp at hlen
  have HU : Hid (Up 2065 es) := check_up hm
  have HFX : Hid (Fin64 x) := by show Fin64 x; rw [← hx]; exact HU.out.fin _ (lastW_mem hne)
  have hlf := lead_facts HU.out hne
  rw [hx] at hlf
  obtain ⟨A, HA⟩ : ∃ A, Hid ((vals es).sum = A) := ⟨_, rfl⟩
  obtain ⟨Bx, HBx⟩ : ∃ A, Hid (fval x = A) := ⟨_, rfl⟩
  rw [HA.out, HBx.out] at hlf hsg
  obtain ⟨sa, HSa⟩ : ∃ s, Hid (sgnR A = s) := ⟨_, rfl⟩
  obtain ⟨sd, HSd⟩ : ∃ s, Hid (sgnR (A - Bx) = s) := ⟨_, rfl⟩
  rw [HSd.out] at hsg
  have HG : Hid (sgnR Bx = sgnR A) := hlf.1
  have HLW : Hid (∀ l, LowOf Bx l → -1074 ≤ l ∧ l ≤ 1024 ∧ ab (A - Bx) < p2 l) := hlf.2
  have HSV : Hid (sgnR (vals es).sum = sa) := by show _ = _; rw [HA.out]; exact HSa.out
  have HDA : Hid (Bd 1200 (-1074) A) := by
    show Bd _ _ _
    rw [← HA.out, ← den_sum HU.out.fin]
    have := denL_bd es es.length (Nat.le_refl _)
    unfold denL at this
    rw [List.take_length] at this
    exact this.mono (by omega) (Int.le_refl _)
  have HDB : Hid (Bd 1200 (-1074) Bx) := by show Bd _ _ _; rw [← HBx.out]; exact (fval_bd HFX.out).mono (by omega) (Int.le_refl _)
  have l9 : (k : Int) < 100 := by omega
  have l1 : (k : Int) + 1 ≤ 100 := by omega
  have l2 : decide ((k : Int) + 1 > 100) = false := decide_eq_false (by omega)
  have l3 : decide ((100 : Int) < (k : Int) + 1) = false := decide_eq_false (by omega)
  have l0 : ((k : Int) + 1 == 0) = false := by simp; omega
  have e3 : (k : Int) < (k : Int) + 1 := by omega
  have e4 : (0 : Int) ≤ (k : Int) := by omega
  have hgw : g < w.heap.size := World.block_lt_of_cell? _ _ hc
  have hsd := decide_eq_true hsg
  clear hT hs hk hlen hx hxw hm hlf hne
  go_enter Tryd.func7, Tryd.ntmps7
  go_wp2_with fail
  refine (worksE_any _).mono ?_
  rintro e w1 ⟨rfl, hb1⟩
  have HB1 : Hid (Below w.heap.size w w1) := hb1
  clear hb1
  go_wp2_with fail
  refine (checkT_any _ es _ (HS.out.later HB1.out) HM.out).mono ?_
  rintro e w2 ⟨rfl, hb2⟩
  have HB2 : Hid (Below w.heap.size w w2) := below_step HB1.out hb2
  clear hb2
  go_wp2_with fail
  refine (numberV_any _ es _ (HT.out.later HB2.out) (HS.out.later HB2.out) (by rw [HL.out]; omega) HU.out.fin).mono ?_
  rintro e w3 ⟨v3, y3, rfl, hn3, hy3, hb3⟩
  obtain ⟨a3, n3, c3, low3, neg3, nn3, rfl, hn3⟩ := isNum_form hn3
  have hy3 : y3 = some A := by rw [← HA.out]; exact hy3
  subst hy3
  have HB3 : Hid (Below w.heap.size w w3) := below_step HB2.out hb3
  have HN3 : Hid (IsNum w3 (.agg #[.slice a3 n3 c3, .int .i64 low3, .bool neg3, .bool nn3]) (some A)) := hn3
  have g3 : w3.cell? ⟨g, off + k, none⟩ = some (.float .f64 x) := cell_later HB3.out hc
  have hg3 : g < w3.heap.size := by have := HB3.out.size; omega
  have HC3 : Hid (Below w3.heap.size w3 (w3.alloc (.cells #[.slice a3 n3 c3, .int .i64 low3, .bool neg3, .bool nn3] 27))) := (Below.refl _ _).alloc (Nat.le_refl _) _
  clear hb3 hn3 HB1 HB2 hc
  go_wp2_with fail
  refine (ofW_any x _ (HT.out.later (below_step HB3.out HC3.out)) HXW.out).mono ?_
  rintro e w4 ⟨v4, y4, rfl, hn4, hy4, hb4⟩
  obtain ⟨a4, n4, c4, low4, neg4, nn4, rfl, hn4⟩ := isNum_form hn4
  have hy4 : y4 = some Bx := by rw [← HBx.out]; exact hy4.trans (if_pos HFX.out)
  subst hy4
  have HB4 : Hid (Below w.heap.size w w4) := below_step (below_step HB3.out HC3.out) hb4
  have HN4 : Hid (IsNum w4 (.agg #[.slice a4 n4 c4, .int .i64 low4, .bool neg4, .bool nn4]) (some Bx)) := hn4
  have HN3 : Hid (IsNum w4 (.agg #[.slice a3 n3 c3, .int .i64 low3, .bool neg3, .bool nn3]) (some A)) := HN3.out.later (thru HC3.out hb4)
  have p30 : w4.cell? ⟨w3.heap.size, 0, none⟩ = some (.slice a3 n3 c3) := cell_later hb4 (by go_simp)
  have p31 : w4.cell? ⟨w3.heap.size, 1, none⟩ = some (.int .i64 low3) := cell_later hb4 (by go_simp)
  have p32 : w4.cell? ⟨w3.heap.size, 2, none⟩ = some (.bool neg3) := cell_later hb4 (by go_simp)
  have p33 : w4.cell? ⟨w3.heap.size, 3, none⟩ = some (.bool nn3) := cell_later hb4 (by go_simp)
  have hs4 : w3.heap.size < w4.heap.size := by have := hb4.size; simp at this; omega
  have HC4 : Hid (Below w4.heap.size w4 (w4.alloc (.cells #[.slice a4 n4 c4, .int .i64 low4, .bool neg4, .bool nn4] 27))) := (Below.refl _ _).alloc (Nat.le_refl _) _
  clear hb4 hn4 g3 hg3 HC3
  go_wp2_with fail
  refine (sub_any _ _ _ _ _ (HN3.out.later HC4.out) (HN4.out.later HC4.out) (HT.out.later (below_step HB4.out HC4.out))).mono ?_
  rintro e w5 ⟨v5, y5, rfl, hn5, hy5, hb5⟩
  obtain ⟨a5, n5, c5, low5, neg5, nn5, rfl, hn5⟩ := isNum_form hn5
  have e5 := op2_may hy5 ((HDA.out.sub HDB.out).may (by omega) (by omega))
  subst e5
  clear hy5
  have HB5 : Hid (Below w.heap.size w w5) := below_step (below_step HB4.out HC4.out) hb5
  have HN5 : Hid (IsNum w5 (.agg #[.slice a5 n5 c5, .int .i64 low5, .bool neg5, .bool nn5]) (some (A - Bx))) := hn5
  have HN3 : Hid (IsNum w5 (.agg #[.slice a3 n3 c3, .int .i64 low3, .bool neg3, .bool nn3]) (some A)) := HN3.out.later (thru HC4.out hb5)
  have HN4 : Hid (IsNum w5 (.agg #[.slice a4 n4 c4, .int .i64 low4, .bool neg4, .bool nn4]) (some Bx)) := HN4.out.later (thru HC4.out hb5)
  have q30 : w5.cell? ⟨w3.heap.size, 0, none⟩ = some (.slice a3 n3 c3) := cell_later (thru HC4.out hb5) p30
  have q31 : w5.cell? ⟨w3.heap.size, 1, none⟩ = some (.int .i64 low3) := cell_later (thru HC4.out hb5) p31
  have q32 : w5.cell? ⟨w3.heap.size, 2, none⟩ = some (.bool neg3) := cell_later (thru HC4.out hb5) p32
  have q33 : w5.cell? ⟨w3.heap.size, 3, none⟩ = some (.bool nn3) := cell_later (thru HC4.out hb5) p33
  have q40 : w5.cell? ⟨w4.heap.size, 0, none⟩ = some (.slice a4 n4 c4) := cell_later hb5 (by go_simp)
  have q41 : w5.cell? ⟨w4.heap.size, 1, none⟩ = some (.int .i64 low4) := cell_later hb5 (by go_simp)
  have q42 : w5.cell? ⟨w4.heap.size, 2, none⟩ = some (.bool neg4) := cell_later hb5 (by go_simp)
  have q43 : w5.cell? ⟨w4.heap.size, 3, none⟩ = some (.bool nn4) := cell_later hb5 (by go_simp)
  have hs5 : w4.heap.size < w5.heap.size := by have := hb5.size; simp at this; omega
  have HC5 : Hid (Below w5.heap.size w5 (w5.alloc (.cells #[.slice a5 n5 c5, .int .i64 low5, .bool neg5, .bool nn5] 27))) := (Below.refl _ _).alloc (Nat.le_refl _) _
  clear hb5 hn5 HC4 p30 p31 p32 p33
  go_wp2_with fail
  refine (sign_any _ _ _ (HN5.out.later HC5.out)).mono ?_
  rw [show sgnR ((some (A - Bx)).getD 0) = sd from HSd.out]
  rintro e w6 ⟨rfl, hb6⟩
  have hc6 := thru HC5.out hb6
  have r30 : w6.cell? ⟨w3.heap.size, 0, none⟩ = some (.slice a3 n3 c3) := cell_later hc6 q30
  have r31 : w6.cell? ⟨w3.heap.size, 1, none⟩ = some (.int .i64 low3) := cell_later hc6 q31
  have r32 : w6.cell? ⟨w3.heap.size, 2, none⟩ = some (.bool neg3) := cell_later hc6 q32
  have r33 : w6.cell? ⟨w3.heap.size, 3, none⟩ = some (.bool nn3) := cell_later hc6 q33
  have r40 : w6.cell? ⟨w4.heap.size, 0, none⟩ = some (.slice a4 n4 c4) := cell_later hc6 q40
  have r41 : w6.cell? ⟨w4.heap.size, 1, none⟩ = some (.int .i64 low4) := cell_later hc6 q41
  have r42 : w6.cell? ⟨w4.heap.size, 2, none⟩ = some (.bool neg4) := cell_later hc6 q42
  have r43 : w6.cell? ⟨w4.heap.size, 3, none⟩ = some (.bool nn4) := cell_later hc6 q43
  have r50 : w6.cell? ⟨w5.heap.size, 0, none⟩ = some (.slice a5 n5 c5) := cell_later hb6 (by go_simp)
  have r51 : w6.cell? ⟨w5.heap.size, 1, none⟩ = some (.int .i64 low5) := cell_later hb6 (by go_simp)
  have r52 : w6.cell? ⟨w5.heap.size, 2, none⟩ = some (.bool neg5) := cell_later hb6 (by go_simp)
  have r53 : w6.cell? ⟨w5.heap.size, 3, none⟩ = some (.bool nn5) := cell_later hb6 (by go_simp)
  have HB6 : Hid (Below w.heap.size w w6) := below_step HB5.out hc6
  have HN3 : Hid (IsNum w6 (.agg #[.slice a3 n3 c3, .int .i64 low3, .bool neg3, .bool nn3]) (some A)) := HN3.out.later hc6
  have HN4 : Hid (IsNum w6 (.agg #[.slice a4 n4 c4, .int .i64 low4, .bool neg4, .bool nn4]) (some Bx)) := HN4.out.later hc6
  have HN5 : Hid (IsNum w6 (.agg #[.slice a5 n5 c5, .int .i64 low5, .bool neg5, .bool nn5]) (some (A - Bx))) := HN5.out.later hc6
  have rf6 : ∀ i, w6.frozen? ⟨w5.heap.size, i, none⟩ = false := fun i => frozen_later hb6 (by go_simp) (by simp)
  have hs6 : w5.heap.size < w6.heap.size := by have := hb6.size; simp at this; omega
  clear hc6 hb6 HC5 q30 q31 q32 q33 q40 q41 q42 q43
  go_wp2_with fail
  refine (neg_any _ _ _ HN5.out).mono ?_
  rintro e w7 ⟨v7, y7, rfl, hn7, hy7, hb7⟩
  obtain ⟨a7, n7, c7, low7, neg7, nn7, rfl, hn7⟩ := isNum_form hn7
  have hy7 : y7 = some (-(A - Bx)) := hy7
  subst hy7
  have hs7 : w5.heap.size < w7.heap.size := by have := hb7.size; omega
  have rf7 : ∀ i, w7.frozen? ⟨w5.heap.size, i, none⟩ = false := fun i => frozen_later hb7 (rf6 i) (by show w5.heap.size < w6.heap.size; omega)
  have rf70 := rf7 0
  have rf71 := rf7 1
  have rf72 := rf7 2
  have rf73 := rf7 3
  have s30 : w7.cell? ⟨w3.heap.size, 0, none⟩ = some (.slice a3 n3 c3) := cell_later hb7 r30
  have s31 : w7.cell? ⟨w3.heap.size, 1, none⟩ = some (.int .i64 low3) := cell_later hb7 r31
  have s32 : w7.cell? ⟨w3.heap.size, 2, none⟩ = some (.bool neg3) := cell_later hb7 r32
  have s33 : w7.cell? ⟨w3.heap.size, 3, none⟩ = some (.bool nn3) := cell_later hb7 r33
  have s40 : w7.cell? ⟨w4.heap.size, 0, none⟩ = some (.slice a4 n4 c4) := cell_later hb7 r40
  have s41 : w7.cell? ⟨w4.heap.size, 1, none⟩ = some (.int .i64 low4) := cell_later hb7 r41
  have s42 : w7.cell? ⟨w4.heap.size, 2, none⟩ = some (.bool neg4) := cell_later hb7 r42
  have s43 : w7.cell? ⟨w4.heap.size, 3, none⟩ = some (.bool nn4) := cell_later hb7 r43
  have s50 : w7.cell? ⟨w5.heap.size, 0, none⟩ = some (.slice a5 n5 c5) := cell_later hb7 r50
  have s51 : w7.cell? ⟨w5.heap.size, 1, none⟩ = some (.int .i64 low5) := cell_later hb7 r51
  have s52 : w7.cell? ⟨w5.heap.size, 2, none⟩ = some (.bool neg5) := cell_later hb7 r52
  have s53 : w7.cell? ⟨w5.heap.size, 3, none⟩ = some (.bool nn5) := cell_later hb7 r53
  clear rf7 rf6 r30 r31 r32 r33 r40 r41 r42 r43 r50 r51 r52 r53
  go_upto_region 10 with fail
  obtain ⟨z50, z51, z52, z53⟩ := set4_cells s50 s51 s52 s53 (.slice a7 n7 c7) (.int .i64 low7) (.bool neg7) (.bool nn7)
  have z30 : ((((w7.setCell ⟨w5.heap.size, 0, none⟩ (.slice a7 n7 c7)).setCell ⟨w5.heap.size, 1, none⟩ (.int .i64 low7)).setCell ⟨w5.heap.size, 2, none⟩ (.bool neg7)).setCell ⟨w5.heap.size, 3, none⟩ (.bool nn7)).cell? ⟨w3.heap.size, 0, none⟩ = some (.slice a3 n3 c3) := cell_other (cell_other (cell_other (cell_other s30 (by show w3.heap.size ≠ w5.heap.size; omega) _) (by show w3.heap.size ≠ w5.heap.size; omega) _) (by show w3.heap.size ≠ w5.heap.size; omega) _) (by show w3.heap.size ≠ w5.heap.size; omega) _
  have z31 : ((((w7.setCell ⟨w5.heap.size, 0, none⟩ (.slice a7 n7 c7)).setCell ⟨w5.heap.size, 1, none⟩ (.int .i64 low7)).setCell ⟨w5.heap.size, 2, none⟩ (.bool neg7)).setCell ⟨w5.heap.size, 3, none⟩ (.bool nn7)).cell? ⟨w3.heap.size, 1, none⟩ = some (.int .i64 low3) := cell_other (cell_other (cell_other (cell_other s31 (by show w3.heap.size ≠ w5.heap.size; omega) _) (by show w3.heap.size ≠ w5.heap.size; omega) _) (by show w3.heap.size ≠ w5.heap.size; omega) _) (by show w3.heap.size ≠ w5.heap.size; omega) _
  have z32 : ((((w7.setCell ⟨w5.heap.size, 0, none⟩ (.slice a7 n7 c7)).setCell ⟨w5.heap.size, 1, none⟩ (.int .i64 low7)).setCell ⟨w5.heap.size, 2, none⟩ (.bool neg7)).setCell ⟨w5.heap.size, 3, none⟩ (.bool nn7)).cell? ⟨w3.heap.size, 2, none⟩ = some (.bool neg3) := cell_other (cell_other (cell_other (cell_other s32 (by show w3.heap.size ≠ w5.heap.size; omega) _) (by show w3.heap.size ≠ w5.heap.size; omega) _) (by show w3.heap.size ≠ w5.heap.size; omega) _) (by show w3.heap.size ≠ w5.heap.size; omega) _
  have z33 : ((((w7.setCell ⟨w5.heap.size, 0, none⟩ (.slice a7 n7 c7)).setCell ⟨w5.heap.size, 1, none⟩ (.int .i64 low7)).setCell ⟨w5.heap.size, 2, none⟩ (.bool neg7)).setCell ⟨w5.heap.size, 3, none⟩ (.bool nn7)).cell? ⟨w3.heap.size, 3, none⟩ = some (.bool nn3) := cell_other (cell_other (cell_other (cell_other s33 (by show w3.heap.size ≠ w5.heap.size; omega) _) (by show w3.heap.size ≠ w5.heap.size; omega) _) (by show w3.heap.size ≠ w5.heap.size; omega) _) (by show w3.heap.size ≠ w5.heap.size; omega) _
  have z40 : ((((w7.setCell ⟨w5.heap.size, 0, none⟩ (.slice a7 n7 c7)).setCell ⟨w5.heap.size, 1, none⟩ (.int .i64 low7)).setCell ⟨w5.heap.size, 2, none⟩ (.bool neg7)).setCell ⟨w5.heap.size, 3, none⟩ (.bool nn7)).cell? ⟨w4.heap.size, 0, none⟩ = some (.slice a4 n4 c4) := cell_other (cell_other (cell_other (cell_other s40 (by show w4.heap.size ≠ w5.heap.size; omega) _) (by show w4.heap.size ≠ w5.heap.size; omega) _) (by show w4.heap.size ≠ w5.heap.size; omega) _) (by show w4.heap.size ≠ w5.heap.size; omega) _
  have z41 : ((((w7.setCell ⟨w5.heap.size, 0, none⟩ (.slice a7 n7 c7)).setCell ⟨w5.heap.size, 1, none⟩ (.int .i64 low7)).setCell ⟨w5.heap.size, 2, none⟩ (.bool neg7)).setCell ⟨w5.heap.size, 3, none⟩ (.bool nn7)).cell? ⟨w4.heap.size, 1, none⟩ = some (.int .i64 low4) := cell_other (cell_other (cell_other (cell_other s41 (by show w4.heap.size ≠ w5.heap.size; omega) _) (by show w4.heap.size ≠ w5.heap.size; omega) _) (by show w4.heap.size ≠ w5.heap.size; omega) _) (by show w4.heap.size ≠ w5.heap.size; omega) _
  have z42 : ((((w7.setCell ⟨w5.heap.size, 0, none⟩ (.slice a7 n7 c7)).setCell ⟨w5.heap.size, 1, none⟩ (.int .i64 low7)).setCell ⟨w5.heap.size, 2, none⟩ (.bool neg7)).setCell ⟨w5.heap.size, 3, none⟩ (.bool nn7)).cell? ⟨w4.heap.size, 2, none⟩ = some (.bool neg4) := cell_other (cell_other (cell_other (cell_other s42 (by show w4.heap.size ≠ w5.heap.size; omega) _) (by show w4.heap.size ≠ w5.heap.size; omega) _) (by show w4.heap.size ≠ w5.heap.size; omega) _) (by show w4.heap.size ≠ w5.heap.size; omega) _
  have z43 : ((((w7.setCell ⟨w5.heap.size, 0, none⟩ (.slice a7 n7 c7)).setCell ⟨w5.heap.size, 1, none⟩ (.int .i64 low7)).setCell ⟨w5.heap.size, 2, none⟩ (.bool neg7)).setCell ⟨w5.heap.size, 3, none⟩ (.bool nn7)).cell? ⟨w4.heap.size, 3, none⟩ = some (.bool nn4) := cell_other (cell_other (cell_other (cell_other s43 (by show w4.heap.size ≠ w5.heap.size; omega) _) (by show w4.heap.size ≠ w5.heap.size; omega) _) (by show w4.heap.size ≠ w5.heap.size; omega) _) (by show w4.heap.size ≠ w5.heap.size; omega) _
  have HBC : Hid (Below w.heap.size w ((((w7.setCell ⟨w5.heap.size, 0, none⟩ (.slice a7 n7 c7)).setCell ⟨w5.heap.size, 1, none⟩ (.int .i64 low7)).setCell ⟨w5.heap.size, 2, none⟩ (.bool neg7)).setCell ⟨w5.heap.size, 3, none⟩ (.bool nn7))) := by
    have h5 : w.heap.size ≤ w5.heap.size := HB5.out.size
    exact ((((below_step HB6.out hb7).setCell h5 _).setCell h5 _).setCell h5 _).setCell h5 _
  have HN3 : Hid (IsNum ((((w7.setCell ⟨w5.heap.size, 0, none⟩ (.slice a7 n7 c7)).setCell ⟨w5.heap.size, 1, none⟩ (.int .i64 low7)).setCell ⟨w5.heap.size, 2, none⟩ (.bool neg7)).setCell ⟨w5.heap.size, 3, none⟩ (.bool nn7)) (.agg #[.slice a3 n3 c3, .int .i64 low3, .bool neg3, .bool nn3]) (some A)) := isNum_set4g (HN3.out.later hb7) s50 s51 s52 s53 _ _ _ _
  have HN4 : Hid (IsNum ((((w7.setCell ⟨w5.heap.size, 0, none⟩ (.slice a7 n7 c7)).setCell ⟨w5.heap.size, 1, none⟩ (.int .i64 low7)).setCell ⟨w5.heap.size, 2, none⟩ (.bool neg7)).setCell ⟨w5.heap.size, 3, none⟩ (.bool nn7)) (.agg #[.slice a4 n4 c4, .int .i64 low4, .bool neg4, .bool nn4]) (some Bx)) := isNum_set4g (HN4.out.later hb7) s50 s51 s52 s53 _ _ _ _
  have HN7 : Hid (IsNum ((((w7.setCell ⟨w5.heap.size, 0, none⟩ (.slice a7 n7 c7)).setCell ⟨w5.heap.size, 1, none⟩ (.int .i64 low7)).setCell ⟨w5.heap.size, 2, none⟩ (.bool neg7)).setCell ⟨w5.heap.size, 3, none⟩ (.bool nn7)) (.agg #[.slice a7 n7 c7, .int .i64 low7, .bool neg7, .bool nn7]) (some (-(A - Bx)))) := isNum_set4g hn7 s50 s51 s52 s53 _ _ _ _
  clear hb7 hn7 HN5 HB6 HB5 HB4 HB3 s30 s31 s32 s33 s40 s41 s42 s43 s50 s51 s52 s53
  clear rf70 rf71 rf72 rf73
  generalize ((((w7.setCell ⟨w5.heap.size, 0, none⟩ (.slice a7 n7 c7)).setCell ⟨w5.heap.size, 1, none⟩ (.int .i64 low7)).setCell ⟨w5.heap.size, 2, none⟩ (.bool neg7)).setCell ⟨w5.heap.size, 3, none⟩ (.bool nn7)) = wq at *
  have HD : Hid (-(A - Bx) = ab (A - Bx)) := by
    have h1 : sgnR (A - Bx) < 0 := by rw [HSd.out]; omega
    show _ = _
    unfold sgnR cmpR at h1
    unfold ab
    grind
  refine wp_region_held_drew (S := (fun W => W.cell? ⟨w3.heap.size, 0, none⟩ = some (.slice a3 n3 c3) ∧ W.cell? ⟨w3.heap.size, 1, none⟩ = some (.int .i64 low3) ∧ W.cell? ⟨w3.heap.size, 2, none⟩ = some (.bool neg3) ∧ W.cell? ⟨w3.heap.size, 3, none⟩ = some (.bool nn3) ∧ W.cell? ⟨w4.heap.size, 0, none⟩ = some (.slice a4 n4 c4) ∧ W.cell? ⟨w4.heap.size, 1, none⟩ = some (.int .i64 low4) ∧ W.cell? ⟨w4.heap.size, 2, none⟩ = some (.bool neg4) ∧ W.cell? ⟨w4.heap.size, 3, none⟩ = some (.bool nn4) ∧ W.cell? ⟨w5.heap.size, 0, none⟩ = some (.slice a7 n7 c7) ∧ W.cell? ⟨w5.heap.size, 1, none⟩ = some (.int .i64 low7) ∧ W.cell? ⟨w5.heap.size, 2, none⟩ = some (.bool neg7) ∧ W.cell? ⟨w5.heap.size, 3, none⟩ = some (.bool nn7) ∧ Below wq.heap.size wq W)) (by kernel_rfl) ⟨z30, z31, z32, z33, z40, z41, z42, z43, z50, z51, z52, z53, (Below.refl _ _).drew⟩ (fun hS => ?_)
  refine take_at (i := 0) (d := some 47) (v := .agg #[.slice a4 n4 c4, .int .i64 low4, .bool neg4, .bool nn4]) (by kernel_rfl) (by kernel_rfl) (by kernel_rfl) (by kernel_rfl) (fun _ _ _ h => h) ?_ hS ?_
  · intro o ho
    simp only [List.getElem?_toArray, List.getElem?_cons_zero, Option.some.injEq] at ho
    subst ho
    refine Or.inl ⟨by rfl, ?_⟩
    intro w hSw
    (try dsimp only at hSw)
    go_simp
  simp only [Act.put, List.setIfInBounds_toArray, List.set_cons_zero, List.set_cons_succ]
  refine take_at (i := 2) (d := some 49) (v := .agg #[.slice a3 n3 c3, .int .i64 low3, .bool neg3, .bool nn3]) (by kernel_rfl) (by kernel_rfl) (by kernel_rfl) (by kernel_rfl) (fun _ _ _ h => h) ?_ hS ?_
  · intro o ho
    simp only [List.getElem?_toArray, List.getElem?_cons_succ, List.getElem?_cons_zero, Option.some.injEq] at ho
    subst ho
    refine Or.inl ⟨by rfl, ?_⟩
    intro w hSw
    (try dsimp only at hSw)
    go_simp
  simp only [Act.put, List.setIfInBounds_toArray, List.set_cons_zero, List.set_cons_succ]
  refine call_at 1 (by kernel_rfl) (by kernel_rfl) ?_
  intro o ho
  simp only [List.getElem?_toArray, List.getElem?_cons_succ, List.getElem?_cons_zero, Option.some.injEq] at ho
  subst ho
  intro KF hK
  go_simp
  refine (sign_any _ _ _ (HN4.out.later (keep12_bel hS))).mono ?_
  rw [show sgnR ((some Bx).getD 0) = sa from (HG.out.trans HSa.out)]
  rintro e wx ⟨rfl, hbx⟩
  go_wp2_with fail
  refine hK.out _ _ (keep12 hS hbx) ?_
  clear hS hbx
  intro hS
  clear hK KF
  try simp only [Act.put, List.setIfInBounds_toArray, List.set_cons_zero, List.set_cons_succ]
  refine call_at 3 (by kernel_rfl) (by kernel_rfl) ?_
  intro o ho
  simp only [List.getElem?_toArray, List.getElem?_cons_succ, List.getElem?_cons_zero, Option.some.injEq] at ho
  subst ho
  intro KF hK
  go_simp
  refine (sign_any _ _ _ (HN3.out.later (keep12_bel hS))).mono ?_
  rw [show sgnR ((some A).getD 0) = sa from HSa.out]
  rintro e wx ⟨rfl, hbx⟩
  go_wp2_with fail
  refine hK.out _ _ (keep12 hS hbx) ?_
  clear hS hbx
  intro hS
  clear hK KF
  try simp only [Act.put, List.setIfInBounds_toArray, List.set_cons_zero, List.set_cons_succ]
  refine take_at (i := 4) (d := some 51) (v := .bool true) (by kernel_rfl) (by kernel_rfl) (by kernel_rfl) (by kernel_rfl) (fun _ _ _ h => h) ?_ hS ?_
  · intro o ho
    simp only [List.getElem?_toArray, List.getElem?_cons_succ, List.getElem?_cons_zero, Option.some.injEq] at ho
    subst ho
    refine Or.inl ⟨by rfl, ?_⟩
    intro w hSw
    (try dsimp only at hSw)
    go_simp
  simp only [Act.put, List.setIfInBounds_toArray, List.set_cons_zero, List.set_cons_succ]
  refine take_at (i := 5) (d := some 52) (v := .bool true) (by kernel_rfl) (by kernel_rfl) (by kernel_rfl) (by kernel_rfl) (fun _ _ _ h => h) ?_ hS ?_
  · intro o ho
    simp only [List.getElem?_toArray, List.getElem?_cons_succ, List.getElem?_cons_zero, Option.some.injEq] at ho
    subst ho
    refine Or.inl ⟨by rfl, ?_⟩
    intro w hSw
    (try dsimp only at hSw)
    go_simp
  simp only [Act.put, List.setIfInBounds_toArray, List.set_cons_zero, List.set_cons_succ]
  refine take_at (i := 6) (d := some 53) (v := .slice (some ⟨g, off, none⟩) (k + 1) c0) (by kernel_rfl) (by kernel_rfl) (by kernel_rfl) (by kernel_rfl) (fun _ _ _ h => h) ?_ hS ?_
  · intro o ho
    simp only [List.getElem?_toArray, List.getElem?_cons_succ, List.getElem?_cons_zero, Option.some.injEq] at ho
    subst ho
    refine Or.inl ⟨by rfl, ?_⟩
    intro w hSw
    (try dsimp only at hSw)
    go_simp
  simp only [Act.put, List.setIfInBounds_toArray, List.set_cons_zero, List.set_cons_succ]
  refine take_at (i := 8) (d := some 55) (v := .agg #[.slice a3 n3 c3, .int .i64 low3, .bool neg3, .bool nn3]) (by kernel_rfl) (by kernel_rfl) (by kernel_rfl) (by kernel_rfl) (fun _ _ _ h => h) ?_ hS ?_
  · intro o ho
    simp only [List.getElem?_toArray, List.getElem?_cons_succ, List.getElem?_cons_zero, Option.some.injEq] at ho
    subst ho
    refine Or.inl ⟨by rfl, ?_⟩
    intro w hSw
    (try dsimp only at hSw)
    go_simp
  simp only [Act.put, List.setIfInBounds_toArray, List.set_cons_zero, List.set_cons_succ]
  refine call_at 7 (by kernel_rfl) (by kernel_rfl) ?_
  intro o ho
  simp only [List.getElem?_toArray, List.getElem?_cons_succ, List.getElem?_cons_zero, Option.some.injEq] at ho
  subst ho
  intro KF hK
  go_simp
  refine (signS_any _ es _ sa (HS.out.later (thru HBC.out (keep12_bel hS))) HM.out HSV.out).mono ?_
  rintro e wx ⟨rfl, hbx⟩
  go_wp2_with fail
  refine hK.out _ _ (keep12 hS hbx) ?_
  clear hS hbx
  intro hS
  clear hK KF
  try simp only [Act.put, List.setIfInBounds_toArray, List.set_cons_zero, List.set_cons_succ]
  refine call_at 9 (by kernel_rfl) (by kernel_rfl) ?_
  intro o ho
  simp only [List.getElem?_toArray, List.getElem?_cons_succ, List.getElem?_cons_zero, Option.some.injEq] at ho
  subst ho
  intro KF hK
  go_simp
  refine (sign_any _ _ _ (HN3.out.later (keep12_bel hS))).mono ?_
  rw [show sgnR ((some A).getD 0) = sa from HSa.out]
  rintro e wx ⟨rfl, hbx⟩
  go_wp2_with fail
  refine hK.out _ _ (keep12 hS hbx) ?_
  clear hS hbx
  intro hS
  clear hK KF
  try simp only [Act.put, List.setIfInBounds_toArray, List.set_cons_zero, List.set_cons_succ]
  refine take_at (i := 10) (d := some 57) (v := .bool true) (by kernel_rfl) (by kernel_rfl) (by kernel_rfl) (by kernel_rfl) (fun _ _ _ h => h) ?_ hS ?_
  · intro o ho
    simp only [List.getElem?_toArray, List.getElem?_cons_succ, List.getElem?_cons_zero, Option.some.injEq] at ho
    subst ho
    refine Or.inl ⟨by rfl, ?_⟩
    intro w hSw
    (try dsimp only at hSw)
    go_simp
  simp only [Act.put, List.setIfInBounds_toArray, List.set_cons_zero, List.set_cons_succ]
  refine take_at (i := 11) (d := some 58) (v := .bool true) (by kernel_rfl) (by kernel_rfl) (by kernel_rfl) (by kernel_rfl) (fun _ _ _ h => h) ?_ hS ?_
  · intro o ho
    simp only [List.getElem?_toArray, List.getElem?_cons_succ, List.getElem?_cons_zero, Option.some.injEq] at ho
    subst ho
    refine Or.inl ⟨by rfl, ?_⟩
    intro w hSw
    (try dsimp only at hSw)
    go_simp
  simp only [Act.put, List.setIfInBounds_toArray, List.set_cons_zero, List.set_cons_succ]
  refine take_at (i := 12) (d := some 59) (v := .bool true) (by kernel_rfl) (by kernel_rfl) (by kernel_rfl) (by kernel_rfl) (fun _ _ _ h => h) ?_ hS ?_
  · intro o ho
    simp only [List.getElem?_toArray, List.getElem?_cons_succ, List.getElem?_cons_zero, Option.some.injEq] at ho
    subst ho
    refine Or.inl ⟨by rfl, ?_⟩
    intro w hSw
    (try dsimp only at hSw)
    go_simp
  simp only [Act.put, List.setIfInBounds_toArray, List.set_cons_zero, List.set_cons_succ]
  refine take_at (i := 13) (d := some 60) (v := .agg #[.slice a7 n7 c7, .int .i64 low7, .bool neg7, .bool nn7]) (by kernel_rfl) (by kernel_rfl) (by kernel_rfl) (by kernel_rfl) (fun _ _ _ h => h) ?_ hS ?_
  · intro o ho
    simp only [List.getElem?_toArray, List.getElem?_cons_succ, List.getElem?_cons_zero, Option.some.injEq] at ho
    subst ho
    refine Or.inl ⟨by rfl, ?_⟩
    intro w hSw
    (try dsimp only at hSw)
    go_simp
  simp only [Act.put, List.setIfInBounds_toArray, List.set_cons_zero, List.set_cons_succ]
  refine take_at (i := 15) (d := some 62) (v := .agg #[.slice a4 n4 c4, .int .i64 low4, .bool neg4, .bool nn4]) (by kernel_rfl) (by kernel_rfl) (by kernel_rfl) (by kernel_rfl) (fun _ _ _ h => h) ?_ hS ?_
  · intro o ho
    simp only [List.getElem?_toArray, List.getElem?_cons_succ, List.getElem?_cons_zero, Option.some.injEq] at ho
    subst ho
    refine Or.inl ⟨by rfl, ?_⟩
    intro w hSw
    (try dsimp only at hSw)
    go_simp
  simp only [Act.put, List.setIfInBounds_toArray, List.set_cons_zero, List.set_cons_succ]
  refine call_at 14 (by kernel_rfl) (by kernel_rfl) ?_
  intro o ho
  simp only [List.getElem?_toArray, List.getElem?_cons_succ, List.getElem?_cons_zero, Option.some.injEq] at ho
  subst ho
  intro KF hK
  go_simp
  refine (int_any 1 _ (HT.out.later (thru HBC.out (keep12_bel hS))) (by omega) (by omega)).mono ?_
  rintro e wx ⟨v61, y61, rfl, hn61, hy61, hbx⟩
  obtain ⟨a61, n61, c61, low61, neg61, nn61, rfl, hn61⟩ := isNum_form hn61
  subst hy61
  go_wp2_with fail
  refine hK.out _ _ (keep12 hS hbx) ?_
  clear hS hbx
  intro hS
  clear hK KF
  try simp only [Act.put, List.setIfInBounds_toArray, List.set_cons_zero, List.set_cons_succ]
  refine call_at 16 (by kernel_rfl) (by kernel_rfl) ?_
  intro o ho
  simp only [List.getElem?_toArray, List.getElem?_cons_succ, List.getElem?_cons_zero, Option.some.injEq] at ho
  subst ho
  intro KF hK
  go_simp
  refine (low_any _ _ _ (HN4.out.later (keep12_bel hS))).mono ?_
  rintro e wx ⟨⟨l, rfl, hlo⟩, hbx⟩
  have HLX : Hid (-1074 ≤ l ∧ l ≤ 1024 ∧ ab (A - Bx) < p2 l) := HLW.out l hlo
  clear hlo
  have hn61 := hn61.later hbx
  go_wp2_with fail
  refine hK.out _ _ (keep12 hS hbx) ?_
  clear hS hbx
  intro hS
  clear hK KF
  try simp only [Act.put, List.setIfInBounds_toArray, List.set_cons_zero, List.set_cons_succ]
  refine call_at 17 (by kernel_rfl) (by kernel_rfl) ?_
  intro o ho
  simp only [List.getElem?_toArray, List.getElem?_cons_succ, List.getElem?_cons_zero, Option.some.injEq] at ho
  subst ho
  intro KF hK
  go_simp
  refine (shift_any _ _ _ _ hn61).mono ?_
  rintro e wx ⟨v64, y64, rfl, hn64, hy64, hbx⟩
  obtain ⟨a64, n64, c64, low64, neg64, nn64, rfl, hn64⟩ := isNum_form hn64
  have e64 := shiftX_may hy64 (((int_bd 1 (by omega) (by omega)).shift l).may (by have := HLX.out; omega) (by have := HLX.out; omega))
  subst e64
  clear hy64
  clear hn61
  go_wp2_with fail
  refine hK.out _ _ (keep12 hS hbx) ?_
  clear hS hbx
  intro hS
  clear hK KF
  try simp only [Act.put, List.setIfInBounds_toArray, List.set_cons_zero, List.set_cons_succ]
  refine call_at 18 (by kernel_rfl) (by kernel_rfl) ?_
  intro o ho
  simp only [List.getElem?_toArray, List.getElem?_cons_succ, List.getElem?_cons_zero, Option.some.injEq] at ho
  subst ho
  intro KF hK
  go_simp
  refine (cmp_any _ _ _ _ _ (HN7.out.later (keep12_bel hS)) hn64).mono ?_
  rw [show CmpX (some (-(A - Bx))) (some (((1 : Int) : Rat) * p2 l)) = -1 from (cmp_less (by rw [HD.out, show ((1 : Int) : Rat) = 1 from rfl, Rat.one_mul]; exact HLX.out.2.2))]
  rintro e wx ⟨rfl, hbx⟩
  clear hn64
  go_wp2_with fail
  refine hK.out _ _ (keep12 hS hbx) ?_
  clear hS hbx
  intro hS
  clear hK KF
  try simp only [Act.put, List.setIfInBounds_toArray, List.set_cons_zero, List.set_cons_succ]
  refine take_at (i := 19) (d := some 66) (v := .bool true) (by kernel_rfl) (by kernel_rfl) (by kernel_rfl) (by kernel_rfl) (fun _ _ _ h => h) ?_ hS ?_
  · intro o ho
    simp only [List.getElem?_toArray, List.getElem?_cons_succ, List.getElem?_cons_zero, Option.some.injEq] at ho
    subst ho
    refine Or.inl ⟨by rfl, ?_⟩
    intro w hSw
    (try dsimp only at hSw)
    go_simp
  simp only [Act.put, List.setIfInBounds_toArray, List.set_cons_zero, List.set_cons_succ]
  refine take_at (i := 20) (d := some 67) (v := .bool true) (by kernel_rfl) (by kernel_rfl) (by kernel_rfl) (by kernel_rfl) (fun _ _ _ h => h) ?_ hS ?_
  · intro o ho
    simp only [List.getElem?_toArray, List.getElem?_cons_succ, List.getElem?_cons_zero, Option.some.injEq] at ho
    subst ho
    refine Or.inl ⟨by rfl, ?_⟩
    intro w hSw
    (try dsimp only at hSw)
    go_simp
  simp only [Act.put, List.setIfInBounds_toArray, List.set_cons_zero, List.set_cons_succ]
  refine take_at (i := 21) (d := some 2) (v := .bool true) (by kernel_rfl) (by kernel_rfl) (by kernel_rfl) (by kernel_rfl) (fun _ _ _ h => h) ?_ hS ?_
  · intro o ho
    simp only [List.getElem?_toArray, List.getElem?_cons_succ, List.getElem?_cons_zero, Option.some.injEq] at ho
    subst ho
    refine Or.inl ⟨by rfl, ?_⟩
    intro w hSw
    (try dsimp only at hSw)
    go_simp
  simp only [Act.put, List.setIfInBounds_toArray, List.set_cons_zero, List.set_cons_succ]
  refine wpAnyH_done (by kernel_rfl) ?_ _
  go_wp2
  go_ret
  exact ⟨rfl, thru HBC.out (keep12_bel hS)⟩

theorem leads_law (s : Value) (es : List Nat) (w : World) (hT : Tab w) (hs : Fs w s es) : Calls Tryd.prog 7 #[s] w fun e w' => e = .returned (.bool true) ∧ Below w.heap.size w w' := by
  have HS := hs
  obtain ⟨⟨a, c, rfl, hc, hm, hf⟩, hw⟩ := hs
  by_cases hl : 100 < es.length
  · exact leads_long a _ c w hl
  by_cases hmc : MayC es
  · by_cases h0 : es = []
    · subst h0
      exact leads_none a c w hT HS hmc
    · obtain ⟨k, hk⟩ : ∃ k, es.length = k + 1 := ⟨es.length - 1, by have : es.length ≠ 0 := fun h => h0 (List.eq_nil_of_length_eq_zero h); omega⟩
      rcases hf with hf | ⟨g, off, rfl, hf⟩
      · exact absurd hf h0
      · have hcx := hf k (by omega)
        have hlw : lastW es = es.getD k 0 := by unfold lastW; rw [hk]; rfl
        rw [hk] at HS ⊢
        rw [← hlw] at hcx
        by_cases hsg : sgnR ((vals es).sum - fval (lastW es)) < 0
        · exact leads_neg g off k c (lastW es) es w hT HS (by omega) hk rfl (hw _ (lastW_mem h0)) hcx hmc hsg
        · exact leads_pos g off k c (lastW es) es w hT HS (by omega) hk rfl (hw _ (lastW_mem h0)) hcx hmc hsg
  · exact leads_not a _ c es w (by omega) HS hmc

end Go.Proofs.YtmcllgoeldfgmaaDoor

/- What the rows of this seat share: the table that the condition lays, the door's own heap, floats that came in an array. -/
namespace Go.Proofs.YtmcllgoeldfgmaaDoor
open Go.ChangeShapes Go.WideShapes Go.ChangeAt Go.WideMaps Go.WideElems Go.RowKit

theorem own : ownKnob Tryd.prog.godebug = none := by kernel_rfl
theorem laidOut : laidOutB Tryd.prog = true := by kernel_rfl
abbrev laidTab : List (String × DataW Unit) := [("math/bits.deBruijn64tab", Rows.laid_math_bits_deBruijn64tab)]
theorem gTab : Tryd.prog.globalNamed "math/bits.deBruijn64tab" = some 1 := by kernel_rfl
theorem tTab : (Tryd.prog.globals[1]?).map (·.type) = some 109 := by kernel_rfl
theorem uTab : Tryd.prog.underlying 109 = some (.array 64 5) := by kernel_rfl
theorem uByte : Tryd.prog.underlying 5 = some (.int .u8) := by kernel_rfl
theorem cByte : Tryd.prog.cellsOf 5 = 1 := by kernel_rfl
theorem cTab : Tryd.prog.cellsOf 109 = 64 := by kernel_rfl

/-- The door's own heap meets the condition. -/
theorem door_met (os : Os) (args : Array Value) : laidMetH Tryd.prog laidTab ((World.doorLaid Tryd.prog 400 os).forCall (fun _ _ => 0) ⟨#[], args, []⟩).memory :=
  laidMetH_of_parts3 (fuel := 8) (laidMet_of_run' 8 (by kernel_rfl) (by kernel_rfl)) (by kernel_rfl) (by kernel_rfl)

/-- What the condition gives the walks. -/
theorem tab_of_laid {W : World} (h : laidMetH Tryd.prog laidTab W) : Tab W := by
  rw [MakeChecks.laidMetH_plain _ _ _ (by kernel_rfl)] at h
  have h' : laidMet Tryd.prog (("math/bits.deBruijn64tab", Lib.tabData .u8 (Lib.deBruijn64tab.map (fun (n : Nat) => (n : Int)))) :: []) W := h
  have hT := Lib.tabIs_of_head gTab tTab uTab uByte cByte cTab h'
  intro j hj
  have := hT.cell gTab j (by simpa using hj)
  rw [this]
  simp [List.getD, List.getElem?_map]
  cases Lib.deBruijn64tab[j]? <;> simp

theorem floats_list : ∀ (l : List Value), (∀ i, i < l.length → ∃ b, l[i]? = some (.float .f64 b) ∧ b < 18446744073709551616) → ∃ bs : List Nat, l = bs.map (Value.float .f64 ·) ∧ ∀ b ∈ bs, b < 18446744073709551616
  | [], _ => ⟨[], rfl, by simp⟩
  | c :: l, h => by
    obtain ⟨bs, rfl, hb⟩ := floats_list l (fun i hi => by simpa using h (i + 1) (by simpa using hi))
    obtain ⟨b, e, hb'⟩ := h 0 (by simp)
    simp at e
    exact ⟨b :: bs, by simp [e], by simpa using ⟨hb', hb⟩⟩

theorem float_of_trod {H : Type} {enc : TypeId × Value → H} {P : Program} {w : World} {base m : Nat} {sp : Nat → Bool} {held : Bool} {e : TypeId} {c : Value} {x : DataW H × List MemPlace}
    (he : P.underlying e = some (.float .f64)) (h : DataW.trod enc P w base sp held m e [c] = some x) : ∃ b, c = .float .f64 b ∧ b < 18446744073709551616 := by
  cases m with
  | zero => simp [DataW.trod] at h
  | succ m =>
    unfold DataW.trod at h
    rw [he] at h
    cases c with
    | float k b =>
      simp only [] at h
      split at h
      · rename_i hk
        obtain ⟨rfl, hw⟩ := hk
        exact ⟨b, rfl, by simpa [Lit.wf, FloatKind.has] using hw⟩
      · cases h
    | _ => simp at h

theorem open_floats {H : Type} {enc : TypeId × Value → H} {P : Program} {w : World} {base b0 : Nat} {sp : Nat → Bool} {held : Bool} {r : Reach} {t e : TypeId} {n : Nat} {v : Value} {d : DataW H} {ps : List MemPlace}
    (ht : P.underlying t = some (.array n e)) (he : P.underlying e = some (.float .f64)) (hce : P.cellsOf e = 1) (hct : P.cellsOf t = n)
    (hval : Value.okWide P w r b0 t v) (hd : DataW.Trod enc P w base sp held t v d ps) :
    ∃ bs : List Nat, bs.length = n ∧ v = .agg (bs.map (Value.float .f64 ·)).toArray ∧ ∀ b ∈ bs, b < 18446744073709551616 := by
  simp only [Value.okWide, ht] at hval
  obtain ⟨cs, rfl, hsz, _⟩ := hval
  obtain ⟨fuel, hf⟩ := hd
  obtain ⟨xs, m, rfl, _, hl, hxs, hel⟩ := DataW.trod_array ht hf
  rw [hct] at hl
  have hl' : cs.toList.length = n := by simpa [Value.cells] using hl
  obtain ⟨bs, hbs, hlt⟩ := floats_list cs.toList (fun i hi => by
    have h := hel i (by omega)
    rw [hce, Nat.mul_one] at h
    have hx : ∃ x, xs[i]? = some x := ⟨xs[i]'(by omega), List.getElem?_eq_getElem _⟩
    obtain ⟨x, hx⟩ := hx
    rw [hx] at h
    have e1 : ((Value.agg cs).cells.toList.drop i).take 1 = [cs.toList[i]'hi] := by
      show (cs.toList.drop i).take 1 = _
      rw [List.drop_eq_getElem_cons hi]; rfl
    rw [e1] at h
    obtain ⟨b, e, hb⟩ := float_of_trod he h
    exact ⟨b, by rw [List.getElem?_eq_getElem hi, e], hb⟩)
  exact ⟨bs, by rw [← hl', hbs]; simp, by rw [← hbs], hlt⟩
end Go.Proofs.YtmcllgoeldfgmaaDoor
