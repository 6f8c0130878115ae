/- Own texts, put together: Qka. -/
import Derived.Test.YtkbhmglmbolbiaaGreatDoorQ41
/- Package nodefile: taken. -/
namespace Go.Proofs.YtkbhmglmbolbiaaGreatDoor
set_option maxRecDepth 100000
open Go.RowKit Go.Shelf Go.Lib
attribute [local go_sem] run_store_float
abbrev fz4 : Array Value := #[.slice none 0 0, .bool false, .int .i64 0, .bool false]
def ndsO (ns : List Nt) : List Nd := ns.map (·.1)
def TakenR (p : Pm) (w w' : World) (L : List (Nat × List Bs)) (v : Ending) : Prop :=
 Below w.heap.size w w' ∧ (((tkV p L).2.2.2 = 0 ∧ ∃ a c ns z k m, v = .returned (.tuple #[.agg #[.slice a ns.length c, .bool z, .int .i64 (k : Nat), .bool m], .nilIface]) ∧ Nr w' w.heap.size (.slice a ns.length c) ns ∧ (tkV p L).1 = ⟨ndsO ns, z, (k : Nat), m⟩ ∧ (tkV p L).2.1 = 1 + ns.length ∧ (tkV p L).2.2.1 = 0 ∧ k ≤ 16 ∧ ns.length ≤ 1048576) ∨
   ((tkV p L).2.2.2 ≠ 0 ∧ v = .returned (.tuple #[.agg fz4, .iface 87 (.agg #[.int .i64 ((tkV p L).2.2.1 : Nat), erI (tkV p L).2.2.2])]) ∧ (tkV p L).1 = ⟨[], false, 0, false⟩ ∧ (tkV p L).2.1 = 0))
theorem res_taken (W : World) (B : Nat) (a b c d : Value) (ev : Value) (tmps : Array Value) (h : CB W B #[a, b, c, d] 29)
   (t2 : tmps[2]? = some (.pointer (some ⟨B, 0, none⟩))) (t3 : tmps[3]? = some ev) : (results Tryz.f20 tmps).run Tryz.prog W = .ok (.tuple #[.agg #[a, b, c, d], ev]) W := by
 have c0 := h.cell 0 (by simp)
 have c1 := h.cell 1 (by simp)
 have c2 := h.cell 2 (by simp)
 have c3 := h.cell 3 (by simp)
 simp [results, Tryz.f20, go_sem, c0, c1, c2, c3, t2, t3]
set_option maxHeartbeats 2000000 in
theorem taken_nil (p : Pm) (a : Option Addr) (c : Nat) (w : World) : Calls Tryz.prog 20 #[.slice a 0 c] w fun v w' => TakenR p w w' [] v := by
 go_enter Tryz.func20, Tryz.ntmps20
 go_wp2
 have hc := CB.new w fz4 29
 refine bodyPost_ret (res_taken _ w.heap.size (.slice none 0 0) (.bool false) (.int .i64 0) (.bool false) _ _ hc rfl rfl) rfl ?_
 exact ⟨(Below.refl _ w).alloc (Nat.le_refl _) _, Or.inr ⟨(by show (4 : Int) ≠ 0; decide), rfl, rfl, rfl⟩⟩
theorem getLast_bang : ∀ (l : List (Nat × List Bs)) (h : l ≠ []), l.getLast! = l.getLast h := by
 intro l h
 cases l with
 | nil => exact absurd rfl h
 | cons a r => rfl
theorem last_tell {p0 : Lt} {rs : List Lt} {q : Lt} (h : (p0 :: rs)[rs.length]? = some q) : (tell (p0 :: rs)).getLast!.1 = q.1 := by
 have hne : tell (p0 :: rs) ≠ [] := by simp [tell]
 have e : (tell (p0 :: rs)).getLast! = (tell (p0 :: rs)).getLast hne := by
   exact getLast_bang _ hne
 rw [e, List.getLast_eq_getElem]
 obtain ⟨h1, h2⟩ := List.getElem?_eq_some_iff.1 h
 unfold tell
 simp only [List.getElem_map, List.length_map, List.length_cons, Nat.add_sub_cancel]
 rw [h2]
structure Shr (P : Prop) : Prop where
 get : P
theorem share {P Q : Prop} (h1 : Shr P → Q) (h2 : P) : Q := h1 ⟨h2⟩
set_option maxHeartbeats 16000000 in
theorem taken_some {p : Pm} (hp : p.Ok) (v : Value) (p0 : Lt) (rs : List Lt) (w : World) (hL : Lw w v (p0 :: rs)) (hl : ∀ q ∈ p0 :: rs, ∀ x ∈ q.2.1, x.length ≤ 900000) (hn : rs.length ≤ 20000000) (hno : ∀ q ∈ p0 :: rs, q.1 ≤ 20000000) (hT : Tab w) :
   Calls Tryz.prog 20 #[v] w fun e w' => TakenR p w w' (tell (p0 :: rs)) e := by
 have HP := Lib.hid hp
 have HL := Lib.hid hl
 have HLw := Lib.hid hL
 have HNo := Lib.hid hno
 have htl := hT.lt
 obtain ⟨⟨a, c, rfl, hc1, hc2, hm⟩, hsub⟩ := hL
 obtain ⟨g, off, rfl, hg, hcell⟩ := hm.resolve_left (by simp)
 rw [List.length_cons] at *
 obtain ⟨N, hN⟩ : ∃ N, Hid (rs.length = N) := ⟨_, Lib.hid rfl⟩
 rw [hN.out] at hc1 hn ⊢
 have HCe := Lib.hid hcell
 obtain ⟨W0, hW0⟩ : ∃ W0, w.alloc (.cells fz4 29) = W0 := ⟨_, rfl⟩
 have b0 : Below w.heap.size w W0 := by rw [← hW0]; exact (Below.refl _ w).alloc (Nat.le_refl _) _
 have z0 : W0.heap.size = w.heap.size + 1 := by rw [← hW0]; simp
 have c0 : CB W0 w.heap.size fz4 29 := by rw [← hW0]; exact CB.new w _ _
 obtain ⟨hS0, hK0⟩ := hsub p0 (by simp)
 have HHd : Hid (Calls Tryz.prog 32 #[p0.2.2] W0 fun v w' => HeadR W0 w' p0.2.1 v) := Lib.hid (head_any p0.2.2 p0.2.1 W0 (hS0.later b0) (fun b hb => by have := hK0 b hb; omega) (hl p0 (by simp)))
 have k00 : W0.cell? ⟨g, off, none⟩ = some (.int .i64 (p0.1 : Nat)) := by have := cell_later b0 hg (hcell 0 p0 rfl).1; simpa using this
 have k01 : W0.cell? ⟨g, off + 1, none⟩ = some p0.2.2 := by have := cell_later b0 hg (hcell 0 p0 rfl).2; simpa using this
 have H0 : Hid (Below w.heap.size w W0 ∧ CB W0 w.heap.size fz4 29 ∧ W0.heap.size = w.heap.size + 1) := Lib.hid ⟨b0, c0, z0⟩
 have HTb := Lib.hid (hT.later b0)
 have hn' : (N : Int) ≤ 20000000 := by omega
 clear hS0 hK0 hl hno hT hsub hcell b0 z0 c0 hm hp
 obtain ⟨no0, ws0, wv0⟩ := p0
 go_enter Tryz.func20, Tryz.ntmps20
 go_wp2_with fail
 try rw [hW0]
 clear hW0
 refine HHd.out.mono ?_
 rintro e W1 ⟨n, k, b, rfl, hb1, hh⟩
 obtain ⟨W2, hW2⟩ : ∃ W2, W1.alloc (.cells #[.slice none 0 0, .bool false, .int .i64 k, .bool b] 29) = W2 := ⟨_, rfl⟩
 have hb2 : Below W1.heap.size W1 W2 := by rw [← hW2]; exact (Below.refl _ _).alloc (Nat.le_refl _) _
 have hb02 : Below W0.heap.size W0 W2 := hb1.trans (hb2.mono hb1.size)
 have hw2 : Below w.heap.size w W2 := H0.out.1.trans (hb02.mono H0.out.1.size)
 have HC2 : Hid (CB W2 W1.heap.size #[.slice none 0 0, .bool false, .int .i64 k, .bool b] 29 ∧ CB W2 w.heap.size fz4 29 ∧ Below w.heap.size w W2 ∧ Tab W2 ∧ w.heap.size < W1.heap.size ∧ W1.heap.size < W2.heap.size) := Lib.hid ⟨by rw [← hW2]; exact CB.new _ _ _, H0.out.2.1.later hb02, hw2, HTb.out.later hb02, by have := hb1.size; have := H0.out.2.2; omega, by rw [← hW2]; simp⟩
 have k00' : W2.drew.cell? ⟨g, off, none⟩ = some (.int .i64 (no0 : Nat)) := cell_later hb02 (by have := H0.out.2.2; omega) k00
 clear k00 k01 hb1 hb2 hb02 hw2 HHd H0 HTb
 by_cases hE : hdE ws0 = 0
 · obtain ⟨hp1, hp2, hp3⟩ := hh hE
   obtain ⟨cn, rfl⟩ : ∃ cn : Nat, n = (cn : Nat) := ⟨n.toNat, by omega⟩
   obtain ⟨kn, rfl⟩ : ∃ kn : Nat, k = (kn : Nat) := ⟨k.toNat, by omega⟩
   have HHP : Hid (hdP ws0 = some (cn, kn, b)) := Lib.hid (by simpa using hp3)
   have hck : cn ≤ 1048576 ∧ kn ≤ 16 := by
     unfold hdE at hE
     rw [HHP.out] at hE
     by_cases hq : cn ≤ 1048576 ∧ kn ≤ 16
     · exact hq
     · simp only [if_neg hq] at hE; cases hE
   have HE0 := Lib.hid hE
   rw [hE, show erV ((0 : Nat) : Int) = .nilIface from rfl]
   clear hE hh hp1 hp2 hp3 k00'
   have hcn : (cn : Int) ≤ 1048576 := by omega
   obtain ⟨k40, k41, k42, k43⟩ := HC2.out.1.cells4
   have f40 := HC2.out.1.frozen 0
   have HGr : Hid (Calls Tryz.prog 35 #[.slice none 0 0, .int .i64 (min (cn : Int) (N : Int))] W2 fun e w' => ∃ a c, e = .returned (.slice a 0 c) ∧ w'.ownsRow W2.heap.size 53 4 (.slice a 0 c) 0 [] ∧ Below W2.heap.size W2 w') := Lib.hid (by
     have := growN_any (min cn N) W2 (by omega)
     rwa [show ((min cn N : Nat) : Int) = min (cn : Int) (N : Int) by omega] at this)
   go_wp2_with fail
   clear hW2
   refine HGr.out.mono ?_
   rintro e W3 ⟨ga, gc, rfl, hgo, hgb⟩
   clear k40 k41 k42 k43 f40
   obtain ⟨W4, hW4⟩ : ∃ W4, W3.setCell ⟨W1.heap.size, 0, none⟩ (.slice ga 0 gc) = W4 := ⟨_, rfl⟩
   have fb3 := HC2.out.1.later hgb
   have hT0 : Tk w W4 W1.heap.size (.slice ga 0 gc) [] false kn b := by
     have ho := Ob.set W1.heap.size 0 W3 (.slice ga 0 gc)
     rw [hW4] at ho
     obtain ⟨q1, q2, q3, q4, q5, q6⟩ := HC2.out
     have hfb : CB W4 W1.heap.size #[.slice ga 0 gc, .bool false, .int .i64 (kn : Nat), .bool b] 29 := by
       have := fb3.set 0 (.slice ga 0 gc)
       rw [hW4] at this
       simpa using this
     refine ⟨(q3.trans (hgb.mono q3.size)).trans (ho.below (by omega) (by have := hgb.size; omega)), ho.cb (q2.later hgb) (by omega), hfb, q5, Nr.nil (own_base (own_ob hgo ho q6) (by omega)), (q4.later hgb).ob ho (by omega), htl⟩
   have k40 := fb3.cell 0 (by simp)
   have f40 := fb3.frozen 0
   have HT0 := Lib.hid hT0
   clear hgo hgb HGr hT0 fb3
   go_wp2_with fail
   try rw [hW4]
   clear hW4 k40 f40
   obtain ⟨i0, hi0, hz0, hz1, hz2⟩ := info_parts (show (Tryz.prog.info? 53).map (fun i => (i.zero, i.size, i.bytes)) = some (some (.agg nz), 4, 48) by kernel_rfl)
   have hwB : Hid (w.heap.size < W1.heap.size) := Lib.hid HC2.out.2.2.2.2.1
   clear HC2
   go_loopw [48] (fun s48 wr => ∃ (i : Nat) (nv : Value) (ns : List Nt) (z : Bool), s48 = .int .i64 (i : Nat) ∧ i ≤ cn ∧ i ≤ N ∧ Hid (Tk w wr W1.heap.size nv ns z kn b ∧ ns.length = i ∧ goN p kn b 0 false ((tell rs).take i) = .inr (ndsO ns, z))) (fun s48 _ => cn - (RowKit.intOf s48).toNat)
   case atStart => exact ⟨0, _, [], false, rfl, by omega, by omega, HT0.out, rfl, rfl⟩
   case round =>
     obtain ⟨i, nv, ns, z, rfl, hi1, hi2, hI⟩ := hrel
     have HTL : Hid ((tell rs).length = N) := Lib.hid (by unfold tell; rw [List.length_map]; exact hN.out)
     by_cases hlt : i < cn
     · have hlt' : (i : Int) < (cn : Int) := by omega
       by_cases hiN : i = N
       · 
         obtain ⟨q, hq⟩ : ∃ q, ((no0, ws0, wv0) :: rs)[i]? = some q := ⟨_, List.getElem?_eq_getElem (by rw [List.length_cons, hN.out]; omega)⟩
         have hqn : q.1 ≤ 20000000 := HNo.out q (List.mem_of_getElem? hq)
         have kno : wr.drew.cell? ⟨g, off + i * 2, none⟩ = some (.int .i64 (q.1 : Nat)) := cell_later hI.out.1.bel hg (HCe.out i q hq).1
         have HR0 : Hid (CB wr.drew w.heap.size fz4 29 ∧ Below w.heap.size w wr.drew) := Lib.hid ⟨hI.out.1.r0, hI.out.1.bel.drew⟩
         have HTV : Hid (tkV p (tell ((no0, ws0, wv0) :: rs)) = (⟨[], false, 0, false⟩, 0, q.1 + 1, 4)) := Lib.hid (by
           have hla := last_tell (p0 := (no0, ws0, wv0)) (rs := rs) (q := q) (by rw [hN.out, ← hiN]; exact hq)
           have hg2 := hI.out.2.2
           rw [List.take_of_length_le (by rw [HTL.out]; omega)] at hg2
           show tkV p ((no0, ws0) :: tell rs) = _
           unfold tkV
           simp only [HE0.out, if_pos, HHP.out]
           rw [List.take_of_length_le (by rw [HTL.out]; omega), hg2]
           simp only []
           rw [if_pos (by rw [HTL.out]; omega)]
           exact congrArg (fun n => ((⟨[], false, 0, false⟩ : Fd), 0, n + 1, (4 : Int))) hla)
         obtain ⟨W, hW⟩ : ∃ W, wr.drew = W := ⟨_, rfl⟩
         rw [hW] at kno HR0
         obtain ⟨k20, k21, k22, k23⟩ := HR0.out.1.cells4
         have f20 := HR0.out.1.frozen 0
         have f21 := HR0.out.1.frozen 1
         have f22 := HR0.out.1.frozen 2
         have f23 := HR0.out.1.frozen 3
         obtain ⟨nq, hnq⟩ : ∃ n : Nat, q.1 = n := ⟨_, rfl⟩
         rw [hnq] at kno hqn HTV
         have hqn' : (nq : Int) ≤ 20000000 := by omega
         have hi3 : (i : Int) < (N : Int) + 1 := by omega
         have hi4 : (0 : Int) ≤ (i : Int) := by omega
         have hee : (((i : Nat) : Int) + 1 == (N : Int) + 1) = true := by rw [beq_iff_eq]; omega
         clear hI hq hnq hiN
         go_wp2_with fail
         go_region
         all_goals
           go_wp2
           refine bodyPost_ret (res_taken _ w.heap.size _ _ _ _ _ _ (set4 HR0.out.1 _ _ _ _) rfl rfl) rfl ?_
           refine ⟨(((HR0.out.2.setCell (Nat.le_refl _) _).setCell (Nat.le_refl _) _).setCell (Nat.le_refl _) _).setCell (Nat.le_refl _) _, Or.inr ⟨(by rw [HTV.out]; show (4 : Int) ≠ 0; decide), by rw [HTV.out]; rfl, by rw [HTV.out], by rw [HTV.out]⟩⟩
       · 
         have hi5 : i < N := by omega
         obtain ⟨i1, h11⟩ : ∃ i1 : Nat, ((i : Nat) : Int) + 1 = ((i1 : Nat) : Int) := ⟨i + 1, by omega⟩
         have e11 : Hid (i1 = i + 1) := Lib.hid (by omega)
         obtain ⟨q, hq⟩ : ∃ q, ((no0, ws0, wv0) :: rs)[i1]? = some q := ⟨_, List.getElem?_eq_getElem (by rw [List.length_cons, hN.out]; omega)⟩
         have hqm := List.mem_of_getElem? hq
         have hqn : q.1 ≤ 20000000 := HNo.out q hqm
         obtain ⟨W, hW⟩ : ∃ W, wr.drew = W := ⟨_, rfl⟩
         have hTk : Tk w W W1.heap.size nv ns z kn b := by rw [← hW]; exact hI.out.1.later (Below.refl _ wr).drew
         have kno : ∀ W', Below w.heap.size w W' → W'.cell? ⟨g, off + i1 * 2, none⟩ = some (.int .i64 (q.1 : Nat)) := fun W' hb => cell_later hb hg (HCe.out i1 q hq).1
         have kwd : W.cell? ⟨g, off + i1 * 2 + 1, none⟩ = some q.2.2 := cell_later hTk.bel hg (HCe.out i1 q hq).2
         have HKno := Lib.hid kno
         have HGo := Lib.hid hI.out.2.2
         have HLn := Lib.hid hI.out.2.1
         obtain ⟨na, nc, hnv⟩ := hI.out.1.nr.form
         rw [HLn.out] at hnv
         subst hnv
         have hsl := HLw.out.sub q hqm
         have hlq := HL.out q hqm
         obtain ⟨nq, ws, wv⟩ := q
         have hA : ∀ W', Tk w W' W1.heap.size (.slice na i nc) ns z kn b → Calls Tryz.prog 36 #[wv, .agg #[.slice na i nc, .bool z, .int .i64 (kn : Nat), .bool b], .func (.func 33) #[] #[.pointer (some ⟨W1.heap.size, 0, none⟩)]] W' fun v w' => NodeR p W' w' W1.heap.size na i nc z kn b ws v := fun W' h => nodeOf_any HP.out wv ws W1.heap.size na i nc z kn b W' (hsl.1.later h.bel) (fun bb hbb => Nat.lt_of_lt_of_le (hsl.2 bb hbb) h.bel.size) hlq h.fb (by omega) hck.2 h.tab
         have HA := Lib.hid (hA W hTk)
         have HB := Lib.hid (hA (W.alloc (.cells nz 53)) (hTk.later ((Below.refl _ W).alloc (Nat.le_refl _) _)))
         have HTk := Lib.hid hTk
         obtain ⟨k40, k41, k42, k43⟩ := hTk.fb.cells4
         have hlt4 := hTk.fb.lt
         have hgW : g < W.heap.size := Nat.lt_of_lt_of_le hg hTk.bel.size
         have hqn' : (nq : Int) ≤ 20000000 := by have : nq ≤ 20000000 := hqn; omega
         have hi3 : (i1 : Int) < (N : Int) + 1 := by omega
         have hi4 : (0 : Int) ≤ (i1 : Int) := by omega
         have hi6 : (i1 : Int) ≤ 20000000 := by omega
         have hi8 : i1 < N + 1 := by omega
         have ix1 : ∀ w, (Instr.indexAt 35 (.slice (some ⟨g, off, none⟩) (N + 1) c) (.int .i64 (i1 : Nat))).run Tryz.prog w = .ok (.pointer (some ⟨g, off + i1 * 2, none⟩)) w := fun w => by go_simp
         have ix : ∀ w, (Instr.indexAt 35 (.slice (some ⟨g, off, none⟩) (N + 1) c) (.int .i64 (((i : Nat) : Int) + 1))).run Tryz.prog w = .ok (.pointer (some ⟨g, off + i1 * 2, none⟩)) w := fun w => by rw [h11]; exact ix1 w
         have hee : (((i : Nat) : Int) + 1 == (N : Int) + 1) = false := by rw [beq_eq_false_iff_ne]; omega
         have hwr : IntKind.i64.wrap (((i : Nat) : Int) + 1) = ((i : Nat) : Int) + 1 := by rw [IntKind.wrap_i64]; omega
         have hi10 : (i : Int) ≤ 20000000 := by omega
         clear h11 ix1 hi3 hi4 hi6
         have hQ : Hid ((tell rs)[i]? = some (nq, ws)) := Lib.hid (by
           have : rs[i]? = some (nq, ws, wv) := by rw [e11.out] at hq; simpa using hq
           unfold tell
           rw [List.getElem?_map, this]; rfl)
         clear hI hq hqm hA hTk hsl hlq kno
         obtain ⟨E, hEE⟩ : ∃ E : Int, Hid (ndE p kn b (mayN i z) ws = E) := ⟨_, Lib.hid rfl⟩
         by_cases hE1 : E = 0
         · have HEV : Hid (erV (ndE p kn b (mayN i z) ws) = .nilIface) := Lib.hid (by rw [hEE.out, hE1]; rfl)
           go_wp2_with fail
           go_region_with (go_at_call 36; first | (refine HA.out.mono ?_; rintro e W5 ⟨x, y, av, ls, mk, rfl, ha, hx, hy, ho, hT5, ⟨z', hf, hz⟩, hv⟩; rw [HEV.out]; obtain ⟨ae, ac, rfl⟩ := own_slice ha.own; obtain ⟨W6, hW6⟩ : ∃ W6, W5.alloc (.cells #[.float .f64 x, .float .f64 y, .slice ae ls.length ac, .int .i64 mk] 53) = W6 := ⟨_, rfl⟩; have h6 := HTk.out.boxC ho hf hT5 ha hW6; obtain ⟨m0, m1, m2, m3⟩ := h6.2.1.cells4; have H6 := Lib.hid (And.intro h6.1 h6.2.2); have n0 := h6.1.fb.cell 0 (by simp); clear h6; have HXY := Lib.hid (And.intro hx hy); have HZ := Lib.hid hz; have HVV := Lib.hid hv; clear ha hx hy ho hT5 hf hz hv) | (refine HB.out.mono ?_; rintro e W5 ⟨x, y, av, ls, mk, rfl, ha, hx, hy, ho, hT5, ⟨z', hf, hz⟩, hv⟩; rw [HEV.out]; obtain ⟨ae, ac, rfl⟩ := own_slice ha.own; obtain ⟨W6, hW6⟩ : ∃ W6, (((W5.setCell ⟨W.heap.size, 0, none⟩ (.float .f64 x)).setCell ⟨W.heap.size, 1, none⟩ (.float .f64 y)).setCell ⟨W.heap.size, 2, none⟩ (.slice ae ls.length ac)).setCell ⟨W.heap.size, 3, none⟩ (.int .i64 mk) = W6 := ⟨_, rfl⟩; have h5 := HTk.out.boxA (x := x) (y := y) (mk := mk) ho hf hT5 ha; have h6 := h5.2.2 W6 hW6.symm; obtain ⟨q0, q1, q2, q3⟩ := h5.1.cells4; have g0 := h5.1.frozen 0; have g1 := h5.1.frozen 1; have g2 := h5.1.frozen 2; have g3 := h5.1.frozen 3; obtain ⟨m0, m1, m2, m3⟩ := h6.2.1.cells4; have H6 := Lib.hid (And.intro h6.1 h6.2.2); have n0 := h6.1.fb.cell 0 (by simp); clear h6 h5; have HXY := Lib.hid (And.intro hx hy); have HZ := Lib.hid hz; have HVV := Lib.hid hv; clear ha hx hy ho hT5 hf hz hv))
           all_goals
             clear hW6
             go_wp2_with (at_builtin; refine wpList_append_own _ rfl _ _ 23 rfl (W1.heap.size + 1) 53 i0 (.agg nz) 4 48 Tryz.underlying23 hi0 hz0 hz1 hz2 rfl (by decide) (.slice na i nc) ns.length (ncs ns) rfl (World.ownsRow.alloc H6.out.1.nr.own _) ⟨W6.heap.size, 0, none⟩ 1 1 [.float .f64 x, .float .f64 y, .slice ae ls.length ac, .int .i64 mk] rfl rfl (World.news_of_block (cs := #[.float .f64 x, .float .f64 y, .slice ae ls.length ac, .int .i64 mk]) (t := 53) (fr := (0, 0)) (heap_alloc_new W6 _)) (by simp [Value.oneCell']) (by unfold maxLen; have := HLn.out; omega) (by have := HLn.out; omega) (by have := H6.out.1.fb.lt; simp; omega) ?_; intro v' W8 hown hgrow _; obtain ⟨va, vc, rfl⟩ := own_slice hown; obtain ⟨⟨s1, s2⟩, h8⟩ := H6.out.1.append (p := (⟨x, y, ls, mk⟩, .slice ae ls.length ac)) H6.out.2 ⟨HXY.out.1, HXY.out.2, inR_nd (HVV.out (hEE.out.trans hE1))⟩ hown hgrow; have H8 := Lib.hid h8; clear hown hgrow h8)
             refine ⟨⟨i + 1, _, ns ++ [(⟨x, y, ls, mk⟩, .slice ae ls.length ac)], z', by go_num, by omega, by omega, H8.out, by rw [List.length_append, HLn.out]; rfl, ?_⟩, by simp [RowKit.intOf]; omega⟩
             have hl1 : ((tell rs).take i).length = i := by rw [List.length_take, HTL.out]; omega
             rw [show (tell rs).take (i + 1) = (tell rs).take i ++ [(nq, ws)] by
               obtain ⟨g1, g2⟩ := List.getElem?_eq_some_iff.1 hQ.out
               rw [List.take_succ_eq_append_getElem g1, g2], goN_snoc, HGo.out]
             simp only [hl1, Nat.zero_add]
             rw [if_pos (hEE.out.trans hE1), HVV.out (hEE.out.trans hE1), ← HZ.out (hEE.out.trans hE1)]
             simp [ndsO]
         · have HEV : Hid (erV (ndE p kn b (mayN i z) ws) = erI E) := Lib.hid (by rw [hEE.out, erV_no hE1])
           go_wp2_with fail
           apply share
           · intro key
             go_region_with (go_at_call 36; first | (refine HA.out.mono ?_; rintro e W5 ⟨x, y, av, ls, mk, rfl, ha, hx, hy, ho, hT5, ⟨z', hf, hz⟩, hv⟩; rw [HEV.out]; obtain ⟨ae, ac, rfl⟩ := own_slice ha.own; obtain ⟨W6, hW6⟩ : ∃ W6, W5.alloc (.cells #[.float .f64 x, .float .f64 y, .slice ae ls.length ac, .int .i64 mk] 53) = W6 := ⟨_, rfl⟩; have h6 := HTk.out.boxC ho hf hT5 ha hW6; obtain ⟨m0, m1, m2, m3⟩ := h6.2.1.cells4; have H6 := Lib.hid (And.intro h6.1 h6.2.2); have n0 := h6.1.fb.cell 0 (by simp); clear h6; have HXY := Lib.hid (And.intro hx hy); have HZ := Lib.hid hz; have HVV := Lib.hid hv; clear ha hx hy ho hT5 hf hz hv; obtain ⟨bq, hbq⟩ : ∃ bq, Hid (W5.heap.size = bq) := ⟨_, Lib.hid rfl⟩) | (refine HB.out.mono ?_; rintro e W5 ⟨x, y, av, ls, mk, rfl, ha, hx, hy, ho, hT5, ⟨z', hf, hz⟩, hv⟩; rw [HEV.out]; obtain ⟨ae, ac, rfl⟩ := own_slice ha.own; obtain ⟨W6, hW6⟩ : ∃ W6, (((W5.setCell ⟨W.heap.size, 0, none⟩ (.float .f64 x)).setCell ⟨W.heap.size, 1, none⟩ (.float .f64 y)).setCell ⟨W.heap.size, 2, none⟩ (.slice ae ls.length ac)).setCell ⟨W.heap.size, 3, none⟩ (.int .i64 mk) = W6 := ⟨_, rfl⟩; have h5 := HTk.out.boxA (x := x) (y := y) (mk := mk) ho hf hT5 ha; have h6 := h5.2.2 W6 hW6.symm; obtain ⟨q0, q1, q2, q3⟩ := h5.1.cells4; have g0 := h5.1.frozen 0; have g1 := h5.1.frozen 1; have g2 := h5.1.frozen 2; have g3 := h5.1.frozen 3; obtain ⟨m0, m1, m2, m3⟩ := h6.2.1.cells4; have H6 := Lib.hid (And.intro h6.1 h6.2.2); have n0 := h6.1.fb.cell 0 (by simp); clear h6 h5; have HXY := Lib.hid (And.intro hx hy); have HZ := Lib.hid hz; have HVV := Lib.hid hv; clear ha hx hy ho hT5 hf hz hv; obtain ⟨bq, hbq⟩ : ∃ bq, Hid (W.heap.size = bq) := ⟨_, Lib.hid rfl⟩))
             all_goals
               have HR0 : Hid (CB W6.drew w.heap.size fz4 29 ∧ Below w.heap.size w W6.drew) := Lib.hid ⟨H6.out.1.r0, H6.out.1.bel.drew⟩
               have kno := HKno.out W6.drew H6.out.1.bel.drew
               rw [hbq.out]
               clear hbq hW6 H6 m0 m1 m2 m3 n0 HZ HVV HXY
               revert HR0 kno W6 x y ls mk ae ac bq
               exact key.get
           · intro x y ls mk ae ac W6 bq HR0 kno
             have HTV : Hid (tkV p (tell ((no0, ws0, wv0) :: rs)) = ((⟨[], false, 0, false⟩ : Fd), 0, nq, E)) := Lib.hid (by
               have hl1 : ((tell rs).take i).length = i := by rw [List.length_take, HTL.out]; omega
               have h1 : goN p kn b 0 false ((tell rs).take (i + 1)) = .inl (nq, E) := by
                 rw [show (tell rs).take (i + 1) = (tell rs).take i ++ [(nq, ws)] by
                   obtain ⟨g1, g2⟩ := List.getElem?_eq_some_iff.1 hQ.out
                   rw [List.take_succ_eq_append_getElem g1, g2], goN_snoc, HGo.out]
                 simp only [hl1, Nat.zero_add]
                 rw [if_neg (by rw [hEE.out]; exact hE1), hEE.out]
               have h2 : goN p kn b 0 false ((tell rs).take cn) = .inl (nq, E) := by
                 rw [← List.take_append_drop (i + 1) ((tell rs).take cn), List.take_take, Nat.min_eq_left (by omega)]
                 exact goN_bad _ h1
               show tkV p ((no0, ws0) :: tell rs) = _
               simp only [tkV, HE0.out, if_pos, HHP.out, h2])
             obtain ⟨Wd, hWd⟩ : ∃ Wd, W6.drew = Wd := ⟨_, rfl⟩
             rw [hWd] at kno HR0
             obtain ⟨k20, k21, k22, k23⟩ := HR0.out.1.cells4
             have f20 := HR0.out.1.frozen 0
             have f21 := HR0.out.1.frozen 1
             have f22 := HR0.out.1.frozen 2
             have f23 := HR0.out.1.frozen 3
             have HE1 := Lib.hid hE1
             have hgn : g ≠ w.heap.size := by omega
             have hgn2 : w.heap.size ≠ g := by omega
             clear hE1 HA HB HTk k40 k41 k42 k43 kwd HKno hlt4 hgW HGo hee hi8 hi10 hwr hQ hEE HEV
             go_wp2_with fail
             go_region
             all_goals
               go_wp2
               refine bodyPost_ret (res_taken _ w.heap.size _ _ _ _ _ _ (set4 HR0.out.1 _ _ _ _) rfl rfl) rfl ?_
               refine ⟨(((HR0.out.2.setCell (Nat.le_refl _) _).setCell (Nat.le_refl _) _).setCell (Nat.le_refl _) _).setCell (Nat.le_refl _) _, Or.inr ⟨by rw [HTV.out]; exact HE1.out, by rw [HTV.out]; rfl, by rw [HTV.out], by rw [HTV.out]⟩⟩
     · obtain rfl : i = cn := by omega
       obtain ⟨k40, k41, k42, k43⟩ := hI.out.1.fb.cells4
       obtain ⟨k20, k21, k22, k23⟩ := hI.out.1.r0.cells4
       have f20 := hI.out.1.r0.frozen 0
       have f21 := hI.out.1.r0.frozen 1
       have f22 := hI.out.1.r0.frozen 2
       have f23 := hI.out.1.r0.frozen 3
       obtain ⟨na, nc, rfl⟩ := hI.out.1.nr.form
       have HTV : Hid (tkV p (tell ((no0, ws0, wv0) :: rs)) = (⟨ndsO ns, z, (kn : Nat), b⟩, 1 + ns.length, 0, 0)) := Lib.hid (by
         show tkV p ((no0, ws0) :: tell rs) = _
         unfold tkV
         simp only [HE0.out, if_pos, HHP.out, hI.out.2.2]
         rw [if_neg (by rw [HTL.out]; omega)]
         simp [ndsO])
       have HI1 := Lib.hid hI.out.1
       have HLn := Lib.hid hI.out.2.1
       clear hI
       go_wp2
       refine bodyPost_ret (res_taken _ w.heap.size _ _ _ _ _ _ (set4 HI1.out.r0 _ _ _ _) rfl rfl) rfl ?_
       have hwb := HI1.out.hB
       refine ⟨(((HI1.out.bel.setCell (Nat.le_refl _) _).setCell (Nat.le_refl _) _).setCell (Nat.le_refl _) _).setCell (Nat.le_refl _) _, Or.inl ⟨by rw [HTV.out], na, nc, ns, z, kn, b, rfl, ?_, by rw [HTV.out], by rw [HTV.out], by rw [HTV.out], hck.2, by rw [HLn.out]; exact hck.1⟩⟩
       exact (HI1.out.nr.ob (ob_set4 _ _ _ _ _ _) (by omega)).base (by omega)
 · have HE0 := Lib.hid hE
   have hE' : ((hdE ws0 : Nat) : Int) ≠ 0 := by omega
   rw [erV_no hE']
   have HTV : Hid (tkV p (tell ((no0, ws0, wv0) :: rs)) = ((⟨[], false, 0, false⟩ : Fd), 0, no0, ((hdE ws0 : Nat) : Int))) := Lib.hid (by
     show tkV p ((no0, ws0) :: tell rs) = _
     simp only [tkV, if_neg HE0.out])
   have HR0 : Hid (CB W2.drew w.heap.size fz4 29 ∧ Below w.heap.size w W2.drew) := Lib.hid ⟨HC2.out.2.1, HC2.out.2.2.1.drew⟩
   obtain ⟨ex, hex⟩ : ∃ ex : Int, ((hdE ws0 : Nat) : Int) = ex := ⟨_, rfl⟩
   rw [hex] at HTV hE' ⊢
   obtain ⟨W, hW⟩ : ∃ W, W2.drew = W := ⟨_, rfl⟩
   rw [hW] at k00' HR0
   obtain ⟨k20, k21, k22, k23⟩ := HR0.out.1.cells4
   have f20 := HR0.out.1.frozen 0
   have f21 := HR0.out.1.frozen 1
   have f22 := HR0.out.1.frozen 2
   have f23 := HR0.out.1.frozen 3
   have HE' := Lib.hid hE'
   clear hE hh hE' hex HC2
   go_wp2_with fail
   go_region
   all_goals
     go_wp2
     refine bodyPost_ret (res_taken _ w.heap.size _ _ _ _ _ _ (set4 HR0.out.1 _ _ _ _) rfl rfl) rfl ?_
     refine ⟨(((HR0.out.2.setCell (Nat.le_refl _) _).setCell (Nat.le_refl _) _).setCell (Nat.le_refl _) _).setCell (Nat.le_refl _) _, Or.inr ⟨by rw [HTV.out]; exact HE'.out, by rw [HTV.out]; rfl, by rw [HTV.out], by rw [HTV.out]⟩⟩
end Go.Proofs.YtkbhmglmbolbiaaGreatDoor
