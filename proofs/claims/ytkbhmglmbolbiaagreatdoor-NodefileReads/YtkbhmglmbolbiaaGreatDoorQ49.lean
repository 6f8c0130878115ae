/- Own texts, put together: Qdf. -/
import Derived.Test.YtkbhmglmbolbiaaGreatDoorQ47
import Derived.Test.YtkbhmglmbolbiaaGreatDoorQ48
/- The document's side of layer 10: Take. -/
namespace Go.Proofs.YtkbhmglmbolbiaaGreatDoor
set_option maxRecDepth 100000
open Go.RowKit Go.Shelf Go.Lib
attribute [local go_sem] run_store_float
structure Td (w0 W : World) (Bf : Nat) (nv : Value) (ns : List Nt) (z : Bool) (k : Nat) (m : Bool) : Prop where
 bel : Below w0.heap.size w0 W
 r0 : CB W w0.heap.size fz4 25
 fb : CB W Bf #[nv, .bool z, .int .i64 (k : Nat), .bool m] 25
 hB : w0.heap.size < Bf
 nr : Nr W (Bf + 1) nv ns
theorem Td.later {w0 W W' : World} {Bf : Nat} {nv : Value} {ns : List Nt} {z : Bool} {k : Nat} {m : Bool} (h : Td w0 W Bf nv ns z k m) (hb : Below W.heap.size W W') : Td w0 W' Bf nv ns z k m :=
 ⟨h.bel.trans (hb.mono h.bel.size), h.r0.later hb, h.fb.later hb, h.hB, h.nr.later hb⟩
theorem Td.zero {w0 W : World} {Bf : Nat} {nv : Value} {ns : List Nt} {z : Bool} {k : Nat} {m : Bool} (h : Td w0 W Bf nv ns z k m) (z' : Bool) : Td w0 (W.setCell ⟨Bf, 1, none⟩ (.bool z')) Bf nv ns z' k m := by
 have ho := Ob.set Bf 1 W (.bool z')
 have hB := h.hB
 exact ⟨h.bel.setCell (by show w0.heap.size ≤ Bf; omega) _, h.r0.other (by omega) _, by have := h.fb.set 1 (.bool z'); simpa using this, hB, h.nr.ob ho (by omega)⟩
theorem Td.append {w0 W W2 : World} {Bf : Nat} {nv nv' : Value} {ns : List Nt} {z : Bool} {k : Nat} {m : Bool} {p : Nt} {tmp : Obj} (h : Td w0 W Bf nv ns z k m) (hp : Fr W (Bf + 1) p.2 p.1.a) (hw : wdN p.1) (hown : W2.ownsRow (Bf + 1) 53 4 nv' (ns.length + 1) (ncs ns ++ [.float .f64 p.1.x, .float .f64 p.1.y, p.2, .int .i64 p.1.m])) (hg : (W.alloc tmp).grownBy W2 nv.ownBlock) :
   (W2.cell? ⟨Bf, 0, none⟩ = some nv ∧ W2.frozen? ⟨Bf, 0, none⟩ = false) ∧ Td w0 (W2.setCell ⟨Bf, 0, none⟩ nv') Bf nv' (ns ++ [p]) z k m := by
 have hB := h.hB
 have hlow : ∀ b, nv.ownBlock = some b → Bf + 1 ≤ b := fun b hb => (h.nr.own.lt b hb).1
 have hlt := h.fb.lt
 have hbl : ∀ b, b < Bf + 1 → W2.heap[b]? = W.heap[b]? := fun b hb => by
   rw [hg.block b (by simp; omega) (fun e => by have := hlow b e.symm; omega), Below.heap_alloc _ _ _ (by omega)]
 have hsz' : W.heap.size + 1 ≤ W2.heap.size := by have := hg.size; simpa using this
 have hBl : Below (Bf + 1) W W2 := ⟨hg.os, hg.tape, hg.output, by omega, hbl⟩
 have cb : ∀ {b t : Nat} {cs : Array Value}, CB W b cs t → b < Bf + 1 → CB W2 b cs t := fun hc hb => by unfold CB; rw [hbl _ hb]; exact hc
 have h8 := cb h.fb (by omega)
 have hn2 : Nr W2 (Bf + 1) nv' (ns ++ [p]) := h.nr.grew hp hw hown hg
 have ho := Ob.set Bf 0 W2 nv'
 exact ⟨⟨h8.cell 0 (by simp), h8.frozen 0⟩, (h.bel.trans (hBl.mono (by omega))).setCell (by show w0.heap.size ≤ Bf; omega) _, (cb h.r0 (by omega)).other (by omega) _, by have := h8.set 0 nv'; simpa using this, hB, hn2.ob ho (by omega)⟩
theorem res_take10 (W : World) (B : Nat) (a b c d : Value) (n1 n2 n3 : Int) (tmps : Array Value) (h : CB W B #[a, b, c, d] 25)
   (t2 : tmps[2]? = some (.pointer (some ⟨B, 0, none⟩))) (t3 : tmps[3]? = some (.int .i64 n1)) (t4 : tmps[4]? = some (.int .i64 n2)) (t5 : tmps[5]? = some (.int .i64 n3)) : (results Tryz.f13 tmps).run Tryz.prog W = .ok (.tuple #[.agg #[a, b, c, d], .int .i64 n1, .int .i64 n2, .int .i64 n3]) W := by
 have c0 := h.cell 0 (by simp)
 have c1 := h.cell 1 (by simp)
 have c2 := h.cell 2 (by simp)
 have c3 := h.cell 3 (by simp)
 simp [results, Tryz.f13, go_sem, c0, c1, c2, c3, t2, t3, t4, t5]
theorem TakeR.bad {p : Pm} {w W : World} {L : List (Nat × List Bs)} {at' : Nat} {e : Int} (hb : Below w.heap.size w W) (h : tkV p L = (⟨[], false, 0, false⟩, 0, at', e)) : TakeR p w W L (.returned (.tuple #[.agg fz4, .int .i64 0, .int .i64 (at' : Nat), .int .i64 e])) := by
 unfold TakeR
 rw [h]
 exact ⟨hb, none, 0, [], false, 0, false, rfl, ⟨Nr.nil (World.ownsRow_nil _ _ _ _), rfl, by omega, by simp⟩⟩
theorem tk_head {p : Pm} {no : Nat} {ws : List Bs} {r : List (Nat × List Bs)} (h : hdE ws ≠ 0) : tkV p ((no, ws) :: r) = (⟨[], false, 0, false⟩, 0, no, ((hdE ws : Nat) : Int)) := by
 simp only [tkV, if_neg h]
theorem hdE_none {ws : List Bs} (h : hdP ws = none) : hdE ws = 4 := by unfold hdE; rw [h]
theorem hdE_full {ws : List Bs} {n k : Nat} {m : Bool} (h : hdP ws = some (n, k, m)) (hb : ¬ (n ≤ 1048576 ∧ k ≤ 16)) : hdE ws = 3 := by
 unfold hdE; rw [h]; simp only [if_neg hb]
theorem hdE_ok {ws : List Bs} {n k : Nat} {m : Bool} (h : hdP ws = some (n, k, m)) (hb : n ≤ 1048576 ∧ k ≤ 16) : hdE ws = 0 := by
 unfold hdE; rw [h]; simp only [if_pos hb]
theorem tk_short {p : Pm} {p0 : Lt} {rs : List Lt} {q : Lt} {cn kn : Nat} {b : Bool} {ns : List Nd} {z : Bool} (hE : hdE p0.2.1 = 0) (hP : hdP p0.2.1 = some (cn, kn, b)) (hq : (p0 :: rs)[rs.length]? = some q) (hc : rs.length < cn) (hg : goN p kn b 0 false ((tell rs).take rs.length) = .inr (ns, z)) : tkV p (tell (p0 :: rs)) = (⟨[], false, 0, false⟩, 0, q.1 + 1, 4) := by
 have hla := last_tell hq
 have hL : (tell rs).length = rs.length := by unfold tell; rw [List.length_map]
 rw [List.take_of_length_le (by omega)] at hg
 show tkV p ((p0.1, p0.2.1) :: tell rs) = _
 unfold tkV
 simp only [hE, if_pos, hP]
 rw [List.take_of_length_le (by omega), hg]
 simp only []
 rw [if_pos (by omega)]
 exact congrArg (fun n => ((⟨[], false, 0, false⟩ : Fd), 0, n + 1, (4 : Int))) hla
theorem tk_take {rs : List Lt} {j : Nat} {q : Nat × List Bs} (hq : (tell rs)[j]? = some q) : (tell rs).take (j + 1) = (tell rs).take j ++ [q] := by
 obtain ⟨g1, g2⟩ := List.getElem?_eq_some_iff.1 hq
 rw [List.take_succ_eq_append_getElem g1, g2]
theorem tk_bad {p : Pm} {p0 : Lt} {rs : List Lt} {cn kn j nq : Nat} {b z : Bool} {ns : List Nd} {ws : List Bs} {E : Int} (hE : hdE p0.2.1 = 0) (hP : hdP p0.2.1 = some (cn, kn, b)) (hj : j < cn) (hq : (tell rs)[j]? = some (nq, ws)) (hg : goN p kn b 0 false ((tell rs).take j) = .inr (ns, z)) (he : ndE p kn b (mayN j z) ws = E) (h0 : E ≠ 0) : tkV p (tell (p0 :: rs)) = (⟨[], false, 0, false⟩, 0, nq, E) := by
 have hjl : j < (tell rs).length := (List.getElem?_eq_some_iff.1 hq).1
 have hl1 : ((tell rs).take j).length = j := by rw [List.length_take]; omega
 have h1 : goN p kn b 0 false ((tell rs).take (j + 1)) = .inl (nq, E) := by
   rw [tk_take hq, goN_snoc, hg]
   simp only [hl1, Nat.zero_add]
   rw [if_neg (by rw [he]; exact h0), he]
 have h2 : goN p kn b 0 false ((tell rs).take cn) = .inl (nq, E) := by
   rw [← List.take_append_drop (j + 1) ((tell rs).take cn), List.take_take, Nat.min_eq_left (by omega)]
   exact goN_bad _ h1
 show tkV p ((p0.1, p0.2.1) :: tell rs) = _
 simp only [tkV, hE, if_pos, hP, h2]
theorem tk_good {p : Pm} {rs : List Lt} {kn j nq : Nat} {b z : Bool} {ns : List Nd} {ws : List Bs} (hq : (tell rs)[j]? = some (nq, ws)) (hg : goN p kn b 0 false ((tell rs).take j) = .inr (ns, z)) (he : ndE p kn b (mayN j z) ws = 0) : goN p kn b 0 false ((tell rs).take (j + 1)) = .inr (ns ++ [ndV p kn b ws], zN j z (ws.getD 0 [])) := by
 have hjl : j < (tell rs).length := (List.getElem?_eq_some_iff.1 hq).1
 have hl1 : ((tell rs).take j).length = j := by rw [List.length_take]; omega
 rw [tk_take hq, goN_snoc, hg]
 simp only [hl1, Nat.zero_add]
 rw [if_pos he]
theorem tk_end {p : Pm} {p0 : Lt} {rs : List Lt} {cn kn : Nat} {b z : Bool} {ns : List Nd} (hE : hdE p0.2.1 = 0) (hP : hdP p0.2.1 = some (cn, kn, b)) (hc : cn ≤ rs.length) (hg : goN p kn b 0 false ((tell rs).take cn) = .inr (ns, z)) : tkV p (tell (p0 :: rs)) = (⟨ns, z, (kn : Nat), b⟩, 1 + cn, 0, 0) := by
 have hL : (tell rs).length = rs.length := by unfold tell; rw [List.length_map]
 have hns : ns.length = cn := by rw [goN_len hg, List.length_take, hL]; omega
 show tkV p ((p0.1, p0.2.1) :: tell rs) = _
 unfold tkV
 simp only [hE, if_pos, hP, hg]
 rw [if_neg (by omega), hns]
def nxt (j : Nat) (z : Bool) : Int := if j = 0 then 0 else if z then (j : Int) else (j : Int) + 1
theorem nxt_first {z : Bool} {n0 : Int} {w : Bs} (hr : rdInt w = some n0) (h : n0 = 0 ∨ n0 = 1) : n0 + 1 = nxt 1 (zN 0 z w) ∧ mayN 0 z n0 = true ∧ zN 0 z w = (n0 == 0) := by
 unfold nxt zN mayN
 rw [hr]
 rcases h with rfl | rfl <;> simp
theorem nxt_next {j : Nat} {z : Bool} {n0 : Int} {w : Bs} (hj : 0 < j) (h : n0 = nxt j z) : n0 + 1 = nxt (j + 1) (zN j z w) ∧ mayN j z n0 = true ∧ zN j z w = z := by
 unfold nxt at h
 unfold nxt zN mayN
 simp only [if_neg (show ¬ j = 0 by omega), if_neg (show ¬ j + 1 = 0 by omega)] at h ⊢
 subst h
 cases z <;> simp
theorem may_first {z : Bool} {n0 : Int} (h0 : n0 ≠ 0) (h1 : n0 ≠ 1) : mayN 0 z n0 = false := by unfold mayN; simp [h0, h1]
theorem may_next {j : Nat} {z : Bool} {n0 : Int} (hj : 0 < j) (h : n0 ≠ nxt j z) : mayN j z n0 = false := by
 unfold nxt at h
 unfold mayN
 rw [if_neg (by omega)] at h ⊢
 simpa using h
theorem nm_split {k : Nat} {m : Bool} {ws : List Bs} : (nmV k m ws = false ∧ ∀ (p : Pm) may, ndE p k m may ws = 4) ∨ (nmV k m ws = true ∧ ws.length = wid k m ∧ ∃ n, rdInt (ws.getD 0 []) = some n) := by
 unfold nmV
 by_cases hl : ws.length = wid k m
 · cases hr : rdInt (ws.getD 0 []) with
   | none => exact Or.inl ⟨by simp, fun p may => ndE_none hr⟩
   | some n => exact Or.inr ⟨by simp [hl], hl, n, rfl⟩
 · exact Or.inl ⟨by simp [hl], fun p may => ndE_long hl⟩
set_option maxHeartbeats 32000000 in
theorem take10_any {p : Pm} (hp : p.Ok) (v : Value) (ps : List Lt) (w : World) (hL : Lw w v ps) (hl : ∀ q ∈ ps, ∀ x ∈ q.2.1, x.length ≤ 400) (hlw : ∀ q ∈ ps, q.2.1.length ≤ 20000000) (hn : ps.length ≤ 20000000) (hno : ∀ q ∈ ps, q.1 ≤ 20000000) :
   Calls Tryz.prog 13 #[v] w fun e w' => TakeR p w w' (tell ps) e := by
 have HP := Lib.hid hp
 have HL := Lib.hid hl
 have HLW := Lib.hid hlw
 have HLw := Lib.hid hL
 have HNo := Lib.hid hno
 obtain ⟨W0, hW0⟩ : ∃ W0, w.alloc (.cells fz4 25) = W0 := ⟨_, rfl⟩
 have b0 : Below w.heap.size w W0 := by rw [← hW0]; exact (Below.refl _ w).alloc (Nat.le_refl _) _
 have z0 : W0.heap.size = w.heap.size + 1 := by rw [← hW0]; simp
 have c0 : CB W0 w.heap.size fz4 25 := by rw [← hW0]; exact CB.new w _ _
 obtain ⟨⟨a, c, rfl, hc1, hc2, hm⟩, hsub⟩ := hL
 cases ps with
 | nil =>
   have HR0 := Lib.hid (And.intro c0 b0)
   obtain ⟨k20, k21, k22, k23⟩ := HR0.out.1.cells4
   have f20 := HR0.out.1.frozen 0
   have f21 := HR0.out.1.frozen 1
   have f22 := HR0.out.1.frozen 2
   have f23 := HR0.out.1.frozen 3
   have HTV : Hid (tkV p (tell []) = (⟨[], false, 0, false⟩, 0, 1, 4)) := Lib.hid rfl
   clear hsub hm hl hlw hno hp HP HL HLW HLw HNo c0 b0
   simp only [List.length_nil]
   go_enter Tryz.func13, Tryz.ntmps13
   go_wp2_with fail
   try rw [hW0]
   clear hW0
   try go_wp2
   refine bodyPost_ret (res_take10 _ w.heap.size _ _ _ _ _ _ _ _ (set4 HR0.out.1 _ _ _ _) rfl rfl rfl rfl) rfl ?_
   exact TakeR.bad ((((HR0.out.2.setCell (Nat.le_refl _) _).setCell (Nat.le_refl _) _).setCell (Nat.le_refl _) _).setCell (Nat.le_refl _) _) HTV.out
 | cons p0 rs =>
   obtain ⟨g, off, rfl, hg, hcell⟩ := hm.resolve_left (by simp)
   rw [List.length_cons] at *
   obtain ⟨N, hN⟩ : ∃ N, Hid (rs.length = N) := ⟨_, Lib.hid rfl⟩
   rw [hN.out] at hc1 hn ⊢
   have HCe := Lib.hid hcell
   obtain ⟨hS0, hK0⟩ := hsub p0 (by simp)
   have HHd : Hid (Calls Tryz.prog 22 #[p0.2.2] W0 fun e w' => HdR p0.2.1 e ∧ Below W0.heap.size W0 w') := Lib.hid (head10_any p0.2.2 p0.2.1 W0 (hS0.later b0) (hl p0 (by simp)) (hlw p0 (by simp)))
   have k00 : W0.cell? ⟨g, off, none⟩ = some (.int .i64 (p0.1 : Nat)) := by have := cell_later b0 hg (hcell 0 p0 rfl).1; simpa using this
   have k01 : W0.cell? ⟨g, off + 1, none⟩ = some p0.2.2 := by have := cell_later b0 hg (hcell 0 p0 rfl).2; simpa using this
   have H0 : Hid (Below w.heap.size w W0 ∧ CB W0 w.heap.size fz4 25 ∧ W0.heap.size = w.heap.size + 1) := Lib.hid ⟨b0, c0, z0⟩
   have hn' : (N : Int) ≤ 20000000 := by omega
   have hgn : g ≠ w.heap.size := by omega
   have hgn2 : w.heap.size ≠ g := fun e => hgn e.symm
   clear hS0 hK0 hl hlw hno hsub hcell b0 z0 c0 hm hp
   obtain ⟨no0, ws0, wv0⟩ := p0
   go_enter Tryz.func13, Tryz.ntmps13
   go_wp2_with fail
   try rw [hW0]
   clear hW0
   refine HHd.out.mono ?_
   rintro e W1 ⟨⟨n, a, mk, ok, rfl, hno, hok⟩, hb1⟩
   have hw1 : Below w.heap.size w W1 := H0.out.1.trans (hb1.mono H0.out.1.size)
   have HR1 : Hid (CB W1 w.heap.size fz4 25 ∧ Below w.heap.size w W1 ∧ w.heap.size < W1.heap.size) := Lib.hid ⟨H0.out.2.1.later hb1, hw1, by have := hb1.size; have := H0.out.2.2; omega⟩
   have kd1 : W1.drew.cell? ⟨g, off, none⟩ = some (.int .i64 (no0 : Nat)) := cell_later hb1 (by have := H0.out.2.2; omega) k00
   clear k00 k01 hb1 hw1 HHd H0
   have HKd := Lib.hid kd1
   cases ok
   · have HTV : Hid (tkV p (tell ((no0, ws0, wv0) :: rs)) = (⟨[], false, 0, false⟩, 0, no0, 4)) := Lib.hid (by
       have h4 := hdE_none (hno rfl)
       show tkV p ((no0, ws0) :: tell rs) = _
       rw [tk_head (by rw [h4]; decide), h4]; rfl)
     have HR0 : Hid (CB W1.drew w.heap.size fz4 25 ∧ Below w.heap.size w W1.drew) := Lib.hid ⟨HR1.out.1, HR1.out.2.1.drew⟩
     obtain ⟨W, hW⟩ : ∃ W, W1.drew = W := ⟨_, rfl⟩
     rw [hW] at kd1 HR0
     obtain ⟨k20, k21, k22, k23⟩ := HR0.out.1.cells4
     have f20 := HR0.out.1.frozen 0
     have f21 := HR0.out.1.frozen 1
     have f22 := HR0.out.1.frozen 2
     have f23 := HR0.out.1.frozen 3
     clear hok hno HKd HR1
     go_wp2_with fail
     go_region
     all_goals
       go_wp2
       refine bodyPost_ret (res_take10 _ w.heap.size _ _ _ _ _ _ _ _ (set4 HR0.out.1 _ _ _ _) rfl rfl rfl rfl) rfl ?_
       exact TakeR.bad ((((HR0.out.2.setCell (Nat.le_refl _) _).setCell (Nat.le_refl _) _).setCell (Nat.le_refl _) _).setCell (Nat.le_refl _) _) HTV.out
   · obtain ⟨hp1, hp2, hp3⟩ := hok rfl
     obtain ⟨cn, rfl⟩ : ∃ cn : Nat, n = (cn : Nat) := ⟨n.toNat, by omega⟩
     obtain ⟨kn, rfl⟩ : ∃ kn : Nat, a = (kn : Nat) := ⟨a.toNat, by omega⟩
     have HHP : Hid (hdP ws0 = some (cn, kn, mk)) := Lib.hid (by simpa using hp3)
     clear hno hok hp1 hp2 hp3
     by_cases hck : cn ≤ 1048576 ∧ kn ≤ 16
     rotate_left
     · have HTV : Hid (tkV p (tell ((no0, ws0, wv0) :: rs)) = (⟨[], false, 0, false⟩, 0, no0, 3)) := Lib.hid (by
         have h4 := hdE_full HHP.out hck
         show tkV p ((no0, ws0) :: tell rs) = _
         rw [tk_head (by rw [h4]; decide), h4]; rfl)
       have HR0 : Hid (CB W1.drew w.heap.size fz4 25 ∧ Below w.heap.size w W1.drew) := Lib.hid ⟨HR1.out.1, HR1.out.2.1.drew⟩
       obtain ⟨W, hW⟩ : ∃ W, W1.drew = W := ⟨_, rfl⟩
       rw [hW] at kd1 HR0
       obtain ⟨k20, k21, k22, k23⟩ := HR0.out.1.cells4
       have f20 := HR0.out.1.frozen 0
       have f21 := HR0.out.1.frozen 1
       have f22 := HR0.out.1.frozen 2
       have f23 := HR0.out.1.frozen 3
       clear HKd HR1
       by_cases hc1 : (1048576 : Int) < (cn : Int)
       · clear hck
         go_wp2_with fail
         go_region
         all_goals
           go_wp2
           refine bodyPost_ret (res_take10 _ w.heap.size _ _ _ _ _ _ _ _ (set4 HR0.out.1 _ _ _ _) rfl rfl rfl rfl) rfl ?_
           exact TakeR.bad ((((HR0.out.2.setCell (Nat.le_refl _) _).setCell (Nat.le_refl _) _).setCell (Nat.le_refl _) _).setCell (Nat.le_refl _) _) HTV.out
       · have hc2 : (16 : Int) < (kn : Int) := by omega
         clear hck
         go_wp2_with fail
         go_region
         all_goals
           go_wp2
           refine bodyPost_ret (res_take10 _ w.heap.size _ _ _ _ _ _ _ _ (set4 HR0.out.1 _ _ _ _) rfl rfl rfl rfl) rfl ?_
           exact TakeR.bad ((((HR0.out.2.setCell (Nat.le_refl _) _).setCell (Nat.le_refl _) _).setCell (Nat.le_refl _) _).setCell (Nat.le_refl _) _) HTV.out
     · have hcn : (cn : Int) ≤ 1048576 := by omega
       have hkn : (kn : Int) ≤ 16 := by omega
       have HE0 : Hid (hdE ws0 = 0) := Lib.hid (hdE_ok HHP.out hck)
       clear kd1 HKd
       obtain ⟨W2, hW2⟩ : ∃ W2, W1.alloc (.cells #[.slice none 0 0, .bool false, .int .i64 (kn : Nat), .bool mk] 25) = W2 := ⟨_, rfl⟩
       have hb2 : Below W1.heap.size W1 W2 := by rw [← hW2]; exact (Below.refl _ _).alloc (Nat.le_refl _) _
       obtain ⟨Bf, hBf⟩ : ∃ Bf, W1.heap.size = Bf := ⟨_, rfl⟩
       have HT0 : Hid (Td w W2 Bf (.slice none 0 0) [] false kn mk) := Lib.hid ⟨HR1.out.2.1.trans (hb2.mono HR1.out.2.1.size), HR1.out.1.later hb2, by rw [← hBf, ← hW2]; exact CB.new _ _ _, by rw [← hBf]; exact HR1.out.2.2, Nr.nil (World.ownsRow_nil _ _ _ _)⟩
       clear hb2 HR1
       go_wp2_with fail
       try rw [hW2]
       try rw [hBf]
       clear hW2 hBf
       obtain ⟨i0, hi0, hz0, hz1, hz2⟩ := info_parts (show (Tryz.prog.info? 53).map (fun i => (i.zero, i.size, i.bytes)) = some (some (.agg nz), 4, 48) by kernel_rfl)
       have HTL : Hid ((tell rs).length = N) := Lib.hid (by unfold tell; rw [List.length_map]; exact hN.out)
       go_loopw [11, 12] (fun s11 s12 wr => ∃ (j : Nat) (i : Nat) (nv : Value) (ns : List Nt) (z : Bool), s12 = .int .i64 (i : Nat) ∧ s11 = .int .i64 (nxt j z) ∧ i = j + 1 ∧ j ≤ cn ∧ j ≤ N ∧ Hid (Td w wr Bf nv ns z kn mk ∧ ns.length = j ∧ goN p kn mk 0 false ((tell rs).take j) = .inr (ndsO ns, z))) (fun _ s12 _ => cn + 1 - (RowKit.intOf s12).toNat)
       case atStart => exact ⟨0, 1, _, [], false, rfl, rfl, rfl, by omega, by omega, HT0.out, rfl, rfl⟩
       case round =>
         obtain ⟨j, i, nv, ns, z, rfl, rfl, hij, hj1, hj2, hI⟩ := hrel
         by_cases hlt : i ≤ cn
         rotate_left
         · obtain rfl : j = cn := by omega
           have hlt' : ¬ ((i : Int) ≤ (j : Int)) := by omega
           obtain ⟨k40, k41, k42, k43⟩ := hI.out.1.fb.cells4
           have HR0 : Hid (CB wr w.heap.size fz4 25 ∧ Below w.heap.size w wr) := Lib.hid ⟨hI.out.1.r0, hI.out.1.bel⟩
           obtain ⟨k20, k21, k22, k23⟩ := HR0.out.1.cells4
           have f20 := HR0.out.1.frozen 0
           have f21 := HR0.out.1.frozen 1
           have f22 := HR0.out.1.frozen 2
           have f23 := HR0.out.1.frozen 3
           obtain ⟨na, nc, rfl⟩ := hI.out.1.nr.form
           have HTV : Hid (tkV p (tell ((no0, ws0, wv0) :: rs)) = (⟨ndsO ns, z, (kn : Nat), mk⟩, 1 + j, 0, 0)) := Lib.hid (tk_end (p0 := (no0, ws0, wv0)) HE0.out HHP.out (by rw [hN.out]; exact hj2) hI.out.2.2)
           have HI1 := Lib.hid hI.out.1
           have HLn := Lib.hid hI.out.2.1
           clear hI
           go_wp2
           refine bodyPost_ret (res_take10 _ w.heap.size _ _ _ _ _ _ _ _ (set4 HR0.out.1 _ _ _ _) rfl rfl rfl rfl) rfl ?_
           have hwb := HI1.out.hB
           unfold TakeR
           rw [HTV.out]
           refine ⟨((((HR0.out.2.setCell (Nat.le_refl _) _).setCell (Nat.le_refl _) _).setCell (Nat.le_refl _) _).setCell (Nat.le_refl _) _), na, nc, ns, z, kn, mk, ?_, ⟨?_, rfl, hck.2, by rw [HLn.out]; exact hck.1⟩⟩
           · show Ending.returned (.tuple #[_, .int .i64 _, _, _]) = Ending.returned (.tuple #[_, .int .i64 _, _, _])
             rw [show ((j : Nat) : Int) + 1 = ((1 + j : Nat) : Int) by omega]
             rfl
           · exact (HI1.out.nr.ob (ob_set4 _ _ _ _ _ _) (by omega)).base (by omega)
         · have hlt' : (i : Int) ≤ (cn : Int) := by omega
           by_cases hiN : i = N + 1
           · obtain ⟨q, hq⟩ : ∃ q, ((no0, ws0, wv0) :: rs)[N]? = some q := ⟨_, List.getElem?_eq_getElem (by rw [List.length_cons, hN.out]; omega)⟩
             have hqn : q.1 ≤ 20000000 := HNo.out q (List.mem_of_getElem? hq)
             have kno : wr.drew.cell? ⟨g, off + N * 2, none⟩ = some (.int .i64 (q.1 : Nat)) := cell_later hI.out.1.bel hg (HCe.out N q hq).1
             have HR0 : Hid (CB wr.drew w.heap.size fz4 25 ∧ Below w.heap.size w wr.drew) := Lib.hid ⟨hI.out.1.r0, hI.out.1.bel.drew⟩
             obtain rfl : j = N := by omega
             have HTV : Hid (tkV p (tell ((no0, ws0, wv0) :: rs)) = (⟨[], false, 0, false⟩, 0, q.1 + 1, 4)) := Lib.hid (tk_short (p0 := (no0, ws0, wv0)) (q := q) HE0.out HHP.out (by rw [hN.out]; exact hq) (by rw [hN.out]; omega) (by rw [hN.out]; exact hI.out.2.2))
             obtain ⟨W, hW⟩ : ∃ W, wr.drew = W := ⟨_, rfl⟩
             rw [hW] at kno HR0
             obtain ⟨k20, k21, k22, k23⟩ := HR0.out.1.cells4
             have f20 := HR0.out.1.frozen 0
             have f21 := HR0.out.1.frozen 1
             have f22 := HR0.out.1.frozen 2
             have f23 := HR0.out.1.frozen 3
             obtain ⟨nq, hnq⟩ : ∃ n : Nat, q.1 = n := ⟨_, rfl⟩
             rw [hnq] at kno hqn HTV
             have hqn' : (nq : Int) ≤ 20000000 := by omega
             have hge : (j : Int) + 1 ≤ (i : Int) := by omega
             have hj0 : (0 : Int) ≤ (j : Int) := by omega
             have hsub : (j : Int) + 1 - 1 = (j : Int) := by omega
             have hHd : HTV.out = HTV.out := rfl
             have HTV2 : Hid (∀ n3 : Int, n3 = (nq : Int) + 1 → n3 = ((nq + 1 : Nat) : Int)) := Lib.hid fun n3 h => by omega
             clear hI hq hnq hHd
             go_wp2_with fail
             go_region
             all_goals
               go_wp2
               refine bodyPost_ret (res_take10 _ w.heap.size _ _ _ _ _ _ _ _ (set4 HR0.out.1 _ _ _ _) rfl rfl rfl rfl) rfl ?_
               rw [show ((nq : Nat) : Int) + 1 = ((nq + 1 : Nat) : Int) by omega]
               exact TakeR.bad ((((HR0.out.2.setCell (Nat.le_refl _) _).setCell (Nat.le_refl _) _).setCell (Nat.le_refl _) _).setCell (Nat.le_refl _) _) HTV.out
           · have hi5 : i < N + 1 := by omega
             obtain ⟨q, hq⟩ : ∃ q, ((no0, ws0, wv0) :: rs)[i]? = some q := ⟨_, List.getElem?_eq_getElem (by rw [List.length_cons, hN.out]; omega)⟩
             have hqm := List.mem_of_getElem? hq
             have HKno : Hid (∀ W', Below w.heap.size w W' → W'.cell? ⟨g, off + i * 2, none⟩ = some (.int .i64 (q.1 : Nat)) ∧ W'.cell? ⟨g, off + i * 2 + 1, none⟩ = some q.2.2) := Lib.hid fun W' hb => ⟨cell_later hb hg (HCe.out i q hq).1, cell_later hb hg (HCe.out i q hq).2⟩
             have kwd := (HKno.out wr hI.out.1.bel).2
             have HGo := Lib.hid hI.out.2.2
             have HLn := Lib.hid hI.out.2.1
             obtain ⟨na, nc, hnv⟩ := hI.out.1.nr.form
             rw [HLn.out] at hnv
             subst hnv
             have hsl := HLw.out.sub q hqm
             have hlq := HL.out q hqm
             have hlq2 := HLW.out q hqm
             obtain ⟨nq, ws, wv⟩ := q
             have HNd := Lib.hid (node10_any HP.out wv ws kn mk wr (hsl.1.later hI.out.1.bel) hlq hck.2 hlq2)
             have HSl := Lib.hid hsl.1
             have HTd := Lib.hid hI.out.1
             have HLq := Lib.hid (And.intro hlq hlq2)
             have hi3 : (i : Int) < (N : Int) + 1 := by omega
             have hi4 : (0 : Int) ≤ (i : Int) := by omega
             have hi6 : (i : Int) ≤ 20000000 := by omega
             have hi8 : ¬ ((N : Int) + 1 ≤ (i : Int)) := by omega
             have hQ : Hid ((tell rs)[j]? = some (nq, ws)) := Lib.hid (by
               have : rs[j]? = some (nq, ws, wv) := by rw [hij] at hq; simpa using hq
               unfold tell
               rw [List.getElem?_map, this]; rfl)
             have HIj := Lib.hid hij
             clear hI hq hqm hsl hlq hlq2 hiN hij
             try dsimp only at kwd HKno
             go_wp2_with fail
             refine HNd.out.mono ?_
             rintro e W5 ⟨hb5, x, y, av, ls, mk', at', rfl, hfr, hx, hy, hin, hat, hv⟩
             obtain ⟨ae, ac, rfl⟩ := own_slice hfr.own
             obtain ⟨W6, hW6⟩ : ∃ W6, W5.alloc (.cells #[.float .f64 x, .float .f64 y, .slice ae ls.length ac, .int .i64 mk'] 53) = W6 := ⟨_, rfl⟩
             obtain ⟨Bn, hBn⟩ : ∃ Bn, W5.heap.size = Bn := ⟨_, rfl⟩
             have hb6 : Below W5.heap.size W5 W6 := by rw [← hW6]; exact (Below.refl _ _).alloc (Nat.le_refl _) _
             have H6 : Hid (Td w W6 Bf (.slice na j nc) ns z kn mk ∧ CB W6 Bn #[.float .f64 x, .float .f64 y, .slice ae ls.length ac, .int .i64 mk'] 53 ∧ Fr W6 (Bf + 1) (.slice ae ls.length ac) ls) := Lib.hid ⟨(HTd.out.later hb5).later hb6, by rw [← hBn, ← hW6]; exact CB.new _ _ _, (hfr.later hb6).mono (by have := HTd.out.fb.lt; omega)⟩
             have kw6 := HKno.out W6 H6.out.1.bel
             have HBn : Hid (Bf < Bn) := Lib.hid (by rw [← hBn]; have := (HTd.out.later hb5).fb.lt; exact this)
             have HXY := Lib.hid (And.intro hx (And.intro hy hin))
             have HAt := Lib.hid hat
             have HVV := Lib.hid hv
             obtain ⟨E, hEE⟩ : ∃ E : Int, Hid (ndE p kn mk (fun _ => true) ws = E) := ⟨_, Lib.hid rfl⟩
             have HSl6 := Lib.hid (HSl.out.later H6.out.1.bel)
             rw [hEE.out] at HVV ⊢
             clear hfr hx hy hin hat hv hb5 hb6 HNd HTd
             have HTB : Hid (∀ e : Int, ndE p kn mk (mayN j z) ws = e → e ≠ 0 → tkV p (tell ((no0, ws0, wv0) :: rs)) = (⟨[], false, 0, false⟩, 0, nq, e)) := Lib.hid fun e he h0 => tk_bad (p0 := (no0, ws0, wv0)) HE0.out HHP.out (by have := HIj.out; omega) hQ.out HGo.out he h0
             have HR6 : Hid (CB W6.drew w.heap.size fz4 25 ∧ Below w.heap.size w W6.drew) := Lib.hid ⟨H6.out.1.r0, H6.out.1.bel.drew⟩
             have HK6 : Hid (W6.drew.cell? ⟨g, off + i * 2, none⟩ = some (.int .i64 (nq : Nat))) := Lib.hid kw6.1
             obtain ⟨kw60, kw61⟩ := kw6
             clear kwd
             rcases ws with _ | ⟨x0, r0⟩
             · have h4 : ∀ may, ndE p kn mk may [] = 4 := fun may => ndE_long (by unfold wid; split <;> simp only [List.length_nil] <;> omega)
               obtain rfl : E = 4 := by rw [← hEE.out]; exact h4 _
               have HTV := Lib.hid (HTB.out 4 (h4 _) (by decide))
               obtain ⟨wa, wc, hwv⟩ : ∃ wa wc, wv = .slice wa 0 wc := by
                 obtain ⟨a, c, e, _⟩ := HSl6.out.form
                 exact ⟨a, c, e⟩
               subst hwv
               clear h4
               have HR0 := HR6
               have kno := HK6.out
               obtain ⟨W, hW⟩ : ∃ W, W6.drew = W := ⟨_, rfl⟩
               rw [hW] at kno HR0
               obtain ⟨k20, k21, k22, k23⟩ := HR0.out.1.cells4
               have f20 := HR0.out.1.frozen 0
               have f21 := HR0.out.1.frozen 1
               have f22 := HR0.out.1.frozen 2
               have f23 := HR0.out.1.frozen 3
               go_wp2_with fail
               go_region
               all_goals
                 go_wp2
                 refine bodyPost_ret (res_take10 _ w.heap.size _ _ _ _ _ _ _ _ (set4 HR0.out.1 _ _ _ _) rfl rfl rfl rfl) rfl ?_
                 exact TakeR.bad ((((HR0.out.2.setCell (Nat.le_refl _) _).setCell (Nat.le_refl _) _).setCell (Nat.le_refl _) _).setCell (Nat.le_refl _) _) HTV.out
             · obtain ⟨wa, wc, hwv⟩ : ∃ wa wc, wv = .slice wa (x0 :: r0).length wc := by
                 obtain ⟨a, c, e, _⟩ := HSl6.out.form
                 exact ⟨a, c, e⟩
               have HNm0 := Lib.hid (number10_any wv x0 r0 kn mk W6 HSl6.out hck.2 (HLq.out.1 x0 (by simp)) (by have := HLq.out.2; simp at this; omega))
               obtain ⟨n1, hn1⟩ : ∃ n1, (x0 :: r0).length = n1 := ⟨_, rfl⟩
               have hn1p : (0 : Int) < (n1 : Int) := by rw [← hn1]; simp only [List.length_cons]; omega
               rw [hn1] at hwv
               subst hwv
               clear hn1
               have HBB : Hid (Bf < Bn) := Lib.hid HBn.out
               rcases nm_split (k := kn) (m := mk) (ws := x0 :: r0) with ⟨hnm, h4⟩ | ⟨hnm, hwl, n0, hrd⟩
               · obtain rfl : E = 4 := by rw [← hEE.out]; exact h4 p _
                 have HTV := Lib.hid (HTB.out 4 (h4 p _) (by decide))
                 have HNm := HNm0
                 rw [hnm] at HNm
                 clear h4 hnm HNm0
                 go_wp2_with fail
                 try rw [hW6]
                 clear hW6 hBn
                 refine HNm.out.mono ?_
                 rintro e W7 ⟨rfl, hb7⟩
                 have HR0 : Hid (CB W7.drew w.heap.size fz4 25 ∧ Below w.heap.size w W7.drew) := Lib.hid ⟨H6.out.1.r0.later hb7.drew, (H6.out.1.bel.trans (hb7.mono H6.out.1.bel.size)).drew⟩
                 have kno := (HKno.out W7.drew HR0.out.2).1
                 obtain ⟨W, hW⟩ : ∃ W, W7.drew = W := ⟨_, rfl⟩
                 clear hb7
                 rw [hW] at kno HR0
                 obtain ⟨k20, k21, k22, k23⟩ := HR0.out.1.cells4
                 have f20 := HR0.out.1.frozen 0
                 have f21 := HR0.out.1.frozen 1
                 have f22 := HR0.out.1.frozen 2
                 have f23 := HR0.out.1.frozen 3
                 go_wp2_with fail
                 go_region
                 all_goals
                   go_wp2
                   refine bodyPost_ret (res_take10 _ w.heap.size _ _ _ _ _ _ _ _ (set4 HR0.out.1 _ _ _ _) rfl rfl rfl rfl) rfl ?_
                   exact TakeR.bad ((((HR0.out.2.setCell (Nat.le_refl _) _).setCell (Nat.le_refl _) _).setCell (Nat.le_refl _) _).setCell (Nat.le_refl _) _) HTV.out
               · have HNm := HNm0
                 rw [hnm] at HNm
                 obtain rfl : at' = n0 := HAt.out n0 hwl hrd
                 have HDk : Hid (∀ may, ndE p kn mk may (x0 :: r0) = if may at' then E else 4) := Lib.hid fun may => by
                   have hA := ndE_some (p := p) (may := fun _ => true) hwl hrd
                   rw [hEE.out] at hA
                   rw [ndE_some hwl hrd]
                   simp only [if_true] at hA
                   rw [← hA]
                 have HRd := Lib.hid hrd
                 clear HNm0 hnm hwl hrd
                 by_cases hj0 : j = 0
                 · have HJ0 := Lib.hid hj0
                   clear hj0
                   have hee : (((i : Nat) : Int) == 1) = true := by rw [beq_iff_eq]; have := HIj.out; have := HJ0.out; omega
                   have hgt : ¬ ((1 : Int) < (i : Int)) := by have := HIj.out; have := HJ0.out; omega
                   by_cases ha0 : at' = 0 ∨ at' = 1
                   · have HNx0 : Hid (at' + 1 = nxt (j + 1) (zN j z ((x0 :: r0).getD 0 [])) ∧ mayN j z at' = true ∧ zN j z ((x0 :: r0).getD 0 []) = (at' == 0)) := Lib.hid (by rw [HJ0.out]; exact nxt_first HRd.out ha0)
                     have HMay : Hid (ndE p kn mk (mayN j z) (x0 :: r0) = E) := Lib.hid (by rw [HDk.out, HNx0.out.2.1]; rfl)
                     by_cases hE0 : E = 0
                     · subst hE0
                       have HWdN : Hid (wdN ⟨x, y, ls, mk'⟩) := Lib.hid ⟨HXY.out.1, HXY.out.2.1, inR_nd (HVV.out (by first | rfl | trivial))⟩
                       rcases ha0 with rfl | rfl
                       · have HNx : Hid (_ = nxt (j + 1) (zN j z ((x0 :: r0).getD 0 [])) ∧ zN j z ((x0 :: r0).getD 0 []) = true) := Lib.hid ⟨HNx0.out.1, HNx0.out.2.2⟩
                         go_wp2_with fail
                         try rw [hW6]
                         clear hW6 hBn
                         refine HNm.out.mono ?_
                         rintro e W7 ⟨rfl, hb7⟩
                         have h7 : Td w W7 Bf (.slice na j nc) ns z kn mk := H6.out.1.later hb7
                         have hc7 := H6.out.2.1.later hb7
                         have hf7 := H6.out.2.2.later hb7
                         have hBB : Bf < Bn := by have := HBB.out; omega
                         have s10 := h7.fb.cell 1 (by simp)
                         have s11 := h7.fb.frozen 1
                         obtain ⟨W8, hW8⟩ : ∃ W8, W7.setCell ⟨Bf, 1, none⟩ (.bool true) = W8 := ⟨_, rfl⟩
                         have h8 : Td w W8 Bf (.slice na j nc) ns true kn mk := by rw [← hW8]; exact h7.zero true
                         have hc8 : CB W8 Bn #[.float .f64 x, .float .f64 y, .slice ae ls.length ac, .int .i64 mk'] 53 := by rw [← hW8]; exact hc7.other (by omega) _
                         have hf8 : Fr W8 (Bf + 1) (.slice ae ls.length ac) ls := by rw [← hW8]; exact hf7.low (by show Bf < _; omega) _
                         have H8 := Lib.hid (And.intro h8 (And.intro hc8 hf8))
                         obtain ⟨m0, m1, m2, m3⟩ := hc8.cells4
                         have n0' := h8.fb.cell 0 (by simp)
                         clear h7 hc7 hf7 h8 hc8 hf8 hb7
                         go_wp2_with (at_builtin; refine wpList_append_own _ rfl _ _ 23 rfl (Bf + 1) 53 i0 (.agg nz) 4 48 Tryz.underlying23 hi0 hz0 hz1 hz2 rfl (by decide) (.slice na j nc) ns.length (ncs ns) rfl (World.ownsRow.alloc H8.out.1.nr.own _) ⟨W8.heap.size, 0, none⟩ 1 1 [.float .f64 x, .float .f64 y, .slice ae ls.length ac, .int .i64 mk'] rfl rfl (World.news_of_block (cs := #[.float .f64 x, .float .f64 y, .slice ae ls.length ac, .int .i64 mk']) (t := 53) (fr := (0, 0)) (heap_alloc_new W8 _)) (by simp [Value.oneCell']) (by unfold maxLen; have := HLn.out; omega) (by have := HLn.out; omega) (by have := H8.out.1.fb.lt; simp; omega) ?_; intro v' W9 hown hgrow _; obtain ⟨va, vc, rfl⟩ := own_slice hown; obtain ⟨⟨s1, s2⟩, h9⟩ := H8.out.1.append (p := (⟨x, y, ls, mk'⟩, .slice ae ls.length ac)) H8.out.2.2 HWdN.out hown hgrow; have H9 := Lib.hid h9; clear hown hgrow h9)
                         refine ⟨⟨j + 1, i + 1, _, ns ++ [(⟨x, y, ls, mk'⟩, .slice ae ls.length ac)], true, by go_num, ?_, by have := HIj.out; omega, by have := HIj.out; omega, by have := HIj.out; omega, H9.out, by rw [List.length_append, HLn.out]; rfl, ?_⟩, by simp [RowKit.intOf]; omega⟩
                         · have hh := HNx.out.1
                           rw [HNx.out.2] at hh
                           try (rw [← hh]; rfl)
                           try (rw [← hh])
                         · rw [tk_good hQ.out HGo.out HMay.out, HVV.out (by first | rfl | trivial), HNx.out.2]
                           simp [ndsO]
                       · have HNx : Hid (_ = nxt (j + 1) (zN j z ((x0 :: r0).getD 0 [])) ∧ zN j z ((x0 :: r0).getD 0 []) = false) := Lib.hid ⟨HNx0.out.1, HNx0.out.2.2⟩
                         go_wp2_with fail
                         try rw [hW6]
                         clear hW6 hBn
                         refine HNm.out.mono ?_
                         rintro e W7 ⟨rfl, hb7⟩
                         have h7 : Td w W7 Bf (.slice na j nc) ns z kn mk := H6.out.1.later hb7
                         have hc7 := H6.out.2.1.later hb7
                         have hf7 := H6.out.2.2.later hb7
                         have hBB : Bf < Bn := by have := HBB.out; omega
                         have s10 := h7.fb.cell 1 (by simp)
                         have s11 := h7.fb.frozen 1
                         obtain ⟨W8, hW8⟩ : ∃ W8, W7.setCell ⟨Bf, 1, none⟩ (.bool false) = W8 := ⟨_, rfl⟩
                         have h8 : Td w W8 Bf (.slice na j nc) ns false kn mk := by rw [← hW8]; exact h7.zero false
                         have hc8 : CB W8 Bn #[.float .f64 x, .float .f64 y, .slice ae ls.length ac, .int .i64 mk'] 53 := by rw [← hW8]; exact hc7.other (by omega) _
                         have hf8 : Fr W8 (Bf + 1) (.slice ae ls.length ac) ls := by rw [← hW8]; exact hf7.low (by show Bf < _; omega) _
                         have H8 := Lib.hid (And.intro h8 (And.intro hc8 hf8))
                         obtain ⟨m0, m1, m2, m3⟩ := hc8.cells4
                         have n0' := h8.fb.cell 0 (by simp)
                         clear h7 hc7 hf7 h8 hc8 hf8 hb7
                         go_wp2_with (at_builtin; refine wpList_append_own _ rfl _ _ 23 rfl (Bf + 1) 53 i0 (.agg nz) 4 48 Tryz.underlying23 hi0 hz0 hz1 hz2 rfl (by decide) (.slice na j nc) ns.length (ncs ns) rfl (World.ownsRow.alloc H8.out.1.nr.own _) ⟨W8.heap.size, 0, none⟩ 1 1 [.float .f64 x, .float .f64 y, .slice ae ls.length ac, .int .i64 mk'] rfl rfl (World.news_of_block (cs := #[.float .f64 x, .float .f64 y, .slice ae ls.length ac, .int .i64 mk']) (t := 53) (fr := (0, 0)) (heap_alloc_new W8 _)) (by simp [Value.oneCell']) (by unfold maxLen; have := HLn.out; omega) (by have := HLn.out; omega) (by have := H8.out.1.fb.lt; simp; omega) ?_; intro v' W9 hown hgrow _; obtain ⟨va, vc, rfl⟩ := own_slice hown; obtain ⟨⟨s1, s2⟩, h9⟩ := H8.out.1.append (p := (⟨x, y, ls, mk'⟩, .slice ae ls.length ac)) H8.out.2.2 HWdN.out hown hgrow; have H9 := Lib.hid h9; clear hown hgrow h9)
                         refine ⟨⟨j + 1, i + 1, _, ns ++ [(⟨x, y, ls, mk'⟩, .slice ae ls.length ac)], false, by go_num, ?_, by have := HIj.out; omega, by have := HIj.out; omega, by have := HIj.out; omega, H9.out, by rw [List.length_append, HLn.out]; rfl, ?_⟩, by simp [RowKit.intOf]; omega⟩
                         · have hh := HNx.out.1
                           rw [HNx.out.2] at hh
                           try (rw [← hh]; rfl)
                           try (rw [← hh])
                         · rw [tk_good hQ.out HGo.out HMay.out, HVV.out (by first | rfl | trivial), HNx.out.2]
                           simp [ndsO]
                     · have HTV := Lib.hid (HTB.out E HMay.out hE0)
                       have hE1 : (E == 0) = false := by simpa using hE0
                       clear hE0
                       rcases ha0 with rfl | rfl
                       · go_wp2_with fail
                         try rw [hW6]
                         clear hW6 hBn
                         refine HNm.out.mono ?_
                         rintro e W7 ⟨rfl, hb7⟩
                         have HR0 : Hid (CB W7.drew w.heap.size fz4 25 ∧ Below w.heap.size w W7.drew) := Lib.hid ⟨H6.out.1.r0.later hb7.drew, (H6.out.1.bel.trans (hb7.mono H6.out.1.bel.size)).drew⟩
                         have kno := (HKno.out W7.drew HR0.out.2).1
                         obtain ⟨W, hW⟩ : ∃ W, W7.drew = W := ⟨_, rfl⟩
                         clear hb7
                         rw [hW] at kno HR0
                         obtain ⟨k20, k21, k22, k23⟩ := HR0.out.1.cells4
                         have f20 := HR0.out.1.frozen 0
                         have f21 := HR0.out.1.frozen 1
                         have f22 := HR0.out.1.frozen 2
                         have f23 := HR0.out.1.frozen 3
                         go_wp2_with fail
                         go_region
                         all_goals
                           go_wp2
                           refine bodyPost_ret (res_take10 _ w.heap.size _ _ _ _ _ _ _ _ (set4 HR0.out.1 _ _ _ _) rfl rfl rfl rfl) rfl ?_
                           exact TakeR.bad ((((HR0.out.2.setCell (Nat.le_refl _) _).setCell (Nat.le_refl _) _).setCell (Nat.le_refl _) _).setCell (Nat.le_refl _) _) HTV.out
                       · go_wp2_with fail
                         try rw [hW6]
                         clear hW6 hBn
                         refine HNm.out.mono ?_
                         rintro e W7 ⟨rfl, hb7⟩
                         have HR0 : Hid (CB W7.drew w.heap.size fz4 25 ∧ Below w.heap.size w W7.drew) := Lib.hid ⟨H6.out.1.r0.later hb7.drew, (H6.out.1.bel.trans (hb7.mono H6.out.1.bel.size)).drew⟩
                         have kno := (HKno.out W7.drew HR0.out.2).1
                         obtain ⟨W, hW⟩ : ∃ W, W7.drew = W := ⟨_, rfl⟩
                         clear hb7
                         rw [hW] at kno HR0
                         obtain ⟨k20, k21, k22, k23⟩ := HR0.out.1.cells4
                         have f20 := HR0.out.1.frozen 0
                         have f21 := HR0.out.1.frozen 1
                         have f22 := HR0.out.1.frozen 2
                         have f23 := HR0.out.1.frozen 3
                         go_wp2_with fail
                         go_region
                         all_goals
                           go_wp2
                           refine bodyPost_ret (res_take10 _ w.heap.size _ _ _ _ _ _ _ _ (set4 HR0.out.1 _ _ _ _) rfl rfl rfl rfl) rfl ?_
                           exact TakeR.bad ((((HR0.out.2.setCell (Nat.le_refl _) _).setCell (Nat.le_refl _) _).setCell (Nat.le_refl _) _).setCell (Nat.le_refl _) _) HTV.out
                   · have ha1 : at' ≠ 0 := fun h => ha0 (Or.inl h)
                     have ha2 : at' ≠ 1 := fun h => ha0 (Or.inr h)
                     have hb1 : (at' == 0) = false := by simpa using ha1
                     have hb2 : (at' == 1) = false := by simpa using ha2
                     have HTV := Lib.hid (HTB.out 4 (by rw [HDk.out, HJ0.out, may_first ha1 ha2]; rfl) (by decide))
                     clear ha0 ha1 ha2
                     go_wp2_with fail
                     try rw [hW6]
                     clear hW6 hBn
                     refine HNm.out.mono ?_
                     rintro e W7 ⟨rfl, hb7⟩
                     have HR0 : Hid (CB W7.drew w.heap.size fz4 25 ∧ Below w.heap.size w W7.drew) := Lib.hid ⟨H6.out.1.r0.later hb7.drew, (H6.out.1.bel.trans (hb7.mono H6.out.1.bel.size)).drew⟩
                     have kno := (HKno.out W7.drew HR0.out.2).1
                     obtain ⟨W, hW⟩ : ∃ W, W7.drew = W := ⟨_, rfl⟩
                     clear hb7
                     rw [hW] at kno HR0
                     obtain ⟨k20, k21, k22, k23⟩ := HR0.out.1.cells4
                     have f20 := HR0.out.1.frozen 0
                     have f21 := HR0.out.1.frozen 1
                     have f22 := HR0.out.1.frozen 2
                     have f23 := HR0.out.1.frozen 3
                     go_wp2_with fail
                     go_region
                     all_goals
                       go_wp2
                       refine bodyPost_ret (res_take10 _ w.heap.size _ _ _ _ _ _ _ _ (set4 HR0.out.1 _ _ _ _) rfl rfl rfl rfl) rfl ?_
                       exact TakeR.bad ((((HR0.out.2.setCell (Nat.le_refl _) _).setCell (Nat.le_refl _) _).setCell (Nat.le_refl _) _).setCell (Nat.le_refl _) _) HTV.out
                 · have hjp : 0 < j := by omega
                   have hee : (((i : Nat) : Int) == 1) = false := by rw [beq_eq_false_iff_ne]; have := HIj.out; omega
                   have hgt : (1 : Int) < (i : Int) := by have := HIj.out; omega
                   obtain ⟨nx, hnx⟩ : ∃ nx, nxt j z = nx := ⟨_, rfl⟩
                   have hnx1 : 0 ≤ nx ∧ nx ≤ 20000001 := by rw [← hnx]; unfold nxt; rw [if_neg hj0]; split <;> omega
                   obtain ⟨hnxa, hnxb⟩ := hnx1
                   rw [hnx]
                   by_cases ha0 : at' = nx
                   · have HNx0 := Lib.hid (nxt_next (z := z) (w := (x0 :: r0).getD 0 []) hjp (ha0.trans hnx.symm))
                     have HMay : Hid (ndE p kn mk (mayN j z) (x0 :: r0) = E) := Lib.hid (by rw [HDk.out, HNx0.out.2.1]; rfl)
                     subst ha0
                     by_cases hE0 : E = 0
                     · subst hE0
                       have HWdN : Hid (wdN ⟨x, y, ls, mk'⟩) := Lib.hid ⟨HXY.out.1, HXY.out.2.1, inR_nd (HVV.out (by first | rfl | trivial))⟩
                       have HNx : Hid (_ = nxt (j + 1) (zN j z ((x0 :: r0).getD 0 [])) ∧ zN j z ((x0 :: r0).getD 0 []) = z) := Lib.hid ⟨HNx0.out.1, HNx0.out.2.2⟩
                       clear hnx
                       go_wp2_with fail
                       try rw [hW6]
                       clear hW6 hBn
                       refine HNm.out.mono ?_
                       rintro e W7 ⟨rfl, hb7⟩
                       have h7 : Td w W7 Bf (.slice na j nc) ns z kn mk := H6.out.1.later hb7
                       have hc7 := H6.out.2.1.later hb7
                       have hf7 := H6.out.2.2.later hb7
                       have hBB : Bf < Bn := by have := HBB.out; omega
                       obtain ⟨W8, hW8⟩ : ∃ W8, W7 = W8 := ⟨_, rfl⟩
                       subst hW8
                       have h8 := h7
                       have hc8 := hc7
                       have hf8 := hf7
                       have H8 := Lib.hid (And.intro h8 (And.intro hc8 hf8))
                       obtain ⟨m0, m1, m2, m3⟩ := hc8.cells4
                       have n0' := h8.fb.cell 0 (by simp)
                       clear h7 hc7 hf7 h8 hc8 hf8 hb7
                       go_wp2_with (at_builtin; refine wpList_append_own _ rfl _ _ 23 rfl (Bf + 1) 53 i0 (.agg nz) 4 48 Tryz.underlying23 hi0 hz0 hz1 hz2 rfl (by decide) (.slice na j nc) ns.length (ncs ns) rfl (World.ownsRow.alloc H8.out.1.nr.own _) ⟨W7.heap.size, 0, none⟩ 1 1 [.float .f64 x, .float .f64 y, .slice ae ls.length ac, .int .i64 mk'] rfl rfl (World.news_of_block (cs := #[.float .f64 x, .float .f64 y, .slice ae ls.length ac, .int .i64 mk']) (t := 53) (fr := (0, 0)) (heap_alloc_new W7 _)) (by simp [Value.oneCell']) (by unfold maxLen; have := HLn.out; omega) (by have := HLn.out; omega) (by have := H8.out.1.fb.lt; simp; omega) ?_; intro v' W9 hown hgrow _; obtain ⟨va, vc, rfl⟩ := own_slice hown; obtain ⟨⟨s1, s2⟩, h9⟩ := H8.out.1.append (p := (⟨x, y, ls, mk'⟩, .slice ae ls.length ac)) H8.out.2.2 HWdN.out hown hgrow; have H9 := Lib.hid h9; clear hown hgrow h9)
                       refine ⟨⟨j + 1, i + 1, _, ns ++ [(⟨x, y, ls, mk'⟩, .slice ae ls.length ac)], z, by go_num, ?_, by have := HIj.out; omega, by have := HIj.out; omega, by have := HIj.out; omega, H9.out, by rw [List.length_append, HLn.out]; rfl, ?_⟩, by simp [RowKit.intOf]; omega⟩
                       · have hh := HNx.out.1
                         rw [HNx.out.2] at hh
                         try (rw [← hh]; rfl)
                         try (rw [← hh])
                       · rw [tk_good hQ.out HGo.out HMay.out, HVV.out (by first | rfl | trivial), HNx.out.2]
                         simp [ndsO]
                     · have HTV := Lib.hid (HTB.out E HMay.out hE0)
                       have hE1 : (E == 0) = false := by simpa using hE0
                       clear hE0 hnx
                       go_wp2_with fail
                       try rw [hW6]
                       clear hW6 hBn
                       refine HNm.out.mono ?_
                       rintro e W7 ⟨rfl, hb7⟩
                       have HR0 : Hid (CB W7.drew w.heap.size fz4 25 ∧ Below w.heap.size w W7.drew) := Lib.hid ⟨H6.out.1.r0.later hb7.drew, (H6.out.1.bel.trans (hb7.mono H6.out.1.bel.size)).drew⟩
                       have kno := (HKno.out W7.drew HR0.out.2).1
                       obtain ⟨W, hW⟩ : ∃ W, W7.drew = W := ⟨_, rfl⟩
                       clear hb7
                       rw [hW] at kno HR0
                       obtain ⟨k20, k21, k22, k23⟩ := HR0.out.1.cells4
                       have f20 := HR0.out.1.frozen 0
                       have f21 := HR0.out.1.frozen 1
                       have f22 := HR0.out.1.frozen 2
                       have f23 := HR0.out.1.frozen 3
                       go_wp2_with fail
                       go_region
                       all_goals
                         go_wp2
                         refine bodyPost_ret (res_take10 _ w.heap.size _ _ _ _ _ _ _ _ (set4 HR0.out.1 _ _ _ _) rfl rfl rfl rfl) rfl ?_
                         exact TakeR.bad ((((HR0.out.2.setCell (Nat.le_refl _) _).setCell (Nat.le_refl _) _).setCell (Nat.le_refl _) _).setCell (Nat.le_refl _) _) HTV.out
                   · have hb1 : (at' == nx) = false := by simpa using ha0
                     have HTV := Lib.hid (HTB.out 4 (by rw [HDk.out, may_next hjp (fun h => ha0 (h.trans hnx))]; rfl) (by decide))
                     clear hnx
                     go_wp2_with fail
                     try rw [hW6]
                     clear hW6 hBn
                     refine HNm.out.mono ?_
                     rintro e W7 ⟨rfl, hb7⟩
                     have HR0 : Hid (CB W7.drew w.heap.size fz4 25 ∧ Below w.heap.size w W7.drew) := Lib.hid ⟨H6.out.1.r0.later hb7.drew, (H6.out.1.bel.trans (hb7.mono H6.out.1.bel.size)).drew⟩
                     have kno := (HKno.out W7.drew HR0.out.2).1
                     obtain ⟨W, hW⟩ : ∃ W, W7.drew = W := ⟨_, rfl⟩
                     clear hb7
                     rw [hW] at kno HR0
                     obtain ⟨k20, k21, k22, k23⟩ := HR0.out.1.cells4
                     have f20 := HR0.out.1.frozen 0
                     have f21 := HR0.out.1.frozen 1
                     have f22 := HR0.out.1.frozen 2
                     have f23 := HR0.out.1.frozen 3
                     go_wp2_with fail
                     go_region
                     all_goals
                       go_wp2
                       refine bodyPost_ret (res_take10 _ w.heap.size _ _ _ _ _ _ _ _ (set4 HR0.out.1 _ _ _ _) rfl rfl rfl rfl) rfl ?_
                       exact TakeR.bad ((((HR0.out.2.setCell (Nat.le_refl _) _).setCell (Nat.le_refl _) _).setCell (Nat.le_refl _) _).setCell (Nat.le_refl _) _) HTV.out
end Go.Proofs.YtkbhmglmbolbiaaGreatDoor
