/- Own texts, put together: Qj. -/
import Derived.Test.YtofklahgpkmfmaaGreatDoorQ37
/- Package nodefile: head. -/
namespace Go.Proofs.YtofklahgpkmfmaaGreatDoor
set_option maxRecDepth 100000
open Go.RowKit Go.Shelf Go.Lib
def hd4 (ws : List Bs) : Int := nx (nx (nx (nx (if ws.length = 4 then 0 else 4) (intE (fun n => decide (0 ≤ n)) (ws.getD 0 []))) (intE (fun n => n == 2) (ws.getD 1 []))) (intE (fun n => decide (0 ≤ n)) (ws.getD 2 []))) (intE (fun n => n == 0 || n == 1) (ws.getD 3 []))
def hdO (oa ob oc od : Option Int) : Option (Nat × Nat × Bool) := match oa, ob, oc, od with
 | some n, some t, some k, some m => if 0 ≤ n ∧ t = 2 ∧ 0 ≤ k ∧ (m = 0 ∨ m = 1) then some (n.toNat, k.toNat, m == 1) else none
 | _, _, _, _ => none
theorem hdP_four (a b c d : Bs) : hdP [a, b, c, d] = hdO (rdInt a) (rdInt b) (rdInt c) (rdInt d) := rfl
theorem hd4_is (ws : List Bs) : hd4 ws = if (hdP ws).isSome then 0 else 4 := by
 by_cases hl : ws.length = 4
 · obtain ⟨a, b, c, d, rfl⟩ : ∃ a b c d, ws = [a, b, c, d] := by
     rcases ws with _ | ⟨a, _ | ⟨b, _ | ⟨c, _ | ⟨d, _ | ⟨e, r⟩⟩⟩⟩⟩ <;> simp at hl
     exact ⟨a, b, c, d, rfl⟩
   have g0 : ([a, b, c, d] : List Bs).getD 0 [] = a := rfl
   have g1 : ([a, b, c, d] : List Bs).getD 1 [] = b := rfl
   have g2 : ([a, b, c, d] : List Bs).getD 2 [] = c := rfl
   have g3 : ([a, b, c, d] : List Bs).getD 3 [] = d := rfl
   unfold hd4
   rw [g0, g1, g2, g3, if_pos hl]
   rw [hdP_four]
   unfold intE
   generalize rdInt a = oa
   generalize rdInt b = ob
   generalize rdInt c = oc
   generalize rdInt d = od
   clear g0 g1 g2 g3 hl
   rcases oa with _ | n
   · simp [hdO, nx]
   rcases ob with _ | t
   · by_cases h1 : 0 ≤ n <;> simp [hdO, nx, h1]
   rcases oc with _ | k
   · by_cases h1 : 0 ≤ n <;> by_cases h2 : t = 2 <;> simp [hdO, nx, h1, h2]
   rcases od with _ | m
   · by_cases h1 : 0 ≤ n <;> by_cases h2 : t = 2 <;> by_cases h3 : 0 ≤ k <;> simp [hdO, nx, h1, h2, h3]
   by_cases h1 : 0 ≤ n <;> by_cases h2 : t = 2 <;> by_cases h3 : 0 ≤ k <;> by_cases h4 : m = 0 ∨ m = 1 <;> simp [hdO, nx, h1, h2, h3, h4]
 · have h0 : hdP ws = none := by
     rcases ws with _ | ⟨a, _ | ⟨b, _ | ⟨c, _ | ⟨d, _ | ⟨e, r⟩⟩⟩⟩⟩ <;> first | rfl | (simp at hl)
   rw [h0]
   unfold hd4 nx
   rw [if_neg hl]
   simp
theorem hd4_some {ws : List Bs} {n1 n3 n4 : Int} (h : hd4 ws = 0) (h1 : n1 = (rdInt (ws.getD 0 [])).getD 0) (h3 : n3 = (rdInt (ws.getD 2 [])).getD 0) (h4 : n4 = (rdInt (ws.getD 3 [])).getD 0) : 0 ≤ n1 ∧ 0 ≤ n3 ∧ hdP ws = some (n1.toNat, n3.toNat, n4 == 1) := by
 rw [hd4_is] at h
 cases hp : hdP ws with
 | none => rw [hp] at h; simp at h
 | some q =>
   unfold hdP at hp
   split at hp
   · rename_i a b c d
     split at hp
     · rename_i n t k m ea eb ec ed
       split at hp
       · rename_i hc
         have e1 : n1 = n := by rw [h1]; show (rdInt a).getD 0 = n; rw [ea]; rfl
         have e3 : n3 = k := by rw [h3]; show (rdInt c).getD 0 = k; rw [ec]; rfl
         have e4 : n4 = m := by rw [h4]; show (rdInt d).getD 0 = m; rw [ed]; rfl
         rw [e1, e3, e4]
         exact ⟨hc.1, hc.2.2.1, hp.symm⟩
       · cases hp
     · cases hp
   · cases hp
structure Hs (w0 W : World) (ws : List Bs) (j : Nat) (e : Int) : Prop where
 bel : Below w0.heap.size w0 W
 f2 : CB W w0.heap.size #[.slice none 0 0, .bool false, .int .i64 0, .bool false] 29
 rs : Rs w0.heap.size W (w0.heap.size + 1) (ws.drop j) e
 len : e = 0 → ws.length = 4
theorem Hs.step {w0 W W' : World} {ws : List Bs} {j j' : Nat} {e f : Int} (h : Hs w0 W ws j e) (ho : Ob (w0.heap.size + 1) W W') (hr : Rs w0.heap.size W' (w0.heap.size + 1) (ws.drop j') (nx e f)) : Hs w0 W' ws j' (nx e f) :=
 ⟨h.bel.trans (ho.below (by omega) h.bel.size), ho.cb h.f2 (by omega), hr, fun e0 => h.len (by unfold nx at e0; split at e0 <;> assumption)⟩
theorem Hs.word {w0 W : World} {ws : List Bs} {j : Nat} {e : Int} (h : Hs w0 W ws j e) (hl : ∀ x ∈ ws, x.length ≤ 900000) (hj : j < 4) : e = 0 → ∃ x r, ws.drop j = x :: r ∧ x.length ≤ 1000000 := fun e0 => by
 have hlt : j < ws.length := by rw [h.len e0]; exact hj
 exact ⟨ws[j], ws.drop (j + 1), List.drop_eq_getElem_cons hlt, by have := hl _ (List.getElem_mem hlt); omega⟩
theorem Rs.drew {N B : Nat} {W : World} {l : List Bs} {e : Int} (h : Rs N W B l e) : Rs N W.drew B l e := by
 obtain ⟨q, h1, h2⟩ := h
 exact ⟨q, h1, fun e0 => ⟨(h2 e0).1.later (Below.refl _ W).drew, (h2 e0).2⟩⟩
theorem getD_dropH (ws : List Bs) (j : Nat) : (ws.drop j).getD 0 [] = ws.getD j [] := by simp [List.getD]
theorem Hs.fromNought {w0 W : World} {ws : List Bs} {j : Nat} {e : Int} (h : Hs w0 W ws j e) (hl : ∀ x ∈ ws, x.length ≤ 900000) (hj : j < 4) :
   Calls Tryz.prog 84 #[.pointer (some ⟨w0.heap.size + 1, 0, none⟩), .func (.func 85) #[] #[]] W fun v w' => ∃ q, v = .returned (.int .i64 q) ∧ Hs w0 w' ws (j + 1) (nx e (intE (fun n => decide (0 ≤ n)) (ws.getD j []))) ∧ (e = 0 → q = (rdInt (ws.getD j [])).getD 0) := by
 refine (whole_fromNought _ (ws.drop j) e W h.rs (h.word hl hj)).mono ?_
 rintro v w' ⟨q, rfl, h1, h2, h3⟩
 rw [List.tail_drop, getD_dropH] at h1
 rw [getD_dropH] at h3
 exact ⟨q, rfl, h.step h2 h1, h3⟩
theorem Hs.two {w0 W : World} {ws : List Bs} {j : Nat} {e : Int} (h : Hs w0 W ws j e) (hl : ∀ x ∈ ws, x.length ≤ 900000) (hj : j < 4) :
   Calls Tryz.prog 84 #[.pointer (some ⟨w0.heap.size + 1, 0, none⟩), .func (.func 86) #[] #[]] W fun v w' => ∃ q, v = .returned (.int .i64 q) ∧ Hs w0 w' ws (j + 1) (nx e (intE (fun n => n == 2) (ws.getD j []))) ∧ (e = 0 → q = (rdInt (ws.getD j [])).getD 0) := by
 refine (whole_two _ (ws.drop j) e W h.rs (h.word hl hj)).mono ?_
 rintro v w' ⟨q, rfl, h1, h2, h3⟩
 rw [List.tail_drop, getD_dropH] at h1
 rw [getD_dropH] at h3
 exact ⟨q, rfl, h.step h2 h1, h3⟩
theorem Hs.bit {w0 W : World} {ws : List Bs} {j : Nat} {e : Int} (h : Hs w0 W ws j e) (hl : ∀ x ∈ ws, x.length ≤ 900000) (hj : j < 4) :
   Calls Tryz.prog 84 #[.pointer (some ⟨w0.heap.size + 1, 0, none⟩), .func (.func 87) #[] #[]] W fun v w' => ∃ q, v = .returned (.int .i64 q) ∧ Hs w0 w' ws (j + 1) (nx e (intE (fun n => n == 0 || n == 1) (ws.getD j []))) ∧ (e = 0 → q = (rdInt (ws.getD j [])).getD 0) := by
 refine (whole_bit _ (ws.drop j) e W h.rs (h.word hl hj)).mono ?_
 rintro v w' ⟨q, rfl, h1, h2, h3⟩
 rw [List.tail_drop, getD_dropH] at h1
 rw [getD_dropH] at h3
 exact ⟨q, rfl, h.step h2 h1, h3⟩
theorem Hs.hold {w0 W : World} {ws : List Bs} {j : Nat} {e : Int} (h : Hs w0 W ws j e) (right : Bool) (why : Int) (hw : why ≠ 0) :
   Calls Tryz.prog 88 #[.pointer (some ⟨w0.heap.size + 1, 0, none⟩), .bool right, .int .i64 why] W fun v w' => v = .returned (.tuple #[]) ∧ Hs w0 w' ws j (nx e (if right then 0 else why)) := by
 refine (hold_step _ (ws.drop j) e why right W h.rs (Or.inl hw)).mono ?_
 rintro v w' ⟨rfl, h1, h2⟩
 exact ⟨rfl, h.step h2 h1⟩
theorem res_head (W : World) (B : Nat) (a b c d : Value) (n : Int) (ev : Value) (tmps : Array Value) (h : CB W B #[a, b, c, d] 29)
   (t2 : tmps[2]? = some (.pointer (some ⟨B, 0, none⟩))) (t3 : tmps[3]? = some (.int .i64 n)) (t4 : tmps[4]? = some ev) : (results Tryz.f50 tmps).run Tryz.prog W = .ok (.tuple #[.agg #[a, b, c, d], .int .i64 n, ev]) W := by
 have c0 := h.cell 0 (by simp)
 have c1 := h.cell 1 (by simp)
 have c2 := h.cell 2 (by simp)
 have c3 := h.cell 3 (by simp)
 simp [results, Tryz.f50, go_sem, c0, c1, c2, c3, t2, t3, t4]
def HeadR (w w' : World) (ws : List Bs) (v : Ending) : Prop :=
 ∃ (n k : Int) (b : Bool), v = .returned (.tuple #[.agg #[.slice none 0 0, .bool false, .int .i64 k, .bool b], .int .i64 n, erV (hdE ws : Nat)]) ∧ Below w.heap.size w w' ∧ (hdE ws = 0 → 0 ≤ n ∧ 0 ≤ k ∧ hdP ws = some (n.toNat, k.toNat, b))
set_option maxHeartbeats 8000000 in
theorem head_any (wv : Value) (ws : List Bs) (w : World) (hS : Sl w wv ws) (hK : Bk w.heap.size wv) (hl : ∀ x ∈ ws, x.length ≤ 900000) :
   Calls Tryz.prog 50 #[wv] w fun v w' => HeadR w w' ws v := by
 have HL := Lib.hid hl
 obtain ⟨W0, hW0⟩ : ∃ W0, w.alloc (.cells #[.slice none 0 0, .bool false, .int .i64 0, .bool false] 29) = W0 := ⟨_, rfl⟩
 have bb0 : Below w.heap.size w W0 := by rw [← hW0]; exact (Below.refl _ w).alloc (Nat.le_refl _) _
 have z0 : W0.heap.size = w.heap.size + 1 := by rw [← hW0]; simp
 have q2 : CB W0 w.heap.size #[.slice none 0 0, .bool false, .int .i64 0, .bool false] 29 := by rw [← hW0]; exact CB.new w _ _
 have HRo : Hid (Calls Tryz.prog 83 #[wv, .int .i64 4] W0 fun e w' => e = .returned (.pointer (some ⟨w.heap.size + 1, 0, none⟩)) ∧ Hs w w' ws 0 (if ws.length = 4 then 0 else 4)) := Lib.hid (by
   refine (rowOf_any (N := w.heap.size) wv ws 4 W0 (hS.later bb0) hK (by omega)).mono ?_
   rintro e w' ⟨rfl, hr, hb⟩
   rw [z0] at hr hb ⊢
   exact ⟨rfl, bb0.trans (hb.mono (by omega)), q2.later (by rw [z0]; exact hb), hr, fun e0 => by split at e0 <;> first | assumption | cases e0⟩)
 obtain ⟨sw, cw, hwv⟩ : ∃ sw cw, wv = .slice sw ws.length cw := by
   obtain ⟨⟨sw, cw, e, _⟩, _⟩ := hS
   exact ⟨sw, cw, e⟩
 obtain ⟨n, hn⟩ : ∃ n, Hid (ws.length = n) := ⟨_, Lib.hid rfl⟩
 rw [hn.out] at hwv
 subst hwv
 obtain ⟨e0, he0⟩ : ∃ e : Int, Hid ((if ws.length = 4 then 0 else 4) = e) := ⟨_, Lib.hid rfl⟩
 rw [he0.out] at HRo
 clear hS q2 bb0 z0 hl
 go_enter Tryz.func50, Tryz.ntmps50
 go_wp2_with fail
 try rw [hW0]
 clear hW0
 refine HRo.out.mono ?_
 rintro e W1 ⟨rfl, h1⟩
 have H1 := Lib.hid (h1.fromNought HL.out (by omega))
 clear h1 HRo
 go_wp2_with fail
 refine H1.out.mono ?_
 rintro e W2 ⟨n1, rfl, h2, g1⟩
 have G1 := Lib.hid g1
 obtain ⟨e1, he1⟩ : ∃ e : Int, Hid (nx e0 (intE (fun n => decide (0 ≤ n)) (ws.getD 0 [])) = e) := ⟨_, Lib.hid rfl⟩
 rw [he1.out] at h2
 have H2 := Lib.hid (h2.two HL.out (by omega))
 clear h2 H1 g1
 go_wp2_with fail
 refine H2.out.mono ?_
 rintro e W3 ⟨n2, rfl, h3, g2⟩
 obtain ⟨e2, he2⟩ : ∃ e : Int, Hid (nx e1 (intE (fun n => n == 2) (ws.getD 1 [])) = e) := ⟨_, Lib.hid rfl⟩
 rw [he2.out] at h3
 have H3 := Lib.hid (h3.fromNought HL.out (by omega))
 clear h3 H2 g2
 go_wp2_with fail
 refine H3.out.mono ?_
 rintro e W4 ⟨n3, rfl, h4, g3⟩
 have G3 := Lib.hid g3
 obtain ⟨e3, he3⟩ : ∃ e : Int, Hid (nx e2 (intE (fun n => decide (0 ≤ n)) (ws.getD 2 [])) = e) := ⟨_, Lib.hid rfl⟩
 rw [he3.out] at h4
 have H4 := Lib.hid (h4.bit HL.out (by omega))
 clear h4 H3 g3
 go_wp2_with fail
 refine H4.out.mono ?_
 rintro e W5 ⟨n4, rfl, h5, g4⟩
 have G4 := Lib.hid g4
 obtain ⟨e4, he4⟩ : ∃ e : Int, Hid (nx e3 (intE (fun n => n == 0 || n == 1) (ws.getD 3 [])) = e) := ⟨_, Lib.hid rfl⟩
 rw [he4.out] at h5
 have H5 := Lib.hid h5
 clear h5 H4 g4
 have HE4 : Hid (hd4 ws = e4) := Lib.hid (by unfold hd4; rw [he0.out, he1.out, he2.out, he3.out, he4.out])
 have HS4 : Hid (e4 = 0 → 0 ≤ n1 ∧ 0 ≤ n3 ∧ hdP ws = some (n1.toNat, n3.toNat, n4 == 1)) := Lib.hid (fun z4 => by
   have z3 : e3 = 0 := by have := he4.out; rw [z4] at this; unfold nx at this; split at this <;> assumption
   have z2 : e2 = 0 := by have := he3.out; rw [z3] at this; unfold nx at this; split at this <;> assumption
   have z1 : e1 = 0 := by have := he2.out; rw [z2] at this; unfold nx at this; split at this <;> assumption
   have z0 : e0 = 0 := by have := he1.out; rw [z1] at this; unfold nx at this; split at this <;> assumption
   exact hd4_some (HE4.out.trans z4) (G1.out z0) (G3.out z2) (G4.out z3))
 obtain ⟨rt, hrt⟩ : ∃ b : Bool, Hid ((decide (n1 ≤ 1048576) && decide (n3 ≤ 16)) = b) := ⟨_, Lib.hid rfl⟩
 have HH := Lib.hid (H5.out.hold rt 3 (by decide))
 have HEF : Hid (nx e4 (if rt then 0 else 3) = (hdE ws : Nat)) := Lib.hid (by
   have h4 := HE4.out
   rw [hd4_is] at h4
   unfold hdE
   cases hp : hdP ws with
   | none => rw [hp] at h4; simp at h4; subst h4; rfl
   | some q =>
     rw [hp] at h4
     simp at h4
     subst h4
     obtain ⟨p1, p3, e⟩ := HS4.out rfl
     rw [hp] at e
     cases e
     rw [← hrt.out]
     by_cases h1 : n1 ≤ 1048576 <;> by_cases h3 : n3 ≤ 16
     · have hc : n1.toNat ≤ 1048576 ∧ n3.toNat ≤ 16 := ⟨by omega, by omega⟩
       simp [nx, h1, h3, hc]
     · have hc : ¬ (n1.toNat ≤ 1048576 ∧ n3.toNat ≤ 16) := by omega
       simp only [if_neg hc]; simp [nx, h1, h3]
     · have hc : ¬ (n1.toNat ≤ 1048576 ∧ n3.toNat ≤ 16) := by omega
       simp only [if_neg hc]; simp [nx, h1, h3]
     · have hc : ¬ (n1.toNat ≤ 1048576 ∧ n3.toNat ≤ 16) := by omega
       simp only [if_neg hc]; simp [nx, h1, h3])
 have HZ : Hid (hdE ws = 0 → e4 = 0) := Lib.hid (fun h0 => by
   have := HEF.out
   rw [h0] at this
   unfold nx at this
   split at this
   · assumption
   · exact this)
 clear H5
 by_cases c1 : n1 ≤ 1048576
 · have hr1 : rt = decide (n3 ≤ 16) := by rw [← hrt.out]; simp [c1]
   subst hr1
   clear hrt
   go_wp2_with fail
   refine HH.out.mono ?_
   rintro e W6 ⟨rfl, h6⟩
   rw [HEF.out] at h6
   obtain ⟨W, hW⟩ : ∃ W, W6.drew = W := ⟨_, rfl⟩
   have h6' : Hs w W ws (0 + 1 + 1 + 1 + 1) (hdE ws : Nat) := by rw [← hW]; exact ⟨h6.bel.drew, h6.f2, h6.rs.drew, h6.len⟩
   have k0 := h6'.f2.cell 0 (by simp)
   have k1 := h6'.f2.cell 1 (by simp)
   have k2 := h6'.f2.cell 2 (by simp)
   have k3 := h6'.f2.cell 3 (by simp)
   have f0 := h6'.f2.frozen 0
   have f1 := h6'.f2.frozen 1
   have f2 := h6'.f2.frozen 2
   have f3 := h6'.f2.frozen 3
   obtain ⟨rl, hrl, _⟩ := h6'.rs
   obtain ⟨ev, hev⟩ : ∃ ev, Hid (erV (hdE ws : Nat) = ev) := ⟨_, Lib.hid rfl⟩
   have kr : W.cell? ⟨w.heap.size + 1, 1, none⟩ = some ev := by rw [← hev.out]; exact hrl.cell 1 (by simp)
   have HN := Lib.hid h6'
   clear h6 h6' hrl HH
   go_wp2_with fail
   go_region
   all_goals
     go_wp2
     have hcb := (((HN.out.f2.set 0 (.slice none 0 0)).set 1 (.bool false)).set 2 (.int .i64 n3)).set 3 (.bool (n4 == 1))
     refine bodyPost_ret (res_head _ w.heap.size (.slice none 0 0) (.bool false) (.int .i64 n3) (.bool (n4 == 1)) n1 ev _ (by simpa using hcb) rfl rfl rfl) rfl ?_
     rw [← hev.out]
     refine ⟨n1, n3, n4 == 1, rfl, ?_, fun h0 => HS4.out (HZ.out h0)⟩
     exact (((HN.out.bel.setCell (Nat.le_refl _) _).setCell (Nat.le_refl _) _).setCell (Nat.le_refl _) _).setCell (Nat.le_refl _) _
 · have hr1 : rt = false := by rw [← hrt.out]; simp [c1]
   have c1' : 1048576 < n1 := by omega
   subst hr1
   clear hrt
   go_wp2_with fail
   refine HH.out.mono ?_
   rintro e W6 ⟨rfl, h6⟩
   rw [HEF.out] at h6
   obtain ⟨W, hW⟩ : ∃ W, W6.drew = W := ⟨_, rfl⟩
   have h6' : Hs w W ws (0 + 1 + 1 + 1 + 1) (hdE ws : Nat) := by rw [← hW]; exact ⟨h6.bel.drew, h6.f2, h6.rs.drew, h6.len⟩
   have k0 := h6'.f2.cell 0 (by simp)
   have k1 := h6'.f2.cell 1 (by simp)
   have k2 := h6'.f2.cell 2 (by simp)
   have k3 := h6'.f2.cell 3 (by simp)
   have f0 := h6'.f2.frozen 0
   have f1 := h6'.f2.frozen 1
   have f2 := h6'.f2.frozen 2
   have f3 := h6'.f2.frozen 3
   obtain ⟨rl, hrl, _⟩ := h6'.rs
   obtain ⟨ev, hev⟩ : ∃ ev, Hid (erV (hdE ws : Nat) = ev) := ⟨_, Lib.hid rfl⟩
   have kr : W.cell? ⟨w.heap.size + 1, 1, none⟩ = some ev := by rw [← hev.out]; exact hrl.cell 1 (by simp)
   have HN := Lib.hid h6'
   clear h6 h6' hrl HH
   go_wp2_with fail
   go_region
   all_goals
     go_wp2
     have hcb := (((HN.out.f2.set 0 (.slice none 0 0)).set 1 (.bool false)).set 2 (.int .i64 n3)).set 3 (.bool (n4 == 1))
     refine bodyPost_ret (res_head _ w.heap.size (.slice none 0 0) (.bool false) (.int .i64 n3) (.bool (n4 == 1)) n1 ev _ (by simpa using hcb) rfl rfl rfl) rfl ?_
     rw [← hev.out]
     refine ⟨n1, n3, n4 == 1, rfl, ?_, fun h0 => HS4.out (HZ.out h0)⟩
     exact (((HN.out.bel.setCell (Nat.le_refl _) _).setCell (Nat.le_refl _) _).setCell (Nat.le_refl _) _).setCell (Nat.le_refl _) _
end Go.Proofs.YtofklahgpkmfmaaGreatDoor
