/- The law LinesWrite. -/
import Derived.Test.YtpjdffjfhnlbjaaBx
import Derived.Test.YtpjdffjfhnlbjaaBj
import Derived.Test.YtpjdffjfhnlbjaaBpw
namespace Go.Proofs.Ytpjdffjfhnlbjaa
open Go.RowKit Go.Shelf Go.Lib

/-- The words of a line and their bytes. -/
def lb (ws : List Bs) : Nat := ws.length + (ws.map List.length).sum
def lbs (ls : List Lv) : Nat := (ls.map fun p => lb p.1).sum
theorem lbs_take {ls : List Lv} {k : Nat} (hk : k < ls.length) : lbs (ls.take (k + 1)) = lbs (ls.take k) + lb ls[k].1 := by
  unfold lbs
  rw [List.take_succ_eq_append_getElem hk, List.map_append, List.sum_append]; simp
theorem sum_take_bs {ws : List Bs} {k : Nat} (hk : k < ws.length) : ((ws.take (k + 1)).map List.length).sum = ((ws.take k).map List.length).sum + ws[k].length := by
  rw [List.take_succ_eq_append_getElem hk, List.map_append, List.sum_append]; simp
theorem len_le_sum {ws : List Bs} {x : Bs} (h : x ∈ ws) : x.length ≤ (ws.map List.length).sum := by
  induction ws with
  | nil => simp at h
  | cons a r ih =>
    simp only [List.map_cons, List.sum_cons]
    rcases List.mem_cons.1 h with e | e
    · subst e; omega
    · have := ih e; omega
theorem lb_le_sum {ls : List Lv} {p : Lv} (h : p ∈ ls) : lb p.1 ≤ lbs ls := by
  unfold lbs
  induction ls with
  | nil => simp at h
  | cons a r ih =>
    simp only [List.map_cons, List.sum_cons]
    rcases List.mem_cons.1 h with e | e
    · subst e; omega
    · have := ih e; omega
theorem lbs_mod {ls : List Lv} {z : Nat} (hz : z = ls.length + lbs ls) (h : z < 200000) : Mod ls ∧ ∀ p ∈ ls, ∀ x ∈ p.1, x.length ≤ 200000 := by
  refine ⟨⟨by omega, fun p hp => ?_⟩, fun p hp x hx => ?_⟩
  · have := lb_le_sum hp; unfold lb at this; omega
  · have h1 := lb_le_sum hp
    have h2 := len_le_sum hx
    unfold lb at h1; omega

set_option maxRecDepth 100000 in
set_option maxHeartbeats 16000000 in
theorem linesWrite_law (v : Value) (ls : List Lv) (w : World) (hv : Ll w v ls) (hr : Rch ls) : Calls Try.prog 5 #[v] w fun e w' => e = .returned (.bool true) ∧ Below w.heap.size w w' := by
  have HV := Lib.hid hv
  have HR := Lib.hid hr
  obtain ⟨⟨a, c, rfl, hc1, hc2, hm⟩, hsub⟩ := hv
  obtain ⟨n, hn⟩ : ∃ n, Hid (ls.length = n) := ⟨_, Lib.hid rfl⟩
  have HM := Lib.hid hm
  have HU := Lib.hid hsub
  have hn1 : (n : Int) ≤ 140737488355328 := by have := hr.len; rw [hn.out] at this; omega
  rw [hn.out] at hc1 HV ⊢
  clear hm hsub hr
  go_enter Try.func5, Try.ntmps5
  go_wp2_with fail
  go_loop [3, 4] (fun s3 s4 => ∃ k z : Nat, k ≤ n ∧ s4 = .int .i64 (k : Nat) ∧ s3 = .int .i64 (z : Nat) ∧ z ≤ 422212465265984 ∧ Hid (z < 200000 → z = ls.length + lbs (ls.take k))) (fun _ s4 => n - (RowKit.intOf s4).toNat)
  case atStart => exact ⟨0, n, Nat.zero_le _, rfl, rfl, by omega, fun _ => by rw [hn.out]; rfl⟩
  case round =>
    obtain ⟨k, z, hk, rfl, rfl, hz, hI⟩ := hrel
    have hz' : (z : Int) ≤ 422212465265984 := by omega
    by_cases hgo : k < n ∧ z < 200000
    · obtain ⟨hlt, hzl⟩ := hgo
      have hk2 : k < ls.length := by rw [hn.out]; exact hlt
      have hlt' : (k : Int) < (n : Int) := by omega
      have hk0 : (0 : Int) ≤ (k : Int) := by omega
      have hzl' : decide ((z : Int) < 200000) = true := decide_eq_true (by omega)
      obtain ⟨g, off, rfl, hg, hcell⟩ := HM.out.resolve_left (fun e => by rw [e] at hk2; simp at hk2)
      have b1 := hcell k ls[k] (List.getElem?_eq_getElem hk2)
      obtain ⟨⟨ws, wv⟩, hp⟩ : ∃ p, Hid (ls[k] = p) := ⟨_, Lib.hid rfl⟩
      rw [hp.out] at b1
      have hmem : (ws, wv) ∈ ls := by rw [← hp.out]; exact List.getElem_mem hk2
      have hS : Sl w wv ws := HU.out _ hmem
      have b2 : w.cell? ⟨g, off + k, none⟩ = some wv := b1
      clear b1
      obtain ⟨⟨a2, c2, rfl, hd1, hd2, hm2⟩, _⟩ := hS
      have HM2 := Lib.hid hm2
      have HRs := Lib.hid (HR.out.sub _ hmem)
      have hwl : ws.length ≤ 140737488355328 := HRs.out.1
      have HS : Hid (z + lb ws = ls.length + lbs (ls.take (k + 1))) := by
        show z + lb ws = _
        rw [lbs_take hk2, hp.out, hI.out hzl]; simp only []; omega
      have hwl' : (ws.length : Int) ≤ 140737488355328 := by omega
      obtain ⟨nw, hnw⟩ : ∃ nw, Hid (ws.length = nw) := ⟨_, Lib.hid rfl⟩
      rw [hnw.out] at b2 hwl' hd1
      have hb : z + nw ≤ 140737488555328 := by omega
      have hb' : (z : Int) + (nw : Int) ≤ 140737488555328 := by omega
      clear hcell hmem hwl hm2 hI
      go_wp2_with fail
      go_loop [3, 5] (fun s3 s5 => ∃ j y : Nat, j ≤ nw ∧ s5 = .int .i64 (j : Nat) ∧ s3 = .int .i64 (y : Nat) ∧ y ≤ 422212465265984 ∧ Hid (y < 200000 → y = z + nw + ((ws.take j).map List.length).sum)) (fun _ s5 => nw - (RowKit.intOf s5).toNat)
      case atStart => exact ⟨0, z + nw, Nat.zero_le _, rfl, by go_num, by omega, fun _ => rfl⟩
      case round =>
        obtain ⟨j, y, hj, rfl, rfl, hy, hJ⟩ := hrel
        have hy' : (y : Int) ≤ 422212465265984 := by omega
        by_cases hgo2 : j < nw ∧ y < 200000
        · obtain ⟨hjlt, hyl⟩ := hgo2
          have hj2 : j < ws.length := by rw [hnw.out]; exact hjlt
          have hjlt' : (j : Int) < (nw : Int) := by omega
          have hj0 : (0 : Int) ≤ (j : Int) := by omega
          have hyl' : decide ((y : Int) < 200000) = true := decide_eq_true (by omega)
          obtain ⟨g2, off2, rfl, hg2, hcell2⟩ := HM2.out.resolve_left (fun e => by rw [e] at hj2; simp at hj2)
          obtain ⟨q, hq⟩ : ∃ q : ByteArray, (⟨(ws[j]).toArray⟩ : ByteArray) = q := ⟨_, rfl⟩
          have b3 : w.cell? ⟨g2, off2 + j, none⟩ = some (.string q) := by rw [hcell2 j ws[j] (List.getElem?_eq_getElem hj2), ← hq]
          have hql : ws[j].length = q.size := by rw [← hq, sv_size]
          have hqs : q.size ≤ 140737488355328 := by rw [← hql]; exact HRs.out.2 _ (List.getElem_mem hj2)
          have hqs' : (q.size : Int) ≤ 140737488355328 := by omega
          have HS2 : Hid (y + q.size = z + nw + ((ws.take (j + 1)).map List.length).sum) := by
            show y + q.size = _
            rw [sum_take_bs hj2, hql, hJ.out hyl]; omega
          have hb2 : y + q.size ≤ 422212465265984 := by omega
          clear hcell2 hq hql hJ
          go_wp2
          refine ⟨⟨j + 1, y + q.size, by omega, by go_num, by go_num, hb2, fun _ => HS2.out⟩, ?_⟩
          simp [RowKit.intOf]; omega
        · have HE : Hid (y < 200000 → y = ls.length + lbs (ls.take (k + 1))) := fun h => by
            have hjn : j = nw := by omega
            have e := hJ.out h
            rw [hjn, ← hnw.out, List.take_length] at e
            have e2 := HS.out
            unfold lb at e2
            omega
          have hcase : ¬ ((j : Int) < (nw : Int)) ∨ ((j : Int) < (nw : Int)) ∧ decide ((y : Int) < 200000) = false := by
            by_cases h : j < nw
            · exact Or.inr ⟨by omega, decide_eq_false (by omega)⟩
            · exact Or.inl (by omega)
          clear hJ hgo2
          rcases hcase with hd | ⟨hd, hd2⟩
          all_goals
            go_wp2
            refine ⟨⟨k + 1, y, by omega, by go_num, rfl, hy, HE.out⟩, ?_⟩
            simp [RowKit.intOf]; omega
    · by_cases hbig : 200000 ≤ z
      · have hb1 : decide ((200000 : Int) ≤ (z : Int)) = true := decide_eq_true (by omega)
        have hb2 : decide ((z : Int) < 200000) = false := decide_eq_false (by omega)
        have hdec : ((k : Int) < (n : Int)) ∨ ¬ ((k : Int) < (n : Int)) := Classical.em _
        clear hgo hbig
        rcases hdec with hd | hd
        all_goals
          go_wp2
          go_ret
          exact ⟨rfl, Below.refl _ _⟩
      · have hkn : k = n := by omega
        have hb1 : decide ((200000 : Int) ≤ (z : Int)) = false := decide_eq_false (by omega)
        have hb2 : decide ((z : Int) < 200000) = true := decide_eq_true (by omega)
        have hb3 : ¬ ((k : Int) < (n : Int)) := by omega
        have HMod := Lib.hid (lbs_mod (ls := ls) (z := z) (by
          have e := hI.out (by omega)
          rwa [hkn, ← hn.out, List.take_length] at e) (by omega))
        clear hI hgo hbig hkn hk
        obtain ⟨t1, ht1⟩ : ∃ t, Hid ((wrV (ls1 ls)).1 = t) := ⟨_, Lib.hid rfl⟩
        obtain ⟨e1, he1⟩ : ∃ t, Hid ((wrV (ls1 ls)).2 = t) := ⟨_, Lib.hid rfl⟩
        obtain ⟨q1, hq1⟩ : ∃ q : ByteArray, (⟨t1.toArray⟩ : ByteArray) = q := ⟨_, rfl⟩
        have HA : Hid (Calls Try.prog 14 #[.slice a n c] w fun e w' => e = .returned (.tuple #[.string q1, .int .i64 (e1 : Nat)]) ∧ Below w.heap.size w w') := by
          have := refWrite_any (.slice a n c) ls w HV.out HMod.out.1 HMod.out.2
          rw [ht1.out, he1.out] at this
          unfold sv at this
          rw [hq1] at this
          exact this
        have HB : Hid (∀ W, Below w.heap.size w W → Calls Try.prog 11 #[.slice a n c] W fun e w' => e = .returned (.tuple #[.string q1, .int .i64 (e1 : Nat)]) ∧ Below W.heap.size W w') := fun W hb => by
          have := write_any (.slice a n c) ls W (HV.out.later hb) HMod.out.1
          rw [ht1.out, he1.out] at this
          unfold sv at this
          rw [hq1] at this
          exact this
        clear hq1
        have hee : ((e1 : Int) == (e1 : Int)) = true := by simp
        go_wp2_with fail
        refine HA.out.mono ?_
        rintro e W1 ⟨rfl, hB1⟩
        have HB1 := Lib.hid hB1
        clear hB1
        go_wp2_with fail
        refine (HB.out _ HB1.out).mono ?_
        rintro e W2 ⟨rfl, hB2⟩
        have HB2 := Lib.hid (HB1.out.trans (hB2.mono HB1.out.size))
        clear hB2
        go_wp2
        go_ret
        exact ⟨by simp, HB2.out⟩
end Go.Proofs.Ytpjdffjfhnlbjaa
