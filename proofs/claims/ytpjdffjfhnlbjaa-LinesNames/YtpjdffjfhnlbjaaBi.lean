/- Package lines: sizeOf, Write. -/
import Derived.Test.YtpjdffjfhnlbjaaBh
namespace Go.Proofs.Ytpjdffjfhnlbjaa
open Go.RowKit Go.Shelf Go.Lib

/-- Lists that are not too long to be written. -/
def Mod (ls : List Lv) : Prop := ls.length ≤ 300000 ∧ ∀ p ∈ ls, p.1.length ≤ 300000
theorem ok_may {ws : List Bs} (h : okL ws = true) : ws ≠ [] ∧ ∀ x ∈ ws, mayW x = true := by
  unfold okL at h
  rw [Bool.and_eq_true, List.all_eq_true] at h
  exact ⟨by simpa using h.2, h.1⟩
theorem may_len {x : Bs} (h : mayW x = true) : x.length ≤ 400 := by
  unfold mayW at h
  rw [Bool.and_eq_true, Bool.and_eq_true] at h
  simpa using h.1.2

def szR (L : List (List Bs)) : Value := if fits L then .tuple #[.int .i64 ((wrT L).length : Nat), .bool true] else .tuple #[.int .i64 0, .bool false]
theorem szR_yes {L : List (List Bs)} (h : fits L = true) : szR L = .tuple #[.int .i64 ((wrT L).length : Nat), .bool true] := by unfold szR; rw [if_pos h]
theorem szR_no {L : List (List Bs)} (h : fits L = false) : szR L = .tuple #[.int .i64 0, .bool false] := by unfold szR; rw [h]; rfl

set_option maxRecDepth 100000 in
set_option maxHeartbeats 4000000 in
theorem sizeOf_any (v : Value) (ls : List Lv) (w : World) (h : Ll w v ls) (hM : Mod ls) (hok : (ls1 ls).all okL = true) : Calls Try.prog 19 #[v] w fun e w' => e = .returned (szR (ls1 ls)) ∧ w' = w := by
  obtain ⟨⟨a, c, rfl, hc1, hc2, hm⟩, hsub⟩ := h
  have HO : Hid (∀ p ∈ ls, okL p.1 = true) := fun p hp => by
    rw [List.all_eq_true] at hok
    exact hok p.1 (List.mem_map.2 ⟨p, hp, rfl⟩)
  have HM := Lib.hid hm
  have HU := Lib.hid hsub
  have HMo := Lib.hid hM
  have l0 : (ls.length : Int) ≤ 300000 := by have := hM.1; omega
  clear hsub hm hok hM
  obtain ⟨n, hn⟩ : ∃ n, Hid (ls.length = n) := ⟨_, Lib.hid rfl⟩
  rw [hn.out] at l0 hc1 ⊢
  have HLen : Hid ((ls1 ls).length = n) := (by rw [List.length_map, hn.out] : (ls1 ls).length = n)
  go_enter Try.func19, Try.ntmps19
  go_wp2
  go_loop [4, 12] (fun s4 s12 => ∃ k z : Nat, k ≤ n ∧ s12 = .int .i64 (k : Nat) ∧ s4 = .int .i64 (z : Nat) ∧ z ≤ 16777216 ∧ Hid (z = (wrT ((ls1 ls).take k)).length ∧ ∀ j (_ : j < k) (h2 : j < (ls1 ls).length), (jn (ls1 ls)[j]).length ≤ 65536)) (fun _ s12 => n - (RowKit.intOf s12).toNat)
  case atStart => exact ⟨0, 0, Nat.zero_le _, rfl, rfl, by omega, rfl, fun j hj _ => by omega⟩
  case round =>
    obtain ⟨k, z, hk, rfl, rfl, hz, hI⟩ := hrel
    have hz' : (z : Int) ≤ 16777216 := by omega
    by_cases hlt : k < n
    · have hk2 : k < ls.length := by rw [hn.out]; exact hlt
      have hk3 : k < (ls1 ls).length := by rw [HLen.out]; exact hlt
      have hlt' : (k : Int) < (n : Int) := by omega
      have hk0 : (0 : Int) ≤ (k : Int) := by omega
      obtain ⟨g, off, rfl, hg, hcell⟩ := HM.out.resolve_left (fun e => by rw [e] at hk2; simp at hk2)
      have b1 := hcell k ls[k] (List.getElem?_eq_getElem hk2)
      obtain ⟨⟨ws, wv⟩, hp⟩ : ∃ p, Hid (ls[k] = p) := ⟨_, Lib.hid rfl⟩
      rw [hp.out] at b1
      have hmem : (ws, wv) ∈ ls := by rw [← hp.out]; exact List.getElem_mem hk2
      have hS : Sl w wv ws := HU.out _ hmem
      have HK := Lib.hid (ok_may (HO.out _ hmem))
      have hwl : ws.length ≤ 300000 := HMo.out.2 _ hmem
      have HJ : Hid ((ls1 ls)[k] = ws) := (by rw [List.getElem_map, hp.out] : (ls1 ls)[k] = ws)
      have HLe : Hid (lens ws ≤ 300000 * 400) := by
        show lens ws ≤ 300000 * 400
        exact Nat.le_trans (lens_le (m := 400) (fun x hx => may_len (HK.out.2 x hx))) (Nat.mul_le_mul_right _ hwl)
      obtain ⟨⟨a2, c2, rfl, hd1, hd2, hm2⟩, hlen2⟩ := hS
      have HM2 := Lib.hid hm2
      have hwl' : (ws.length : Int) ≤ 300000 := by omega
      have hw0 : 0 < ws.length := List.length_pos_iff.2 HK.out.1
      have hw0' : (1 : Int) ≤ (ws.length : Int) := by omega
      obtain ⟨nw, hnw⟩ : ∃ nw, Hid (ws.length = nw) := ⟨_, Lib.hid rfl⟩
      have HST : Hid ((wrT ((ls1 ls).take (k + 1))).length = z + ((jn ws).length + 1)) := by
        show _ = _
        rw [wrT_take hk3, List.length_append, List.length_append, ← hI.out.1, HJ.out]; rfl
      have HJL : Hid (((jn ws).length : Int) = (nw : Int) - 1 + (lens ws : Int)) := by
        show _ = _
        rw [← hnw.out]; exact jn_len HK.out.1
      rw [hnw.out] at hwl' hw0' hd1 b1
      have hnl : nw ≤ 300000 := by omega
      clear hcell hm2 hlen2 hmem hwl hw0
      go_wp2
      go_loop [7, 21] (fun s7 s21 => ∃ j y : Nat, j ≤ nw ∧ s21 = .int .i64 (j : Nat) ∧ s7 = .int .i64 ((nw : Int) - 1 + (y : Nat)) ∧ y ≤ 120000000 ∧ Hid (y = lens (ws.take j))) (fun _ s21 => nw - (RowKit.intOf s21).toNat)
      case atStart => exact ⟨0, 0, Nat.zero_le _, rfl, by go_num, by omega, rfl⟩
      case round =>
        obtain ⟨j, y, hj, rfl, rfl, hy, hY⟩ := hrel
        have hy' : (y : Int) ≤ 120000000 := by omega
        by_cases hlt2 : j < nw
        · have hj2 : j < ws.length := by rw [hnw.out]; exact hlt2
          have hlt2' : (j : Int) < (nw : Int) := by omega
          have hj0 : (0 : Int) ≤ (j : Int) := by omega
          obtain ⟨g2, off2, rfl, hg2, hcell2⟩ := HM2.out.resolve_left (fun e => by rw [e] at hj2; simp at hj2)
          have b2 := hcell2 j ws[j] (List.getElem?_eq_getElem hj2)
          obtain ⟨q, hq⟩ : ∃ q : ByteArray, (⟨(ws[j]).toArray⟩ : ByteArray) = q := ⟨_, rfl⟩
          have b3 : w.cell? ⟨g2, off2 + j, none⟩ = some (.string q) := by rw [b2, ← hq]
          have hqs : q.size = (ws[j]).length := by rw [← hq]; exact sv_size _
          have hq4 : (ws[j]).length ≤ 400 := may_len (HK.out.2 _ (List.getElem_mem hj2))
          have hq5 : (q.size : Int) ≤ 400 := by omega
          have HQ : Hid (lens (ws.take (j + 1)) = y + q.size) := (by rw [lens_take hj2, ← hY.out, hqs] : lens (ws.take (j + 1)) = y + q.size)
          have HQ2 : Hid (y + q.size ≤ 120000000) := by
            show y + q.size ≤ _
            rw [← HQ.out]
            have h1 := lens_take_le ws (j + 1)
            have h2 := HLe.out
            omega
          clear hcell2 b2 hq hqs hq4
          go_wp2
          refine ⟨⟨j + 1, y + q.size, by omega, by go_num, by go_num, HQ2.out, HQ.out.symm⟩, ?_⟩
          simp [RowKit.intOf]; omega
        · obtain rfl : nw = j := by omega
          have HT : Hid (y = lens ws) := by
            show y = _
            rw [hY.out, List.take_of_length_le (by rw [hnw.out]; exact Nat.le_refl _)]
          have HF : Hid (65536 < (nw : Int) - 1 + (y : Int) ∨ 16777216 < (z : Int) + ((nw : Int) - 1 + (y : Int) + 1) → fits (ls1 ls) = false) := fun h => by
            refine fits_no hk3 ?_
            rw [HST.out, HJ.out]
            have := HJL.out
            rw [← HT.out] at this
            omega
          have HG : Hid ((nw : Int) - 1 + (y : Int) ≤ 65536 → (z : Int) + ((nw : Int) - 1 + (y : Int) + 1) ≤ 16777216 → ∃ k' z' : Nat, k' ≤ n ∧ Value.int .i64 ((k : Int) + 1) = .int .i64 (k' : Nat) ∧ Value.int .i64 ((z : Int) + ((nw : Int) - 1 + (y : Int) + 1)) = .int .i64 (z' : Nat) ∧ z' ≤ 16777216 ∧ Hid (z' = (wrT ((ls1 ls).take k')).length ∧ ∀ j (_ : j < k') (h2 : j < (ls1 ls).length), (jn (ls1 ls)[j]).length ≤ 65536)) := fun h1 h2 => by
            have e1 := HJL.out
            rw [← HT.out] at e1
            refine ⟨k + 1, z + ((jn ws).length + 1), by omega, by simp, ?_, by omega, HST.out.symm, fun j hj hjl => ?_⟩
            · congr 1; omega
            · by_cases e : j = k
              · subst e; rw [HJ.out]; omega
              · exact hI.out.2 j (by omega) hjl
          by_cases g1 : (65536 : Int) < (nw : Int) - 1 + (y : Int)
          · have HN := Lib.hid (HF.out (Or.inl g1))
            go_wp2
            go_ret2
            rw [szR_no HN.out]; exact ⟨rfl, rfl⟩
          · by_cases g2 : (16777216 : Int) < (z : Int) + ((nw : Int) - 1 + (y : Int) + 1)
            · have HN := Lib.hid (HF.out (Or.inr g2))
              go_wp2
              go_ret2
              rw [szR_no HN.out]; exact ⟨rfl, rfl⟩
            · have HX := Lib.hid (HG.out (by omega) (by omega))
              clear HG HF
              go_wp2
              refine ⟨HX.out, ?_⟩
              simp [RowKit.intOf]; omega
    · obtain rfl : k = n := by omega
      have HF : Hid (fits (ls1 ls) = true ∧ z = (wrT (ls1 ls)).length) := by
        have e : (ls1 ls).take k = ls1 ls := List.take_of_length_le (by rw [HLen.out]; exact Nat.le_refl _)
        have h := hI.out
        rw [e] at h
        exact ⟨fits_yes (fun j hj => h.2 j (by rw [← HLen.out]; exact hj) hj) (by rw [← h.1]; exact hz), h.1⟩
      go_wp2
      go_ret2
      rw [szR_yes HF.out.1, ← HF.out.2]
      exact ⟨rfl, rfl⟩
end Go.Proofs.Ytpjdffjfhnlbjaa
