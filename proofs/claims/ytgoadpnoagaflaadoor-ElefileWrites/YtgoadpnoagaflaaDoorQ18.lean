/- Own texts, put together: Bh Bi Bp. -/
import Derived.Test.YtgoadpnoagaflaaDoorQ15
import Derived.Lib.Join
import Derived.ProofKit
import Derived.OpenShut
import Derived.Laws.Cover2
import Derived.ChangeOld
import Derived.ChangeMaps5
import Derived.Below
import Derived.Carry
import Derived.Deep.Strs
import Derived.Deep.Slices
namespace Go.Proofs.YtgoadpnoagaflaaDoor
/- Package lines: what is written; allMayBe, sizeOf. -/
section
set_option maxRecDepth 100000
open Go.RowKit Go.Shelf Go.Lib
def jn (ws : List Bs) : Bs := join ws [32]
def wrT (L : List (List Bs)) : Bs := (L.map fun ws => jn ws ++ [10]).flatten
def okL (ws : List Bs) : Bool := ws.all mayW && !ws.isEmpty
def fits (L : List (List Bs)) : Bool := L.all (fun ws => decide ((jn ws).length ≤ 65536)) && decide ((wrT L).length ≤ 16777216)
def wrV (L : List (List Bs)) : Bs × Nat := if L.all okL then (if fits L then (wrT L, 0) else ([], 3)) else ([], 1)
theorem jn_len {ws : List Bs} (h : ws ≠ []) : ((jn ws).length : Int) = (ws.length : Int) - 1 + lens ws := by
 cases ws with
 | nil => exact absurd rfl h
 | cons x r =>
   unfold jn
   rw [join_cons, List.length_append, joinTail_length]
   simp [lens]
   omega
theorem wrT_snoc (L : List (List Bs)) (ws : List Bs) : wrT (L ++ [ws]) = wrT L ++ (jn ws ++ [10]) := by simp [wrT]
theorem wrT_take {L : List (List Bs)} {k : Nat} (h : k < L.length) : wrT (L.take (k + 1)) = wrT (L.take k) ++ (jn L[k] ++ [10]) := by
 rw [List.take_succ_eq_append_getElem h, wrT_snoc]
theorem wrT_take_le (L : List (List Bs)) (k : Nat) : (wrT (L.take k)).length ≤ (wrT L).length := by
 have : wrT L = wrT (L.take k) ++ wrT (L.drop k) := by
   unfold wrT
   rw [← List.flatten_append, ← List.map_append, List.take_append_drop]
 rw [this, List.length_append]; omega
theorem fits_no {L : List (List Bs)} {k : Nat} (h : k < L.length) (hb : 65536 < (jn L[k]).length ∨ 16777216 < (wrT (L.take (k + 1))).length) : fits L = false := by
 unfold fits
 rcases hb with hb | hb
 · have : L.all (fun ws => decide ((jn ws).length ≤ 65536)) = false := by
     rw [List.all_eq_false]
     exact ⟨L[k], List.getElem_mem h, by simp; omega⟩
   rw [this]; rfl
 · have := wrT_take_le L (k + 1)
   rw [decide_eq_false (by omega : ¬ (wrT L).length ≤ 16777216), Bool.and_false]
theorem fits_yes {L : List (List Bs)} (h1 : ∀ k (h : k < L.length), (jn L[k]).length ≤ 65536) (h2 : (wrT L).length ≤ 16777216) : fits L = true := by
 unfold fits
 have : L.all (fun ws => decide ((jn ws).length ≤ 65536)) = true := by
   rw [List.all_eq_true]
   intro x hx
   obtain ⟨k, hk, rfl⟩ := List.mem_iff_getElem.1 hx
   simp [h1 k hk]
 rw [this, decide_eq_true h2]; rfl
theorem lens_le {ws : List Bs} {m : Nat} (h : ∀ x ∈ ws, x.length ≤ m) : lens ws ≤ ws.length * m := by
 induction ws with
 | nil => simp [lens]
 | cons x r ih =>
   have h1 := ih (fun y hy => h y (by simp [hy]))
   have h2 := h x (by simp)
   simp only [lens, List.map_cons, List.sum_cons, List.length_cons] at h1 ⊢
   rw [Nat.add_mul]
   omega
theorem lens_take {ws : List Bs} {k : Nat} (h : k < ws.length) : lens (ws.take (k + 1)) = lens (ws.take k) + ws[k].length := lens_take_succ ws k _ (List.getElem?_eq_getElem h)
structure Sl (W : World) (v : Value) (ws : List Bs) : Prop where
 form : ∃ a c, v = .slice a ws.length c ∧ ws.length ≤ c ∧ c ≤ 9223372036854775807 ∧ (ws = [] ∨ ∃ g off, a = some ⟨g, off, none⟩ ∧ g < W.heap.size ∧ ∀ k x, ws[k]? = some x → W.cell? ⟨g, off + k, none⟩ = some (sv x))
 len : ∀ x ∈ ws, x.length ≤ 9223372036854775807
abbrev Lv := List Bs × Value
structure Ll (W : World) (v : Value) (ls : List Lv) : Prop where
 form : ∃ a c, v = .slice a ls.length c ∧ ls.length ≤ c ∧ c ≤ 9223372036854775807 ∧ (ls = [] ∨ ∃ g off, a = some ⟨g, off, none⟩ ∧ g < W.heap.size ∧ ∀ k p, ls[k]? = some p → W.cell? ⟨g, off + k, none⟩ = some p.2)
 sub : ∀ p ∈ ls, Sl W p.2 p.1
abbrev ls1 (ls : List Lv) : List (List Bs) := ls.map (·.1)
theorem cell_later {w w' : World} {n : Nat} (hb : Below n w w') {g o : Nat} (hg : g < n) {v : Value} (h : w.cell? ⟨g, o, none⟩ = some v) : w'.cell? ⟨g, o, none⟩ = some v := (hb.cell (p := ⟨g, o, none⟩) hg).trans h
theorem Sl.later {W W' : World} {v : Value} {ws : List Bs} (h : Sl W v ws) (hb : Below W.heap.size W W') : Sl W' v ws := by
 obtain ⟨⟨a, c, h1, h2, h3, h4⟩, h5⟩ := h
 refine ⟨⟨a, c, h1, h2, h3, ?_⟩, h5⟩
 rcases h4 with h4 | ⟨g, off, h6, h7, h8⟩
 · exact Or.inl h4
 · exact Or.inr ⟨g, off, h6, Nat.lt_of_lt_of_le h7 hb.size, fun k x hk => cell_later hb h7 (h8 k x hk)⟩
theorem Ll.later {W W' : World} {v : Value} {ls : List Lv} (h : Ll W v ls) (hb : Below W.heap.size W W') : Ll W' v ls := by
 obtain ⟨⟨a, c, h1, h2, h3, h4⟩, h5⟩ := h
 refine ⟨⟨a, c, h1, h2, h3, ?_⟩, fun p hp => (h5 p hp).later hb⟩
 rcases h4 with h4 | ⟨g, off, h6, h7, h8⟩
 · exact Or.inl h4
 · exact Or.inr ⟨g, off, h6, Nat.lt_of_lt_of_le h7 hb.size, fun k x hk => cell_later hb h7 (h8 k x hk)⟩
theorem own_cellL {w : World} {base e size n g c j : Nat} {u : Value} {xs : List Value} (h : w.ownsRow base e size (.slice (some ⟨g, 0, none⟩) n c) n xs) (hj : xs[j]? = some u) : w.cell? ⟨g, 0 + j, none⟩ = some u := by
 have := h.cells (g := g) rfl j u hj
 rw [← this]; unfold Addr.add; split
 · rename_i e; rw [e]
 · rfl
theorem Sr.sl {W : World} {B : Nat} {v : Value} {ws : List Bs} (h : Sr W B v ws) (hl : ∀ x ∈ ws, x.length ≤ 9223372036854775807) : Sl W v ws := by
 refine ⟨?_, hl⟩
 have h0 := h
 rcases h.2 with ⟨h1, h2⟩ | ⟨g, cap, cur, rfl, h2, h3, h4, h5, _⟩
 · exact ⟨none, 0, by rw [h1, h2], by omega, by omega, Or.inl (List.length_eq_zero_iff.1 h2)⟩
 · refine ⟨_, cap, rfl, h4, by unfold maxLen at h5; omega, Or.inr ⟨g, 0, rfl, (World.ownsRow.lt h0 g rfl).2, fun k x hk => ?_⟩⟩
   exact own_cellL h0 (by rw [List.getElem?_map, hk]; rfl)
theorem all_no {ws : List Bs} {k : Nat} (h : k < ws.length) (hm : mayW ws[k] = false) : okL ws = false := by
 unfold okL
 have : ws.all mayW = false := by
   rw [List.all_eq_false]
   exact ⟨ws[k], List.getElem_mem h, by simp [hm]⟩
 rw [this]; rfl
theorem all_yes {ws : List Bs} (h : ∀ j (hj : j < ws.length), mayW ws[j] = true) : okL ws = decide (0 < ws.length) := by
 unfold okL
 have : ws.all mayW = true := by
   rw [List.all_eq_true]
   intro x hx
   obtain ⟨k, hk, rfl⟩ := List.mem_iff_getElem.1 hx
   exact h k hk
 rw [this]
 cases ws with
 | nil => rfl
 | cons a r =>
   rw [decide_eq_true (by simp)]; rfl
set_option maxHeartbeats 4000000 in
theorem allMayBe_any (v : Value) (ws : List Bs) (w : World) (h : Sl w v ws) : Calls Tryd.prog 47 #[v] w fun e w' => e = .returned (.bool (okL ws)) ∧ w' = w := by
 obtain ⟨⟨a, c, rfl, hc1, hc2, hm⟩, hlen⟩ := h
 have HL := Lib.hid hlen
 have HM := Lib.hid hm
 have l1 : (ws.length : Int) ≤ 9223372036854775807 := by omega
 clear hlen hm
 obtain ⟨n, hn⟩ : ∃ n, Hid (ws.length = n) := ⟨_, Lib.hid rfl⟩
 rw [hn.out] at l1 hc1 ⊢
 go_enter Tryd.func47, Tryd.ntmps47
 go_wp2
 go_loop [7] (fun s7 => ∃ k : Nat, k ≤ n ∧ s7 = .int .i64 (k : Nat) ∧ Hid (∀ j (hj : j < k) (h2 : j < ws.length), mayW ws[j] = true)) (fun s7 => n - (RowKit.intOf s7).toNat)
 case atStart => exact ⟨0, Nat.zero_le _, rfl, fun j hj _ => by omega⟩
 case round =>
   obtain ⟨k, hk, rfl, hI⟩ := hrel
   by_cases hlt : k < n
   · have hk2 : k < ws.length := by rw [hn.out]; exact hlt
     have hlt' : (k : Int) < (n : Int) := by omega
     have hk0 : (0 : Int) ≤ (k : Int) := by omega
     obtain ⟨g, off, rfl, hg, hcell⟩ := HM.out.resolve_left (fun e => by rw [e] at hk2; simp at hk2)
     have b1 := hcell k ws[k] (List.getElem?_eq_getElem hk2)
     obtain ⟨m, hm⟩ : ∃ m, Hid (mayW ws[k] = m) := ⟨_, Lib.hid rfl⟩
     have HY : Hid (∀ w, Calls Tryd.prog 67 #[.string ⟨(ws[k]).toArray⟩] w fun e w' => e = .returned (.bool m) ∧ w' = w) := fun w => by
       rw [← hm.out]; exact mayBeL_any _ w (HL.out _ (List.getElem_mem hk2))
     clear hcell
     cases m
     · have HN := Lib.hid (all_no hk2 hm.out)
       go_wp2_with (go_at_call 67; refine (HY.out _).mono ?_; rintro e w' ⟨rfl, rfl⟩)
       go_ret
       rw [HN.out]; exact ⟨rfl, rfl⟩
     · go_wp2_with (go_at_call 67; refine (HY.out _).mono ?_; rintro e w' ⟨rfl, rfl⟩)
       refine ⟨⟨k + 1, by omega, by go_num, fun j hj hjl => ?_⟩, ?_⟩
       · by_cases e : j = k
         · subst e; exact hm.out
         · exact hI.out j (by omega) hjl
       · simp [RowKit.intOf]; omega
   · obtain rfl : k = n := by omega
     have HN := Lib.hid (all_yes (ws := ws) (fun j hj => hI.out j (by rw [← hn.out]; exact hj) hj))
     rw [hn.out] at HN
     go_wp2
     go_ret
     rw [HN.out]; exact ⟨rfl, rfl⟩
end

/- Package lines: sizeOf, Write. -/
section
set_option maxRecDepth 100000
open Go.RowKit Go.Shelf Go.Lib
def Mod (ls : List Lv) : Prop := ls.length ≤ 300000 ∧ ∀ p ∈ ls, p.1.length ≤ 300000
theorem ok_may {ws : List Bs} (h : okL ws = true) : ws ≠ [] ∧ ∀ x ∈ ws, mayW x = true := by
 unfold okL at h
 rw [Bool.and_eq_true, List.all_eq_true] at h
 exact ⟨by simpa using h.2, h.1⟩
theorem may_len {x : Bs} (h : mayW x = true) : x.length ≤ 400 := by
 unfold mayW at h
 rw [Bool.and_eq_true, Bool.and_eq_true] at h
 simpa using h.1.2
def szR (L : List (List Bs)) : Value := if fits L then .tuple #[.int .i64 ((wrT L).length : Nat), .bool true] else .tuple #[.int .i64 0, .bool false]
theorem szR_yes {L : List (List Bs)} (h : fits L = true) : szR L = .tuple #[.int .i64 ((wrT L).length : Nat), .bool true] := by unfold szR; rw [if_pos h]
theorem szR_no {L : List (List Bs)} (h : fits L = false) : szR L = .tuple #[.int .i64 0, .bool false] := by unfold szR; rw [h]; rfl
set_option maxRecDepth 100000 in
set_option maxHeartbeats 4000000 in
theorem sizeOf_any (v : Value) (ls : List Lv) (w : World) (h : Ll w v ls) (hM : Mod ls) (hok : (ls1 ls).all okL = true) : Calls Tryd.prog 48 #[v] w fun e w' => e = .returned (szR (ls1 ls)) ∧ w' = w := by
 obtain ⟨⟨a, c, rfl, hc1, hc2, hm⟩, hsub⟩ := h
 have HO : Hid (∀ p ∈ ls, okL p.1 = true) := fun p hp => by
   rw [List.all_eq_true] at hok
   exact hok p.1 (List.mem_map.2 ⟨p, hp, rfl⟩)
 have HM := Lib.hid hm
 have HU := Lib.hid hsub
 have HMo := Lib.hid hM
 have l0 : (ls.length : Int) ≤ 300000 := by have := hM.1; omega
 clear hsub hm hok hM
 obtain ⟨n, hn⟩ : ∃ n, Hid (ls.length = n) := ⟨_, Lib.hid rfl⟩
 rw [hn.out] at l0 hc1 ⊢
 have HLen : Hid ((ls1 ls).length = n) := (by rw [List.length_map, hn.out] : (ls1 ls).length = n)
 go_enter Tryd.func48, Tryd.ntmps48
 go_wp2
 go_loop [4, 12] (fun s4 s12 => ∃ k z : Nat, k ≤ n ∧ s12 = .int .i64 (k : Nat) ∧ s4 = .int .i64 (z : Nat) ∧ z ≤ 16777216 ∧ Hid (z = (wrT ((ls1 ls).take k)).length ∧ ∀ j (_ : j < k) (h2 : j < (ls1 ls).length), (jn (ls1 ls)[j]).length ≤ 65536)) (fun _ s12 => n - (RowKit.intOf s12).toNat)
 case atStart => exact ⟨0, 0, Nat.zero_le _, rfl, rfl, by omega, rfl, fun j hj _ => by omega⟩
 case round =>
   obtain ⟨k, z, hk, rfl, rfl, hz, hI⟩ := hrel
   have hz' : (z : Int) ≤ 16777216 := by omega
   by_cases hlt : k < n
   · have hk2 : k < ls.length := by rw [hn.out]; exact hlt
     have hk3 : k < (ls1 ls).length := by rw [HLen.out]; exact hlt
     have hlt' : (k : Int) < (n : Int) := by omega
     have hk0 : (0 : Int) ≤ (k : Int) := by omega
     obtain ⟨g, off, rfl, hg, hcell⟩ := HM.out.resolve_left (fun e => by rw [e] at hk2; simp at hk2)
     have b1 := hcell k ls[k] (List.getElem?_eq_getElem hk2)
     obtain ⟨⟨ws, wv⟩, hp⟩ : ∃ p, Hid (ls[k] = p) := ⟨_, Lib.hid rfl⟩
     rw [hp.out] at b1
     have hmem : (ws, wv) ∈ ls := by rw [← hp.out]; exact List.getElem_mem hk2
     have hS : Sl w wv ws := HU.out _ hmem
     have HK := Lib.hid (ok_may (HO.out _ hmem))
     have hwl : ws.length ≤ 300000 := HMo.out.2 _ hmem
     have HJ : Hid ((ls1 ls)[k] = ws) := (by rw [List.getElem_map, hp.out] : (ls1 ls)[k] = ws)
     have HLe : Hid (lens ws ≤ 300000 * 400) := by
       show lens ws ≤ 300000 * 400
       exact Nat.le_trans (lens_le (m := 400) (fun x hx => may_len (HK.out.2 x hx))) (Nat.mul_le_mul_right _ hwl)
     obtain ⟨⟨a2, c2, rfl, hd1, hd2, hm2⟩, hlen2⟩ := hS
     have HM2 := Lib.hid hm2
     have hwl' : (ws.length : Int) ≤ 300000 := by omega
     have hw0 : 0 < ws.length := List.length_pos_iff.2 HK.out.1
     have hw0' : (1 : Int) ≤ (ws.length : Int) := by omega
     obtain ⟨nw, hnw⟩ : ∃ nw, Hid (ws.length = nw) := ⟨_, Lib.hid rfl⟩
     have HST : Hid ((wrT ((ls1 ls).take (k + 1))).length = z + ((jn ws).length + 1)) := by
       show _ = _
       rw [wrT_take hk3, List.length_append, List.length_append, ← hI.out.1, HJ.out]; rfl
     have HJL : Hid (((jn ws).length : Int) = (nw : Int) - 1 + (lens ws : Int)) := by
       show _ = _
       rw [← hnw.out]; exact jn_len HK.out.1
     rw [hnw.out] at hwl' hw0' hd1 b1
     have hnl : nw ≤ 300000 := by omega
     clear hcell hm2 hlen2 hmem hwl hw0
     go_wp2
     go_loop [7, 21] (fun s7 s21 => ∃ j y : Nat, j ≤ nw ∧ s21 = .int .i64 (j : Nat) ∧ s7 = .int .i64 ((nw : Int) - 1 + (y : Nat)) ∧ y ≤ 120000000 ∧ Hid (y = lens (ws.take j))) (fun _ s21 => nw - (RowKit.intOf s21).toNat)
     case atStart => exact ⟨0, 0, Nat.zero_le _, rfl, by go_num, by omega, rfl⟩
     case round =>
       obtain ⟨j, y, hj, rfl, rfl, hy, hY⟩ := hrel
       have hy' : (y : Int) ≤ 120000000 := by omega
       by_cases hlt2 : j < nw
       · have hj2 : j < ws.length := by rw [hnw.out]; exact hlt2
         have hlt2' : (j : Int) < (nw : Int) := by omega
         have hj0 : (0 : Int) ≤ (j : Int) := by omega
         obtain ⟨g2, off2, rfl, hg2, hcell2⟩ := HM2.out.resolve_left (fun e => by rw [e] at hj2; simp at hj2)
         have b2 := hcell2 j ws[j] (List.getElem?_eq_getElem hj2)
         obtain ⟨q, hq⟩ : ∃ q : ByteArray, (⟨(ws[j]).toArray⟩ : ByteArray) = q := ⟨_, rfl⟩
         have b3 : w.cell? ⟨g2, off2 + j, none⟩ = some (.string q) := by rw [b2, ← hq]
         have hqs : q.size = (ws[j]).length := by rw [← hq]; exact sv_size _
         have hq4 : (ws[j]).length ≤ 400 := may_len (HK.out.2 _ (List.getElem_mem hj2))
         have hq5 : (q.size : Int) ≤ 400 := by omega
         have HQ : Hid (lens (ws.take (j + 1)) = y + q.size) := (by rw [lens_take hj2, ← hY.out, hqs] : lens (ws.take (j + 1)) = y + q.size)
         have HQ2 : Hid (y + q.size ≤ 120000000) := by
           show y + q.size ≤ _
           rw [← HQ.out]
           have h1 := lens_take_le ws (j + 1)
           have h2 := HLe.out
           omega
         clear hcell2 b2 hq hqs hq4
         go_wp2
         refine ⟨⟨j + 1, y + q.size, by omega, by go_num, by go_num, HQ2.out, HQ.out.symm⟩, ?_⟩
         simp [RowKit.intOf]; omega
       · obtain rfl : nw = j := by omega
         have HT : Hid (y = lens ws) := by
           show y = _
           rw [hY.out, List.take_of_length_le (by rw [hnw.out]; exact Nat.le_refl _)]
         have HF : Hid (65536 < (nw : Int) - 1 + (y : Int) ∨ 16777216 < (z : Int) + ((nw : Int) - 1 + (y : Int) + 1) → fits (ls1 ls) = false) := fun h => by
           refine fits_no hk3 ?_
           rw [HST.out, HJ.out]
           have := HJL.out
           rw [← HT.out] at this
           omega
         have HG : Hid ((nw : Int) - 1 + (y : Int) ≤ 65536 → (z : Int) + ((nw : Int) - 1 + (y : Int) + 1) ≤ 16777216 → ∃ k' z' : Nat, k' ≤ n ∧ Value.int .i64 ((k : Int) + 1) = .int .i64 (k' : Nat) ∧ Value.int .i64 ((z : Int) + ((nw : Int) - 1 + (y : Int) + 1)) = .int .i64 (z' : Nat) ∧ z' ≤ 16777216 ∧ Hid (z' = (wrT ((ls1 ls).take k')).length ∧ ∀ j (_ : j < k') (h2 : j < (ls1 ls).length), (jn (ls1 ls)[j]).length ≤ 65536)) := fun h1 h2 => by
           have e1 := HJL.out
           rw [← HT.out] at e1
           refine ⟨k + 1, z + ((jn ws).length + 1), by omega, by simp, ?_, by omega, HST.out.symm, fun j hj hjl => ?_⟩
           · congr 1; omega
           · by_cases e : j = k
             · subst e; rw [HJ.out]; omega
             · exact hI.out.2 j (by omega) hjl
         by_cases g1 : (65536 : Int) < (nw : Int) - 1 + (y : Int)
         · have HN := Lib.hid (HF.out (Or.inl g1))
           go_wp2
           go_ret2
           rw [szR_no HN.out]; exact ⟨rfl, rfl⟩
         · by_cases g2 : (16777216 : Int) < (z : Int) + ((nw : Int) - 1 + (y : Int) + 1)
           · have HN := Lib.hid (HF.out (Or.inr g2))
             go_wp2
             go_ret2
             rw [szR_no HN.out]; exact ⟨rfl, rfl⟩
           · have HX := Lib.hid (HG.out (by omega) (by omega))
             clear HG HF
             go_wp2
             refine ⟨HX.out, ?_⟩
             simp [RowKit.intOf]; omega
   · obtain rfl : k = n := by omega
     have HF : Hid (fits (ls1 ls) = true ∧ z = (wrT (ls1 ls)).length) := by
       have e : (ls1 ls).take k = ls1 ls := List.take_of_length_le (by rw [HLen.out]; exact Nat.le_refl _)
       have h := hI.out
       rw [e] at h
       exact ⟨fits_yes (fun j hj => h.2 j (by rw [← HLen.out]; exact hj) hj) (by rw [← h.1]; exact hz), h.1⟩
     go_wp2
     go_ret2
     rw [szR_yes HF.out.1, ← HF.out.2]
     exact ⟨rfl, rfl⟩
end

/- Lists of lists of texts that are handed in, opened. -/
section
set_option maxRecDepth 100000
open Go.ChangeShapes Go.WideShapes Go.ChangeAt Go.RowKit Go.Deep Go.Lib
end
end Go.Proofs.YtgoadpnoagaflaaDoor
