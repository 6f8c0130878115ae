/- Own texts, put together: Bl. -/
import Derived.Test.YtgoadpnoagaflaaDoorQ23
/- The document's side of layer 9: words, the walk. -/
namespace Go.Proofs.YtgoadpnoagaflaaDoor
set_option maxRecDepth 100000
open Go.RowKit Go.Shelf Go.Lib
theorem Sr.grew {W W2 : World} {B : Nat} {v v' : Value} {ts : List Bs} {x : Bs} (hown : W2.ownsRow B 9 1 v' (ts.length + 1) (svs ts ++ [sv x])) (_ : Sr W B v ts) : Sr W2 B v' (ts ++ [x]) := by
 unfold Sr
 rw [List.length_append]
 simpa [svs] using hown
theorem own_ap {W : World} {B e size n : Nat} {v : Value} {xs : List Value} (h : W.ownsRow B e size v n xs) : ∀ k, v.ownBlock = some k → B ≤ k := fun k hk => (World.ownsRow.lt h k hk).1
theorem below_grew {w W W2 : World} {e size n : Nat} {v : Value} {xs : List Value} {tmp : Obj} (hb : Below w.heap.size w W) (h : W.ownsRow w.heap.size e size v n xs) (hg : (W.alloc tmp).grownBy W2 v.ownBlock) : Below w.heap.size w W2 :=
 hb.trans (((Below.refl _ W).alloc hb.size _).grown hg (by simp; have := hb.size; omega) (fun k hk => own_ap h k hk))
theorem empty_is {q : ByteArray} {x : Bs} (h : q.data.toList = x) : (q.toList == []) = x.isEmpty := by
 rw [Lib.toList_data, h]; cases x <;> rfl
set_option maxRecDepth 100000 in
set_option maxHeartbeats 8000000 in
theorem refWords_any (s : ByteArray) (l : Bs) (w : World) (hl : s.data.toList = l) (hlen : l.length ≤ 1000000000) : Calls Tryd.prog 54 #[.string s] w fun e w' => WdR w w' l e := by
 have hsz : s.size = l.length := by rw [Lib.size_eq, hl]
 have HZ := Lib.hid hsz
 have HB : Hid (∀ (k : Nat) (h1 : k < s.size) (h2 : k < l.length), s[k]'h1 = l[k]) := fun k h1 h2 => by
   have e : s = ⟨l.toArray⟩ := by rw [← hl]
   subst e
   exact byte_atL h1 h2
 have HX : Hid (∀ st k, s.extract st k = ⟨((l.drop st).take (k - st)).toArray⟩) := fun st k => by rw [Lib.extract_eq, hl]
 have hs1 : (s.size : Int) ≤ 1000000000 := by omega
 obtain ⟨i0, hi0, hz0, hz1, hz2⟩ := info_parts (show (Tryd.prog.info? 9).map (fun i => (i.zero, i.size, i.bytes)) = some (some (.string ⟨#[]⟩), 1, 16) by kernel_rfl)
 have HLn := Lib.hid hlen
 clear hl hsz hlen
 go_enter Tryd.func54, Tryd.ntmps54
 go_wp2
 go_loopw [4, 5, 6] (fun s4 s5 s6 wr => ∃ (k st : Nat) (q : ByteArray) (ts : List Bs), k ≤ s.size ∧ s6 = .int .i64 (k : Nat) ∧ s5 = .string q ∧ q.size + st = k ∧ Hid (q.data.toList = cw l st k ∧ WInv l st k ts ∧ ts.length ≤ k ∧ Sr wr w.heap.size s4 ts ∧ Below w.heap.size w wr)) (fun _ _ s6 _ => s.size - (RowKit.intOf s6).toNat)
 case atStart => exact ⟨0, 0, ⟨#[]⟩, [], Nat.zero_le _, rfl, rfl, rfl, rfl, WInv.start l, Nat.le_refl _, World.ownsRow_nil _ _ _ _, Below.refl _ _⟩
 case round =>
   obtain ⟨k, st, q, ts, hk, rfl, rfl, hq, hI⟩ := hrel
   have hk0 : (0 : Int) ≤ (k : Int) := by omega
   have hkl : (k : Int) ≤ (s.size : Int) := by omega
   have hqk : (q.size : Int) ≤ (k : Int) := by omega
   obtain ⟨x, hx⟩ : ∃ x, Hid (cw l st k = x) := ⟨_, Lib.hid rfl⟩
   have HQ : Hid (q.data.toList = x) := (by rw [hI.out.1, hx.out] : q.data.toList = x)
   have HQS : Hid (q.size = x.length) := (by rw [Lib.size_eq, HQ.out] : q.size = x.length)
   have HQE : Hid ((q.toList == []) = x.isEmpty) := empty_is HQ.out
   have HSV : Hid ((⟨x.toArray⟩ : ByteArray) = q) := (by rw [← HQ.out] : (⟨x.toArray⟩ : ByteArray) = q)
   have HTL : Hid (ts.length ≤ 1000000000) := by
     show ts.length ≤ _
     have h1 := hI.out.2.2.1
     have h2 := HZ.out
     have h3 := HLn.out
     omega
   by_cases hfin : ∀ h : k < l.length, l[k] = 35
   · have hfin2 : (k = s.size) ∨ (∃ h : k < s.size, ((s[k]'h).toNat : Int) = 35) := by
       by_cases e : k = s.size
       · exact Or.inl e
       · have h1 : k < s.size := by omega
         have h2 : k < l.length := by rw [← HZ.out]; exact h1
         exact Or.inr ⟨h1, by rw [HB.out k h1 h2, hfin h2]; rfl⟩
     have HF := Lib.hid (hI.out.2.1.fin (by have := HZ.out; omega) hfin)
     clear hfin
     by_cases hlong : 400 < q.size
     · have hlong' : (400 : Int) < (q.size : Int) := by omega
       have HN := Lib.hid (hI.out.2.1.long HF.out (by rw [hx.out, ← HQS.out]; exact hlong))
       rcases hfin2 with e | ⟨h1, h2⟩
       · have e1 : (k : Int) = (s.size : Int) := by omega
         subst e
         go_wp2
         go_ret2
         exact WdR.no HN.out hI.out.2.2.2.2
       · have e1 : ¬ ((k : Int) = (s.size : Int)) := by omega
         have e2 : (k : Int) < (s.size : Int) := by omega
         have f0 : ((k : Int) == (s.size : Int)) = false := by simp; omega
         go_wp2
         go_ret2
         exact WdR.no HN.out hI.out.2.2.2.2
     · have hlong' : ¬ ((400 : Int) < (q.size : Int)) := by omega
       have HM := Lib.hid (hI.out.2.1.more HF.out (by rw [hx.out, ← HQS.out]; omega))
       rw [hx.out] at HM
       by_cases h0 : x = []
       · have e3 : (q.toList == []) = true := by rw [HQE.out, h0]; rfl
         have HE : Hid (ts = lineW l ∧ ∀ x ∈ ts, mayW x = true) := by
           have := HM.out
           rw [h0] at this
           refine Lib.hid ?_
           simpa [one] using this
         clear HM HQE
         rcases hfin2 with e | ⟨h1, h2⟩
         · have e1 : (k : Int) = (s.size : Int) := by omega
           subst e
           go_wp2
           go_ret2
           exact WdR.yes HE.out.1 HE.out.2 hI.out.2.2.2.1 hI.out.2.2.2.2
         · have e1 : ¬ ((k : Int) = (s.size : Int)) := by omega
           have e2 : (k : Int) < (s.size : Int) := by omega
           have f0 : ((k : Int) == (s.size : Int)) = false := by simp; omega
           go_wp2
           go_ret2
           exact WdR.yes HE.out.1 HE.out.2 hI.out.2.2.2.1 hI.out.2.2.2.2
       · have e3 : (q.toList == []) = false := by rw [HQE.out]; cases x with
           | nil => exact absurd rfl h0
           | cons a r => rfl
         have HE : Hid (ts ++ [x] = lineW l ∧ ∀ y ∈ ts ++ [x], mayW y = true) := by
           have := HM.out
           rw [one_ne h0, List.append_nil] at this
           exact this
         clear HM HQE
         rcases hfin2 with e | ⟨h1, h2⟩
         · have e1 : (k : Int) = (s.size : Int) := by omega
           subst e
           go_wp2_with (at_builtin; refine wpList_append_own _ rfl _ _ 56 rfl w.heap.size 9 i0 (.string ⟨#[]⟩) 1 16 Tryd.underlying56 hi0 hz0 hz1 hz2 rfl (by decide) u4 ts.length (svs ts) rfl (World.ownsRow.alloc hI.out.2.2.2.1 _) ⟨wr.heap.size, 0, none⟩ 1 1 [.string q] rfl rfl (cell_one_new _ _ _) (by simp [Value.oneCell']) (by unfold maxLen; have := HTL.out; omega) (by have := HTL.out; omega) (by have := hI.out.2.2.2.2.size; simp; omega) ?_; intro v' W4 hown hgrow _; rw [← HSV.out] at hown; have HR := Lib.hid (And.intro (Sr.grew hown hI.out.2.2.2.1) (below_grew hI.out.2.2.2.2 hI.out.2.2.2.1 hgrow)); clear hown hgrow)
           go_ret2
           exact WdR.yes HE.out.1 HE.out.2 HR.out.1 HR.out.2
         · have e1 : ¬ ((k : Int) = (s.size : Int)) := by omega
           have e2 : (k : Int) < (s.size : Int) := by omega
           have f0 : ((k : Int) == (s.size : Int)) = false := by simp; omega
           go_wp2_with (at_builtin; refine wpList_append_own _ rfl _ _ 56 rfl w.heap.size 9 i0 (.string ⟨#[]⟩) 1 16 Tryd.underlying56 hi0 hz0 hz1 hz2 rfl (by decide) u4 ts.length (svs ts) rfl (World.ownsRow.alloc hI.out.2.2.2.1 _) ⟨wr.heap.size, 0, none⟩ 1 1 [.string q] rfl rfl (cell_one_new _ _ _) (by simp [Value.oneCell']) (by unfold maxLen; have := HTL.out; omega) (by have := HTL.out; omega) (by have := hI.out.2.2.2.2.size; simp; omega) ?_; intro v' W4 hown hgrow _; rw [← HSV.out] at hown; have HR := Lib.hid (And.intro (Sr.grew hown hI.out.2.2.2.1) (below_grew hI.out.2.2.2.2 hI.out.2.2.2.1 hgrow)); clear hown hgrow)
           go_ret2
           exact WdR.yes HE.out.1 HE.out.2 HR.out.1 HR.out.2
   · have hklt : k < l.length := Nat.lt_of_not_le fun e => hfin fun h => absurd h (Nat.not_lt.2 e)
     have hne : l[k] ≠ 35 := fun e => hfin (fun _ => e)
     have hks : k < s.size := by rw [HZ.out]; exact hklt
     have e1 : ¬ ((k : Int) = (s.size : Int)) := by omega
     have e2 : (k : Int) < (s.size : Int) := by omega
     have f0 : ((k : Int) == (s.size : Int)) = false := by simp; omega
     obtain ⟨n, hn⟩ : ∃ n, Hid (l[k].toNat = n) := ⟨_, Lib.hid rfl⟩
     have hv : (((s[k]'hks).toNat : Nat) : Int) = (n : Int) := by rw [HB.out k hks hklt, hn.out]
     have n35 : ¬ ((n : Int) = 35) := fun e => hne (UInt8.toNat.inj (by rw [hn.out]; show n = 35; omega))
     have HG : Hid (gd l[k] = (decide (33 ≤ n) && decide (n ≤ 126) && !(n == 35))) := (by unfold gd; rw [hn.out] : gd l[k] = _)
     have HBl : Hid (bl l[k] = (n == 32 || n == 9 || n == 13)) := (by unfold bl; rw [hn.out] : bl l[k] = _)
     have HNE := Lib.hid hne
     clear hfin hne
     by_cases hblk : n = 32 ∨ n = 9 ∨ n = 13
     · have hbl : bl l[k] = true := by rw [HBl.out]; rcases hblk with rfl | rfl | rfl <;> rfl
       by_cases hlong : 400 < q.size
       · have hlong' : (400 : Int) < (q.size : Int) := by omega
         have HN := Lib.hid (hI.out.2.1.long (hI.out.2.1.blank hklt hbl) (by rw [hx.out, ← HQS.out]; exact hlong))
         clear HG HBl n35 hbl
         rcases hblk with rfl | rfl | rfl
         all_goals
           go_wp2
           go_ret2
           exact WdR.no HN.out hI.out.2.2.2.2
       · have hlong' : ¬ ((400 : Int) < (q.size : Int)) := by omega
         have HNx := Lib.hid (hI.out.2.1.next hklt hbl (by rw [hx.out, ← HQS.out]; omega))
         rw [hx.out] at HNx
         clear HG HBl n35 hbl
         by_cases h0 : x = []
         · have e3 : (q.toList == []) = true := by rw [HQE.out, h0]; rfl
           have HE : Hid (WInv l (k + 1) (k + 1) ts) := by
             have := HNx.out
             rw [h0] at this
             refine Lib.hid ?_
             simpa [one] using this
           have HS2 := Lib.hid (And.intro hI.out.2.2.1 hI.out.2.2.2)
           clear HNx HQE
           rcases hblk with rfl | rfl | rfl
           all_goals
             go_wp2
             refine ⟨⟨k + 1, k + 1, ⟨#[]⟩, ts, by omega, by go_num, rfl, ?_, ?_, HE.out, Nat.le_succ_of_le HS2.out.1, HS2.out.2⟩, ?_⟩
             · show 0 + (k + 1) = k + 1; omega
             · simp
             · simp [RowKit.intOf]; omega
         · have e3 : (q.toList == []) = false := by rw [HQE.out]; cases x with
             | nil => exact absurd rfl h0
             | cons a r => rfl
           have HE : Hid (WInv l (k + 1) (k + 1) (ts ++ [x])) := by
             have := HNx.out
             rw [one_ne h0] at this
             exact this
           clear HNx HQE
           rcases hblk with rfl | rfl | rfl
           all_goals
             go_wp2_with (at_builtin; refine wpList_append_own _ rfl _ _ 56 rfl w.heap.size 9 i0 (.string ⟨#[]⟩) 1 16 Tryd.underlying56 hi0 hz0 hz1 hz2 rfl (by decide) u4 ts.length (svs ts) rfl (World.ownsRow.alloc hI.out.2.2.2.1 _) ⟨wr.heap.size, 0, none⟩ 1 1 [.string q] rfl rfl (cell_one_new _ _ _) (by simp [Value.oneCell']) (by unfold maxLen; have := HTL.out; omega) (by have := HTL.out; omega) (by have := hI.out.2.2.2.2.size; simp; omega) ?_; intro v' W4 hown hgrow _; rw [← HSV.out] at hown; have HR := Lib.hid (And.intro (Sr.grew hown hI.out.2.2.2.1) (below_grew hI.out.2.2.2.2 hI.out.2.2.2.1 hgrow)); clear hown hgrow)
             refine ⟨⟨k + 1, k + 1, ⟨#[]⟩, ts ++ [x], by omega, by go_num, rfl, ?_, ?_, HE.out, ?_, HR.out⟩, ?_⟩
             · show 0 + (k + 1) = k + 1; omega
             · simp
             · have := hI.out.2.2.1; simp; omega
             · simp [RowKit.intOf]; omega
     · have hbl : bl l[k] = false := by rw [HBl.out]; simp; omega
       have d1 : ¬ ((n : Int) = 32) := by omega
       have d2 : ¬ ((n : Int) = 9) := by omega
       have d3 : ¬ ((n : Int) = 13) := by omega
       have f1 : ((n : Int) == 32) = false := by simp; omega
       have f2 : ((n : Int) == 9) = false := by simp; omega
       have f3 : ((n : Int) == 13) = false := by simp; omega
       have f4 : ((n : Int) == 35) = false := by simp; omega
       by_cases hg : 33 ≤ n ∧ n ≤ 126
       · have hgd : gd l[k] = true := by rw [HG.out]; simp; omega
         have HNx := Lib.hid (hI.out.2.1.good hklt hgd)
         have d4 : ¬ ((n : Int) < 33) := by omega
         have d5 : ¬ ((126 : Int) < (n : Int)) := by omega
         have hst : (k : Int) - (q.size : Int) = (st : Int) := by omega
         have hst0 : (0 : Int) ≤ (st : Int) := by omega
         have hst1 : (st : Int) ≤ (k : Int) + 1 := by omega
         have hst2 : (k : Int) + 1 ≤ (s.size : Int) := by omega
         have HX1 := Lib.hid (HX.out st (k + 1))
         have hX2 : (s.extract st (k + 1)).size = k + 1 - st := by
           rw [Lib.size_eq, HX1.out]
           show ((l.drop st).take (k + 1 - st)).length = _
           rw [List.length_take, List.length_drop]; omega
         have HX2 := Lib.hid hX2
         have HS2 := Lib.hid (And.intro hI.out.2.2.1 hI.out.2.2.2)
         have HKS : Hid (st ≤ k) := (by omega : st ≤ k)
         clear HG HBl hbl hgd hX2 HX HQE
         go_wp2
         refine ⟨⟨k + 1, st, s.extract st (k + 1), ts, by omega, by go_num, rfl, ?_, ?_, HNx.out, Nat.le_succ_of_le HS2.out.1, HS2.out.2⟩, ?_⟩
         · rw [HX2.out]; have := HKS.out; omega
         · rw [HX1.out]
         · simp [RowKit.intOf]; omega
       · have hgd : gd l[k] = false := by rw [HG.out]; simp; omega
         have HN := Lib.hid (hI.out.2.1.bad hklt HNE.out hbl hgd)
         clear HG HBl hbl hgd HQE HX
         have hd : (n : Int) < 33 ∨ (126 : Int) < (n : Int) := by omega
         rcases hd with d4 | d4
         · go_wp2
           go_ret2
           exact WdR.no HN.out hI.out.2.2.2.2
         · have d5 : ¬ ((n : Int) < 33) := by omega
           go_wp2
           go_ret2
           exact WdR.no HN.out hI.out.2.2.2.2
end Go.Proofs.YtgoadpnoagaflaaDoor
