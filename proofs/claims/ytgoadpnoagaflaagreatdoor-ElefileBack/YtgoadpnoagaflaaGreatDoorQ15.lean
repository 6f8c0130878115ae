/- Own texts, put together: Bc. -/
import Derived.Test.YtgoadpnoagaflaaGreatDoorQ3
import Derived.Shelf.Strconv.Clone
import Derived.Shelf.LaysM
/- Package lines: isBlank, mayBe, strings.Clone. -/
namespace Go.Proofs.YtgoadpnoagaflaaGreatDoor
set_option maxRecDepth 100000
open Go.RowKit Go.Shelf Go.Lib
theorem isBlank_any (c : UInt8) (w : World) : Calls Tryz.prog 75 #[.int .u8 (c.toNat : Int)] w fun e w' => e = .returned (.bool (bl c)) ∧ w' = w := by
 obtain ⟨n, hn⟩ : ∃ n, c.toNat = n := ⟨_, rfl⟩
 have hb : bl c = (n == 32 || n == 9 || n == 13) := by unfold bl; rw [hn]
 rw [hb, hn]
 clear hb hn
 by_cases h1 : n = 32
 · subst h1
   go_enter Tryz.func75, Tryz.ntmps75
   go_wp2
   go_ret
   exact ⟨rfl, rfl⟩
 by_cases h2 : n = 9
 · subst h2
   go_enter Tryz.func75, Tryz.ntmps75
   go_wp2
   go_ret
   exact ⟨rfl, rfl⟩
 by_cases h3 : n = 13
 · subst h3
   go_enter Tryz.func75, Tryz.ntmps75
   go_wp2
   go_ret
   exact ⟨rfl, rfl⟩
 · have e1 : ((n : Int) == 32) = false := by simp; omega
   have e2 : ((n : Int) == 9) = false := by simp; omega
   have e3 : ((n : Int) == 13) = false := by simp; omega
   have d1 : ¬ ((n : Int) = 32) := by omega
   have d2 : ¬ ((n : Int) = 9) := by omega
   have d3 : ¬ ((n : Int) = 13) := by omega
   have f : (n == 32 || n == 9 || n == 13) = false := by simp [h1, h2, h3]
   rw [f]
   go_enter Tryz.func75, Tryz.ntmps75
   go_wp2
   go_ret
   exact ⟨rfl, rfl⟩
theorem mayW_no {l : Bs} {k : Nat} (hk : k < l.length) (hg : gd l[k] = false) : mayW l = false := by
 unfold mayW
 have : l.all gd = false := by
   rw [List.all_eq_false]
   exact ⟨l[k], List.getElem_mem hk, by simp [hg]⟩
 simp [this]
theorem mayW_yes {l : Bs} (h0 : l ≠ []) (h1 : l.length ≤ 400) (h : ∀ j (hj : j < l.length), gd l[j] = true) : mayW l = true := by
 unfold mayW
 have : l.all gd = true := by
   rw [List.all_eq_true]
   intro x hx
   obtain ⟨j, hj, rfl⟩ := List.mem_iff_getElem.1 hx
   exact h j hj
 simp [this, h1, h0]
theorem byte_atL {ds : List UInt8} {k : Nat} (hk : k < (⟨ds.toArray⟩ : ByteArray).size) (hk' : k < ds.length) : (⟨ds.toArray⟩ : ByteArray)[k]'hk = ds[k] := by
 show (ds.toArray)[k] = ds[k]
 simp
theorem sv_size (l : Bs) : (⟨l.toArray⟩ : ByteArray).size = l.length := by simp [ByteArray.size]
set_option maxHeartbeats 2000000 in
theorem mayBeL_any (l : Bs) (w : World) (hs : l.length ≤ 9223372036854775807) : Calls Tryz.prog 52 #[sv l] w fun e w' => e = .returned (.bool (mayW l)) ∧ w' = w := by
 obtain ⟨s, hS⟩ : ∃ s : ByteArray, (⟨l.toArray⟩ : ByteArray) = s := ⟨_, rfl⟩
 have HS := Lib.hid hS
 have hsz : s.size = l.length := by rw [← hS]; exact sv_size l
 have hlist : s.toList = l := by rw [← hS, Lib.toList_data]
 have HE : Hid ((s.toList == []) = l.isEmpty) := (by rw [hlist]; cases l <;> rfl : (s.toList == []) = l.isEmpty)
 show Calls Tryz.prog 52 #[.string ⟨l.toArray⟩] w _
 rw [hS]
 have HB : Hid (∀ (k : Nat) (h1 : k < s.size) (h2 : k < l.length), s[k]'h1 = l[k]) := fun k h1 h2 => by
   subst hS; exact byte_atL h1 h2
 clear hS
 by_cases h0 : l = []
 · have e1 : (s.toList == []) = true := by rw [HE.out, h0]; rfl
   have e2 : mayW l = false := by rw [h0]; rfl
   rw [e2]
   clear hlist HE
   go_enter Tryz.func52, Tryz.ntmps52
   go_wp2
   go_ret
   exact ⟨rfl, rfl⟩
 have e1 : (s.toList == []) = false := by rw [HE.out]; cases l with
   | nil => exact absurd rfl h0
   | cons a r => rfl
 clear hlist HE
 by_cases h4 : 400 < l.length
 · have e2 : mayW l = false := by unfold mayW; rw [decide_eq_false (by omega : ¬ l.length ≤ 400)]; simp
   rw [e2]
   have h5 : (400 : Int) < (s.size : Int) := by omega
   have h6 : (s.size : Int) ≤ 9223372036854775807 := by omega
   go_enter Tryz.func52, Tryz.ntmps52
   go_wp2
   go_ret
   exact ⟨rfl, rfl⟩
 have h5 : ¬ ((400 : Int) < (s.size : Int)) := by omega
 have h6 : (s.size : Int) ≤ 400 := by omega
 have HZ := Lib.hid hsz
 have HN := Lib.hid h0
 clear hsz h0
 go_enter Tryz.func52, Tryz.ntmps52
 go_wp2
 go_loop [14] (fun vi => ∃ k : Nat, k ≤ s.size ∧ vi = .int .i64 (k : Nat) ∧ Hid (∀ j (_ : j < k) (h2 : j < l.length), gd l[j] = true)) (fun vi => s.size - (RowKit.intOf vi).toNat)
 case atStart => exact ⟨0, Nat.zero_le _, rfl, fun j hj _ => by omega⟩
 case round =>
   obtain ⟨k, hk, rfl, hI⟩ := hrel
   by_cases hlt : k < s.size
   · have hk2 : k < l.length := by have := HZ.out; omega
     have hlt' : (k : Int) < (s.size : Int) := by omega
     have hk0 : (0 : Int) ≤ (k : Int) := by omega
     obtain ⟨n, hn⟩ : ∃ n, Hid (l[k].toNat = n) := ⟨l[k].toNat, Lib.hid rfl⟩
     have hv : (((s[k]'hlt).toNat : Nat) : Int) = (n : Int) := by rw [HB.out k hlt hk2, hn.out]
     have HG : Hid (gd l[k] = (decide (33 ≤ n) && decide (n ≤ 126) && !(n == 35))) := (by unfold gd; rw [hn.out] : gd l[k] = _)
     by_cases hg : gd l[k] = true
     · have hg2 := hg
       rw [HG.out] at hg2
       simp at hg2
       have d1 : ¬ ((n : Int) < 33) := by omega
       have d2 : ¬ ((126 : Int) < (n : Int)) := by omega
       have d3 : ¬ ((n : Int) = 35) := by omega
       clear hg2
       go_wp2
       refine ⟨⟨k + 1, by omega, by go_num, fun j hj hjl => ?_⟩, ?_⟩
       · by_cases e : j = k
         · subst e; exact hg
         · exact hI.out j (by omega) hjl
       · simp [RowKit.intOf]; omega
     · have hg3 : gd l[k] = false := by simpa using hg
       have HM := Lib.hid (mayW_no hk2 hg3)
       rw [HG.out] at hg
       simp at hg
       have hx : (n : Int) < 33 ∨ ((126 : Int) < (n : Int) ∨ (n : Int) = 35) := by omega
       clear hg
       rcases hx with d1 | d1 | d1
       · go_wp2
         go_ret
         rw [HM.out]; exact ⟨rfl, rfl⟩
       · have d0 : ¬ ((n : Int) < 33) := by omega
         go_wp2
         go_ret
         rw [HM.out]; exact ⟨rfl, rfl⟩
       · have d0 : n = 35 := by omega
         subst d0
         go_wp2
         go_ret
         rw [HM.out]; exact ⟨rfl, rfl⟩
   · obtain rfl : k = s.size := by omega
     have HM := Lib.hid (mayW_yes HN.out (by have := HZ.out; omega) (fun j hj => hI.out j (by have := HZ.out; omega) hj))
     go_wp2
     go_ret
     rw [HM.out]; exact ⟨rfl, rfl⟩
end Go.Proofs.YtgoadpnoagaflaaGreatDoor
