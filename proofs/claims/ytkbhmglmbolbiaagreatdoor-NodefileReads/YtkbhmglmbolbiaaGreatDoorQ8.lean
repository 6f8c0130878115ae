/- Own texts, put together: Bb Bc Ql. -/
import Derived.Test.YtkbhmglmbolbiaaGreatDoorQ4
import Derived.Test.YtkbhmglmbolbiaaGreatDoorQ5
import Derived.Test.YtkbhmglmbolbiaaGreatDoorProg
import Derived.WalkKit
import Derived.WalkSpells
import Derived.WalkLawsBesides
import Derived.OwnWalk
import Derived.Handy
import Derived.Lib.Hide
import Derived.Shelf.Abstract
import Derived.Shelf.RegionOpen
import Derived.Lib.Walk
import Derived.Lib.Strings
import Derived.Laws.Strings3
import Derived.RegionTactic
import Derived.Shelf.Strconv.Clone
import Derived.Shelf.LaysM
import Derived.Shelf.Spec.SlicesGrow
import Derived.Shelf.SlicesQ.IndexFunc
namespace Go.Proofs.YtkbhmglmbolbiaaGreatDoor
/- Package strings: Cut at one byte. -/
section
set_option maxRecDepth 100000
open Go.RowKit Go.Shelf Go.Lib
set_option maxHeartbeats 1000000 in
theorem indexByteL_any (s : ByteArray) (c : Int) (w : World) :
   Calls Tryz.prog 92 #[.string s, .int .u8 c] w fun e w' => e = .returned (.int .i64 (indexByte s.data.toList c.toNat.toUInt8)) ∧ w' = w := by
 go_enter Tryz.func92, Tryz.ntmps92
 go_wp2
 rw [run_callFunc_extern Tryz.func120 (by kernel_rfl) (by kernel_rfl) (by kernel_rfl) (e := Extern.BytealgIndexByte.indexByte) (by kernel_rfl), Lib.run_indexByteString]
 simp only [Result.andThen]
 rw [Oper.upon_value]
 go_wp2
 go_ret
 exact ⟨rfl, rfl⟩
theorem uint8_back (c : UInt8) : ((c.toNat : Int)).toNat.toUInt8 = c := by
 simp
set_option maxHeartbeats 1000000 in
theorem indexL_any (s : ByteArray) (c : UInt8) (w : World) :
   Calls Tryz.prog 52 #[.string s, .string ⟨#[c]⟩] w fun e w' => e = .returned (.int .i64 (indexByte s.data.toList c)) ∧ w' = w := by
 have HI : Hid (∀ w, Calls Tryz.prog 92 #[.string s, .int .u8 (c.toNat : Int)] w fun e w' => e = .returned (.int .i64 (indexByte s.data.toList c)) ∧ w' = w) := fun w => by
   have := indexByteL_any s (c.toNat : Int) w
   rwa [uint8_back] at this
 have HS : Hid (s.toList = s.data.toList) := Lib.toList_data s
 by_cases h : s.data.toList = [c]
 · have h1 : ([c] == s.toList) = true := by rw [HS.out, h]; simp
   have h2 : indexByte s.data.toList c = 0 := by rw [h]; simp [indexByte]
   rw [h2]
   clear h2 h
   go_enter Tryz.func52, Tryz.ntmps52
   go_wp2_with (first | (go_at_call 92; refine (HI.out _).mono ?_; rintro e w' ⟨rfl, rfl⟩))
   go_ret
   exact ⟨rfl, rfl⟩
 · have h1 : ([c] == s.toList) = false := by rw [HS.out, beq_eq_false_iff_ne]; exact fun e => h e.symm
   clear h
   go_enter Tryz.func52, Tryz.ntmps52
   go_wp2_with (first | (go_at_call 92; refine (HI.out _).mono ?_; rintro e w' ⟨rfl, rfl⟩))
   go_ret
   exact ⟨rfl, rfl⟩
def cutVL (c : UInt8) (l : Bs) : Value := .tuple #[sv (cutT c l), sv (cutD c l), .bool (cutF c l)]
set_option maxHeartbeats 1000000 in
theorem cutliteL_any (s : ByteArray) (c : UInt8) (w : World) (hs : s.size ≤ 1000000000) :
   Calls Tryz.prog 28 #[.string s, .string ⟨#[c]⟩] w fun e w' => e = .returned (cutVL c s.data.toList) ∧ (w' = w ∨ w' = w.drew) := by
 have HI : Hid (∀ w, Calls Tryz.prog 52 #[.string s, .string ⟨#[c]⟩] w fun e w' => e = .returned (.int .i64 (indexByte s.data.toList c)) ∧ w' = w) := fun w => indexL_any s c w
 have hsz := Lib.size_eq s
 rcases cut_index c s.data.toList with ⟨e0, e1, e3, e2⟩ | ⟨i, e2, hi, e1, e3, e0⟩
 · rw [e2] at HI
   have hv : cutVL c s.data.toList = .tuple #[.string s, .string ⟨#[]⟩, .bool false] := by
     unfold cutVL; rw [e1, e3]; simp [cutF, e0]
   rw [hv]
   clear e1 e2 e0 e3 hv
   go_enter Tryz.func28, Tryz.ntmps28
   go_wp2_with (first
     | (go_at_call 52; refine (HI.out _).mono ?_; rintro e w' ⟨rfl, rfl⟩))
   go_ret3
   exact ⟨rfl, Or.inl rfl⟩
 · rw [e2] at HI
   have hv : cutVL c s.data.toList = .tuple #[.string (s.extract 0 i), .string (s.extract (i + 1) s.size), .bool true] := by
     unfold cutVL
     rw [e1, e3, Lib.extract_eq, Lib.extract_eq]
     show Value.tuple #[sv _, sv _, _] = _
     rw [List.drop_zero, Nat.sub_zero, List.take_of_length_le (l := s.data.toList.drop (i + 1)) (by rw [List.length_drop]; omega)]
     simp [cutF, e0]
   rw [hv]
   rw [← hsz] at hi
   have c1 : (0 : Int) ≤ (i : Int) := by omega
   have c2 : (i : Int) ≤ (s.size : Int) := by omega
   have c3 : (0 : Int) ≤ (i : Int) + 1 := by omega
   have c4 : (i : Int) + 1 ≤ (s.size : Int) := by omega
   clear e1 e2 e0 e3 hv hsz
   go_enter Tryz.func28, Tryz.ntmps28
   go_wp2_with (first
     | (go_at_call 52; refine (HI.out _).mono ?_; rintro e w' ⟨rfl, rfl⟩))
   go_region
   go_wp2
   go_ret3
   exact ⟨rfl, Or.inr rfl⟩
set_option maxHeartbeats 1000000 in
theorem cutL_any (s : ByteArray) (c : UInt8) (w : World) (hs : s.size ≤ 1000000000) :
   Calls Tryz.prog 17 #[.string s, .string ⟨#[c]⟩] w fun e w' => e = .returned (cutVL c s.data.toList) ∧ (w' = w ∨ w' = w.drew) := by
 have HI : Hid (∀ w, Calls Tryz.prog 28 #[.string s, .string ⟨#[c]⟩] w fun e w' => e = .returned (cutVL c s.data.toList) ∧ (w' = w ∨ w' = w.drew)) := fun w => cutliteL_any s c w hs
 unfold cutVL at HI ⊢
 go_enter Tryz.func17, Tryz.ntmps17
 go_wp2_with (first
   | (go_at_call 28; refine (HI.out _).mono ?_; rintro e w' ⟨rfl, hw⟩))
 go_ret3
 exact ⟨rfl, hw⟩
end

/- Package lines: isBlank, mayBe, strings.Clone. -/
section
set_option maxRecDepth 100000
open Go.RowKit Go.Shelf Go.Lib
theorem isBlank_any (c : UInt8) (w : World) : Calls Tryz.prog 54 #[.int .u8 (c.toNat : Int)] w fun e w' => e = .returned (.bool (bl c)) ∧ w' = w := by
 obtain ⟨n, hn⟩ : ∃ n, c.toNat = n := ⟨_, rfl⟩
 have hb : bl c = (n == 32 || n == 9 || n == 13) := by unfold bl; rw [hn]
 rw [hb, hn]
 clear hb hn
 by_cases h1 : n = 32
 · subst h1
   go_enter Tryz.func54, Tryz.ntmps54
   go_wp2
   go_ret
   exact ⟨rfl, rfl⟩
 by_cases h2 : n = 9
 · subst h2
   go_enter Tryz.func54, Tryz.ntmps54
   go_wp2
   go_ret
   exact ⟨rfl, rfl⟩
 by_cases h3 : n = 13
 · subst h3
   go_enter Tryz.func54, Tryz.ntmps54
   go_wp2
   go_ret
   exact ⟨rfl, rfl⟩
 · have e1 : ((n : Int) == 32) = false := by simp; omega
   have e2 : ((n : Int) == 9) = false := by simp; omega
   have e3 : ((n : Int) == 13) = false := by simp; omega
   have d1 : ¬ ((n : Int) = 32) := by omega
   have d2 : ¬ ((n : Int) = 9) := by omega
   have d3 : ¬ ((n : Int) = 13) := by omega
   have f : (n == 32 || n == 9 || n == 13) = false := by simp [h1, h2, h3]
   rw [f]
   go_enter Tryz.func54, Tryz.ntmps54
   go_wp2
   go_ret
   exact ⟨rfl, rfl⟩
theorem mayW_no {l : Bs} {k : Nat} (hk : k < l.length) (hg : gd l[k] = false) : mayW l = false := by
 unfold mayW
 have : l.all gd = false := by
   rw [List.all_eq_false]
   exact ⟨l[k], List.getElem_mem hk, by simp [hg]⟩
 simp [this]
theorem mayW_yes {l : Bs} (h0 : l ≠ []) (h1 : l.length ≤ 400) (h : ∀ j (hj : j < l.length), gd l[j] = true) : mayW l = true := by
 unfold mayW
 have : l.all gd = true := by
   rw [List.all_eq_true]
   intro x hx
   obtain ⟨j, hj, rfl⟩ := List.mem_iff_getElem.1 hx
   exact h j hj
 simp [this, h1, h0]
theorem byte_atL {ds : List UInt8} {k : Nat} (hk : k < (⟨ds.toArray⟩ : ByteArray).size) (hk' : k < ds.length) : (⟨ds.toArray⟩ : ByteArray)[k]'hk = ds[k] := by
 show (ds.toArray)[k] = ds[k]
 simp
theorem sv_size (l : Bs) : (⟨l.toArray⟩ : ByteArray).size = l.length := by simp [ByteArray.size]
set_option maxHeartbeats 2000000 in
theorem mayBeL_any (l : Bs) (w : World) (hs : l.length ≤ 9223372036854775807) : Calls Tryz.prog 30 #[sv l] w fun e w' => e = .returned (.bool (mayW l)) ∧ w' = w := by
 obtain ⟨s, hS⟩ : ∃ s : ByteArray, (⟨l.toArray⟩ : ByteArray) = s := ⟨_, rfl⟩
 have HS := Lib.hid hS
 have hsz : s.size = l.length := by rw [← hS]; exact sv_size l
 have hlist : s.toList = l := by rw [← hS, Lib.toList_data]
 have HE : Hid ((s.toList == []) = l.isEmpty) := (by rw [hlist]; cases l <;> rfl : (s.toList == []) = l.isEmpty)
 show Calls Tryz.prog 30 #[.string ⟨l.toArray⟩] w _
 rw [hS]
 have HB : Hid (∀ (k : Nat) (h1 : k < s.size) (h2 : k < l.length), s[k]'h1 = l[k]) := fun k h1 h2 => by
   subst hS; exact byte_atL h1 h2
 clear hS
 by_cases h0 : l = []
 · have e1 : (s.toList == []) = true := by rw [HE.out, h0]; rfl
   have e2 : mayW l = false := by rw [h0]; rfl
   rw [e2]
   clear hlist HE
   go_enter Tryz.func30, Tryz.ntmps30
   go_wp2
   go_ret
   exact ⟨rfl, rfl⟩
 have e1 : (s.toList == []) = false := by rw [HE.out]; cases l with
   | nil => exact absurd rfl h0
   | cons a r => rfl
 clear hlist HE
 by_cases h4 : 400 < l.length
 · have e2 : mayW l = false := by unfold mayW; rw [decide_eq_false (by omega : ¬ l.length ≤ 400)]; simp
   rw [e2]
   have h5 : (400 : Int) < (s.size : Int) := by omega
   have h6 : (s.size : Int) ≤ 9223372036854775807 := by omega
   go_enter Tryz.func30, Tryz.ntmps30
   go_wp2
   go_ret
   exact ⟨rfl, rfl⟩
 have h5 : ¬ ((400 : Int) < (s.size : Int)) := by omega
 have h6 : (s.size : Int) ≤ 400 := by omega
 have HZ := Lib.hid hsz
 have HN := Lib.hid h0
 clear hsz h0
 go_enter Tryz.func30, Tryz.ntmps30
 go_wp2
 go_loop [14] (fun vi => ∃ k : Nat, k ≤ s.size ∧ vi = .int .i64 (k : Nat) ∧ Hid (∀ j (_ : j < k) (h2 : j < l.length), gd l[j] = true)) (fun vi => s.size - (RowKit.intOf vi).toNat)
 case atStart => exact ⟨0, Nat.zero_le _, rfl, fun j hj _ => by omega⟩
 case round =>
   obtain ⟨k, hk, rfl, hI⟩ := hrel
   by_cases hlt : k < s.size
   · have hk2 : k < l.length := by have := HZ.out; omega
     have hlt' : (k : Int) < (s.size : Int) := by omega
     have hk0 : (0 : Int) ≤ (k : Int) := by omega
     obtain ⟨n, hn⟩ : ∃ n, Hid (l[k].toNat = n) := ⟨l[k].toNat, Lib.hid rfl⟩
     have hv : (((s[k]'hlt).toNat : Nat) : Int) = (n : Int) := by rw [HB.out k hlt hk2, hn.out]
     have HG : Hid (gd l[k] = (decide (33 ≤ n) && decide (n ≤ 126) && !(n == 35))) := (by unfold gd; rw [hn.out] : gd l[k] = _)
     by_cases hg : gd l[k] = true
     · have hg2 := hg
       rw [HG.out] at hg2
       simp at hg2
       have d1 : ¬ ((n : Int) < 33) := by omega
       have d2 : ¬ ((126 : Int) < (n : Int)) := by omega
       have d3 : ¬ ((n : Int) = 35) := by omega
       clear hg2
       go_wp2
       refine ⟨⟨k + 1, by omega, by go_num, fun j hj hjl => ?_⟩, ?_⟩
       · by_cases e : j = k
         · subst e; exact hg
         · exact hI.out j (by omega) hjl
       · simp [RowKit.intOf]; omega
     · have hg3 : gd l[k] = false := by simpa using hg
       have HM := Lib.hid (mayW_no hk2 hg3)
       rw [HG.out] at hg
       simp at hg
       have hx : (n : Int) < 33 ∨ ((126 : Int) < (n : Int) ∨ (n : Int) = 35) := by omega
       clear hg
       rcases hx with d1 | d1 | d1
       · go_wp2
         go_ret
         rw [HM.out]; exact ⟨rfl, rfl⟩
       · have d0 : ¬ ((n : Int) < 33) := by omega
         go_wp2
         go_ret
         rw [HM.out]; exact ⟨rfl, rfl⟩
       · have d0 : n = 35 := by omega
         subst d0
         go_wp2
         go_ret
         rw [HM.out]; exact ⟨rfl, rfl⟩
   · obtain rfl : k = s.size := by omega
     have HM := Lib.hid (mayW_yes HN.out (by have := HZ.out; omega) (fun j hj => hI.out j (by have := HZ.out; omega) hj))
     go_wp2
     go_ret
     rw [HM.out]; exact ⟨rfl, rfl⟩
end

/- slices.Grow of nothing, at floats and at nodes; slices.ContainsFunc at nodes: the library's contracts, laid at this program. -/
section
set_option maxRecDepth 100000
open Go.Shelf Go.Proofs Go.RowKit Go.Lib
def Tryz.growF_ren : Go.Shelf.Ren := ⟨fun | 4 => 65 | n => n, fun | 0 => 0 | 3 => 3 | 4 => 4 | 9 => 9 | 20 => 20 | 22 => 51 | 25 => 48 | n => n, fun | n => n⟩
theorem Tryz.growF : Go.Proofs.Lays8.n4 Tryz.prog Tryz.growF_ren := {
 mixed := by kernel_rfl
 f4 := ⟨Tryz.f65.name, by decide, Tryz.func65.trans (congrArg some (by kernel_rfl))⟩
 t0 := Tryz.underlying0
 a0 := Tryz.isAgg0
 z0 := Tryz.sizeOf0
 v0 := Tryz.zeroValue0
 t3 := Tryz.underlying3
 a3 := Tryz.isAgg3
 z3 := Tryz.sizeOf3
 v3 := Tryz.zeroValue3
 t4 := Tryz.underlying4
 a4 := Tryz.isAgg4
 z4 := Tryz.sizeOf4
 v4 := Tryz.zeroValue4
 t9 := Tryz.underlying9
 a9 := Tryz.isAgg9
 z9 := Tryz.sizeOf9
 v9 := Tryz.zeroValue9
 t20 := Tryz.underlying20
 a20 := Tryz.isAgg20
 z20 := Tryz.sizeOf20
 v20 := Tryz.zeroValue20
 t22 := Tryz.underlying51
 a22 := Tryz.isAgg51
 z22 := Tryz.sizeOf51
 v22 := Tryz.zeroValue51 }
def Tryz.growN_ren : Go.Shelf.Ren := ⟨fun | 4 => 35 | n => n, fun | 0 => 0 | 3 => 3 | 4 => 4 | 9 => 9 | 20 => 20 | 22 => 23 | 25 => 53 | n => n, fun | n => n⟩
theorem Tryz.growN : Go.Proofs.Lays8.n4 Tryz.prog Tryz.growN_ren := {
 mixed := by kernel_rfl
 f4 := ⟨Tryz.f35.name, by decide, Tryz.func35.trans (congrArg some (by kernel_rfl))⟩
 t0 := Tryz.underlying0
 a0 := Tryz.isAgg0
 z0 := Tryz.sizeOf0
 v0 := Tryz.zeroValue0
 t3 := Tryz.underlying3
 a3 := Tryz.isAgg3
 z3 := Tryz.sizeOf3
 v3 := Tryz.zeroValue3
 t4 := Tryz.underlying4
 a4 := Tryz.isAgg4
 z4 := Tryz.sizeOf4
 v4 := Tryz.zeroValue4
 t9 := Tryz.underlying9
 a9 := Tryz.isAgg9
 z9 := Tryz.sizeOf9
 v9 := Tryz.zeroValue9
 t20 := Tryz.underlying20
 a20 := Tryz.isAgg20
 z20 := Tryz.sizeOf20
 v20 := Tryz.zeroValue20
 t22 := Tryz.underlying23
 a22 := Tryz.isAgg23
 z22 := Tryz.sizeOf23
 v22 := Tryz.zeroValue23 }
theorem growF_any (n : Nat) (w : World) (hn : n ≤ 1048576) : Calls Tryz.prog 65 #[.slice none 0 0, .int .i64 (n : Nat)] w fun e w' => ∃ a c, e = .returned (.slice a 0 c) ∧ w'.ownsRow w.heap.size 48 1 (.slice a 0 c) 0 [] ∧ Below w.heap.size w w' := by
 by_cases h0 : n = 0
 · subst h0
   refine (Any8.slices_Grow_room Tryz.growF none 0 0 0 w (by omega) (by omega) (by omega) (by omega)).mono ?_
   rintro e w' ⟨rfl, rfl⟩
   exact ⟨none, 0, rfl, World.ownsRow_nil _ _ _ _, Below.refl _ _⟩
 · obtain ⟨i0, hi0, hz0, hz1, hz2⟩ := info_parts (show (Tryz.prog.info? 48).map (fun i => (i.zero, i.size, i.bytes)) = some (some (.float .f64 0), 1, 8) by kernel_rfl)
   refine (Any8.slices_Grow_grow Tryz.growF i0 _ hi0 hz0 (by omega) none 0 0 n [] w (by omega) (by omega) (by rw [hz2]; omega) (by omega) (by simp) (fun _ => rfl) (fun a h => by cases h)).mono ?_
   rintro e w' ⟨rfl, rfl⟩
   have hg := grownCap_ge w n 0 48
   have hm := grownCap_le_maxLen w n 0 48 (by unfold maxLen; omega)
   simp only [Nat.zero_add] at *
   refine ⟨_, _, rfl, ⟨by simp, Or.inr ⟨w.heap.size, _, _, rfl, Nat.le_refl _, heap_alloc_new w.drew _, by omega, hm, ?_, by simp⟩⟩, ((Below.refl _ w).drew).alloc (Nat.le_refl _) _⟩
   simp only [Array.size_append, size_zeroCells, List.size_toArray, List.length_nil]
   show 0 + (n - 0) * 1 + (grownCap w n 0 48 - n) * 1 = grownCap w n 0 48 * 1
   omega
theorem growN_any (n : Nat) (w : World) (hn : n ≤ 1048576) : Calls Tryz.prog 35 #[.slice none 0 0, .int .i64 (n : Nat)] w fun e w' => ∃ a c, e = .returned (.slice a 0 c) ∧ w'.ownsRow w.heap.size 53 4 (.slice a 0 c) 0 [] ∧ Below w.heap.size w w' := by
 by_cases h0 : n = 0
 · subst h0
   refine (Any8.slices_Grow_room Tryz.growN none 0 0 0 w (by omega) (by omega) (by omega) (by omega)).mono ?_
   rintro e w' ⟨rfl, rfl⟩
   exact ⟨none, 0, rfl, World.ownsRow_nil _ _ _ _, Below.refl _ _⟩
 · obtain ⟨i0, hi0, hz0, hz1, hz2⟩ := info_parts (show (Tryz.prog.info? 53).map (fun i => (i.zero, i.size, i.bytes)) = some (some (.agg #[.float .f64 0, .float .f64 0, .slice none 0 0, .int .i64 0]), 4, 48) by kernel_rfl)
   refine (Any8.slices_Grow_grow Tryz.growN i0 _ hi0 hz0 (by omega) none 0 0 n [] w (by omega) (by omega) (by rw [hz2]; omega) (by omega) (by simp) (fun _ => rfl) (fun a h => by cases h)).mono ?_
   rintro e w' ⟨rfl, rfl⟩
   have hg := grownCap_ge w n 0 53
   have hm := grownCap_le_maxLen w n 0 53 (by unfold maxLen; omega)
   simp only [Nat.zero_add] at *
   refine ⟨_, _, rfl, ⟨by simp, Or.inr ⟨w.heap.size, _, _, rfl, Nat.le_refl _, heap_alloc_new w.drew _, by omega, hm, ?_, by simp⟩⟩, ((Below.refl _ w).drew).alloc (Nat.le_refl _) _⟩
   simp only [Array.size_append, size_zeroCells, List.size_toArray, List.length_nil]
   show 0 + (n - 0) * 4 + (grownCap w n 0 53 - n) * 4 = grownCap w n 0 53 * 4
   omega
end
end Go.Proofs.YtkbhmglmbolbiaaGreatDoor
