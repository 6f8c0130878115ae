/- Own texts, put together: Bb. -/
import Derived.Test.YtgoadpnoagaflaaDoorQ4
import Derived.Test.YtgoadpnoagaflaaDoorQ5
import Derived.Test.YtgoadpnoagaflaaDoorProg
import Derived.WalkKit
import Derived.WalkSpells
import Derived.WalkLawsBesides
import Derived.OwnWalk
import Derived.Handy
import Derived.Lib.Hide
import Derived.Shelf.Abstract
import Derived.Shelf.RegionOpen
import Derived.Lib.Walk
import Derived.Lib.Strings
import Derived.Laws.Strings3
import Derived.RegionTactic
/- Package strings: Cut at one byte. -/
namespace Go.Proofs.YtgoadpnoagaflaaDoor
set_option maxRecDepth 100000
open Go.RowKit Go.Shelf Go.Lib
set_option maxHeartbeats 1000000 in
theorem indexByteL_any (s : ByteArray) (c : Int) (w : World) :
   Calls Tryd.prog 108 #[.string s, .int .u8 c] w fun e w' => e = .returned (.int .i64 (indexByte s.data.toList c.toNat.toUInt8)) ∧ w' = w := by
 go_enter Tryd.func108, Tryd.ntmps108
 go_wp2
 rw [run_callFunc_extern Tryd.func120 (by kernel_rfl) (by kernel_rfl) (by kernel_rfl) (e := Extern.BytealgIndexByte.indexByte) (by kernel_rfl), Lib.run_indexByteString]
 simp only [Result.andThen]
 rw [Oper.upon_value]
 go_wp2
 go_ret
 exact ⟨rfl, rfl⟩
theorem uint8_back (c : UInt8) : ((c.toNat : Int)).toNat.toUInt8 = c := by
 simp
set_option maxHeartbeats 1000000 in
theorem indexL_any (s : ByteArray) (c : UInt8) (w : World) :
   Calls Tryd.prog 89 #[.string s, .string ⟨#[c]⟩] w fun e w' => e = .returned (.int .i64 (indexByte s.data.toList c)) ∧ w' = w := by
 have HI : Hid (∀ w, Calls Tryd.prog 108 #[.string s, .int .u8 (c.toNat : Int)] w fun e w' => e = .returned (.int .i64 (indexByte s.data.toList c)) ∧ w' = w) := fun w => by
   have := indexByteL_any s (c.toNat : Int) w
   rwa [uint8_back] at this
 have HS : Hid (s.toList = s.data.toList) := Lib.toList_data s
 by_cases h : s.data.toList = [c]
 · have h1 : ([c] == s.toList) = true := by rw [HS.out, h]; simp
   have h2 : indexByte s.data.toList c = 0 := by rw [h]; simp [indexByte]
   rw [h2]
   clear h2 h
   go_enter Tryd.func89, Tryd.ntmps89
   go_wp2_with (first | (go_at_call 108; refine (HI.out _).mono ?_; rintro e w' ⟨rfl, rfl⟩))
   go_ret
   exact ⟨rfl, rfl⟩
 · have h1 : ([c] == s.toList) = false := by rw [HS.out, beq_eq_false_iff_ne]; exact fun e => h e.symm
   clear h
   go_enter Tryd.func89, Tryd.ntmps89
   go_wp2_with (first | (go_at_call 108; refine (HI.out _).mono ?_; rintro e w' ⟨rfl, rfl⟩))
   go_ret
   exact ⟨rfl, rfl⟩
def cutVL (c : UInt8) (l : Bs) : Value := .tuple #[sv (cutT c l), sv (cutD c l), .bool (cutF c l)]
set_option maxHeartbeats 1000000 in
theorem cutliteL_any (s : ByteArray) (c : UInt8) (w : World) (hs : s.size ≤ 1000000000) :
   Calls Tryd.prog 65 #[.string s, .string ⟨#[c]⟩] w fun e w' => e = .returned (cutVL c s.data.toList) ∧ (w' = w ∨ w' = w.drew) := by
 have HI : Hid (∀ w, Calls Tryd.prog 89 #[.string s, .string ⟨#[c]⟩] w fun e w' => e = .returned (.int .i64 (indexByte s.data.toList c)) ∧ w' = w) := fun w => indexL_any s c w
 have hsz := Lib.size_eq s
 rcases cut_index c s.data.toList with ⟨e0, e1, e3, e2⟩ | ⟨i, e2, hi, e1, e3, e0⟩
 · rw [e2] at HI
   have hv : cutVL c s.data.toList = .tuple #[.string s, .string ⟨#[]⟩, .bool false] := by
     unfold cutVL; rw [e1, e3]; simp [cutF, e0]
   rw [hv]
   clear e1 e2 e0 e3 hv
   go_enter Tryd.func65, Tryd.ntmps65
   go_wp2_with (first
     | (go_at_call 89; refine (HI.out _).mono ?_; rintro e w' ⟨rfl, rfl⟩))
   go_ret3
   exact ⟨rfl, Or.inl rfl⟩
 · rw [e2] at HI
   have hv : cutVL c s.data.toList = .tuple #[.string (s.extract 0 i), .string (s.extract (i + 1) s.size), .bool true] := by
     unfold cutVL
     rw [e1, e3, Lib.extract_eq, Lib.extract_eq]
     show Value.tuple #[sv _, sv _, _] = _
     rw [List.drop_zero, Nat.sub_zero, List.take_of_length_le (l := s.data.toList.drop (i + 1)) (by rw [List.length_drop]; omega)]
     simp [cutF, e0]
   rw [hv]
   rw [← hsz] at hi
   have c1 : (0 : Int) ≤ (i : Int) := by omega
   have c2 : (i : Int) ≤ (s.size : Int) := by omega
   have c3 : (0 : Int) ≤ (i : Int) + 1 := by omega
   have c4 : (i : Int) + 1 ≤ (s.size : Int) := by omega
   clear e1 e2 e0 e3 hv hsz
   go_enter Tryd.func65, Tryd.ntmps65
   go_wp2_with (first
     | (go_at_call 89; refine (HI.out _).mono ?_; rintro e w' ⟨rfl, rfl⟩))
   go_region
   go_wp2
   go_ret3
   exact ⟨rfl, Or.inr rfl⟩
set_option maxHeartbeats 1000000 in
theorem cutL_any (s : ByteArray) (c : UInt8) (w : World) (hs : s.size ≤ 1000000000) :
   Calls Tryd.prog 33 #[.string s, .string ⟨#[c]⟩] w fun e w' => e = .returned (cutVL c s.data.toList) ∧ (w' = w ∨ w' = w.drew) := by
 have HI : Hid (∀ w, Calls Tryd.prog 65 #[.string s, .string ⟨#[c]⟩] w fun e w' => e = .returned (cutVL c s.data.toList) ∧ (w' = w ∨ w' = w.drew)) := fun w => cutliteL_any s c w hs
 unfold cutVL at HI ⊢
 go_enter Tryd.func33, Tryd.ntmps33
 go_wp2_with (first
   | (go_at_call 65; refine (HI.out _).mono ?_; rintro e w' ⟨rfl, hw⟩))
 go_ret3
 exact ⟨rfl, hw⟩
end Go.Proofs.YtgoadpnoagaflaaDoor
