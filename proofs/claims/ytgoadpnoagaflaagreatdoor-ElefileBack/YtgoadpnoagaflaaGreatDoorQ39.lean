/- Own texts, put together: Efx. -/
import Derived.Test.YtgoadpnoagaflaaGreatDoorQ35
import Derived.Test.YtgoadpnoagaflaaGreatDoorQ37
/- ElefileNames: its tables, and what package elefile tells of them; the first example. (gen_efx.py) -/
namespace Go.Proofs.YtgoadpnoagaflaaGreatDoor
set_option maxRecDepth 100000
open Go.RowKit Go.Shelf Go.Lib
abbrev exE : Bs := [50, 32, 51, 32, 49, 10, 49, 32, 49, 32, 50, 32, 51, 32, 49, 98, 45, 49, 10, 50, 32, 50, 32, 52, 32, 51, 32, 45, 49, 10]
theorem exE_rd : rdV exE = ([(1, [[50], [51], [49]]), (2, [[49], [49], [50], [51], [49, 98, 45, 49]]), (3, [[50], [50], [52], [51], [45, 49]])], 0, 0) := by decide +kernel
abbrev feX : Fe := ⟨1, 3, 1, [⟨[0, 1, 2], [4602678819172646912]⟩, ⟨[1, 3, 2], [13830554455654793216]⟩]⟩
theorem rf_m1 {p : Pm} (hp : p.Ok) : p.rf [45, 49] = (13830554455654793216, 0) := rf_of hp (n := -1) (e := 0) (by decide +kernel) (by unfold Fin64 frung; decide) (by decide) (by decide +kernel) (by decide)
theorem tx_m1 {p : Pm} (hp : p.Ok) : p.tx 13830554455654793216 = [45, 49] := by
 rw [(hp.tx 13830554455654793216 (by decide)).whole (by unfold Fin64 frung; decide) (k := -1) (by decide +kernel) (by decide) (by decide), it_m1]
theorem exE_go {p : Pm} (hp : p.Ok) : goE p 1 3 1 0 [(2, [[49], [49], [50], [51], [49, 98, 45, 49]]), (3, [[50], [50], [52], [51], [45, 49]])] = .inr feX.l := by
 have i1 : intsE (([[49], [49], [50], [51], [49, 98, 45, 49]] : List Bs).take (1 + 3)) = some [1, 1, 2, 3] := by decide +kernel
 have i2 : intsE (([[50], [50], [52], [51], [45, 49]] : List Bs).take (1 + 3)) = some [2, 2, 4, 3] := by decide +kernel
 have n1 : rwE p 1 3 1 0 [[49], [49], [50], [51], [49, 98, 45, 49]] = 0 := by
   rw [rwE_is i1 (by rfl) (by rfl)]
   simp [corE, fst0, rf_1bm1 hp]
 have n2 : rwE p 1 3 1 1 [[50], [50], [52], [51], [45, 49]] = 0 := by
   rw [rwE_is i2 (by rfl) (by rfl)]
   simp [corE, fst0, rf_m1 hp]
 have v1 : rwV p 1 3 [[49], [49], [50], [51], [49, 98, 45, 49]] = ⟨[0, 1, 2], [4602678819172646912]⟩ := by
   unfold rwV
   rw [i1]
   simp [rf_1bm1 hp]
 have v2 : rwV p 1 3 [[50], [50], [52], [51], [45, 49]] = ⟨[1, 3, 2], [13830554455654793216]⟩ := by
   unfold rwV
   rw [i2]
   simp [rf_m1 hp]
 simp only [goE, n1, n2, v1, v2, if_true, Nat.zero_add]
theorem exE_re {p : Pm} (hp : p.Ok) : reV p exE = (feX, 0, 0) := by
 have h1 : heE [[50], [51], [49]] = 0 := by decide +kernel
 have h2 : heP [[50], [51], [49]] = some (2, 3, 1) := by decide +kernel
 have h0 : (rdV exE).2.2 = 0 := by rw [exE_rd]
 have h3 : (rdV exE).1 = (1, [[50], [51], [49]]) :: [(2, [[49], [49], [50], [51], [49, 98, 45, 49]]), (3, [[50], [50], [52], [51], [45, 49]])] := by rw [exE_rd]
 unfold reV
 rw [if_pos h0, h3]
 simp only []
 rw [if_pos h1, h2]
 simp only []
 unfold flV
 have e1 : fst1 [(2, [[49], [49], [50], [51], [49, 98, 45, 49]]), (3, [[50], [50], [52], [51], [45, 49]])] = 1 := by decide +kernel
 rw [e1, List.take_of_length_le (by simp), exE_go hp]
 rfl
theorem exE_fe {p : Pm} (hp : p.Ok) : feW p feX = [[[50], [51], [49]], [[49], [49], [50], [51], [49, 98, 45, 49]], [[50], [50], [52], [51], [45, 49]]] := by
 simp [feW, rwsW, rwW, it_1, it_2, it_3, it_4, tx_half hp, tx_m1 hp]
theorem exE_wr {p : Pm} (hp : p.Ok) : wrE p feX = (exE, 0) := by
 have hw : mayE feX = true := by decide +kernel
 unfold wrE
 rw [if_pos hw, exE_fe hp]
 decide +kernel
end Go.Proofs.YtgoadpnoagaflaaGreatDoor
