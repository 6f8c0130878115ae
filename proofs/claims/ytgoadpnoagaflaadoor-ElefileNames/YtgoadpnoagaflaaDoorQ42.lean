/- Own texts, put together: Efx. -/
import Derived.Test.YtgoadpnoagaflaaDoorQ38
import Derived.Test.YtgoadpnoagaflaaDoorQ40
/- ElefileNames: its tables, and what package elefile tells of them; the first example. (gen_efx.py) -/
namespace Go.Proofs.YtgoadpnoagaflaaDoor
set_option maxRecDepth 100000
open Go.RowKit Go.Shelf Go.Lib
abbrev exE : Bs := [50, 32, 51, 32, 49, 10, 49, 32, 49, 32, 50, 32, 51, 32, 49, 98, 45, 49, 10, 50, 32, 50, 32, 52, 32, 51, 32, 45, 49, 10]
theorem exE_rd : rdV exE = ([(1, [[50], [51], [49]]), (2, [[49], [49], [50], [51], [49, 98, 45, 49]]), (3, [[50], [50], [52], [51], [45, 49]])], 0, 0) := by decide +kernel
abbrev feX : Fe := ⟨1, 3, 1, [⟨[0, 1, 2], [4602678819172646912]⟩, ⟨[1, 3, 2], [13830554455654793216]⟩]⟩
theorem rf_m1 {p : Pm} (hp : p.Ok) : p.rf [45, 49] = (13830554455654793216, 0) := rf_of hp (n := -1) (e := 0) (by decide +kernel) (by unfold Fin64 frung; decide) (by decide) (by decide +kernel) (by decide)
theorem tx_m1 {p : Pm} (hp : p.Ok) : p.tx 13830554455654793216 = [45, 49] := by
 rw [(hp.tx 13830554455654793216 (by decide)).whole (by unfold Fin64 frung; decide) (k := -1) (by decide +kernel) (by decide) (by decide), it_m1]
theorem exE_go {p : Pm} (hp : p.Ok) : goE p 1 3 1 0 [(2, [[49], [49], [50], [51], [49, 98, 45, 49]]), (3, [[50], [50], [52], [51], [45, 49]])] = .inr feX.l := by
 have i1 : intsE (([[49], [49], [50], [51], [49, 98, 45, 49]] : List Bs).take (1 + 3)) = some [1, 1, 2, 3] := by decide +kernel
 have i2 : intsE (([[50], [50], [52], [51], [45, 49]] : List Bs).take (1 + 3)) = some [2, 2, 4, 3] := by decide +kernel
 have n1 : rwE p 1 3 1 0 [[49], [49], [50], [51], [49, 98, 45, 49]] = 0 := by
   rw [rwE_is i1 (by rfl) (by rfl)]
   simp [corE, fst0, rf_1bm1 hp]
 have n2 : rwE p 1 3 1 1 [[50], [50], [52], [51], [45, 49]] = 0 := by
   rw [rwE_is i2 (by rfl) (by rfl)]
   simp [corE, fst0, rf_m1 hp]
 have v1 : rwV p 1 3 [[49], [49], [50], [51], [49, 98, 45, 49]] = ⟨[0, 1, 2], [4602678819172646912]⟩ := by
   unfold rwV
   rw [i1]
   simp [rf_1bm1 hp]
 have v2 : rwV p 1 3 [[50], [50], [52], [51], [45, 49]] = ⟨[1, 3, 2], [13830554455654793216]⟩ := by
   unfold rwV
   rw [i2]
   simp [rf_m1 hp]
 simp only [goE, n1, n2, v1, v2, if_true, Nat.zero_add]
theorem exE_re {p : Pm} (hp : p.Ok) : reV p exE = (feX, 0, 0) := by
 have h1 : heE [[50], [51], [49]] = 0 := by decide +kernel
 have h2 : heP [[50], [51], [49]] = some (2, 3, 1) := by decide +kernel
 have h0 : (rdV exE).2.2 = 0 := by rw [exE_rd]
 have h3 : (rdV exE).1 = (1, [[50], [51], [49]]) :: [(2, [[49], [49], [50], [51], [49, 98, 45, 49]]), (3, [[50], [50], [52], [51], [45, 49]])] := by rw [exE_rd]
 unfold reV
 rw [if_pos h0, h3]
 simp only []
 rw [if_pos h1, h2]
 simp only []
 unfold flV
 have e1 : fst1 [(2, [[49], [49], [50], [51], [49, 98, 45, 49]]), (3, [[50], [50], [52], [51], [45, 49]])] = 1 := by decide +kernel
 rw [e1, List.take_of_length_le (by simp), exE_go hp]
 rfl
theorem exE_fe {p : Pm} (hp : p.Ok) : feW p feX = [[[50], [51], [49]], [[49], [49], [50], [51], [49, 98, 45, 49]], [[50], [50], [52], [51], [45, 49]]] := by
 simp [feW, rwsW, rwW, it_1, it_2, it_3, it_4, tx_half hp, tx_m1 hp]
theorem exE_wr {p : Pm} (hp : p.Ok) : wrE p feX = (exE, 0) := by
 have hw : mayE feX = true := by decide +kernel
 unfold wrE
 rw [if_pos hw, exE_fe hp]
 decide +kernel
theorem flV_bad {p : Pm} {n c k : Nat} {L : List (Nat × List Bs)} (h : (flV p n c k L).2.2 ≠ 0) : (flV p n c k L).1 = fe0 := by
 unfold flV at h ⊢
 split
 · rfl
 · rename_i rs hg
   rw [hg] at h
   simp only [] at h ⊢
   split
   · rfl
   · rename_i h1
     rw [if_neg h1] at h
     split
     · rfl
     · rename_i h2
       rw [if_neg h2] at h
       exact absurd rfl h
theorem reV_bad {p : Pm} {t : Bs} (h : (reV p t).2.2 ≠ 0) : (reV p t).1 = fe0 := by
 unfold reV at h ⊢
 by_cases h0 : (rdV t).2.2 = 0
 · rw [if_pos h0] at h ⊢
   cases hl : (rdV t).1 with
   | nil => rfl
   | cons q r =>
     obtain ⟨no, ws⟩ := q
     rw [hl] at h
     simp only [] at h ⊢
     by_cases h1 : heE ws = 0
     · rw [if_pos h1] at h ⊢
       cases hp : heP ws with
       | none => rfl
       | some q =>
         obtain ⟨n, c, k⟩ := q
         rw [hp] at h
         exact flV_bad h
     · rw [if_neg h1]
 · rw [if_neg h0]
def sE : Nat → Bs
 | 0 => []
 | 1 => [49, 32, 51, 32, 48, 10]
 | 2 => [49, 32, 52, 32, 48, 10]
 | 3 => [49, 32, 51, 32, 48, 32, 48, 10]
 | 4 => [45, 49, 32, 51, 32, 48, 10]
 | 5 => [49, 32, 51, 32, 48, 10, 50, 32, 49, 32, 50, 32, 51, 10]
 | 6 => [49, 32, 51, 32, 48, 10, 49, 32, 49, 32, 50, 10]
 | 7 => [49, 32, 51, 32, 48, 10, 49, 32, 48, 32, 49, 32, 50, 10]
 | 8 => [48, 32, 51, 32, 49, 55, 10]
 | 9 => [48, 32, 51, 32, 49, 54, 10]
 | 10 => [49, 48, 52, 56, 53, 55, 55, 32, 51, 32, 48, 10]
 | 11 => [48, 32, 51, 32, 48, 10, 10, 49, 10]
 | 12 => [49, 32, 51, 32, 48, 10, 48, 32, 48, 32, 49, 32, 49, 48, 52, 56, 53, 55, 53, 10]
 | 13 => [49, 32, 51, 32, 48, 10, 48, 32, 48, 32, 49, 32, 49, 48, 52, 56, 53, 55, 54, 10]
 | 14 => [49, 32, 51, 32, 49, 10, 48, 32, 48, 32, 49, 32, 50, 32, 120, 10]
 | 15 => [49, 32, 51, 32, 49, 10, 48, 32, 48, 32, 49, 32, 50, 32, 49, 98, 57, 57, 57, 57, 10]
 | 16 => [49, 32, 51, 32, 48, 10, 48, 32, 48, 32, 49, 32, 48, 49, 10]
 | 17 => [48, 32, 51, 32, 48, 10, 1, 10]
 | 18 => [50, 32, 51, 32, 48, 10, 48, 32, 48, 32, 49, 32, 50, 10, 48, 32, 48, 32, 49, 32, 50, 10]
 | 19 => [50, 32, 51, 32, 48, 10, 48, 32, 48, 32, 49, 32, 50, 10, 50, 32, 48, 32, 49, 32, 50, 10]
 | _ => []
def aE : Nat → Nat
 | 0 => 0
 | 1 => 0
 | 2 => 1
 | 3 => 1
 | 4 => 1
 | 5 => 2
 | 6 => 2
 | 7 => 2
 | 8 => 1
 | 9 => 0
 | 10 => 1
 | 11 => 3
 | 12 => 0
 | 13 => 2
 | 14 => 2
 | 15 => 2
 | 16 => 2
 | 17 => 2
 | 18 => 3
 | 19 => 3
 | _ => 0
def eE : Nat → Int
 | 0 => 4
 | 1 => 4
 | 2 => 4
 | 3 => 4
 | 4 => 4
 | 5 => 4
 | 6 => 4
 | 7 => 11
 | 8 => 3
 | 9 => 0
 | 10 => 3
 | 11 => 4
 | 12 => 0
 | 13 => 11
 | 14 => 4
 | 15 => 10
 | 16 => 4
 | 17 => 4
 | 18 => 4
 | 19 => 4
 | _ => 0
def fE : Nat → Fe
 | 0 => ⟨2, 3, 0, []⟩
 | 1 => ⟨-1, 3, 0, []⟩
 | 2 => ⟨0, 4, 0, []⟩
 | 3 => ⟨0, 3, 17, []⟩
 | 4 => ⟨0, 3, -1, []⟩
 | 5 => ⟨0, 3, 0, [⟨[0, 1], []⟩]⟩
 | 6 => ⟨0, 3, 0, [⟨[0, 1, 1048576], []⟩]⟩
 | 7 => ⟨0, 3, 0, [⟨[0, -1, 2], []⟩]⟩
 | 8 => ⟨0, 3, 1, [⟨[0, 1, 2], []⟩]⟩
 | 9 => ⟨0, 3, 1, [⟨[0, 1, 2], [9218868437227405312]⟩]⟩
 | _ => fe0
theorem rf_xE {p : Pm} (hp : p.Ok) : p.rf [120] = (0, 4) := rf_form hp (by decide +kernel)
theorem rf_9999 {p : Pm} (hp : p.Ok) : p.rf [49, 98, 57, 57, 57, 57] = (0, 10) := by
 have := FloatR.no (hp.rf [49, 98, 57, 57, 57, 57]) (n := 1) (e := 9999) (by decide +kernel) (no_high (by decide) (by decide))
 exact Prod.ext this.1 this.2
theorem rE0 {p : Pm} (_ : p.Ok) : (reV p (sE 0)).2 = (aE 0, eE 0) := by kernel_rfl
theorem rE1 {p : Pm} (_ : p.Ok) : (reV p (sE 1)).2 = (aE 1, eE 1) := by kernel_rfl
theorem rE2 {p : Pm} (_ : p.Ok) : (reV p (sE 2)).2 = (aE 2, eE 2) := by kernel_rfl
theorem rE3 {p : Pm} (_ : p.Ok) : (reV p (sE 3)).2 = (aE 3, eE 3) := by kernel_rfl
theorem rE4 {p : Pm} (_ : p.Ok) : (reV p (sE 4)).2 = (aE 4, eE 4) := by kernel_rfl
theorem rE5 {p : Pm} (_ : p.Ok) : (reV p (sE 5)).2 = (aE 5, eE 5) := by kernel_rfl
theorem rE6 {p : Pm} (_ : p.Ok) : (reV p (sE 6)).2 = (aE 6, eE 6) := by kernel_rfl
theorem rE7 {p : Pm} (_ : p.Ok) : (reV p (sE 7)).2 = (aE 7, eE 7) := by kernel_rfl
theorem rE8 {p : Pm} (_ : p.Ok) : (reV p (sE 8)).2 = (aE 8, eE 8) := by kernel_rfl
theorem rE9 {p : Pm} (_ : p.Ok) : (reV p (sE 9)).2 = (aE 9, eE 9) := by kernel_rfl
theorem rE10 {p : Pm} (_ : p.Ok) : (reV p (sE 10)).2 = (aE 10, eE 10) := by kernel_rfl
theorem rE11 {p : Pm} (_ : p.Ok) : (reV p (sE 11)).2 = (aE 11, eE 11) := by kernel_rfl
theorem rE12 {p : Pm} (_ : p.Ok) : (reV p (sE 12)).2 = (aE 12, eE 12) := by kernel_rfl
theorem rE13 {p : Pm} (_ : p.Ok) : (reV p (sE 13)).2 = (aE 13, eE 13) := by kernel_rfl
theorem rE14 {p : Pm} (hp : p.Ok) : (reV p (sE 14)).2 = (aE 14, eE 14) := by
 have h9 : rdV (sE 14) = ([(1, [[49], [51], [49]]), (2, [[48], [48], [49], [50], [120]])], 0, 0) := by decide +kernel
 have h1 : heE [[49], [51], [49]] = 0 := by decide +kernel
 have h2 : heP [[49], [51], [49]] = some (1, 3, 1) := by decide +kernel
 have h0 : (rdV (sE 14)).2.2 = 0 := by rw [h9]
 have h3 : (rdV (sE 14)).1 = (1, [[49], [51], [49]]) :: [(2, [[48], [48], [49], [50], [120]])] := by rw [h9]
 have i1 : intsE (([[48], [48], [49], [50], [120]] : List Bs).take (1 + 3)) = some [0, 0, 1, 2] := by decide +kernel
 have e1 : fst1 [(2, [[48], [48], [49], [50], [120]])] = 0 := by decide +kernel
 have n1 : rwE p 0 3 1 0 [[48], [48], [49], [50], [120]] = 4 := by
   rw [rwE_is i1 (by rfl) (by rfl)]
   simp [corE, fst0, rf_xE hp]
 unfold reV
 rw [if_pos h0, h3]
 simp only []
 rw [if_pos h1, h2]
 simp only []
 unfold flV
 rw [e1, List.take_of_length_le (by simp)]
 simp only [goE, n1]
 rfl
theorem rE15 {p : Pm} (hp : p.Ok) : (reV p (sE 15)).2 = (aE 15, eE 15) := by
 have h9 : rdV (sE 15) = ([(1, [[49], [51], [49]]), (2, [[48], [48], [49], [50], [49, 98, 57, 57, 57, 57]])], 0, 0) := by decide +kernel
 have h1 : heE [[49], [51], [49]] = 0 := by decide +kernel
 have h2 : heP [[49], [51], [49]] = some (1, 3, 1) := by decide +kernel
 have h0 : (rdV (sE 15)).2.2 = 0 := by rw [h9]
 have h3 : (rdV (sE 15)).1 = (1, [[49], [51], [49]]) :: [(2, [[48], [48], [49], [50], [49, 98, 57, 57, 57, 57]])] := by rw [h9]
 have i1 : intsE (([[48], [48], [49], [50], [49, 98, 57, 57, 57, 57]] : List Bs).take (1 + 3)) = some [0, 0, 1, 2] := by decide +kernel
 have e1 : fst1 [(2, [[48], [48], [49], [50], [49, 98, 57, 57, 57, 57]])] = 0 := by decide +kernel
 have n1 : rwE p 0 3 1 0 [[48], [48], [49], [50], [49, 98, 57, 57, 57, 57]] = 10 := by
   rw [rwE_is i1 (by rfl) (by rfl)]
   simp [corE, fst0, rf_9999 hp]
 unfold reV
 rw [if_pos h0, h3]
 simp only []
 rw [if_pos h1, h2]
 simp only []
 unfold flV
 rw [e1, List.take_of_length_le (by simp)]
 simp only [goE, n1]
 rfl
theorem rE16 {p : Pm} (_ : p.Ok) : (reV p (sE 16)).2 = (aE 16, eE 16) := by kernel_rfl
theorem rE17 {p : Pm} (_ : p.Ok) : (reV p (sE 17)).2 = (aE 17, eE 17) := by kernel_rfl
theorem rE18 {p : Pm} (_ : p.Ok) : (reV p (sE 18)).2 = (aE 18, eE 18) := by kernel_rfl
theorem rE19 {p : Pm} (_ : p.Ok) : (reV p (sE 19)).2 = (aE 19, eE 19) := by kernel_rfl
theorem rE_all {p : Pm} (hp : p.Ok) : ∀ k, k < 20 → (reV p (sE k)).2 = (aE k, eE k) := by
 intro k hk
 have hc : k = 0 ∨ k = 1 ∨ k = 2 ∨ k = 3 ∨ k = 4 ∨ k = 5 ∨ k = 6 ∨ k = 7 ∨ k = 8 ∨ k = 9 ∨ k = 10 ∨ k = 11 ∨ k = 12 ∨ k = 13 ∨ k = 14 ∨ k = 15 ∨ k = 16 ∨ k = 17 ∨ k = 18 ∨ k = 19 := by omega
 rcases hc with rfl | rfl | rfl | rfl | rfl | rfl | rfl | rfl | rfl | rfl | rfl | rfl | rfl | rfl | rfl | rfl | rfl | rfl | rfl | rfl
 · exact rE0 hp
 · exact rE1 hp
 · exact rE2 hp
 · exact rE3 hp
 · exact rE4 hp
 · exact rE5 hp
 · exact rE6 hp
 · exact rE7 hp
 · exact rE8 hp
 · exact rE9 hp
 · exact rE10 hp
 · exact rE11 hp
 · exact rE12 hp
 · exact rE13 hp
 · exact rE14 hp
 · exact rE15 hp
 · exact rE16 hp
 · exact rE17 hp
 · exact rE18 hp
 · exact rE19 hp
theorem sE_len : ∀ k, k < 20 → (sE k).length ≤ 100 := by decide
theorem mE_no : ∀ k, k < 10 → mayE (fE k) = false := by decide +kernel
theorem wE_no (p : Pm) {k : Nat} (hk : k < 10) : wrE p (fE k) = ([], 1) := by
 unfold wrE
 rw [if_neg (by rw [mE_no k hk]; simp)]
theorem wE_six (p : Pm) : wrE p ⟨1, 6, 0, []⟩ = ([48, 32, 54, 32, 48, 10], 0) := by
 have hw : mayE ⟨1, 6, 0, []⟩ = true := by decide +kernel
 have i6 : itoa 6 = [54] := (itoa_rd (l := [54]) (n := 6) (by decide +kernel)).2
 have hf : feW p ⟨1, 6, 0, []⟩ = [[[48], [54], [48]]] := by simp [feW, rwsW, it_0, i6]
 unfold wrE
 rw [if_pos hw, hf]
 decide +kernel
end Go.Proofs.YtgoadpnoagaflaaDoor
