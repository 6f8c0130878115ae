/- Own texts, put together: Qr Rg Mk Sh. -/
import Derived.Test.YtcgbnjoajieggaaGreatProg
import Derived.WalkKit
import Derived.OwnWalk
import Derived.Deep.RegionHeld3
import Derived.Below
import Derived.Shelf.Small.Wraps
import Derived.Shelf.SlSortCmp.NoneTotal
import Derived.Shelf.Strconv.Itoa0
namespace Go.Proofs.YtcgbnjoajieggaaGreat
/- An append in a drawn region. -/
section
open Go.RowKit
end

/- A drawn region whose operations only make memory: each yields what a fact tells that stays. -/
section
open Go Go.RowKit
section
variable {P : Program} {ops : Array Oper} {Q : Exit → Act → World → Prop}
def fillL (base n : Nat) (p : Nat → Bool) (vs : Nat → Value) : Nat → List Value → List Value
 | _, [] => []
 | t, x :: r => (if base ≤ t ∧ t < base + n ∧ p (t - base) = true then vs (t - base) else x) :: fillL base n p vs (t + 1) r
theorem fillL_get (base n : Nat) (p : Nat → Bool) (vs : Nat → Value) : ∀ (l : List Value) (t k : Nat), (fillL base n p vs t l)[k]? = (l[k]?).map fun x => if base ≤ t + k ∧ t + k < base + n ∧ p (t + k - base) = true then vs (t + k - base) else x := by
 intro l
 induction l with
 | nil => intro t k; simp [fillL]
 | cons x r ih =>
   intro t k
   cases k with
   | zero => simp [fillL]
   | succ k =>
     simp only [fillL, List.getElem?_cons_succ]
     rw [ih, show t + 1 + k = t + (k + 1) by omega]
theorem fillL_len (base n : Nat) (p : Nat → Bool) (vs : Nat → Value) : ∀ (l : List Value) (t : Nat), (fillL base n p vs t l).length = l.length := by
 intro l
 induction l with
 | nil => intro t; rfl
 | cons x r ih => intro t; simp [fillL, ih]
def actF (a0 : Act) (base n : Nat) (p : Nat → Bool) (vs : Nat → Value) : Act := ⟨(fillL base n p vs 0 a0.tmps.toList).toArray, a0.defers⟩
theorem actF_get (a0 : Act) (base n : Nat) (p : Nat → Bool) (vs : Nat → Value) (t : Nat) : (actF a0 base n p vs).eval (.tmp t) = if base ≤ t ∧ t < base + n ∧ t < a0.tmps.size ∧ p (t - base) = true then vs (t - base) else a0.eval (.tmp t) := by
 show (fillL base n p vs 0 a0.tmps.toList).toArray.getD t undef = _
 rw [Array.getD_eq_getD_getElem?, List.getElem?_toArray, fillL_get, Nat.zero_add]
 show _ = if _ then _ else a0.tmps.getD t undef
 rw [Array.getD_eq_getD_getElem?, Array.getElem?_toList]
 by_cases ht : t < a0.tmps.size
 · rw [Array.getElem?_eq_getElem ht]
   by_cases h : base ≤ t ∧ t < base + n ∧ p (t - base) = true
   · rw [if_pos ⟨h.1, h.2.1, ht, h.2.2⟩]; simp [h]
   · rw [if_neg (fun e => h ⟨e.1, e.2.1, e.2.2.2⟩)]; simp [h]
 · rw [if_neg (fun e => ht e.2.2.1), Array.getElem?_eq_none (by omega)]; rfl
theorem actF_put (a0 : Act) (base n : Nat) (p : Nat → Bool) (vs : Nat → Value) (i : Nat) (v : Value) (hi : i < n) (hs : base + n ≤ a0.tmps.size) : (actF a0 base n p vs).put (some (base + i)) v = actF a0 base n (fun j => p j || j == i) (fun j => if j = i then v else vs j) := by
 unfold actF Act.put
 simp only [Act.mk.injEq, and_true]
 apply Array.ext'
 simp only [List.setIfInBounds_toArray]
 apply List.ext_getElem?
 intro k
 rw [List.getElem?_set, fillL_get, fillL_get, fillL_len, Array.length_toList, Nat.zero_add]
 by_cases hk : base + i = k
 · subst hk
   rw [if_pos rfl, if_pos (by omega), Array.getElem?_toList, Array.getElem?_eq_getElem (by omega)]
   simp [hi]
 · rw [if_neg hk]
   have : ¬ k - base = i ∨ ¬ base ≤ k := by omega
   congr 1
   funext x
   rcases this with h | h
   · have e : (k - base == i) = false := by simpa using h
     simp [h]
   · simp [h]
theorem fillL_all (base n : Nat) (p : Nat → Bool) (vs : Nat → Value) (hp : ∀ j, j < n → p j = true) : ∀ (l : List Value) (t : Nat), fillL base n p vs t l = fillL base n (fun _ => true) vs t l := by
 intro l
 induction l with
 | nil => intro t; rfl
 | cons x r ih =>
   intro t
   simp only [fillL]
   rw [ih]
   congr 1
   by_cases h : base ≤ t ∧ t < base + n
   · rw [if_pos ⟨h.1, h.2, hp _ (by omega)⟩, if_pos ⟨h.1, h.2, by first | rfl | trivial⟩]
   · rw [if_neg (fun e => h ⟨e.1, e.2.1⟩), if_neg (fun e => h ⟨e.1, e.2.1⟩)]
def cntD (listed : Array Bool) : Nat → Nat
 | 0 => 0
 | k + 1 => cntD listed k + (if listed.getD k false = true then 1 else 0)
theorem cntD_le (listed : Array Bool) : ∀ k, cntD listed k ≤ k := by
 intro k
 induction k with
 | zero => simp [cntD]
 | succ k ih => rw [cntD]; split <;> omega
theorem getD_set (listed : Array Bool) (i j : Nat) (hi : i < listed.size) : (listed.setIfInBounds i true).getD j false = (listed.getD j false || j == i) := by
 rw [Array.getD_eq_getD_getElem?, Array.getD_eq_getD_getElem?, Array.getElem?_setIfInBounds]
 by_cases h : i = j
 · subst h; simp [hi]
 · have : (j == i) = false := by simpa using fun e => h e.symm
   simp [h, this]
theorem cntD_set (listed : Array Bool) (i : Nat) (hi : i < listed.size) (hf : listed.getD i false = false) : ∀ k, cntD (listed.setIfInBounds i true) k = cntD listed k + (if i < k then 1 else 0) := by
 intro k
 induction k with
 | zero => simp [cntD]
 | succ k ih =>
   rw [cntD, cntD, ih, getD_set _ _ _ hi]
   by_cases h : k = i
   · subst h
     simp [hf]
   · have : (k == i) = false := by simpa using h
     rw [this, Bool.or_false]
     by_cases h2 : i < k
     · have h3 : i < k + 1 := by omega
       simp only [h2, h3, if_true]; omega
     · have h3 : ¬ i < k + 1 := by omega
       simp only [h2, h3, if_false]; omega
end
end

/- The library's contract for slices.SortFunc at pairs and at triples of numbers, laid at this program: tables of numbers, and facts of the program's own. (gen_mk.py) -/
section
open Go.Shelf Go.Proofs
def Tryz.sortPair_ren : Go.Shelf.Ren := ⟨fun | 6 => 88 | 15 => 85 | 14 => 116 | 28 => 113 | 29 => 114 | 20 => 153 | 21 => 154 | 22 => 155 | 23 => 156 | 24 => 157 | 25 => 158 | 26 => 159 | 27 => 160 | 46 => 181 | 47 => 141 | 48 => 142 | 49 => 182 | 50 => 183 | 57 => 195 | n => n, fun | 22 => 50 | 24 => 71 | 25 => 105 | 3 => 3 | 39 => 67 | 0 => 0 | 53 => 152 | 55 => 79 | 4 => 4 | 46 => 146 | 45 => 145 | 50 => 47 | 5 => 5 | 9 => 9 | 66 => 171 | 70 => 175 | 76 => 196 | 77 => 197 | n => n, fun | n => n⟩
theorem Tryz.sortPair : Go.Proofs.SlLaysF0.n6 Tryz.prog Tryz.sortPair_ren := {
 mixed := by kernel_rfl
 f6 := ⟨Tryz.f88.name, by decide, Tryz.func88.trans (congrArg some (by kernel_rfl))⟩
 f14 := ⟨Tryz.f116.name, by decide, Tryz.func116.trans (congrArg some (by kernel_rfl))⟩
 f15 := Tryz.func85.trans (congrArg some (by kernel_rfl))
 f20 := ⟨Tryz.f153.name, by decide, Tryz.func153.trans (congrArg some (by kernel_rfl))⟩
 f21 := ⟨Tryz.f154.name, by decide, Tryz.func154.trans (congrArg some (by kernel_rfl))⟩
 f22 := ⟨Tryz.f155.name, by decide, Tryz.func155.trans (congrArg some (by kernel_rfl))⟩
 f23 := ⟨Tryz.f156.name, by decide, Tryz.func156.trans (congrArg some (by kernel_rfl))⟩
 f24 := ⟨Tryz.f157.name, by decide, Tryz.func157.trans (congrArg some (by kernel_rfl))⟩
 f25 := ⟨Tryz.f158.name, by decide, Tryz.func158.trans (congrArg some (by kernel_rfl))⟩
 f26 := ⟨Tryz.f159.name, by decide, Tryz.func159.trans (congrArg some (by kernel_rfl))⟩
 f27 := ⟨Tryz.f160.name, by decide, Tryz.func160.trans (congrArg some (by kernel_rfl))⟩
 f28 := Tryz.func113.trans (congrArg some (by kernel_rfl))
 f29 := Tryz.func114.trans (congrArg some (by kernel_rfl))
 f46 := ⟨Tryz.f181.name, by decide, Tryz.func181.trans (congrArg some (by kernel_rfl))⟩
 f47 := Tryz.func141.trans (congrArg some (by kernel_rfl))
 f48 := Tryz.func142.trans (congrArg some (by kernel_rfl))
 f49 := ⟨Tryz.f182.name, by decide, Tryz.func182.trans (congrArg some (by kernel_rfl))⟩
 f50 := ⟨Tryz.f183.name, by decide, Tryz.func183.trans (congrArg some (by kernel_rfl))⟩
 f57 := ⟨Tryz.f195.name, by decide, Tryz.func195.trans (congrArg some (by kernel_rfl))⟩
 t0 := Tryz.underlying0
 a0 := Tryz.isAgg0
 z0 := Tryz.sizeOf0
 v0 := Tryz.zeroValue0
 t3 := Tryz.underlying3
 a3 := Tryz.isAgg3
 z3 := Tryz.sizeOf3
 v3 := Tryz.zeroValue3
 t4 := Tryz.underlying4
 a4 := Tryz.isAgg4
 z4 := Tryz.sizeOf4
 v4 := Tryz.zeroValue4
 t5 := Tryz.underlying5
 a5 := Tryz.isAgg5
 z5 := Tryz.sizeOf5
 v5 := Tryz.zeroValue5
 t9 := Tryz.underlying9
 a9 := Tryz.isAgg9
 z9 := Tryz.sizeOf9
 v9 := Tryz.zeroValue9
 t22 := Tryz.underlying50
 a22 := Tryz.isAgg50
 z22 := Tryz.sizeOf50
 v22 := Tryz.zeroValue50
 t25 := Tryz.underlying105
 a25 := Tryz.isAgg105
 z25 := Tryz.sizeOf105
 v25 := Tryz.zeroValue105
 t39 := Tryz.underlying67
 a39 := Tryz.isAgg67
 z39 := Tryz.sizeOf67
 v39 := Tryz.zeroValue67
 t45 := Tryz.underlying145
 a45 := Tryz.isAgg145
 z45 := Tryz.sizeOf145
 v45 := Tryz.zeroValue145
 t46 := Tryz.underlying146
 a46 := Tryz.isAgg146
 z46 := Tryz.sizeOf146
 v46 := Tryz.zeroValue146
 t50 := Tryz.underlying47
 a50 := Tryz.isAgg47
 z50 := Tryz.sizeOf47
 v50 := Tryz.zeroValue47
 t53 := Tryz.underlying152
 a53 := Tryz.isAgg152
 z53 := Tryz.sizeOf152
 v53 := Tryz.zeroValue152
 t55 := Tryz.underlying79
 a55 := Tryz.isAgg79
 z55 := Tryz.sizeOf79
 v55 := Tryz.zeroValue79
 t66 := Tryz.underlying171
 a66 := Tryz.isAgg171
 z66 := Tryz.sizeOf171
 v66 := Tryz.zeroValue171
 t70 := Tryz.underlying175
 a70 := Tryz.isAgg175
 z70 := Tryz.sizeOf175
 v70 := Tryz.zeroValue175
 t76 := Tryz.underlying196
 a76 := Tryz.isAgg196
 z76 := Tryz.sizeOf196
 v76 := Tryz.zeroValue196
 t77 := Tryz.underlying197
 a77 := Tryz.isAgg197
 z77 := Tryz.sizeOf197
 v77 := Tryz.zeroValue197 }
def Tryz.sortTri_ren : Go.Shelf.Ren := ⟨fun | 6 => 86 | 15 => 85 | 14 => 115 | 28 => 113 | 29 => 114 | 20 => 145 | 21 => 146 | 22 => 147 | 23 => 148 | 24 => 149 | 25 => 150 | 26 => 151 | 27 => 152 | 46 => 178 | 47 => 141 | 48 => 142 | 49 => 179 | 50 => 180 | 57 => 194 | n => n, fun | 22 => 31 | 24 => 30 | 25 => 121 | 3 => 3 | 39 => 67 | 0 => 0 | 53 => 152 | 55 => 79 | 4 => 4 | 46 => 146 | 45 => 145 | 50 => 47 | 5 => 5 | 9 => 9 | 66 => 171 | 70 => 175 | 76 => 196 | 77 => 197 | n => n, fun | n => n⟩
theorem Tryz.sortTri : Go.Proofs.SlLaysF0.n6 Tryz.prog Tryz.sortTri_ren := {
 mixed := by kernel_rfl
 f6 := ⟨Tryz.f86.name, by decide, Tryz.func86.trans (congrArg some (by kernel_rfl))⟩
 f14 := ⟨Tryz.f115.name, by decide, Tryz.func115.trans (congrArg some (by kernel_rfl))⟩
 f15 := Tryz.func85.trans (congrArg some (by kernel_rfl))
 f20 := ⟨Tryz.f145.name, by decide, Tryz.func145.trans (congrArg some (by kernel_rfl))⟩
 f21 := ⟨Tryz.f146.name, by decide, Tryz.func146.trans (congrArg some (by kernel_rfl))⟩
 f22 := ⟨Tryz.f147.name, by decide, Tryz.func147.trans (congrArg some (by kernel_rfl))⟩
 f23 := ⟨Tryz.f148.name, by decide, Tryz.func148.trans (congrArg some (by kernel_rfl))⟩
 f24 := ⟨Tryz.f149.name, by decide, Tryz.func149.trans (congrArg some (by kernel_rfl))⟩
 f25 := ⟨Tryz.f150.name, by decide, Tryz.func150.trans (congrArg some (by kernel_rfl))⟩
 f26 := ⟨Tryz.f151.name, by decide, Tryz.func151.trans (congrArg some (by kernel_rfl))⟩
 f27 := ⟨Tryz.f152.name, by decide, Tryz.func152.trans (congrArg some (by kernel_rfl))⟩
 f28 := Tryz.func113.trans (congrArg some (by kernel_rfl))
 f29 := Tryz.func114.trans (congrArg some (by kernel_rfl))
 f46 := ⟨Tryz.f178.name, by decide, Tryz.func178.trans (congrArg some (by kernel_rfl))⟩
 f47 := Tryz.func141.trans (congrArg some (by kernel_rfl))
 f48 := Tryz.func142.trans (congrArg some (by kernel_rfl))
 f49 := ⟨Tryz.f179.name, by decide, Tryz.func179.trans (congrArg some (by kernel_rfl))⟩
 f50 := ⟨Tryz.f180.name, by decide, Tryz.func180.trans (congrArg some (by kernel_rfl))⟩
 f57 := ⟨Tryz.f194.name, by decide, Tryz.func194.trans (congrArg some (by kernel_rfl))⟩
 t0 := Tryz.underlying0
 a0 := Tryz.isAgg0
 z0 := Tryz.sizeOf0
 v0 := Tryz.zeroValue0
 t3 := Tryz.underlying3
 a3 := Tryz.isAgg3
 z3 := Tryz.sizeOf3
 v3 := Tryz.zeroValue3
 t4 := Tryz.underlying4
 a4 := Tryz.isAgg4
 z4 := Tryz.sizeOf4
 v4 := Tryz.zeroValue4
 t5 := Tryz.underlying5
 a5 := Tryz.isAgg5
 z5 := Tryz.sizeOf5
 v5 := Tryz.zeroValue5
 t9 := Tryz.underlying9
 a9 := Tryz.isAgg9
 z9 := Tryz.sizeOf9
 v9 := Tryz.zeroValue9
 t22 := Tryz.underlying31
 a22 := Tryz.isAgg31
 z22 := Tryz.sizeOf31
 v22 := Tryz.zeroValue31
 t25 := Tryz.underlying121
 a25 := Tryz.isAgg121
 z25 := Tryz.sizeOf121
 v25 := Tryz.zeroValue121
 t39 := Tryz.underlying67
 a39 := Tryz.isAgg67
 z39 := Tryz.sizeOf67
 v39 := Tryz.zeroValue67
 t45 := Tryz.underlying145
 a45 := Tryz.isAgg145
 z45 := Tryz.sizeOf145
 v45 := Tryz.zeroValue145
 t46 := Tryz.underlying146
 a46 := Tryz.isAgg146
 z46 := Tryz.sizeOf146
 v46 := Tryz.zeroValue146
 t50 := Tryz.underlying47
 a50 := Tryz.isAgg47
 z50 := Tryz.sizeOf47
 v50 := Tryz.zeroValue47
 t53 := Tryz.underlying152
 a53 := Tryz.isAgg152
 z53 := Tryz.sizeOf152
 v53 := Tryz.zeroValue152
 t55 := Tryz.underlying79
 a55 := Tryz.isAgg79
 z55 := Tryz.sizeOf79
 v55 := Tryz.zeroValue79
 t66 := Tryz.underlying171
 a66 := Tryz.isAgg171
 z66 := Tryz.sizeOf171
 v66 := Tryz.zeroValue171
 t70 := Tryz.underlying175
 a70 := Tryz.isAgg175
 z70 := Tryz.sizeOf175
 v70 := Tryz.zeroValue175
 t76 := Tryz.underlying196
 a76 := Tryz.isAgg196
 z76 := Tryz.sizeOf196
 v76 := Tryz.zeroValue196
 t77 := Tryz.underlying197
 a77 := Tryz.isAgg197
 z77 := Tryz.sizeOf197
 v77 := Tryz.zeroValue197 }
end

/- The library's contracts for cmp.Compare at int and math/bits.Len64, laid at this program: each is one application of a theorem of the guide's library. -/
section
open Go.Shelf Go.Proofs
open Go.RowKit in
def Tryz.lays122_ren : Go.Shelf.Ren := ⟨fun | 122 => 91 | 215 => 118 | n => n, fun | 3 => 3 | 4 => 4 | n => n, fun | n => n⟩
theorem Tryz.lays122 : Go.Proofs.Lays.n122 Tryz.prog Tryz.lays122_ren := {
 mixed := by kernel_rfl
 f122 := Tryz.func91.trans (congrArg some (by kernel_rfl))
 f215 := Tryz.func118.trans (congrArg some (by kernel_rfl))
 t3 := Tryz.underlying3
 a3 := Tryz.isAgg3
 z3 := Tryz.sizeOf3
 v3 := Tryz.zeroValue3
 t4 := Tryz.underlying4
 a4 := Tryz.isAgg4
 z4 := Tryz.sizeOf4
 v4 := Tryz.zeroValue4 }
open Go.RowKit in
theorem Tryz.cmp_Compare_int (x y : Int) (w : World) :
   Calls Tryz.prog 91 #[.int .i64 x, .int .i64 y] w fun e w' => e = .returned (.int .i64 (Lib.compareInt x y)) ∧ w' = w := Any.cmp_Compare_int Tryz.lays122 x y w
end
end Go.Proofs.YtcgbnjoajieggaaGreat
