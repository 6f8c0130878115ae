/- Own texts, put together: Ja Jz Sw Ba Bb Bc Bz Bd By Lk Ln Ql Qra Qr Qe Rg Rh Tk Elc. -/
import Derived.Lib.ItoaMem
import Derived.Lib.ItoaLen
import Derived.Lib.Strings
import Derived.Lib.Bytealg
import Derived.Shelf.Small.Wraps
import Derived.Shelf.LaysM
import Derived.Shelf.Strconv.Itoa3
import Derived.Test.YtgfloegaoofbbaaDoorProg
import Derived.WalkKit
import Derived.WalkSpells
import Derived.WalkLawsBesides
import Derived.OwnWalk
import Derived.Handy
import Derived.Lib.Hide
import Derived.Shelf.Abstract
import Derived.Shelf.RegionOpen
import Derived.Lib.Walk
import Derived.Laws.Strings3
import Derived.RegionTactic
import Derived.Shelf.Strconv.Clone
import Derived.Shelf.Strings.OnBuilder
import Derived.Shelf.Strings.BuilderK
import Derived.RangeFuncNested
import Derived.RangeFuncBound
import Derived.RangeFuncCalls
import Derived.RangeFuncLeaves
import Derived.RangeFuncBox
import Derived.RangeFuncWrites
import Derived.OwnWalkIn
import Derived.TacticsInMore
import Derived.LoopNIn
import Derived.LoopIn
import Derived.OrdersIn
import Derived.TacticsIn
import Derived.Deep.RegionHeld3
import Derived.Below
import Derived.Shelf.Spec.SlicesGrow
import Derived.Shelf.SlicesQ.IndexFunc
import Derived.LaidEql
import Derived.Stop.Asserts
import Derived.RowKitTokens
import Derived.KernelRfl
import Derived.Tactics
namespace Go.Proofs.YtgfloegaoofbbaaDoor
/- Plain: whole numbers in texts, as the program reads them. No model in this text. -/
section
open Go.Lib
def dv (c : UInt8) : Nat := (c.toNat + 208) % 256
theorem dv_le {c : UInt8} : dv c ≤ 9 ↔ 48 ≤ c.toNat ∧ c.toNat ≤ 57 := by
 have h : c.toNat < 256 := c.toNat_lt
 unfold dv; omega
theorem dv_digit {d : Nat} (h : d ≤ 9) : dv (UInt8.ofNat (48 + d)) = d := by
 have e : (UInt8.ofNat (48 + d)).toNat = 48 + d := by rw [UInt8.toNat_ofNat']; omega
 unfold dv; rw [e]; omega
theorem digit_dv {c : UInt8} (h : dv c ≤ 9) : UInt8.ofNat (48 + dv c) = c := by
 have h' := dv_le.1 h
 have hc : c.toNat < 256 := c.toNat_lt
 have e : dv c = c.toNat - 48 := by unfold dv; omega
 apply UInt8.toNat.inj
 rw [UInt8.toNat_ofNat', e]
 omega
def scan (m : Nat) : Nat → List UInt8 → Option Nat
 | a, [] => some a
 | a, c :: r => if dv c ≤ 9 ∧ a ≤ (m - dv c) / 10 then scan m (10 * a + dv c) r else none
theorem scan_append (m : Nat) (l r : List UInt8) : ∀ a, scan m a (l ++ r) = (scan m a l).bind (fun b => scan m b r) := by
 induction l with
 | nil => intro a; rfl
 | cons c l ih =>
   intro a
   rw [List.cons_append, scan, scan]
   split
   · exact ih _
   · rfl
theorem scan_one (m a : Nat) (c : UInt8) : scan m a [c] = if dv c ≤ 9 ∧ a ≤ (m - dv c) / 10 then some (10 * a + dv c) else none := by
 rw [scan]; rfl
theorem scan_dec {m : Nat} (hm : 9 ≤ m) : ∀ u, u ≤ m → scan m 0 (decDigits u) = some u := by
 intro u
 induction u using Nat.strongRecOn with
 | _ u ih =>
   intro hu
   by_cases h : u < 10
   · rw [decDigits, dif_pos h, scan_one, dv_digit (by omega), if_pos ⟨by omega, by omega⟩]
     congr 1; omega
   · rw [decDigits, dif_neg h, scan_append, ih (u / 10) (by omega) (by omega)]
     show scan m (u / 10) _ = _
     rw [scan_one, dv_digit (by omega), if_pos ⟨by omega, by omega⟩]
     congr 1; omega
theorem dec_ne (u : Nat) : decDigits u ≠ [] := by
 rw [decDigits]; split <;> simp
theorem dec_digits (u : Nat) : ∀ c ∈ decDigits u, dv c ≤ 9 := by
 induction u using Nat.strongRecOn with
 | _ u ih =>
   intro c hc
   by_cases h : u < 10
   · rw [decDigits, dif_pos h] at hc
     simp only [List.mem_singleton] at hc
     rw [hc, dv_digit (by omega)]; omega
   · rw [decDigits, dif_neg h] at hc
     rcases List.mem_append.1 hc with h1 | h1
     · exact ih (u / 10) (by omega) c h1
     · simp only [List.mem_singleton] at h1
       rw [h1, dv_digit (by omega)]; omega
theorem dec_head (u : Nat) (hu : u ≠ 0) : (decDigits u).head? ≠ some 48 := by
 induction u using Nat.strongRecOn with
 | _ u ih =>
   by_cases h : u < 10
   · rw [decDigits, dif_pos h]
     intro e
     have e' : UInt8.ofNat (48 + u) = 48 := by simpa using e
     have := congrArg UInt8.toNat e'
     rw [UInt8.toNat_ofNat'] at this
     have t : (48 : UInt8).toNat = 48 := rfl
     omega
   · rw [decDigits, dif_neg h]
     have h0 := dec_ne (u / 10)
     rw [List.head?_append]
     have h1 := ih (u / 10) (by omega) (by omega)
     cases hd : (decDigits (u / 10)).head? with
     | none => exact absurd (List.head?_eq_none_iff.1 hd) h0
     | some c => rw [hd] at h1; simpa using h1
theorem scan_back {m : Nat} (hm : 9 ≤ m) : ∀ (n : Nat) (ds : List UInt8), ds.length = n → ds ≠ [] → (ds.head? = some 48 → ds = [48]) → ∀ v, scan m 0 ds = some v → decDigits v = ds ∧ v ≤ m := by
 intro n
 induction n with
 | zero => intro ds hl h0; exact absurd (List.length_eq_zero_iff.1 hl) h0
 | succ n ih =>
   intro ds hl h0 hz v hv
   obtain ⟨l, c, rfl⟩ : ∃ l c, ds = l ++ [c] := ⟨ds.dropLast, ds.getLast h0, (List.dropLast_concat_getLast h0).symm⟩
   rw [scan_append] at hv
   cases hb : scan m 0 l with
   | none => rw [hb] at hv; cases hv
   | some b =>
     rw [hb] at hv
     have hv' : scan m b [c] = some v := hv
     rw [scan_one] at hv'
     split at hv'
     · rename_i hc
       have ev : 10 * b + dv c = v := by simpa using hv'
       by_cases hl0 : l = []
       · subst hl0
         have e0 : b = 0 := by have : some 0 = some b := hb; simpa using this.symm
         subst e0
         refine ⟨?_, by omega⟩
         rw [decDigits, dif_pos (by omega), ← ev, Nat.mul_zero, Nat.zero_add, digit_dv hc.1]
         rfl
       · have hl1 : l.length = n := by simpa using hl
         have hh : (l ++ [c]).head? = l.head? := by
           cases l with
           | nil => exact absurd rfl hl0
           | cons a r => rfl
         have hz' : l.head? ≠ some 48 := by
           intro e
           have := hz (by rw [hh]; exact e)
           have t := congrArg List.length this
           simp at t
           exact hl0 (by simpa using t)
         obtain ⟨hd, _⟩ := ih l hl1 hl0 (fun e => absurd e hz') b hb
         have hb0 : b ≠ 0 := by
           intro e
           subst e
           rw [decDigits, dif_pos (by omega)] at hd
           exact hz' (by rw [← hd]; rfl)
         refine ⟨?_, by omega⟩
         rw [decDigits, dif_neg (by omega), show v / 10 = b by omega, hd, show v % 10 = dv c by omega, digit_dv hc.1]
     · cases hv'
def far (neg : Bool) : Nat := if neg then 9223372036854775808 else 9223372036854775807
theorem far_ge (neg : Bool) : 9 ≤ far neg := by unfold far; split <;> omega
theorem far_le (neg : Bool) : far neg ≤ 9223372036854775808 := by unfold far; split <;> omega
def rdInt (l : List UInt8) : Option Int :=
 let neg := hasPrefix l [45]
 let ds := trimPrefix l [45]
 if ds = [] ∨ (ds.head? = some 48 ∧ l ≠ [48]) then none
 else (scan (far neg) 0 ds).map fun (v : Nat) => if neg then -(v : Int) else (v : Int)
def InR (n : Int) : Prop := -9223372036854775808 ≤ n ∧ n ≤ 9223372036854775807
theorem pre_cons (l : List UInt8) : hasPrefix (45 :: l) [45] = true ∧ trimPrefix (45 :: l) [45] = l := by
 constructor
 · simp [hasPrefix]
 · simp [trimPrefix, hasPrefix]
theorem pre_not {l : List UInt8} (h : l.head? ≠ some 45) : hasPrefix l [45] = false ∧ trimPrefix l [45] = l := by
 have e : hasPrefix l [45] = false := by
   cases l with
   | nil => rfl
   | cons a r =>
     have h' : ¬ a = 45 := fun e => h (by rw [e]; rfl)
     have hb : ((45 : UInt8) == a) = false := by rw [beq_eq_false_iff_ne]; exact fun e => h' (Eq.symm e)
     show ((45 : UInt8) == a && _) = false
     rw [hb]; rfl
 exact ⟨e, by simp [trimPrefix, e]⟩
theorem dec_head45 (u : Nat) : (decDigits u).head? ≠ some 45 := by
 intro e
 obtain ⟨c, hc⟩ : ∃ r, decDigits u = 45 :: r := by
   cases h : decDigits u with
   | nil => rw [h] at e; cases e
   | cons a r => rw [h] at e; simp at e; exact ⟨r, by rw [e]⟩
 have := dec_digits u 45 (by rw [hc]; simp)
 revert this; decide
theorem rd_itoa {n : Int} (h : InR n) : rdInt (itoa n) = some n := by
 obtain ⟨h1, h2⟩ := h
 by_cases hn : n < 0
 · obtain ⟨u, rfl⟩ : ∃ u : Nat, n = -(u : Int) := ⟨n.natAbs, by omega⟩
   rw [itoa_neg u (by omega)]
   unfold rdInt
   rw [(pre_cons _).1, (pre_cons _).2]
   simp only []
   rw [if_neg (by
     rintro (e | ⟨e, _⟩)
     · exact dec_ne u e
     · exact dec_head u (by omega) e), scan_dec (far_ge _) u (by unfold far; simp; omega)]
   rfl
 · obtain ⟨u, rfl⟩ : ∃ u : Nat, n = (u : Int) := ⟨n.toNat, by omega⟩
   rw [itoa_nonneg]
   unfold rdInt
   obtain ⟨e1, e2⟩ := pre_not (dec_head45 u)
   rw [e1, e2]
   simp only []
   rw [if_neg (by
     rintro (e | ⟨e, hne⟩)
     · exact dec_ne u e
     · by_cases h0 : u = 0
       · subst h0; exact hne (by rw [decDigits]; rfl)
       · exact dec_head u h0 e), scan_dec (far_ge _) u (by unfold far; simp; omega)]
   rfl
theorem itoa_rd {l : List UInt8} {n : Int} (h : rdInt l = some n) : InR n ∧ itoa n = l := by
 unfold rdInt at h
 simp only [] at h
 split at h
 · cases h
 rename_i hc
 cases hs : scan (far (hasPrefix l [45])) 0 (trimPrefix l [45]) with
 | none => rw [hs] at h; cases h
 | some v =>
   rw [hs] at h
   by_cases hp : l.head? = some 45
   · obtain ⟨r, rfl⟩ : ∃ r, l = 45 :: r := by
       cases l with
       | nil => cases hp
       | cons a r => simp at hp; exact ⟨r, by rw [hp]⟩
     rw [(pre_cons r).1, (pre_cons r).2] at *
     have hv : -(v : Int) = n := by simpa using h
     have h0 : r ≠ [] := fun e => hc (Or.inl e)
     have hz : r.head? = some 48 → r = [48] := fun e => absurd (Or.inr ⟨e, by simp⟩) hc
     have hz' : r.head? ≠ some 48 := fun e => hc (Or.inr ⟨e, by simp⟩)
     obtain ⟨hd, hm⟩ := scan_back (far_ge _) _ r rfl h0 hz v hs
     have hv0 : v ≠ 0 := by
       intro e; subst e
       rw [decDigits, dif_pos (by omega)] at hd
       exact hz' (by rw [← hd]; rfl)
     have hm' : v ≤ 9223372036854775808 := hm
     refine ⟨⟨by omega, by omega⟩, ?_⟩
     rw [← hv, itoa_neg v (by omega), hd]
   · obtain ⟨e1, e2⟩ := pre_not hp
     rw [e1, e2] at hs
     rw [e1] at h
     rw [e2] at hc
     have hv : (v : Int) = n := by simpa using h
     have h0 : l ≠ [] := fun e => hc (Or.inl e)
     have hz : l.head? = some 48 → l = [48] := fun e => Classical.byContradiction fun ne => hc (Or.inr ⟨e, ne⟩)
     obtain ⟨hd, hm⟩ := scan_back (far_ge _) _ l rfl h0 hz v hs
     have hm' : v ≤ 9223372036854775807 := hm
     refine ⟨⟨by omega, by omega⟩, ?_⟩
     rw [← hv, itoa_nonneg, hd]
theorem rd_iff {l : List UInt8} {n : Int} : rdInt l = some n ↔ InR n ∧ itoa n = l :=
 ⟨itoa_rd, fun ⟨h, e⟩ => by rw [← e]; exact rd_itoa h⟩
theorem itoa_no98 (n : Int) : ∀ c ∈ itoa n, c ≠ 98 := by
 intro c hc e
 subst e
 have key : ∀ u, (98 : UInt8) ∉ decDigits u := fun u h => by
   have := dec_digits u 98 h
   revert this; decide
 unfold itoa at hc
 split at hc
 · simp only [List.mem_cons] at hc
   rcases hc with h | h
   · revert h; decide
   · exact key _ h
 · exact key _ hc
def cutb : List UInt8 → Option (List UInt8 × List UInt8)
 | [] => none
 | c :: r => if c = 98 then some ([], r) else (cutb r).map fun p => (c :: p.1, p.2)
theorem cutb_none {l : List UInt8} (h : ∀ c ∈ l, c ≠ 98) : cutb l = none := by
 induction l with
 | nil => rfl
 | cons a r ih =>
   rw [cutb, if_neg (h a (by simp)), ih (fun c hc => h c (by simp [hc]))]
   rfl
theorem cutb_at {l r : List UInt8} (h : ∀ c ∈ l, c ≠ 98) : cutb (l ++ 98 :: r) = some (l, r) := by
 induction l with
 | nil => rw [List.nil_append, cutb, if_pos rfl]
 | cons a l ih =>
   rw [List.cons_append, cutb, if_neg (h a (by simp)), ih (fun c hc => h c (by simp [hc]))]
   rfl
theorem cutb_some {l h t : List UInt8} (e : cutb l = some (h, t)) : l = h ++ 98 :: t := by
 induction l generalizing h t with
 | nil => cases e
 | cons a l ih =>
   rw [cutb] at e
   split at e
   · rename_i ha
     simp at e
     obtain ⟨rfl, rfl⟩ := e
     rw [ha]; rfl
   · cases hc : cutb l with
     | none => rw [hc] at e; cases e
     | some p =>
       rw [hc] at e
       simp at e
       obtain ⟨rfl, rfl⟩ := e
       rw [ih hc]; rfl
theorem cutb_index : ∀ (l : List UInt8), (cutb l = none ∧ indexByte l 98 = -1) ∨ ∃ i : Nat, indexByte l 98 = (i : Int) ∧ i < l.length ∧ cutb l = some (l.take i, l.drop (i + 1)) := by
 intro l
 induction l with
 | nil => exact Or.inl ⟨rfl, rfl⟩
 | cons a r ih =>
   by_cases ha : a = 98
   · exact Or.inr ⟨0, by rw [indexByte, if_pos (by simp [ha])]; rfl, by simp, by rw [cutb, if_pos ha]; rfl⟩
   · have hb : ¬ ((a == 98) = true) := by simpa using ha
     rcases ih with ⟨e1, e2⟩ | ⟨i, e1, e2, e3⟩
     · exact Or.inl ⟨by rw [cutb, if_neg ha, e1]; rfl, by rw [indexByte, if_neg hb, if_pos (by rw [e2]; rfl)]⟩
     · refine Or.inr ⟨i + 1, ?_, by simp; omega, ?_⟩
       · rw [indexByte, if_neg hb, e1, if_neg (by rw [beq_iff_eq]; omega)]
         omega
       · rw [cutb, if_neg ha, e3]; rfl
def rdTell (l : List UInt8) : Option (Int × Int) :=
 match cutb l with
 | none => (rdInt l).map fun n => (n, 0)
 | some (h, t) => (rdInt h).bind fun n => (rdInt t).map fun e => (n, e)
theorem tell_whole {n : Int} (h : InR n) : rdTell (itoa n) = some (n, 0) := by
 unfold rdTell
 rw [cutb_none (itoa_no98 n), rd_itoa h]; rfl
theorem tell_both {n e : Int} (h : InR n) (he : InR e) : rdTell (itoa n ++ 98 :: itoa e) = some (n, e) := by
 unfold rdTell
 rw [cutb_at (itoa_no98 n)]
 show ((rdInt (itoa n)).bind fun n => (rdInt (itoa e)).map fun e => (n, e)) = _
 rw [rd_itoa h, rd_itoa he]; rfl
theorem tell_cases {l : List UInt8} {n e : Int} (h : rdTell l = some (n, e)) : InR n ∧ InR e ∧ ((l = itoa n ∧ e = 0) ∨ l = itoa n ++ 98 :: itoa e) := by
 unfold rdTell at h
 cases hc : cutb l with
 | none =>
   rw [hc] at h
   cases hr : rdInt l with
   | none => rw [hr] at h; cases h
   | some m =>
     rw [hr] at h
     simp at h
     obtain ⟨rfl, rfl⟩ := h
     obtain ⟨h1, h2⟩ := itoa_rd hr
     exact ⟨h1, ⟨by omega, by omega⟩, Or.inl ⟨h2.symm, rfl⟩⟩
 | some p =>
   obtain ⟨a, b⟩ := p
   rw [hc] at h
   cases ha : rdInt a with
   | none => simp [ha] at h
   | some m =>
     cases hb : rdInt b with
     | none => simp [ha, hb] at h
     | some k =>
       simp [ha, hb] at h
       obtain ⟨rfl, rfl⟩ := h
       obtain ⟨h1, h2⟩ := itoa_rd ha
       obtain ⟨h3, h4⟩ := itoa_rd hb
       exact ⟨h1, h3, Or.inr (by rw [cutb_some hc, h2, h4])⟩
theorem tell_length {l : List UInt8} {p : Int × Int} (h : rdTell l = some p) : l.length ≤ 43 := by
 obtain ⟨n, e⟩ := p
 obtain ⟨h1, h2, h3⟩ := tell_cases h
 have a := itoa_length_le n h1.1 h1.2
 have b := itoa_length_le e h2.1 h2.2
 rcases h3 with ⟨rfl, _⟩ | rfl
 · omega
 · simp; omega
end

/- The library's contracts for strconv.Itoa and strings.CutPrefix, laid at this program: tables of numbers, and facts of the program's own; each contract is one application of a theorem of the guide's library. -/
section
open Go.Shelf Go.Proofs
def Tryd.lays103_ren : Go.Shelf.Ren := ⟨fun | 103 => 54 | 210 => 64 | 206 => 69 | n => n, fun | 9 => 9 | 4 => 4 | 24 => 97 | 3 => 3 | n => n, fun | n => n⟩
theorem Tryd.lays103 : Go.Proofs.Lays.n103 Tryd.prog Tryd.lays103_ren := {
 mixed := by kernel_rfl
 f103 := Tryd.func54.trans (congrArg some (by kernel_rfl))
 f206 := Tryd.func69.trans (congrArg some (by kernel_rfl))
 f210 := Tryd.func64.trans (congrArg some (by kernel_rfl))
 t3 := Tryd.underlying3
 a3 := Tryd.isAgg3
 z3 := Tryd.sizeOf3
 v3 := Tryd.zeroValue3
 t4 := Tryd.underlying4
 a4 := Tryd.isAgg4
 z4 := Tryd.sizeOf4
 v4 := Tryd.zeroValue4
 t9 := Tryd.underlying9
 a9 := Tryd.isAgg9
 z9 := Tryd.sizeOf9
 v9 := Tryd.zeroValue9
 t24 := Tryd.underlying97
 a24 := Tryd.isAgg97
 z24 := Tryd.sizeOf97
 v24 := Tryd.zeroValue97 }
open Go.RowKit in
theorem Tryd.strings_CutPrefix (s p : ByteArray) (w : World) :
   Calls Tryd.prog 54 #[.string s, .string p] w fun e w' => e = .returned (.tuple #[.string ⟨(Lib.trimPrefix s.data.toList p.data.toList).toArray⟩, .bool (Lib.hasPrefix s.data.toList p.data.toList)]) ∧ w' = w := Any.strings_CutPrefix Tryd.lays103 s p w
end

/- A list of bytes as a text. -/
section
open Go.RowKit
abbrev sv (l : List UInt8) : Value := .string ⟨l.toArray⟩
end

/- Package lines: lines, words, remarks of a list of bytes: plain facts. -/
section
open Go.Lib
abbrev Bs := List UInt8
def spl (p : UInt8 → Bool) : Bs → List Bs
 | [] => [[]]
 | c :: r => if p c then [] :: spl p r else
     match spl p r with
     | [] => [[c]]
     | h :: t => (c :: h) :: t
theorem spl_ne (p : UInt8 → Bool) (l : Bs) : spl p l ≠ [] := by
 cases l with
 | nil => simp [spl]
 | cons c r =>
   rw [spl]
   split
   · simp
   · split <;> simp
theorem spl_none {p : UInt8 → Bool} {l : Bs} (h : ∀ c ∈ l, p c = false) : spl p l = [l] := by
 induction l with
 | nil => rfl
 | cons c r ih =>
   rw [spl, if_neg (by rw [h c (by simp)]; simp), ih (fun x hx => h x (by simp [hx]))]
theorem spl_app {p : UInt8 → Bool} {a r : Bs} {c : UInt8} (h : ∀ x ∈ a, p x = false) (hc : p c = true) : spl p (a ++ c :: r) = a :: spl p r := by
 induction a with
 | nil => rw [List.nil_append, spl, if_pos hc]
 | cons x a ih =>
   rw [List.cons_append, spl, if_neg (by rw [h x (by simp)]; simp), ih (fun y hy => h y (by simp [hy]))]
def cutT (c : UInt8) (l : Bs) : Bs := l.takeWhile (fun x => x != c)
def cutD (c : UInt8) (l : Bs) : Bs := (l.dropWhile (fun x => x != c)).tail
def cutF (c : UInt8) (l : Bs) : Bool := decide (c ∈ l)
theorem cut_index (c : UInt8) : ∀ (l : Bs), (c ∉ l ∧ cutT c l = l ∧ cutD c l = [] ∧ indexByte l c = -1) ∨ ∃ i : Nat, indexByte l c = (i : Int) ∧ i < l.length ∧ cutT c l = l.take i ∧ cutD c l = l.drop (i + 1) ∧ c ∈ l := by
 intro l
 induction l with
 | nil => exact Or.inl ⟨by simp, rfl, rfl, rfl⟩
 | cons a r ih =>
   by_cases ha : a = c
   · subst ha
     exact Or.inr ⟨0, by rw [indexByte, if_pos (by simp)]; rfl, by simp, by simp [cutT], by simp [cutD], by simp⟩
   · have hb : ¬ ((a == c) = true) := by simpa using ha
     have hb2 : (a != c) = true := by simpa using ha
     rcases ih with ⟨e1, e2, e3, e4⟩ | ⟨i, e1, e2, e3, e4, e5⟩
     · refine Or.inl ⟨by simp [e1]; exact fun e => ha e.symm, ?_, ?_, ?_⟩
       · unfold cutT at e2 ⊢; rw [List.takeWhile_cons_of_pos (p := fun x => x != c) hb2, e2]
       · unfold cutD at e3 ⊢; rw [List.dropWhile_cons_of_pos (p := fun x => x != c) hb2, e3]
       · rw [indexByte, if_neg hb, if_pos (by rw [e4]; rfl)]
     · refine Or.inr ⟨i + 1, ?_, by simp; omega, ?_, ?_, by simp [e5]⟩
       · rw [indexByte, if_neg hb, e1, if_neg (by rw [beq_iff_eq]; omega)]
         omega
       · unfold cutT at e3 ⊢; rw [List.takeWhile_cons_of_pos (p := fun x => x != c) hb2, e3]; rfl
       · unfold cutD at e4 ⊢; rw [List.dropWhile_cons_of_pos (p := fun x => x != c) hb2, e4]; rfl
theorem cut_none {c : UInt8} {l : Bs} (h : c ∉ l) : cutT c l = l ∧ cutD c l = [] := by
 rcases cut_index c l with ⟨_, h1, h2, _⟩ | ⟨_, _, _, _, _, h5⟩
 · exact ⟨h1, h2⟩
 · exact absurd h5 h
theorem cutT_free {c : UInt8} {l : Bs} : ∀ x ∈ cutT c l, x ≠ c := by
 intro x hx
 unfold cutT at hx
 induction l with
 | nil => simp at hx
 | cons a r ih =>
   rw [List.takeWhile_cons] at hx
   split at hx
   · rename_i h
     rcases List.mem_cons.1 hx with e | e
     · subst e; simpa using h
     · exact ih e
   · simp at hx
theorem cut_some {c : UInt8} {l : Bs} (h : c ∈ l) : l = cutT c l ++ c :: cutD c l := by
 induction l with
 | nil => simp at h
 | cons a r ih =>
   by_cases ha : a = c
   · subst ha; simp [cutT, cutD]
   · have hb2 : (a != c) = true := by simpa using ha
     have hr : c ∈ r := by
       rcases List.mem_cons.1 h with e | e
       · exact absurd e.symm ha
       · exact e
     have := ih hr
     unfold cutT cutD at this ⊢
     rw [List.takeWhile_cons_of_pos (p := fun x => x != c) hb2, List.dropWhile_cons_of_pos (p := fun x => x != c) hb2, List.cons_append, ← this]
theorem cutT_len (c : UInt8) (l : Bs) : (cutT c l).length ≤ l.length := by
 rcases cut_index c l with ⟨_, h1, _, _⟩ | ⟨i, _, _, h3, _, _⟩
 · rw [h1]; exact Nat.le_refl _
 · rw [h3, List.length_take]; omega
theorem cutD_len (c : UInt8) (l : Bs) : (cutD c l).length ≤ l.length := by
 rcases cut_index c l with ⟨_, _, h2, _⟩ | ⟨i, _, _, _, h4, _⟩
 · rw [h2]; simp
 · rw [h4, List.length_drop]; omega
def lns (l : Bs) : List Bs := spl (fun x => x == 10) l
theorem lns_none {l : Bs} (h : (10 : UInt8) ∉ l) : lns l = [l] := spl_none fun c hc => by
 by_cases e : c = 10
 · exact absurd (e ▸ hc) h
 · simpa using e
theorem lns_app {a r : Bs} (h : ∀ x ∈ a, x ≠ 10) : lns (a ++ 10 :: r) = a :: lns r := spl_app (fun x hx => by simpa using h x hx) rfl
theorem lns_cut {l : Bs} (h : (10 : UInt8) ∈ l) : lns l = cutT 10 l :: lns (cutD 10 l) := by
 have e := cut_some h
 have := lns_app (a := cutT 10 l) (r := cutD 10 l) cutT_free
 rwa [← e] at this
def bl (c : UInt8) : Bool := c.toNat == 32 || c.toNat == 9 || c.toNat == 13
def gd (c : UInt8) : Bool := decide (33 ≤ c.toNat) && decide (c.toNat ≤ 126) && !(c.toNat == 35)
def toks (l : Bs) : List Bs := (spl bl l).filter (fun w => !w.isEmpty)
def one (a : Bs) : List Bs := if a.isEmpty then [] else [a]
theorem toks_none {l : Bs} (h : ∀ c ∈ l, bl c = false) : toks l = one l := by
 unfold toks one
 rw [spl_none h]
 cases l <;> simp
theorem toks_app {a r : Bs} {c : UInt8} (h : ∀ x ∈ a, bl x = false) (hc : bl c = true) : toks (a ++ c :: r) = one a ++ toks r := by
 unfold toks one
 rw [spl_app h hc]
 cases a <;> simp
theorem spl_word {p : UInt8 → Bool} : ∀ {l : Bs} {x : Bs}, x ∈ spl p l → (∀ c ∈ x, p c = false) ∧ x.length ≤ l.length ∧ ∀ c ∈ x, c ∈ l := by
 intro l
 induction l with
 | nil => intro x hx; simp [spl] at hx; subst hx; simp
 | cons a r ih =>
   intro x hx
   rw [spl] at hx
   by_cases hp : p a = true
   · rw [if_pos hp] at hx
     rcases List.mem_cons.1 hx with e | e
     · subst e; simp
     · have := ih e; exact ⟨this.1, by simp; omega, fun c hc => by simp [this.2.2 c hc]⟩
   · rw [if_neg hp] at hx
     split at hx
     · rename_i e; exact absurd e (spl_ne _ _)
     · rename_i h t e
       rcases List.mem_cons.1 hx with e2 | e2
       · have := ih (x := h) (by rw [e]; simp)
         subst e2
         refine ⟨fun c hc => ?_, by simp; omega, fun c hc => ?_⟩
         · rcases List.mem_cons.1 hc with e3 | e3
           · subst e3; simpa using hp
           · exact this.1 c e3
         · rcases List.mem_cons.1 hc with e3 | e3
           · simp [e3]
           · simp [this.2.2 c e3]
       · have := ih (x := x) (by rw [e]; simp [e2])
         exact ⟨this.1, by simp; omega, fun c hc => by simp [this.2.2 c hc]⟩
theorem toks_word {l x : Bs} (h : x ∈ toks l) : x ≠ [] ∧ (∀ c ∈ x, bl c = false) ∧ x.length ≤ l.length ∧ ∀ c ∈ x, c ∈ l := by
 unfold toks at h
 rw [List.mem_filter] at h
 exact ⟨by simpa using h.2, spl_word h.1⟩
theorem spl_len (p : UInt8 → Bool) : ∀ l : Bs, (spl p l).length ≤ l.length + 1 := by
 intro l
 induction l with
 | nil => simp [spl]
 | cons a r ih =>
   rw [spl]
   split
   · simp; omega
   · split
     · simp
     · rename_i e; rw [e] at ih; simp at ih ⊢; omega
theorem toks_len (l : Bs) : (toks l).length ≤ l.length + 1 := Nat.le_trans (List.length_filter_le _ _) (spl_len _ _)
def ahd (l : Bs) : Bs := cutT 35 l
def lineW (l : Bs) : List Bs := toks (ahd l)
def mayW (w : Bs) : Bool := !w.isEmpty && decide (w.length ≤ 400) && w.all gd
def lineE (l : Bs) : Nat := if 65536 < l.length then 3 else if (lineW l).all mayW then 0 else 4
def bad : Nat → List Bs → Option (Nat × Nat)
 | _, [] => none
 | n, l :: r => if lineE l = 0 then bad (n + 1) r else some (n, lineE l)
def good : Nat → List Bs → List (Nat × List Bs)
 | _, [] => []
 | n, l :: r => (if (lineW l).isEmpty then [] else [(n, lineW l)]) ++ good (n + 1) r
theorem bad_app {a b : List Bs} : ∀ {n : Nat}, bad n a = none → bad n (a ++ b) = bad (n + a.length) b := by
 induction a with
 | nil => intro n _; rfl
 | cons l r ih =>
   intro n h
   rw [bad] at h
   by_cases e : lineE l = 0
   · rw [if_pos e] at h
     rw [List.cons_append, bad, if_pos e, ih h]
     congr 1; simp; omega
   · rw [if_neg e] at h; cases h
theorem good_app {a b : List Bs} : ∀ {n : Nat}, good n (a ++ b) = good n a ++ good (n + a.length) b := by
 induction a with
 | nil => intro n; rfl
 | cons l r ih =>
   intro n
   rw [List.cons_append, good, good, ih, List.append_assoc]
   congr 2; congr 1; simp; omega
theorem good_len : ∀ (a : List Bs) (n : Nat), (good n a).length ≤ a.length := by
 intro a
 induction a with
 | nil => intro n; simp [good]
 | cons l r ih =>
   intro n
   rw [good, List.length_append]
   have := ih (n + 1)
   split <;> simp <;> omega
def rdV (l : Bs) : List (Nat × List Bs) × Nat × Nat :=
 if 16777216 < l.length then ([], 0, 3) else
 match bad 1 (lns l) with
 | some (n, e) => ([], n, e)
 | none => (good 1 (lns l), 0, 0)
theorem lineE_cases (l : Bs) : lineE l = 0 ∨ lineE l = 3 ∨ lineE l = 4 := by
 unfold lineE
 split
 · simp
 · split <;> simp
theorem lineE_zero {l : Bs} : lineE l = 0 ↔ l.length ≤ 65536 ∧ (lineW l).all mayW = true := by
 unfold lineE
 split
 · constructor
   · intro h; cases h
   · intro h; omega
 · split
   · rename_i h1 h2; simp [h2]; omega
   · rename_i h1 h2; simp [h2]
end

/- Package strings: Cut at one byte. -/
section
set_option maxRecDepth 100000
open Go.RowKit Go.Shelf Go.Lib
set_option maxHeartbeats 1000000 in
theorem indexByteL_any (s : ByteArray) (c : Int) (w : World) :
   Calls Tryd.prog 60 #[.string s, .int .u8 c] w fun e w' => e = .returned (.int .i64 (indexByte s.data.toList c.toNat.toUInt8)) ∧ w' = w := by
 go_enter Tryd.func60, Tryd.ntmps60
 go_wp2
 rw [run_callFunc_extern Tryd.func67 (by kernel_rfl) (by kernel_rfl) (by kernel_rfl) (e := Extern.BytealgIndexByte.indexByte) (by kernel_rfl), Lib.run_indexByteString]
 simp only [Result.andThen]
 rw [Oper.upon_value]
 go_wp2
 go_ret
 exact ⟨rfl, rfl⟩
theorem uint8_back (c : UInt8) : ((c.toNat : Int)).toNat.toUInt8 = c := by
 simp
set_option maxHeartbeats 1000000 in
theorem indexL_any (s : ByteArray) (c : UInt8) (w : World) :
   Calls Tryd.prog 50 #[.string s, .string ⟨#[c]⟩] w fun e w' => e = .returned (.int .i64 (indexByte s.data.toList c)) ∧ w' = w := by
 have HI : Hid (∀ w, Calls Tryd.prog 60 #[.string s, .int .u8 (c.toNat : Int)] w fun e w' => e = .returned (.int .i64 (indexByte s.data.toList c)) ∧ w' = w) := fun w => by
   have := indexByteL_any s (c.toNat : Int) w
   rwa [uint8_back] at this
 have HS : Hid (s.toList = s.data.toList) := Lib.toList_data s
 by_cases h : s.data.toList = [c]
 · have h1 : ([c] == s.toList) = true := by rw [HS.out, h]; simp
   have h2 : indexByte s.data.toList c = 0 := by rw [h]; simp [indexByte]
   rw [h2]
   clear h2 h
   go_enter Tryd.func50, Tryd.ntmps50
   go_wp2_with (first | (go_at_call 60; refine (HI.out _).mono ?_; rintro e w' ⟨rfl, rfl⟩))
   go_ret
   exact ⟨rfl, rfl⟩
 · have h1 : ([c] == s.toList) = false := by rw [HS.out, beq_eq_false_iff_ne]; exact fun e => h e.symm
   clear h
   go_enter Tryd.func50, Tryd.ntmps50
   go_wp2_with (first | (go_at_call 60; refine (HI.out _).mono ?_; rintro e w' ⟨rfl, rfl⟩))
   go_ret
   exact ⟨rfl, rfl⟩
def cutVL (c : UInt8) (l : Bs) : Value := .tuple #[sv (cutT c l), sv (cutD c l), .bool (cutF c l)]
set_option maxHeartbeats 1000000 in
theorem cutliteL_any (s : ByteArray) (c : UInt8) (w : World) (hs : s.size ≤ 1000000000) :
   Calls Tryd.prog 39 #[.string s, .string ⟨#[c]⟩] w fun e w' => e = .returned (cutVL c s.data.toList) ∧ (w' = w ∨ w' = w.drew) := by
 have HI : Hid (∀ w, Calls Tryd.prog 50 #[.string s, .string ⟨#[c]⟩] w fun e w' => e = .returned (.int .i64 (indexByte s.data.toList c)) ∧ w' = w) := fun w => indexL_any s c w
 have hsz := Lib.size_eq s
 rcases cut_index c s.data.toList with ⟨e0, e1, e3, e2⟩ | ⟨i, e2, hi, e1, e3, e0⟩
 · rw [e2] at HI
   have hv : cutVL c s.data.toList = .tuple #[.string s, .string ⟨#[]⟩, .bool false] := by
     unfold cutVL; rw [e1, e3]; simp [cutF, e0]
   rw [hv]
   clear e1 e2 e0 e3 hv
   go_enter Tryd.func39, Tryd.ntmps39
   go_wp2_with (first
     | (go_at_call 50; refine (HI.out _).mono ?_; rintro e w' ⟨rfl, rfl⟩))
   go_ret3
   exact ⟨rfl, Or.inl rfl⟩
 · rw [e2] at HI
   have hv : cutVL c s.data.toList = .tuple #[.string (s.extract 0 i), .string (s.extract (i + 1) s.size), .bool true] := by
     unfold cutVL
     rw [e1, e3, Lib.extract_eq, Lib.extract_eq]
     show Value.tuple #[sv _, sv _, _] = _
     rw [List.drop_zero, Nat.sub_zero, List.take_of_length_le (l := s.data.toList.drop (i + 1)) (by rw [List.length_drop]; omega)]
     simp [cutF, e0]
   rw [hv]
   rw [← hsz] at hi
   have c1 : (0 : Int) ≤ (i : Int) := by omega
   have c2 : (i : Int) ≤ (s.size : Int) := by omega
   have c3 : (0 : Int) ≤ (i : Int) + 1 := by omega
   have c4 : (i : Int) + 1 ≤ (s.size : Int) := by omega
   clear e1 e2 e0 e3 hv hsz
   go_enter Tryd.func39, Tryd.ntmps39
   go_wp2_with (first
     | (go_at_call 50; refine (HI.out _).mono ?_; rintro e w' ⟨rfl, rfl⟩))
   go_region
   go_wp2
   go_ret3
   exact ⟨rfl, Or.inr rfl⟩
set_option maxHeartbeats 1000000 in
theorem cutL_any (s : ByteArray) (c : UInt8) (w : World) (hs : s.size ≤ 1000000000) :
   Calls Tryd.prog 28 #[.string s, .string ⟨#[c]⟩] w fun e w' => e = .returned (cutVL c s.data.toList) ∧ (w' = w ∨ w' = w.drew) := by
 have HI : Hid (∀ w, Calls Tryd.prog 39 #[.string s, .string ⟨#[c]⟩] w fun e w' => e = .returned (cutVL c s.data.toList) ∧ (w' = w ∨ w' = w.drew)) := fun w => cutliteL_any s c w hs
 unfold cutVL at HI ⊢
 go_enter Tryd.func28, Tryd.ntmps28
 go_wp2_with (first
   | (go_at_call 39; refine (HI.out _).mono ?_; rintro e w' ⟨rfl, hw⟩))
 go_ret3
 exact ⟨rfl, hw⟩
end

/- Package lines: isBlank, mayBe, strings.Clone. -/
section
set_option maxRecDepth 100000
open Go.RowKit Go.Shelf Go.Lib
theorem isBlank_any (c : UInt8) (w : World) : Calls Tryd.prog 52 #[.int .u8 (c.toNat : Int)] w fun e w' => e = .returned (.bool (bl c)) ∧ w' = w := by
 obtain ⟨n, hn⟩ : ∃ n, c.toNat = n := ⟨_, rfl⟩
 have hb : bl c = (n == 32 || n == 9 || n == 13) := by unfold bl; rw [hn]
 rw [hb, hn]
 clear hb hn
 by_cases h1 : n = 32
 · subst h1
   go_enter Tryd.func52, Tryd.ntmps52
   go_wp2
   go_ret
   exact ⟨rfl, rfl⟩
 by_cases h2 : n = 9
 · subst h2
   go_enter Tryd.func52, Tryd.ntmps52
   go_wp2
   go_ret
   exact ⟨rfl, rfl⟩
 by_cases h3 : n = 13
 · subst h3
   go_enter Tryd.func52, Tryd.ntmps52
   go_wp2
   go_ret
   exact ⟨rfl, rfl⟩
 · have e1 : ((n : Int) == 32) = false := by simp; omega
   have e2 : ((n : Int) == 9) = false := by simp; omega
   have e3 : ((n : Int) == 13) = false := by simp; omega
   have d1 : ¬ ((n : Int) = 32) := by omega
   have d2 : ¬ ((n : Int) = 9) := by omega
   have d3 : ¬ ((n : Int) = 13) := by omega
   have f : (n == 32 || n == 9 || n == 13) = false := by simp [h1, h2, h3]
   rw [f]
   go_enter Tryd.func52, Tryd.ntmps52
   go_wp2
   go_ret
   exact ⟨rfl, rfl⟩
theorem mayW_no {l : Bs} {k : Nat} (hk : k < l.length) (hg : gd l[k] = false) : mayW l = false := by
 unfold mayW
 have : l.all gd = false := by
   rw [List.all_eq_false]
   exact ⟨l[k], List.getElem_mem hk, by simp [hg]⟩
 simp [this]
theorem mayW_yes {l : Bs} (h0 : l ≠ []) (h1 : l.length ≤ 400) (h : ∀ j (hj : j < l.length), gd l[j] = true) : mayW l = true := by
 unfold mayW
 have : l.all gd = true := by
   rw [List.all_eq_true]
   intro x hx
   obtain ⟨j, hj, rfl⟩ := List.mem_iff_getElem.1 hx
   exact h j hj
 simp [this, h1, h0]
theorem byte_atL {ds : List UInt8} {k : Nat} (hk : k < (⟨ds.toArray⟩ : ByteArray).size) (hk' : k < ds.length) : (⟨ds.toArray⟩ : ByteArray)[k]'hk = ds[k] := by
 show (ds.toArray)[k] = ds[k]
 simp
theorem sv_size (l : Bs) : (⟨l.toArray⟩ : ByteArray).size = l.length := by simp [ByteArray.size]
set_option maxHeartbeats 2000000 in
theorem mayBeL_any (l : Bs) (w : World) (hs : l.length ≤ 9223372036854775807) : Calls Tryd.prog 41 #[sv l] w fun e w' => e = .returned (.bool (mayW l)) ∧ w' = w := by
 obtain ⟨s, hS⟩ : ∃ s : ByteArray, (⟨l.toArray⟩ : ByteArray) = s := ⟨_, rfl⟩
 have HS := Lib.hid hS
 have hsz : s.size = l.length := by rw [← hS]; exact sv_size l
 have hlist : s.toList = l := by rw [← hS, Lib.toList_data]
 have HE : Hid ((s.toList == []) = l.isEmpty) := (by rw [hlist]; cases l <;> rfl : (s.toList == []) = l.isEmpty)
 show Calls Tryd.prog 41 #[.string ⟨l.toArray⟩] w _
 rw [hS]
 have HB : Hid (∀ (k : Nat) (h1 : k < s.size) (h2 : k < l.length), s[k]'h1 = l[k]) := fun k h1 h2 => by
   subst hS; exact byte_atL h1 h2
 clear hS
 by_cases h0 : l = []
 · have e1 : (s.toList == []) = true := by rw [HE.out, h0]; rfl
   have e2 : mayW l = false := by rw [h0]; rfl
   rw [e2]
   clear hlist HE
   go_enter Tryd.func41, Tryd.ntmps41
   go_wp2
   go_ret
   exact ⟨rfl, rfl⟩
 have e1 : (s.toList == []) = false := by rw [HE.out]; cases l with
   | nil => exact absurd rfl h0
   | cons a r => rfl
 clear hlist HE
 by_cases h4 : 400 < l.length
 · have e2 : mayW l = false := by unfold mayW; rw [decide_eq_false (by omega : ¬ l.length ≤ 400)]; simp
   rw [e2]
   have h5 : (400 : Int) < (s.size : Int) := by omega
   have h6 : (s.size : Int) ≤ 9223372036854775807 := by omega
   go_enter Tryd.func41, Tryd.ntmps41
   go_wp2
   go_ret
   exact ⟨rfl, rfl⟩
 have h5 : ¬ ((400 : Int) < (s.size : Int)) := by omega
 have h6 : (s.size : Int) ≤ 400 := by omega
 have HZ := Lib.hid hsz
 have HN := Lib.hid h0
 clear hsz h0
 go_enter Tryd.func41, Tryd.ntmps41
 go_wp2
 go_loop [14] (fun vi => ∃ k : Nat, k ≤ s.size ∧ vi = .int .i64 (k : Nat) ∧ Hid (∀ j (_ : j < k) (h2 : j < l.length), gd l[j] = true)) (fun vi => s.size - (RowKit.intOf vi).toNat)
 case atStart => exact ⟨0, Nat.zero_le _, rfl, fun j hj _ => by omega⟩
 case round =>
   obtain ⟨k, hk, rfl, hI⟩ := hrel
   by_cases hlt : k < s.size
   · have hk2 : k < l.length := by have := HZ.out; omega
     have hlt' : (k : Int) < (s.size : Int) := by omega
     have hk0 : (0 : Int) ≤ (k : Int) := by omega
     obtain ⟨n, hn⟩ : ∃ n, Hid (l[k].toNat = n) := ⟨l[k].toNat, Lib.hid rfl⟩
     have hv : (((s[k]'hlt).toNat : Nat) : Int) = (n : Int) := by rw [HB.out k hlt hk2, hn.out]
     have HG : Hid (gd l[k] = (decide (33 ≤ n) && decide (n ≤ 126) && !(n == 35))) := (by unfold gd; rw [hn.out] : gd l[k] = _)
     by_cases hg : gd l[k] = true
     · have hg2 := hg
       rw [HG.out] at hg2
       simp at hg2
       have d1 : ¬ ((n : Int) < 33) := by omega
       have d2 : ¬ ((126 : Int) < (n : Int)) := by omega
       have d3 : ¬ ((n : Int) = 35) := by omega
       clear hg2
       go_wp2
       refine ⟨⟨k + 1, by omega, by go_num, fun j hj hjl => ?_⟩, ?_⟩
       · by_cases e : j = k
         · subst e; exact hg
         · exact hI.out j (by omega) hjl
       · simp [RowKit.intOf]; omega
     · have hg3 : gd l[k] = false := by simpa using hg
       have HM := Lib.hid (mayW_no hk2 hg3)
       rw [HG.out] at hg
       simp at hg
       have hx : (n : Int) < 33 ∨ ((126 : Int) < (n : Int) ∨ (n : Int) = 35) := by omega
       clear hg
       rcases hx with d1 | d1 | d1
       · go_wp2
         go_ret
         rw [HM.out]; exact ⟨rfl, rfl⟩
       · have d0 : ¬ ((n : Int) < 33) := by omega
         go_wp2
         go_ret
         rw [HM.out]; exact ⟨rfl, rfl⟩
       · have d0 : n = 35 := by omega
         subst d0
         go_wp2
         go_ret
         rw [HM.out]; exact ⟨rfl, rfl⟩
   · obtain rfl : k = s.size := by omega
     have HM := Lib.hid (mayW_yes HN.out (by have := HZ.out; omega) (fun j hj => hI.out j (by have := HZ.out; omega) hj))
     go_wp2
     go_ret
     rw [HM.out]; exact ⟨rfl, rfl⟩
end

/- The library's contracts for strings.Builder, strings.Join and strings.Clone, laid at this program: tables of numbers, and facts of the program's own; each contract is one application of a theorem of the guide's library. -/
section
set_option maxRecDepth 100000
open Go.Shelf Go.Proofs
def Tryd.laysM316_ren : Go.Shelf.Ren := ⟨fun | 316 => 53 | n => n, fun | 9 => 9 | 3 => 3 | 4 => 4 | 37 => 90 | 0 => 0 | 127 => 109 | 5 => 5 | n => n, fun | n => n⟩
theorem Tryd.laysM316 : Go.Proofs.LaysM.n316 Tryd.prog Tryd.laysM316_ren := {
 mixed := by kernel_rfl
 f316 := Tryd.func53.trans (congrArg some (by kernel_rfl))
 t0 := Tryd.underlying0
 a0 := Tryd.isAgg0
 z0 := Tryd.sizeOf0
 v0 := Tryd.zeroValue0
 t3 := Tryd.underlying3
 a3 := Tryd.isAgg3
 z3 := Tryd.sizeOf3
 v3 := Tryd.zeroValue3
 t4 := Tryd.underlying4
 a4 := Tryd.isAgg4
 z4 := Tryd.sizeOf4
 v4 := Tryd.zeroValue4
 t9 := Tryd.underlying9
 a9 := Tryd.isAgg9
 z9 := Tryd.sizeOf9
 v9 := Tryd.zeroValue9
 t37 := Tryd.underlying90
 a37 := Tryd.isAgg90
 z37 := Tryd.sizeOf90
 v37 := Tryd.zeroValue90
 t127 := Tryd.underlying109
 a127 := Tryd.isAgg109
 z127 := Tryd.sizeOf109
 v127 := Tryd.zeroValue109
 t5 := Tryd.underlying5
 a5 := Tryd.isAgg5
 z5 := Tryd.sizeOf5
 v5 := Tryd.zeroValue5
 i0 := by kernel_rfl
 i3 := by kernel_rfl
 i4 := by kernel_rfl
 i5 := by kernel_rfl
 i9 := by kernel_rfl
 i37 := by kernel_rfl
 i127 := by kernel_rfl }
open Go.RowKit in
theorem Tryd.stringslite_Clone (s : ByteArray) (w : World) (hlim : s.size ≤ 281474976710656) :
   Calls Tryd.prog 53 #[.string s] w fun e w' => e = .returned (.string s) ∧ Below w.heap.size w w' := Any.stringslite_Clone Tryd.laysM316 s w hlim
end

/- Package lines: Clone; told: the words of a line, one by one. -/
section
set_option maxRecDepth 100000
open Go.RowKit Go.Shelf Go.Lib
attribute [local go_sem] Oper.semAt_some
theorem clone_any (s : ByteArray) (w : World) (hs : s.size ≤ 1000000000) : Calls Tryd.prog 42 #[.string s] w fun e w' => e = .returned (.string s) ∧ Below w.heap.size w w' := by
 go_enter Tryd.func42, Tryd.ntmps42
 go_wp2_with (go_at_call 53; refine (Tryd.stringslite_Clone s _ (by omega)).mono ?_; rintro e w' ⟨rfl, hb⟩)
 go_ret
 exact ⟨rfl, hb⟩
abbrev Wl := { l : Bs // l.length ≤ 70000 }
theorem told_in (n : Nat) (s : ByteArray) (w : World) :
   CallsIn Fence.wide n Tryd.prog 40 #[.string s] w fun e w' => e = .returned (.func (.func 51) #[] #[.pointer (some ⟨w.heap.size, 0, none⟩)]) ∧ w' = w.alloc (.cells #[.string s] 9) := by
 refine callsIn_of_wp Tryd.func40 rfl trivial ?_ rfl
 simp only [Tryd.ntmps40, List.size_toArray, List.length_cons, List.length_nil, Nat.reduceAdd, Nat.reduceSub, Array.replicate_succ, Array.replicate_zero, List.push_toArray, List.append_toArray, List.nil_append, List.cons_append]
 gi_wp2
 go_ret
 exact ⟨rfl, rfl⟩
theorem grownBy_drew (w : World) (row : Option Nat) : w.grownBy w.drew row := ⟨rfl, rfl, rfl, Nat.le_refl _, fun _ _ _ => rfl⟩
def TI (a : Bs) (st k : Nat) (pre : List Wl) : Prop := pre.map (·.1) ++ toks (a.drop st) = toks a ∧ ∀ c ∈ (a.drop st).take (k - st), bl c = false
theorem TI.go {a : Bs} {st k : Nat} {pre : List Wl} (h : TI a st k pre) (hst : st ≤ k) (hk : k < a.length) (hb : bl a[k] = false) : TI a st (k + 1) pre := by
 refine ⟨h.1, fun c hc => ?_⟩
 rw [show k + 1 - st = (k - st) + 1 by omega, List.take_add_one] at hc
 rcases List.mem_append.1 hc with e | e
 · exact h.2 c e
 · rw [List.getElem?_drop, show st + (k - st) = k by omega, List.getElem?_eq_getElem hk] at e
   obtain rfl : c = a[k] := by simpa using e
   exact hb
theorem TI.cut {a : Bs} {st k : Nat} {pre : List Wl} (h : TI a st k pre) (hst : st ≤ k) (hk : k ≤ a.length) (hb : ∀ hk : k < a.length, bl a[k] = true) : toks (a.drop st) = one ((a.drop st).take (k - st)) ++ toks (a.drop (k + 1)) := by
 by_cases e : k < a.length
 · have : a.drop st = (a.drop st).take (k - st) ++ a[k] :: a.drop (k + 1) := by
     rw [← List.drop_eq_getElem_cons e]
     have := (List.take_append_drop (k - st) (a.drop st)).symm
     rw [List.drop_drop, show st + (k - st) = k by omega] at this
     exact this
   have h2 := toks_app (r := a.drop (k + 1)) h.2 (hb e)
   rw [← this] at h2
   exact h2
 · obtain rfl : k = a.length := by omega
   have : (a.drop st).take (a.length - st) = a.drop st := List.take_of_length_le (by rw [List.length_drop]; omega)
   have h2 := h.2
   rw [this] at h2 ⊢
   rw [toks_none h2, List.drop_of_length_le (by omega : a.length ≤ a.length + 1)]
   show _ = _ ++ []
   rw [List.append_nil]
theorem TI.skip {a : Bs} {k : Nat} {pre : List Wl} (h : TI a k k pre) (hk : k ≤ a.length) (hb : ∀ hk : k < a.length, bl a[k] = true) : TI a (k + 1) (k + 1) pre := by
 have := h.cut (Nat.le_refl _) hk hb
 refine ⟨?_, fun c hc => by simp at hc⟩
 rw [Nat.sub_self, List.take_zero] at this
 rw [← h.1, this]; rfl
theorem take_mid_len {a : Bs} {st k : Nat} (hst : st < k) (hk : k ≤ a.length) : ((a.drop st).take (k - st)).length = k - st := by
 rw [List.length_take, List.length_drop]; omega
theorem one_ne {x : Bs} (h : x ≠ []) : one x = [x] := by
 unfold one; cases x with
 | nil => exact absurd rfl h
 | cons c r => rfl
theorem TI.word {a : Bs} {st k : Nat} {pre : List Wl} (h : TI a st k pre) (hst : st < k) (hk : k ≤ a.length) (hb : ∀ hk : k < a.length, bl a[k] = true) (x : Wl) (hx : x.1 = (a.drop st).take (k - st)) : TI a (k + 1) (k + 1) (pre ++ [x]) ∧ pre.length < (toks a).length := by
 have hc := h.cut (by omega) hk hb
 have hne : (a.drop st).take (k - st) ≠ [] := fun e => by have := take_mid_len hst hk; rw [e] at this; simp at this; omega
 rw [one_ne hne, ← hx] at hc
 have e2 := h.1
 rw [hc] at e2
 refine ⟨⟨?_, fun c hc => by simp at hc⟩, ?_⟩
 · rw [← e2]; simp
 · rw [← e2]; simp
set_option maxRecDepth 100000 in
set_option maxHeartbeats 2000000 in
theorem tell1_in (n : Nat) (hn : 1 ≤ n) (l Bx : Nat) (s : ByteArray) (t : Bs) (ht : s.data.toList = t) (hlen : t.length ≤ 70000) (J Jx : List Wl → World → Prop) (W : World) (hJ : AbidesFrom W.heap.size J)
   (hY : ∀ pre x W, J pre W → pre.length < (toks (ahd t)).length → YieldAt Fence.wide (n - 1) Tryd.prog l #[.string ⟨x.1.toArray⟩] W fun e W' =>
     (e = .returned (.bool true) ∧ J (pre ++ [x]) W' ∧ True) ∨ (e = .returned (.bool false) ∧ Jx (pre ++ [x]) W'))
   (hBs : W.cell? ⟨Bx, 0, none⟩ = some (.string s)) (h0 : J [] W) :
   CallsIn Fence.wide n Tryd.prog 51 #[.func (.yield l) #[] #[], .pointer (some ⟨Bx, 0, none⟩)] W fun e W' => (∃ v, e = .returned v) ∧
     ((∃ ys, ys.map (·.1) = toks (ahd t) ∧ J ys W') ∨ (∃ pre, pre.map (·.1) <+: toks (ahd t) ∧ Jx pre W')) := by
 obtain ⟨a, ha⟩ : ∃ a, cutT 35 t = a := ⟨_, rfl⟩
 have hla : a.length ≤ 70000 := by
   rw [← ha]
   exact Nat.le_trans (cutT_len _ _) hlen
 obtain ⟨q, hq⟩ : ∃ q : ByteArray, (⟨a.toArray⟩ : ByteArray) = q := ⟨_, rfl⟩
 obtain ⟨r, hr⟩ : ∃ r : ByteArray, (⟨(cutD 35 t).toArray⟩ : ByteArray) = r := ⟨_, rfl⟩
 have hsz : q.size = a.length := by rw [← hq]; exact sv_size a
 have HZ := Lib.hid hsz
 have HQ := Lib.hid hq
 have HC : Hid (∀ w, Calls Tryd.prog 28 #[.string s, .string ⟨#[35]⟩] w fun e w' => e = .returned (.tuple #[.string q, .string r, .bool (cutF 35 t)]) ∧ (w' = w ∨ w' = w.drew)) := fun w => by
   have := cutL_any s 35 w (by rw [Lib.size_eq, ht]; omega)
   rw [ht] at this
   unfold cutVL sv at this
   rwa [ha, hq, hr] at this
 have HB : Hid (∀ (k : Nat) (h1 : k < q.size) (h2 : k < a.length), q[k]'h1 = a[k]) := fun k h1 h2 => by
   subst hq; exact byte_atL h1 h2
 have HJ := Lib.hid hJ
 have HY := Lib.hid hY
 have H0 : Hid (∀ W', W' = W ∨ W' = W.drew → J [] W') := fun W' h => by
   rcases h with rfl | rfl
   · exact h0
   · exact hJ _ _ _ none h0 (grownBy_drew _ _) (fun r e => by cases e)
 have l1 : (q.size : Int) ≤ 70000 := by omega
 rw [show ahd t = a from ha] at HY ⊢
 obtain ⟨fo, hfo⟩ : ∃ fo, cutF 35 t = fo := ⟨_, rfl⟩
 rw [hfo] at HC
 clear hq hr hY hJ h0 hsz ht hfo
 refine callsIn_of_wp Tryd.func51 rfl trivial ?_ rfl
 simp only [Tryd.ntmps51, List.size_toArray, List.length_cons, List.length_nil, Nat.reduceAdd, Nat.reduceSub, Array.replicate_succ, Array.replicate_zero, List.push_toArray, List.append_toArray, List.nil_append, List.cons_append]
 gi_wp2_with (refine ⟨trivial, ?_⟩; gi_at_call 28; refine (callsIn_wide.2 (HC.out _)).mono ?_; rintro e W1 ⟨rfl, hw1⟩; have HJ1 := Lib.hid (H0.out W1 hw1); clear hw1)
 gi_loopw [6, 17] (fun s6 s17 wr => ∃ st k : Nat, st ≤ k ∧ k ≤ q.size + 1 ∧ s6 = .int .i64 (st : Nat) ∧ s17 = .int .i64 (k : Nat) ∧ Hid ((k = q.size + 1 → st = k) ∧ ∃ pre, J pre wr ∧ TI a st k pre)) (fun _ s17 _ => q.size + 1 - (RowKit.intOf s17).toNat)
 case atStart => exact ⟨0, 0, Nat.le_refl _, Nat.zero_le _, rfl, rfl, fun h => by omega, [], HJ1.out, by simp, fun c hc => by simp at hc⟩
 case round =>
   obtain ⟨st, k, hst, hk, rfl, rfl, hI⟩ := hrel
   have hst0 : (0 : Int) ≤ (st : Int) := by omega
   have hk0 : (0 : Int) ≤ (k : Int) := by omega
   by_cases hend : k = q.size + 1
   · subst hend
     have hle : ¬ (((q.size + 1 : Nat) : Int) < (q.size : Int) + 1) := by omega
     obtain ⟨h0, pre, h1, h2⟩ := hI.out
     have h3 := h2.1
     rw [h0 rfl, List.drop_of_length_le (by have := HZ.out; omega), show toks [] = [] from rfl, List.append_nil] at h3
     have HF := Lib.hid (And.intro h3 h1)
     clear h0 h1 h2 h3 hI
     gi_wp2
     go_end0
     exact ⟨⟨_, rfl⟩, .inl ⟨pre, HF.out.1, HF.out.2⟩⟩
   · have hk1 : (k : Int) < (q.size : Int) + 1 := by omega
     have hdec : (∃ hk : k < a.length, bl a[k] = false) ∨ (∀ hk : k < a.length, bl a[k] = true) := by
       by_cases h : k < a.length
       · cases hb : bl a[k] with
         | false => exact Or.inl ⟨h, hb⟩
         | true => exact Or.inr fun _ => hb
       · exact Or.inr fun h' => absurd h' h
     rcases hdec with ⟨hka, hbf⟩ | hbt
     · have hlt : k < q.size := by have := HZ.out; omega
       have hlt' : (k : Int) < (q.size : Int) := by omega
       have HI : Hid (∀ w, Calls Tryd.prog 52 #[.int .u8 (((q[k]'hlt).toNat : Nat) : Int)] w fun e w' => e = .returned (.bool false) ∧ w' = w) := fun w => by
         rw [HB.out k hlt hka, ← hbf]; exact isBlank_any _ w
       have HK := Lib.hid hbf
       clear hbf
       gi_wp2_with (refine ⟨trivial, ?_⟩; gi_at_call 52; refine (callsIn_wide.2 (HI.out _)).mono ?_; rintro e w' ⟨rfl, rfl⟩)
       go_roundw
       case rel =>
         obtain ⟨h0, pre, h1, h2⟩ := hI.out
         exact ⟨st, k + 1, by omega, by omega, rfl, by go_num, fun h => by omega, pre, h1, h2.go hst hka HK.out⟩
       case measure => simp [RowKit.intOf]; omega
     · have HBT := Lib.hid hbt
       have HI : Hid (∀ (hlt : k < q.size) w, Calls Tryd.prog 52 #[.int .u8 (((q[k]'hlt).toNat : Nat) : Int)] w fun e w' => e = .returned (.bool true) ∧ w' = w) := fun hlt w => by
         have hka : k < a.length := by have := HZ.out; omega
         rw [HB.out k hlt hka, ← hbt hka]; exact isBlank_any _ w
       have hkz : k ≤ q.size := by omega
       clear hbt
       by_cases hsk : st < k
       · have hsk' : (st : Int) < (k : Int) := by omega
         have hk2 : (k : Int) ≤ (q.size : Int) := by omega
         have hst2 : (st : Int) ≤ (k : Int) := by omega
         obtain ⟨h0, pre, h1, h2⟩ := hI.out
         obtain ⟨x, hx⟩ : ∃ x : Wl, x.1 = (a.drop st).take (k - st) := ⟨⟨(a.drop st).take (k - st), by rw [List.length_take, List.length_drop]; omega⟩, rfl⟩
         obtain ⟨h3, h4⟩ := h2.word hsk (by have := HZ.out; omega) HBT.out x hx
         obtain ⟨fn, tmps, assign, body, hy, hR⟩ := HY.out pre x wr h1 h4
         have hex : (⟨x.1.toArray⟩ : ByteArray) = q.extract st k := by
           rw [hx, Lib.extract_eq, ← HQ.out]
         rw [hex] at hy
         have H3 := Lib.hid h3
         have HPre : Hid ((pre ++ [x]).map (·.1) <+: toks a) := ⟨_, h3.1⟩
         clear h0 h1 h2 h3 h4 hex hx hI
         by_cases hlt : k < q.size
         · have hlt' : (k : Int) < (q.size : Int) := by omega
           gi_wp2_with (refine ⟨trivial, ?_⟩; gi_at_call 52; refine (callsIn_wide.2 (HI.out hlt _)).mono ?_; rintro e w' ⟨rfl, rfl⟩)
           refine hR.mono ?_
           rintro e W3 (⟨rfl, hJ3, _⟩ | ⟨rfl, hJx3⟩)
           · gi_wp2
             go_roundw
             case rel => exact ⟨k + 1, k + 1, Nat.le_refl _, by omega, by go_num, by go_num, fun _ => rfl, pre ++ [x], hJ3, H3.out⟩
             case measure => simp [RowKit.intOf]; omega
           · gi_wp2
             refine bodyPost_ret (results_none rfl _ _ _) rfl ?_
             exact ⟨⟨_, rfl⟩, .inr ⟨_, HPre.out, hJx3⟩⟩
         · have hlt' : ¬ ((k : Int) < (q.size : Int)) := by omega
           gi_wp2
           refine ⟨trivial, ?_⟩
           gi_wp2
           refine hR.mono ?_
           rintro e W3 (⟨rfl, hJ3, _⟩ | ⟨rfl, hJx3⟩)
           · gi_wp2
             go_roundw
             case rel => exact ⟨k + 1, k + 1, Nat.le_refl _, by omega, by go_num, by go_num, fun _ => rfl, pre ++ [x], hJ3, H3.out⟩
             case measure => simp [RowKit.intOf]; omega
           · gi_wp2
             refine bodyPost_ret (results_none rfl _ _ _) rfl ?_
             exact ⟨⟨_, rfl⟩, .inr ⟨_, HPre.out, hJx3⟩⟩
       · obtain rfl : st = k := by omega
         by_cases hlt : st < q.size
         · have hlt' : (st : Int) < (q.size : Int) := by omega
           gi_wp2_with (refine ⟨trivial, ?_⟩; gi_at_call 52; refine (callsIn_wide.2 (HI.out hlt _)).mono ?_; rintro e w' ⟨rfl, rfl⟩)
           refine ⟨fun _ h => (by cases h), ?_⟩
           gi_wp2
           go_roundw
           case rel =>
             obtain ⟨h0, pre, h1, h2⟩ := hI.out
             exact ⟨st + 1, st + 1, Nat.le_refl _, by omega, by go_num, by go_num, fun _ => rfl, pre, h1, h2.skip (by have := HZ.out; omega) HBT.out⟩
           case measure => simp [RowKit.intOf]; omega
         · have hlt' : ¬ ((st : Int) < (q.size : Int)) := by omega
           gi_wp2
           refine ⟨trivial, ?_⟩
           gi_wp2
           refine ⟨fun _ h => (by cases h), ?_⟩
           gi_wp2
           go_roundw
           case rel =>
             obtain ⟨h0, pre, h1, h2⟩ := hI.out
             exact ⟨st + 1, st + 1, Nat.le_refl _, by omega, by go_num, by go_num, fun _ => rfl, pre, h1, h2.skip (by have := HZ.out; omega) HBT.out⟩
           case measure => simp [RowKit.intOf]; omega
theorem tell_stops (n : Nat) (hn : 1 ≤ n) (Bx : Nat) (s : ByteArray) (t : Bs) (ht : s.data.toList = t) (hlen : t.length ≤ 70000) (w : World) (hBs : Boxed w Bx 9 (.string s)) :
   SeqStopsK Fence.wide n Tryd.prog 51 #[.pointer (some ⟨Bx, 0, none⟩)] (fun x : Wl => #[Value.string ⟨x.1.toArray⟩]) (fun _ _ => True) (fun ys => ys.map (·.1) = toks (ahd t)) (fun pre => pre.map (·.1) <+: toks (ahd t)) (toks (ahd t)).length w := fun l J Jx W hW hJ _ hY h0 =>
 tell1_in n hn l Bx s t ht hlen J Jx W hJ hY ((hW.cell (p := ⟨Bx, 0, none⟩) hBs.lt).trans hBs.cell) h0
end

/- A drawn region is carried out in one of finitely many orders: each of them may be walked as a list. -/
section
open Go
def lin (md : Region.Mode) (ops : Array Oper) : Nat → Array Bool → List (List Nat)
 | 0, _ => [[]]
 | fuel + 1, listed => match Region.ready md ops listed with
   | [] => [[]]
   | r => r.flatMap fun i => (lin md ops fuel (listed.setIfInBounds i true)).map (i :: ·)
theorem lin_sound (md : Region.Mode) (ops : Array Oper) : ∀ (fuel t : Nat) (listed : Array Bool), Region.linearise.go md ops fuel t listed [] ∈ lin md ops fuel listed := by
 intro fuel
 induction fuel with
 | zero => intro t listed; simp [Region.linearise.go, lin]
 | succ fuel ih =>
   intro t listed
   simp only [Region.linearise.go]
   change (match (Region.ready md ops listed)[t % (Region.ready md ops listed).length]? with
     | some i => Region.linearise.go md ops fuel (t / (Region.ready md ops listed).length) (listed.setIfInBounds i true) [i]
     | none => [].reverse) ∈ _
   cases hi : (Region.ready md ops listed)[t % (Region.ready md ops listed).length]? with
   | none =>
     have hnil : Region.ready md ops listed = [] := by
       cases hr : Region.ready md ops listed with
       | nil => rfl
       | cons x xs =>
         rw [hr] at hi
         have hlt : t % (x :: xs).length < (x :: xs).length := Nat.mod_lt _ (by simp)
         simp at hi
         simp at hlt
         omega
     simp [lin, hnil]
   | some i =>
     simp only []
     rw [linearise_go_acc, List.reverse_singleton, List.singleton_append, lin]
     have hm := List.mem_of_getElem? hi
     split
     · rename_i e; rw [e] at hm; simp at hm
     · rw [List.mem_flatMap]
       exact ⟨i, hm, List.mem_map.2 ⟨_, ih _ _, rfl⟩⟩
section
variable {F : Fence} {n : Nat} {P : Program} {ops : Array Oper} {Q : Exit → Act → World → Prop}
theorem wpOpsIn_list : ∀ (is : List Nat), wpOpsIn F n P ops Q is = wpListIn F n P ops Q (is.filterMap (fun i => ops[i]?)) := by
 intro is
 induction is with
 | nil => funext a w; simp [wpOpsIn, wpListIn]
 | cons i is ih =>
   funext a w
   cases h : ops[i]? with
   | none => simp only [wpOpsIn, h, List.filterMap_cons, ih]
   | some o => simp only [wpOpsIn, h, List.filterMap_cons, ih, wpListIn]
theorem region_orders {id : Nat} {l : List Oper} {a : Act} {w : World} (hm : P.follows .mixedOrders = true) (os : List (List Nat))
   (hos : lin .any l.toArray l.length (Array.replicate l.length false) = os)
   (h : ∀ o ∈ os, wpListIn F n P l.toArray Q (o.filterMap (fun i => l.toArray[i]?)) a w.drew) : (Code.region id l.toArray true).wpIn F n P Q a w :=
 wpIn_region_draw fun t => by
   simp only [Region.schedule, hm, Bool.true_or, if_true]
   show wpOpsIn F n P l.toArray Q (Region.linearise.go .any l.toArray l.toArray.size t (Array.replicate l.toArray.size false) []) a w.drew
   rw [wpOpsIn_list]
   refine h _ ?_
   rw [← hos]
   have := lin_sound .any l.toArray l.toArray.size t (Array.replicate l.toArray.size false)
   rw [List.size_toArray] at this ⊢
   exact this
end
section
variable {P : Program} {ops : Array Oper} {Q : Exit → Act → World → Prop}
end
theorem region6x4 {F : Fence} {n : Nat} {P : Program} {Q : Exit → Act → World → Prop} {id : Nat} {o0 o1 o2 o3 o4 o5 : Oper} {a : Act} {w : World} (hm : P.follows .mixedOrders = true)
   (hos : lin .any [o0, o1, o2, o3, o4, o5].toArray 6 (Array.replicate 6 false) = [[0, 1, 2, 3, 4, 5], [1, 0, 2, 3, 4, 5], [1, 2, 0, 3, 4, 5], [1, 2, 3, 0, 4, 5]])
   (h0 : wpListIn F n P [o0, o1, o2, o3, o4, o5].toArray Q [o0, o1, o2, o3, o4, o5] a w.drew)
   (h1 : wpListIn F n P [o0, o1, o2, o3, o4, o5].toArray Q [o1, o0, o2, o3, o4, o5] a w.drew)
   (h2 : wpListIn F n P [o0, o1, o2, o3, o4, o5].toArray Q [o1, o2, o0, o3, o4, o5] a w.drew)
   (h3 : wpListIn F n P [o0, o1, o2, o3, o4, o5].toArray Q [o1, o2, o3, o0, o4, o5] a w.drew) : (Code.region id [o0, o1, o2, o3, o4, o5].toArray true).wpIn F n P Q a w := by
 refine region_orders hm _ hos ?_
 intro o ho
 simp only [List.mem_cons, List.not_mem_nil, or_false] at ho
 rcases ho with rfl | rfl | rfl | rfl
 · exact h0
 · exact h1
 · exact h2
 · exact h3
end

/- A drawn region, operation by operation, where some are not wanted. -/
section
open Go
section
variable {P : Program} {ops : Array Oper} {Q : Exit → Act → World → Prop} {md : Region.Mode} {S : World → Prop}
theorem take_at {i : Nat} {d : Option Tmp} {v : Value} {fuel : Nat} {listed : Array Bool} {a : Act} {w : World} (hd : (ops[i]?).map (·.dst) = some d)
   (hs : Region.noSelect ops = true) (hf : Region.free md ops listed i = true) (hr : (Region.ready md ops listed).contains i = true)
   (hQ : ∀ c a w, Q (.panic c) (a.put d v) w → Q (.panic c) a w) (hy : ∀ oi, ops[i]? = some oi → YieldsIf P ops S oi v a) (hS : S w)
   (h : wpAnyH P md ops Q S fuel (listed.setIfInBounds i true) (a.put d v) w) : wpAnyH P md ops Q S (fuel + 1) listed a w := by
 cases ho : ops[i]? with
 | none => rw [ho] at hd; cases hd
 | some oi =>
   rw [ho] at hd
   have e : oi.dst = d := Option.some.inj hd
   subst e
   exact wpAnyH_take ho hs hf hr hQ (hy oi ho) hS h
theorem call_at (i : Nat) {fuel : Nat} {listed : Array Bool} {a : Act} {w : World} (hr : Region.ready md ops listed = [i])
   (hi : (ops[i]?).isSome = true)
   (h : ∀ o, ops[i]? = some o → ∀ K' : Act → World → Prop, Shut (∀ a w, S w → (S w → wpAnyH P md ops Q S fuel (listed.setIfInBounds i true) a w) → K' a w) → if Region.wanted o (yielded ops a.tmps) = true then Oper.wp P o a w K' Q else K' (a.put o.dst undef) w) :
   wpAnyH P md ops Q S (fuel + 1) listed a w := by
 obtain ⟨o, ho⟩ := Option.isSome_iff_exists.1 hi
 exact wpAnyH_ready hr (by simp) (AllReadyH.cons ho (h o ho) AllReadyH.nil)
end
end

/- A drawn region in which one box is laid while a chain of operations goes on. -/
section
open Go Go.RowKit
section
variable {P : Program} {ops : Array Oper} {Q : Exit → Act → World → Prop} {md : Region.Mode} {S : World → Prop}
end
def CB (W : World) (b : Nat) (cs : Array Value) (t : Nat) : Prop := W.heap[b]? = some (.cells cs t (0, 0))
theorem CB.lt {W : World} {b t : Nat} {cs : Array Value} (h : CB W b cs t) : b < W.heap.size := (Array.getElem?_eq_some_iff.1 h).1
theorem CB.later {W W' : World} {b t : Nat} {cs : Array Value} (h : CB W b cs t) (hb : Below W.heap.size W W') : CB W' b cs t := by
 unfold CB
 rw [hb.block b h.lt]; exact h
theorem CB.new (W : World) (cs : Array Value) (t : Nat) : CB (W.alloc (.cells cs t)) W.heap.size cs t := heap_alloc_new W _
theorem CB.cell {W : World} {b t : Nat} {cs : Array Value} (h : CB W b cs t) (i : Nat) (hi : i < cs.size) : W.cell? ⟨b, i, none⟩ = some cs[i] := by
 unfold CB at h
 simp [World.cell?, h, hi]
theorem CB.frozen {W : World} {b t : Nat} {cs : Array Value} (h : CB W b cs t) (i : Nat) : W.frozen? ⟨b, i, none⟩ = false := by
 unfold CB at h
 simp [World.frozen?, h]
theorem CB.set {W : World} {b t : Nat} {cs : Array Value} (h : CB W b cs t) (i : Nat) (v : Value) : CB (W.setCell ⟨b, i, none⟩ v) b (cs.set! i v) t := by
 unfold CB at h ⊢
 simp [World.setCell, Array.getElem?_modify, h]
theorem CB.other {W : World} {b t g i : Nat} {cs : Array Value} (h : CB W b cs t) (hn : b ≠ g) (v : Value) : CB (W.setCell ⟨g, i, none⟩ v) b cs t := by
 unfold CB at h ⊢
 rw [Below.heap_setCell _ ⟨g, i, none⟩ v b hn]; exact h
theorem CB.drew {W : World} {b t : Nat} {cs : Array Value} (h : CB W b cs t) : CB W.drew b cs t := h
theorem CB.set2 {W : World} {b t : Nat} {u0 u1 : Value} (h : CB W b #[u0, u1] t) (v0 v1 : Value) : CB ((W.setCell ⟨b, 0, none⟩ v0).setCell ⟨b, 1, none⟩ v1) b #[v0, v1] t := by
 simpa using ((h.set 0 v0).set 1 v1)
theorem CB.set3 {W : World} {b t : Nat} {u0 u1 u2 : Value} (h : CB W b #[u0, u1, u2] t) (v0 v1 v2 : Value) : CB (((W.setCell ⟨b, 0, none⟩ v0).setCell ⟨b, 1, none⟩ v1).setCell ⟨b, 2, none⟩ v2) b #[v0, v1, v2] t := by
 simpa using (((h.set 0 v0).set 1 v1).set 2 v2)
end

/- slices.Grow of nothing, at floats and at nodes; slices.ContainsFunc at nodes: the library's contracts, laid at this program. -/
section
set_option maxRecDepth 100000
open Go.Shelf Go.Proofs Go.RowKit Go.Lib
end

/- Drawn regions as their orders. -/
section
open Go
end

/- An append in a drawn region. -/
section
open Go.RowKit
theorem wp_append_own {P : Program} {o : Oper} {aa : Act} {w : World} {K : Act → World → Prop} {Q : Exit → Act → World → Prop} (s x : Operand) (t : TypeId) (ho : o.op = .call { callee := .builtin .append, args := #[s, x], argTypes := #[t, t] })
   (base : Nat) (e : TypeId) (i : TypeInfo) (z : Value) (size bytes : Nat) (ht : P.underlying t = some (.slice e)) (hi : P.info? e = some i) (hz : i.zero = some z) (hsize : i.size = size) (hby : i.bytes = bytes) (hzs : z.cells.size = size) (hsz : 0 < size)
   (v : Value) (n : Nat) (xs : List Value) (hs : aa.eval s = v) (hown : w.ownsRow base e size v n xs) (ad : Addr) (m c : Nat) (news : List Value) (hx : aa.eval x = .slice (some ad) m c) (hl : news.length = m * size) (hnews : ∀ j u, news[j]? = some u → w.cell? (ad.add j) = some u) (h1 : ∀ u ∈ news, u.oneCell' = true)
   (h63 : n + m ≤ maxLen) (hbytes : (n + m) * bytes ≤ 140737488355328) (hbase : base ≤ w.heap.size)
   (h : ∀ v' w', w'.ownsRow base e size v' (n + m) (xs ++ news) → w.grownBy w' v.ownBlock → K (aa.put o.dst v') w') : Oper.wp P o aa w K Q := by
 obtain ⟨v', w', hr, h2, h3, h4⟩ := run_append_own (P := P) w base t o.type e i z size bytes ht hi hz hsize hby hzs hsz v n xs hown ad m c news hl hnews h1 h63 hbytes hbase
 unfold Oper.wp execOp
 simp only [ho, resolve, invoke, builtin, Sem.run_bind, Sem.run_pure, Result.andThen_ok, List.map_toArray, List.map_cons, List.map_nil, hs, hx, hr]
 exact h v' w' h2 h3
end

/- errors.As at a target of type fault, and at one of type Errno; told. -/
section
open Go.RowKit Go.Extern.Stop Go.Stop Go.Extern
end

/- A drawn region whose operations only make memory: each yields what a fact tells that stays. -/
section
open Go Go.RowKit
section
variable {P : Program} {ops : Array Oper} {Q : Exit → Act → World → Prop}
def fillL (base n : Nat) (p : Nat → Bool) (vs : Nat → Value) : Nat → List Value → List Value
 | _, [] => []
 | t, x :: r => (if base ≤ t ∧ t < base + n ∧ p (t - base) = true then vs (t - base) else x) :: fillL base n p vs (t + 1) r
theorem fillL_get (base n : Nat) (p : Nat → Bool) (vs : Nat → Value) : ∀ (l : List Value) (t k : Nat), (fillL base n p vs t l)[k]? = (l[k]?).map fun x => if base ≤ t + k ∧ t + k < base + n ∧ p (t + k - base) = true then vs (t + k - base) else x := by
 intro l
 induction l with
 | nil => intro t k; simp [fillL]
 | cons x r ih =>
   intro t k
   cases k with
   | zero => simp [fillL]
   | succ k =>
     simp only [fillL, List.getElem?_cons_succ]
     rw [ih, show t + 1 + k = t + (k + 1) by omega]
theorem fillL_len (base n : Nat) (p : Nat → Bool) (vs : Nat → Value) : ∀ (l : List Value) (t : Nat), (fillL base n p vs t l).length = l.length := by
 intro l
 induction l with
 | nil => intro t; rfl
 | cons x r ih => intro t; simp [fillL, ih]
def actF (a0 : Act) (base n : Nat) (p : Nat → Bool) (vs : Nat → Value) : Act := ⟨(fillL base n p vs 0 a0.tmps.toList).toArray, a0.defers⟩
theorem actF_get (a0 : Act) (base n : Nat) (p : Nat → Bool) (vs : Nat → Value) (t : Nat) : (actF a0 base n p vs).eval (.tmp t) = if base ≤ t ∧ t < base + n ∧ t < a0.tmps.size ∧ p (t - base) = true then vs (t - base) else a0.eval (.tmp t) := by
 show (fillL base n p vs 0 a0.tmps.toList).toArray.getD t undef = _
 rw [Array.getD_eq_getD_getElem?, List.getElem?_toArray, fillL_get, Nat.zero_add]
 show _ = if _ then _ else a0.tmps.getD t undef
 rw [Array.getD_eq_getD_getElem?, Array.getElem?_toList]
 by_cases ht : t < a0.tmps.size
 · rw [Array.getElem?_eq_getElem ht]
   by_cases h : base ≤ t ∧ t < base + n ∧ p (t - base) = true
   · rw [if_pos ⟨h.1, h.2.1, ht, h.2.2⟩]; simp [h]
   · rw [if_neg (fun e => h ⟨e.1, e.2.1, e.2.2.2⟩)]; simp [h]
 · rw [if_neg (fun e => ht e.2.2.1), Array.getElem?_eq_none (by omega)]; rfl
theorem actF_put (a0 : Act) (base n : Nat) (p : Nat → Bool) (vs : Nat → Value) (i : Nat) (v : Value) (hi : i < n) (hs : base + n ≤ a0.tmps.size) : (actF a0 base n p vs).put (some (base + i)) v = actF a0 base n (fun j => p j || j == i) (fun j => if j = i then v else vs j) := by
 unfold actF Act.put
 simp only [Act.mk.injEq, and_true]
 apply Array.ext'
 simp only [List.setIfInBounds_toArray]
 apply List.ext_getElem?
 intro k
 rw [List.getElem?_set, fillL_get, fillL_get, fillL_len, Array.length_toList, Nat.zero_add]
 by_cases hk : base + i = k
 · subst hk
   rw [if_pos rfl, if_pos (by omega), Array.getElem?_toList, Array.getElem?_eq_getElem (by omega)]
   simp [hi]
 · rw [if_neg hk]
   have : ¬ k - base = i ∨ ¬ base ≤ k := by omega
   congr 1
   funext x
   rcases this with h | h
   · have e : (k - base == i) = false := by simpa using h
     simp [h]
   · simp [h]
theorem fillL_all (base n : Nat) (p : Nat → Bool) (vs : Nat → Value) (hp : ∀ j, j < n → p j = true) : ∀ (l : List Value) (t : Nat), fillL base n p vs t l = fillL base n (fun _ => true) vs t l := by
 intro l
 induction l with
 | nil => intro t; rfl
 | cons x r ih =>
   intro t
   simp only [fillL]
   rw [ih]
   congr 1
   by_cases h : base ≤ t ∧ t < base + n
   · rw [if_pos ⟨h.1, h.2, hp _ (by omega)⟩, if_pos ⟨h.1, h.2, by first | rfl | trivial⟩]
   · rw [if_neg (fun e => h ⟨e.1, e.2.1⟩), if_neg (fun e => h ⟨e.1, e.2.1⟩)]
def cntD (listed : Array Bool) : Nat → Nat
 | 0 => 0
 | k + 1 => cntD listed k + (if listed.getD k false = true then 1 else 0)
theorem cntD_le (listed : Array Bool) : ∀ k, cntD listed k ≤ k := by
 intro k
 induction k with
 | zero => simp [cntD]
 | succ k ih => rw [cntD]; split <;> omega
theorem getD_set (listed : Array Bool) (i j : Nat) (hi : i < listed.size) : (listed.setIfInBounds i true).getD j false = (listed.getD j false || j == i) := by
 rw [Array.getD_eq_getD_getElem?, Array.getD_eq_getD_getElem?, Array.getElem?_setIfInBounds]
 by_cases h : i = j
 · subst h; simp [hi]
 · have : (j == i) = false := by simpa using fun e => h e.symm
   simp [h, this]
theorem cntD_set (listed : Array Bool) (i : Nat) (hi : i < listed.size) (hf : listed.getD i false = false) : ∀ k, cntD (listed.setIfInBounds i true) k = cntD listed k + (if i < k then 1 else 0) := by
 intro k
 induction k with
 | zero => simp [cntD]
 | succ k ih =>
   rw [cntD, cntD, ih, getD_set _ _ _ hi]
   by_cases h : k = i
   · subst h
     simp [hf]
   · have : (k == i) = false := by simpa using h
     rw [this, Bool.or_false]
     by_cases h2 : i < k
     · have h3 : i < k + 1 := by omega
       simp only [h2, h3, if_true]; omega
     · have h3 : ¬ i < k + 1 := by omega
       simp only [h2, h3, if_false]; omega
end
end

/- A drawn region whose first operations only make memory, in any order, ahead of all others. -/
section
open Go Go.RowKit
section
variable {P : Program} {ops : Array Oper} {Q : Exit → Act → World → Prop}
def listM (m n : Nat) : Array Bool := (List.replicate m true ++ List.replicate (n - m) false).toArray
theorem listM_eq {m n : Nat} {listed : Array Bool} (hmn : m ≤ n) (hl : listed.size = n) (h1 : ∀ j, j < m → listed.getD j false = true) (h2 : ∀ j, m ≤ j → j < n → listed.getD j false = false) : listed = listM m n := by
 apply Array.ext
 · simp [listM]; omega
 · intro i hi hi2
   have hi' : i < n := by omega
   have e : listed.getD i false = listed[i] := by rw [Array.getD_eq_getD_getElem?, Array.getElem?_eq_getElem hi]; rfl
   rw [← e]
   simp only [listM, List.getElem_toArray]
   by_cases h : i < m
   · rw [h1 i h, List.getElem_append_left (by simpa using h), List.getElem_replicate]
   · rw [h2 i (by omega) hi', List.getElem_append_right (by simp; omega), List.getElem_replicate]
def regOk2 (base m : Nat) (ops : Array Oper) : Bool :=
 ((List.range m).all fun j => match ops[j]? with
   | some o => o.dst == some (base + j) && o.guard.isNone && o.after.all (fun e => decide (e.on < j))
   | none => false) &&
 ((List.range m).all fun j => (List.range (m + 1)).any fun u => decide (j < u) && (match ops[u]? with
   | some o => o.after.any (fun e => Region.binds .any e && e.on == j)
   | none => false)) &&
 ((List.range ops.size).all fun j => decide (j ≤ m) || (match ops[j]? with
   | some o => o.after.any (fun e => Region.binds .any e && decide (m ≤ e.on))
   | none => false))
theorem regOk2_at {base m : Nat} {ops : Array Oper} (h : regOk2 base m ops = true) {j : Nat} {o : Oper} (hj : j < m) (ho : ops[j]? = some o) : o.dst = some (base + j) ∧ o.guard = none ∧ ∀ e ∈ o.after, e.on < j := by
 unfold regOk2 at h
 simp only [Bool.and_eq_true] at h
 have := List.all_eq_true.1 h.1.1 j (List.mem_range.2 hj)
 rw [ho] at this
 simp only [Bool.and_eq_true, beq_iff_eq] at this
 obtain ⟨⟨h1, h2⟩, h3⟩ := this
 refine ⟨h1, by simpa using h2, fun e he => ?_⟩
 have := (Array.all_eq_true'.1 h3) e he
 simpa using this
theorem regOk2_use {base m : Nat} {ops : Array Oper} (h : regOk2 base m ops = true) {j : Nat} (hj : j < m) : ∃ u o, j < u ∧ u ≤ m ∧ ops[u]? = some o ∧ ∃ e ∈ o.after, Region.binds .any e = true ∧ e.on = j := by
 unfold regOk2 at h
 simp only [Bool.and_eq_true] at h
 obtain ⟨u, hu, hh⟩ := List.any_eq_true.1 (List.all_eq_true.1 h.1.2 j (List.mem_range.2 hj))
 simp only [Bool.and_eq_true, decide_eq_true_eq] at hh
 obtain ⟨h1, h2⟩ := hh
 have hu' := List.mem_range.1 hu
 cases ho : ops[u]? with
 | none => rw [ho] at h2; cases h2
 | some o =>
   rw [ho] at h2
   obtain ⟨e, he, hb⟩ := Array.any_eq_true'.1 h2
   simp only [Bool.and_eq_true, beq_iff_eq] at hb
   exact ⟨u, o, h1, by omega, ho, e, he, hb.1, hb.2⟩
theorem regOk2_tail {base m : Nat} {ops : Array Oper} (h : regOk2 base m ops = true) {j : Nat} {o : Oper} (hj : m < j) (ho : ops[j]? = some o) : ∃ e ∈ o.after, Region.binds .any e = true ∧ m ≤ e.on := by
 unfold regOk2 at h
 simp only [Bool.and_eq_true] at h
 have hlt : j < ops.size := (Array.getElem?_eq_some_iff.1 ho).1
 have hh := List.all_eq_true.1 h.2 j (List.mem_range.2 hlt)
 simp only [Bool.or_eq_true, decide_eq_true_eq] at hh
 rcases hh with hh | hh
 · omega
 · rw [ho] at hh
   obtain ⟨e, he, hb⟩ := Array.any_eq_true'.1 hh
   simp only [Bool.and_eq_true, decide_eq_true_eq] at hb
   exact ⟨e, he, hb.1, hb.2⟩
theorem region_facts2 {id : Nat} {a0 : Act} {w0 : World} (base m n : Nat) (G : World → Prop) (F : Nat → Value → World → Prop) (hm : P.follows .mixedOrders = true) (hn : ops.size = n) (hmn : m < n) (hok : regOk2 base m ops = true) (hsz : base + m ≤ a0.tmps.size) (hG : G w0.drew)
   (stab : ∀ j v w w', F j v w → Below w.heap.size w w' → F j v w')
   (step : ∀ (Q' : Exit → Act → World → Prop) j o, j < m → ops[j]? = some o → ∀ (a : Act) (w : World), G w → (∀ t, t < base → a.eval (.tmp t) = a0.eval (.tmp t)) → (∀ e ∈ o.after, Region.binds .any e = true → F e.on (a.eval (.tmp (base + e.on))) w) → Oper.wp P o a w (fun a' w' => ∃ v, a' = a.put (some (base + j)) v ∧ G w' ∧ Below w.heap.size w w' ∧ F j v w') Q')
   (fin : ∀ vs w, G w → (∀ j, j < m → F j (vs j) w) → wpAny P .any ops Q (n - m) (listM m n) (actF a0 base m (fun _ => true) vs) w) : (Code.region id ops true).wp P Q a0 w0 := by
 have main : ∀ (fuel : Nat) (listed : Array Bool) (a : Act) (w : World), listed.size = n → (∀ j, m ≤ j → j < n → listed.getD j false = false) → (∀ i o, i < m → ops[i]? = some o → listed.getD i false = true → ∀ e ∈ o.after, Region.binds .any e = true → listed.getD e.on false = true) → cntD listed m + fuel = n → G w → (∃ vs, a = actF a0 base m (fun j => listed.getD j false) vs ∧ ∀ j, j < m → listed.getD j false = true → F j (vs j) w) → wpAny P .any ops Q fuel listed a w := by
   intro fuel
   induction fuel with
   | zero =>
     intro listed a w hl _ _ hc _ _
     have := cntD_le listed m
     omega
   | succ fuel ih =>
     intro listed a w hl htl hcl hc hG hI
     by_cases hall : ∀ j, j < m → listed.getD j false = true
     · obtain ⟨vs, rfl, hF⟩ := hI
       have e1 := listM_eq (by omega) hl hall htl
       have e2 : cntD listed m = m := by
         have : ∀ k, k ≤ m → cntD listed k = k := by
           intro k
           induction k with
           | zero => intro _; rfl
           | succ k ih => intro hk; rw [cntD, ih (by omega), if_pos (hall k (by omega))]
         exact this m (Nat.le_refl _)
       have h := fin vs w hG (fun j hj => hF j hj (hall j hj))
       rw [show n - m = fuel + 1 by omega, ← e1] at h
       unfold actF at h ⊢
       rwa [fillL_all base m _ vs hall]
     · have hrd : ∀ i, i ∈ Region.ready .any ops listed → i < n ∧ listed.getD i false = false ∧ ∃ o, ops[i]? = some o ∧ ∀ e ∈ o.after, Region.binds .any e = true → listed.getD e.on false = true := by
         intro i hi
         unfold Region.ready at hi
         rw [List.mem_filter, List.mem_range, hn] at hi
         obtain ⟨hin, hi⟩ := hi
         obtain ⟨o, ho⟩ : ∃ o, ops[i]? = some o := ⟨_, Array.getElem?_eq_getElem (by omega)⟩
         rw [ho] at hi
         simp only [Option.map_some, Option.getD_some, Bool.and_eq_true, Bool.not_eq_true'] at hi
         obtain ⟨h1, h2⟩ := hi
         refine ⟨hin, ?_, o, ho, fun e he hb => ?_⟩
         · rw [Array.getD_eq_getD_getElem?, Array.getElem?_eq_getElem (by omega)] at h1 ⊢
           exact h1
         · have := Array.all_eq_true'.1 h2 e he
           rw [hb] at this
           simpa using this
       have hlow : ∀ i, i ∈ Region.ready .any ops listed → i < m := by
         intro i hi
         obtain ⟨h1, h2, o, ho, hd⟩ := hrd i hi
         rcases Nat.lt_or_ge i m with h | h
         · exact h
         · exfalso
           rcases Nat.lt_or_ge m i with h' | h'
           · obtain ⟨e, he, hb, hme⟩ := regOk2_tail hok h' ho
             have h3 := hd e he hb
             by_cases hen : e.on < n
             · rw [htl e.on hme hen] at h3; cases h3
             · rw [Array.getD_eq_getD_getElem?, Array.getElem?_eq_none (by omega)] at h3; cases h3
           · obtain rfl : i = m := by omega
             apply hall
             have key : ∀ d j, j + d = i → j < i → listed.getD j false = true := by
               intro d
               induction d using Nat.strongRecOn with
               | ind d ihd =>
                 intro j hjd hj
                 obtain ⟨u, o2, hju, hum, ho2, e, he, hb, rfl⟩ := regOk2_use hok hj
                 rcases Nat.lt_or_ge u i with hu | hu
                 · exact hcl u o2 hu ho2 (ihd (i - u) (by omega) u (by omega) hu) e he hb
                 · obtain rfl : u = i := by omega
                   obtain rfl : o = o2 := Option.some.inj (ho.symm.trans ho2)
                   exact hd e he hb
             exact fun j hj => key (i - j) j (by omega) hj
       refine ⟨fun hr => ?_, fun i hi => ?_⟩
       · exfalso
         apply hall
         intro j
         induction j using Nat.strongRecOn with
         | ind j ihj =>
           intro hj
           cases hc : listed.getD j false with
           | true => rfl
           | false =>
             obtain ⟨o, ho⟩ : ∃ o, ops[j]? = some o := ⟨_, Array.getElem?_eq_getElem (by omega)⟩
             have hb := (regOk2_at hok hj ho).2.2
             have : j ∈ Region.ready .any ops listed := by
               unfold Region.ready
               rw [List.mem_filter]
               refine ⟨List.mem_range.2 (by omega), ?_⟩
               have e1 : listed.getD j true = false := by
                 rw [Array.getD_eq_getD_getElem?, Array.getElem?_eq_getElem (by omega)] at hc ⊢
                 exact hc
               rw [e1, ho]
               simp only [Bool.not_false, Bool.true_and, Option.map_some, Option.getD_some]
               rw [Array.all_eq_true']
               intro e he
               rw [ihj e.on (hb e he) (by have := hb e he; omega)]
               simp
             rw [hr] at this
             simp at this
       · have him := hlow i hi
         obtain ⟨hin, h1', o, ho, hd'⟩ := hrd i hi
         obtain ⟨hd, hg, hb⟩ := regOk2_at hok him ho
         unfold wpOp
         rw [ho]
         simp only []
         have hw : Region.wanted o (yielded ops a.tmps) = true := by unfold Region.wanted; rw [hg]
         rw [if_pos hw]
         obtain ⟨vs, rfl, hF⟩ := hI
         refine Or.inl (Oper.wp_mono ?_ (step Q i o him ho _ w hG ?_ ?_))
         · rintro a' w' ⟨v, rfl, hG', hbel, hFi⟩
           rw [actF_put a0 base m _ vs i v him hsz]
           refine ih _ _ _ (by simpa using hl) ?_ ?_ ?_ hG' ⟨fun j => if j = i then v else vs j, ?_, ?_⟩
           · intro j hj hjn
             rw [getD_set _ _ _ (by omega), htl j hj hjn]
             have : (j == i) = false := by simp; omega
             rw [this]; rfl
           · intro k o2 hk ho2 hlk e he hbe
             rw [getD_set _ _ _ (by omega)] at hlk ⊢
             by_cases hki : k = i
             · subst hki
               obtain rfl : o = o2 := Option.some.inj (ho.symm.trans ho2)
               rw [hd' e he hbe]; rfl
             · have : (k == i) = false := by simpa using hki
               rw [this, Bool.or_false] at hlk
               rw [hcl k o2 hk ho2 hlk e he hbe]; rfl
           · rw [cntD_set listed i (by omega) h1', if_pos him]; omega
           · congr 1
             funext j
             rw [getD_set _ _ _ (by omega)]
           · intro j hj hlj
             rw [getD_set _ _ _ (by omega)] at hlj
             by_cases e : j = i
             · subst e; simpa using hFi
             · show F j (if j = i then v else vs j) w'
               rw [if_neg e]
               have : (j == i) = false := by simpa using e
               rw [this, Bool.or_false] at hlj
               exact stab j _ w w' (hF j hj hlj) hbel
         · intro t ht
           rw [actF_get, if_neg (fun e => by omega)]
         · intro e he hbi
           have hon := hb e he
           have hle := hd' e he hbi
           rw [actF_get, if_pos ⟨by omega, by omega, by omega, by rw [show base + e.on - base = e.on by omega]; exact hle⟩, show base + e.on - base = e.on by omega]
           exact hF e.on (by omega) hle
 have hz : ∀ k, (Array.replicate ops.size false).getD k false = false := fun k => by
   rw [Array.getD_eq_getD_getElem?, Array.getElem?_replicate]; split <;> rfl
 refine wp_region_any hm ?_
 refine main _ _ _ _ (by simpa using hn) (fun j _ _ => hz j) (fun i o _ _ h => by rw [hz] at h; cases h) ?_ hG ⟨fun _ => undef, ?_, ?_⟩
 · have : ∀ k, cntD (Array.replicate ops.size false) k = 0 := by
     intro k
     induction k with
     | zero => rfl
     | succ k ih =>
       rw [cntD, ih, hz]; simp
   rw [this]; omega
 · unfold actF
   have : ∀ (l : List Value) (t : Nat), fillL base m (fun j => (Array.replicate ops.size false).getD j false) (fun _ => undef) t l = l := by
     intro l
     induction l with
     | nil => intro t; rfl
     | cons x r ih =>
       intro t
       rw [fillL, ih, hz]
       simp
   rw [this]
 · intro j _ h
   rw [hz] at h; cases h
end
end

/- A drawn region's operations in fewer words. -/
section
open Go
section
variable {P : Program} {ops : Array Oper} {Q : Exit → Act → World → Prop} {md : Region.Mode} {S : World → Prop}
theorem takA {i : Nat} {d : Option Tmp} {v : Value} {fuel : Nat} {listed : Array Bool} {a : Act} {w : World} (hS : S w)
   (h : wpAnyH P md ops Q S fuel (listed.setIfInBounds i true) (a.put d v) w)
   (hd : (ops[i]?).map (·.dst) = some d := by kernel_rfl) (hs : Region.noSelect ops = true := by kernel_rfl)
   (hf : Region.free md ops listed i = true := by kernel_rfl) (hr : (Region.ready md ops listed).contains i = true := by kernel_rfl)
   (hQ : ∀ c a w, Q (.panic c) (a.put d v) w → Q (.panic c) a w := by exact fun _ _ _ h => h)
   (hy : ∀ oi, ops[i]? = some oi → YieldsIf P ops S oi v a := by
     intro o ho
     simp only [List.getElem?_toArray, List.getElem?_cons_succ, List.getElem?_cons_zero, Option.some.injEq] at ho
     subst ho
     refine Or.inl ⟨by rfl, ?_⟩
     intro w hSw
     (try dsimp only at hSw)
     go_simp) : wpAnyH P md ops Q S (fuel + 1) listed a w := take_at hd hs hf hr hQ hy hS h
theorem calA (i : Nat) {o : Oper} {fuel : Nat} {listed : Array Bool} {a : Act} {w : World}
   (h : ∀ K' : Act → World → Prop, Shut (∀ a w, S w → (S w → wpAnyH P md ops Q S fuel (listed.setIfInBounds i true) a w) → K' a w) → if Region.wanted o (yielded ops a.tmps) = true then Oper.wp P o a w K' Q else K' (a.put o.dst undef) w)
   (hr : Region.ready md ops listed = [i] := by kernel_rfl)
   (ho : ops[i]? = some o := by
     simp only [List.getElem?_toArray, List.getElem?_cons_succ, List.getElem?_cons_zero]
     rfl) :
   wpAnyH P md ops Q S (fuel + 1) listed a w :=
 call_at i hr (by rw [ho]; rfl) (fun o' ho' => by rw [ho] at ho'; cases ho'; exact h)
end
theorem AP : (∀ (a : Act) (t : Tmp) (v : Value), a.put (some t) v = { a with tmps := a.tmps.setIfInBounds t v }) ∧ (∀ (a : Act) (v : Value), a.put none v = a) ∧ (∀ {α : Type} (l : List α) (i : Nat) (x : α), l.toArray.setIfInBounds i x = (l.set i x).toArray) ∧ (∀ {α : Type} (x y : α) (l : List α), (x :: l).set 0 y = y :: l) ∧ (∀ {α : Type} (x y : α) (l : List α) (i : Nat), (x :: l).set (i + 1) y = x :: l.set i y) :=
 ⟨fun _ _ _ => rfl, fun _ _ => rfl, fun _ _ _ => List.setIfInBounds_toArray .., fun _ _ _ => rfl, fun _ _ _ _ => rfl⟩
end

/- A long walk in parts: what stands at a cut is a statement of its own, taken over by unification. -/
section
structure Cap (p : Prop) : Prop where
 get : p
structure Cut1 (Q : Prop) where
 P1 : Prop
 imp : Cap P1 → Q
structure Cut2 (Q : Prop) where
 P1 : Prop
 P2 : Prop
 imp : Cap P1 → Cap P2 → Q
end
end Go.Proofs.YtgfloegaoofbbaaDoor
