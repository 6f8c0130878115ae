/- Own texts, put together: Ja Jz Lk Ln Yo. -/
import Derived.Lib.ItoaMem
import Derived.Lib.ItoaLen
import Derived.Lib.Strings
import Derived.Lib.Bytealg
import Derived.Shelf.Small.Wraps
import Derived.Shelf.LaysM
import Derived.Shelf.Strconv.Itoa3
import Derived.Test.YtkgnlobakicnjaaDoorProg
import Derived.Deep.RegionHeld3
import Derived.Below
import Derived.Shelf.Strings.BuilderK
import Derived.WalkKit
namespace Go.Proofs.YtkgnlobakicnjaaDoor
/- Plain: whole numbers in texts, as the program reads them. No model in this text. -/
section
open Go.Lib
def dv (c : UInt8) : Nat := (c.toNat + 208) % 256
theorem dv_le {c : UInt8} : dv c ≤ 9 ↔ 48 ≤ c.toNat ∧ c.toNat ≤ 57 := by
 have h : c.toNat < 256 := c.toNat_lt
 unfold dv; omega
theorem dv_digit {d : Nat} (h : d ≤ 9) : dv (UInt8.ofNat (48 + d)) = d := by
 have e : (UInt8.ofNat (48 + d)).toNat = 48 + d := by rw [UInt8.toNat_ofNat']; omega
 unfold dv; rw [e]; omega
theorem digit_dv {c : UInt8} (h : dv c ≤ 9) : UInt8.ofNat (48 + dv c) = c := by
 have h' := dv_le.1 h
 have hc : c.toNat < 256 := c.toNat_lt
 have e : dv c = c.toNat - 48 := by unfold dv; omega
 apply UInt8.toNat.inj
 rw [UInt8.toNat_ofNat', e]
 omega
def scan (m : Nat) : Nat → List UInt8 → Option Nat
 | a, [] => some a
 | a, c :: r => if dv c ≤ 9 ∧ a ≤ (m - dv c) / 10 then scan m (10 * a + dv c) r else none
theorem scan_append (m : Nat) (l r : List UInt8) : ∀ a, scan m a (l ++ r) = (scan m a l).bind (fun b => scan m b r) := by
 induction l with
 | nil => intro a; rfl
 | cons c l ih =>
   intro a
   rw [List.cons_append, scan, scan]
   split
   · exact ih _
   · rfl
theorem scan_one (m a : Nat) (c : UInt8) : scan m a [c] = if dv c ≤ 9 ∧ a ≤ (m - dv c) / 10 then some (10 * a + dv c) else none := by
 rw [scan]; rfl
theorem scan_dec {m : Nat} (hm : 9 ≤ m) : ∀ u, u ≤ m → scan m 0 (decDigits u) = some u := by
 intro u
 induction u using Nat.strongRecOn with
 | _ u ih =>
   intro hu
   by_cases h : u < 10
   · rw [decDigits, dif_pos h, scan_one, dv_digit (by omega), if_pos ⟨by omega, by omega⟩]
     congr 1; omega
   · rw [decDigits, dif_neg h, scan_append, ih (u / 10) (by omega) (by omega)]
     show scan m (u / 10) _ = _
     rw [scan_one, dv_digit (by omega), if_pos ⟨by omega, by omega⟩]
     congr 1; omega
theorem dec_ne (u : Nat) : decDigits u ≠ [] := by
 rw [decDigits]; split <;> simp
theorem dec_digits (u : Nat) : ∀ c ∈ decDigits u, dv c ≤ 9 := by
 induction u using Nat.strongRecOn with
 | _ u ih =>
   intro c hc
   by_cases h : u < 10
   · rw [decDigits, dif_pos h] at hc
     simp only [List.mem_singleton] at hc
     rw [hc, dv_digit (by omega)]; omega
   · rw [decDigits, dif_neg h] at hc
     rcases List.mem_append.1 hc with h1 | h1
     · exact ih (u / 10) (by omega) c h1
     · simp only [List.mem_singleton] at h1
       rw [h1, dv_digit (by omega)]; omega
theorem dec_head (u : Nat) (hu : u ≠ 0) : (decDigits u).head? ≠ some 48 := by
 induction u using Nat.strongRecOn with
 | _ u ih =>
   by_cases h : u < 10
   · rw [decDigits, dif_pos h]
     intro e
     have e' : UInt8.ofNat (48 + u) = 48 := by simpa using e
     have := congrArg UInt8.toNat e'
     rw [UInt8.toNat_ofNat'] at this
     have t : (48 : UInt8).toNat = 48 := rfl
     omega
   · rw [decDigits, dif_neg h]
     have h0 := dec_ne (u / 10)
     rw [List.head?_append]
     have h1 := ih (u / 10) (by omega) (by omega)
     cases hd : (decDigits (u / 10)).head? with
     | none => exact absurd (List.head?_eq_none_iff.1 hd) h0
     | some c => rw [hd] at h1; simpa using h1
theorem scan_back {m : Nat} (hm : 9 ≤ m) : ∀ (n : Nat) (ds : List UInt8), ds.length = n → ds ≠ [] → (ds.head? = some 48 → ds = [48]) → ∀ v, scan m 0 ds = some v → decDigits v = ds ∧ v ≤ m := by
 intro n
 induction n with
 | zero => intro ds hl h0; exact absurd (List.length_eq_zero_iff.1 hl) h0
 | succ n ih =>
   intro ds hl h0 hz v hv
   obtain ⟨l, c, rfl⟩ : ∃ l c, ds = l ++ [c] := ⟨ds.dropLast, ds.getLast h0, (List.dropLast_concat_getLast h0).symm⟩
   rw [scan_append] at hv
   cases hb : scan m 0 l with
   | none => rw [hb] at hv; cases hv
   | some b =>
     rw [hb] at hv
     have hv' : scan m b [c] = some v := hv
     rw [scan_one] at hv'
     split at hv'
     · rename_i hc
       have ev : 10 * b + dv c = v := by simpa using hv'
       by_cases hl0 : l = []
       · subst hl0
         have e0 : b = 0 := by have : some 0 = some b := hb; simpa using this.symm
         subst e0
         refine ⟨?_, by omega⟩
         rw [decDigits, dif_pos (by omega), ← ev, Nat.mul_zero, Nat.zero_add, digit_dv hc.1]
         rfl
       · have hl1 : l.length = n := by simpa using hl
         have hh : (l ++ [c]).head? = l.head? := by
           cases l with
           | nil => exact absurd rfl hl0
           | cons a r => rfl
         have hz' : l.head? ≠ some 48 := by
           intro e
           have := hz (by rw [hh]; exact e)
           have t := congrArg List.length this
           simp at t
           exact hl0 (by simpa using t)
         obtain ⟨hd, _⟩ := ih l hl1 hl0 (fun e => absurd e hz') b hb
         have hb0 : b ≠ 0 := by
           intro e
           subst e
           rw [decDigits, dif_pos (by omega)] at hd
           exact hz' (by rw [← hd]; rfl)
         refine ⟨?_, by omega⟩
         rw [decDigits, dif_neg (by omega), show v / 10 = b by omega, hd, show v % 10 = dv c by omega, digit_dv hc.1]
     · cases hv'
def far (neg : Bool) : Nat := if neg then 9223372036854775808 else 9223372036854775807
theorem far_ge (neg : Bool) : 9 ≤ far neg := by unfold far; split <;> omega
theorem far_le (neg : Bool) : far neg ≤ 9223372036854775808 := by unfold far; split <;> omega
def rdInt (l : List UInt8) : Option Int :=
 let neg := hasPrefix l [45]
 let ds := trimPrefix l [45]
 if ds = [] ∨ (ds.head? = some 48 ∧ l ≠ [48]) then none
 else (scan (far neg) 0 ds).map fun (v : Nat) => if neg then -(v : Int) else (v : Int)
def InR (n : Int) : Prop := -9223372036854775808 ≤ n ∧ n ≤ 9223372036854775807
theorem pre_cons (l : List UInt8) : hasPrefix (45 :: l) [45] = true ∧ trimPrefix (45 :: l) [45] = l := by
 constructor
 · simp [hasPrefix]
 · simp [trimPrefix, hasPrefix]
theorem pre_not {l : List UInt8} (h : l.head? ≠ some 45) : hasPrefix l [45] = false ∧ trimPrefix l [45] = l := by
 have e : hasPrefix l [45] = false := by
   cases l with
   | nil => rfl
   | cons a r =>
     have h' : ¬ a = 45 := fun e => h (by rw [e]; rfl)
     have hb : ((45 : UInt8) == a) = false := by rw [beq_eq_false_iff_ne]; exact fun e => h' (Eq.symm e)
     show ((45 : UInt8) == a && _) = false
     rw [hb]; rfl
 exact ⟨e, by simp [trimPrefix, e]⟩
theorem dec_head45 (u : Nat) : (decDigits u).head? ≠ some 45 := by
 intro e
 obtain ⟨c, hc⟩ : ∃ r, decDigits u = 45 :: r := by
   cases h : decDigits u with
   | nil => rw [h] at e; cases e
   | cons a r => rw [h] at e; simp at e; exact ⟨r, by rw [e]⟩
 have := dec_digits u 45 (by rw [hc]; simp)
 revert this; decide
theorem rd_itoa {n : Int} (h : InR n) : rdInt (itoa n) = some n := by
 obtain ⟨h1, h2⟩ := h
 by_cases hn : n < 0
 · obtain ⟨u, rfl⟩ : ∃ u : Nat, n = -(u : Int) := ⟨n.natAbs, by omega⟩
   rw [itoa_neg u (by omega)]
   unfold rdInt
   rw [(pre_cons _).1, (pre_cons _).2]
   simp only []
   rw [if_neg (by
     rintro (e | ⟨e, _⟩)
     · exact dec_ne u e
     · exact dec_head u (by omega) e), scan_dec (far_ge _) u (by unfold far; simp; omega)]
   rfl
 · obtain ⟨u, rfl⟩ : ∃ u : Nat, n = (u : Int) := ⟨n.toNat, by omega⟩
   rw [itoa_nonneg]
   unfold rdInt
   obtain ⟨e1, e2⟩ := pre_not (dec_head45 u)
   rw [e1, e2]
   simp only []
   rw [if_neg (by
     rintro (e | ⟨e, hne⟩)
     · exact dec_ne u e
     · by_cases h0 : u = 0
       · subst h0; exact hne (by rw [decDigits]; rfl)
       · exact dec_head u h0 e), scan_dec (far_ge _) u (by unfold far; simp; omega)]
   rfl
theorem itoa_rd {l : List UInt8} {n : Int} (h : rdInt l = some n) : InR n ∧ itoa n = l := by
 unfold rdInt at h
 simp only [] at h
 split at h
 · cases h
 rename_i hc
 cases hs : scan (far (hasPrefix l [45])) 0 (trimPrefix l [45]) with
 | none => rw [hs] at h; cases h
 | some v =>
   rw [hs] at h
   by_cases hp : l.head? = some 45
   · obtain ⟨r, rfl⟩ : ∃ r, l = 45 :: r := by
       cases l with
       | nil => cases hp
       | cons a r => simp at hp; exact ⟨r, by rw [hp]⟩
     rw [(pre_cons r).1, (pre_cons r).2] at *
     have hv : -(v : Int) = n := by simpa using h
     have h0 : r ≠ [] := fun e => hc (Or.inl e)
     have hz : r.head? = some 48 → r = [48] := fun e => absurd (Or.inr ⟨e, by simp⟩) hc
     have hz' : r.head? ≠ some 48 := fun e => hc (Or.inr ⟨e, by simp⟩)
     obtain ⟨hd, hm⟩ := scan_back (far_ge _) _ r rfl h0 hz v hs
     have hv0 : v ≠ 0 := by
       intro e; subst e
       rw [decDigits, dif_pos (by omega)] at hd
       exact hz' (by rw [← hd]; rfl)
     have hm' : v ≤ 9223372036854775808 := hm
     refine ⟨⟨by omega, by omega⟩, ?_⟩
     rw [← hv, itoa_neg v (by omega), hd]
   · obtain ⟨e1, e2⟩ := pre_not hp
     rw [e1, e2] at hs
     rw [e1] at h
     rw [e2] at hc
     have hv : (v : Int) = n := by simpa using h
     have h0 : l ≠ [] := fun e => hc (Or.inl e)
     have hz : l.head? = some 48 → l = [48] := fun e => Classical.byContradiction fun ne => hc (Or.inr ⟨e, ne⟩)
     obtain ⟨hd, hm⟩ := scan_back (far_ge _) _ l rfl h0 hz v hs
     have hm' : v ≤ 9223372036854775807 := hm
     refine ⟨⟨by omega, by omega⟩, ?_⟩
     rw [← hv, itoa_nonneg, hd]
theorem itoa_no98 (n : Int) : ∀ c ∈ itoa n, c ≠ 98 := by
 intro c hc e
 subst e
 have key : ∀ u, (98 : UInt8) ∉ decDigits u := fun u h => by
   have := dec_digits u 98 h
   revert this; decide
 unfold itoa at hc
 split at hc
 · simp only [List.mem_cons] at hc
   rcases hc with h | h
   · revert h; decide
   · exact key _ h
 · exact key _ hc
def cutb : List UInt8 → Option (List UInt8 × List UInt8)
 | [] => none
 | c :: r => if c = 98 then some ([], r) else (cutb r).map fun p => (c :: p.1, p.2)
theorem cutb_none {l : List UInt8} (h : ∀ c ∈ l, c ≠ 98) : cutb l = none := by
 induction l with
 | nil => rfl
 | cons a r ih =>
   rw [cutb, if_neg (h a (by simp)), ih (fun c hc => h c (by simp [hc]))]
   rfl
theorem cutb_at {l r : List UInt8} (h : ∀ c ∈ l, c ≠ 98) : cutb (l ++ 98 :: r) = some (l, r) := by
 induction l with
 | nil => rw [List.nil_append, cutb, if_pos rfl]
 | cons a l ih =>
   rw [List.cons_append, cutb, if_neg (h a (by simp)), ih (fun c hc => h c (by simp [hc]))]
   rfl
theorem cutb_some {l h t : List UInt8} (e : cutb l = some (h, t)) : l = h ++ 98 :: t := by
 induction l generalizing h t with
 | nil => cases e
 | cons a l ih =>
   rw [cutb] at e
   split at e
   · rename_i ha
     simp at e
     obtain ⟨rfl, rfl⟩ := e
     rw [ha]; rfl
   · cases hc : cutb l with
     | none => rw [hc] at e; cases e
     | some p =>
       rw [hc] at e
       simp at e
       obtain ⟨rfl, rfl⟩ := e
       rw [ih hc]; rfl
theorem cutb_index : ∀ (l : List UInt8), (cutb l = none ∧ indexByte l 98 = -1) ∨ ∃ i : Nat, indexByte l 98 = (i : Int) ∧ i < l.length ∧ cutb l = some (l.take i, l.drop (i + 1)) := by
 intro l
 induction l with
 | nil => exact Or.inl ⟨rfl, rfl⟩
 | cons a r ih =>
   by_cases ha : a = 98
   · exact Or.inr ⟨0, by rw [indexByte, if_pos (by simp [ha])]; rfl, by simp, by rw [cutb, if_pos ha]; rfl⟩
   · have hb : ¬ ((a == 98) = true) := by simpa using ha
     rcases ih with ⟨e1, e2⟩ | ⟨i, e1, e2, e3⟩
     · exact Or.inl ⟨by rw [cutb, if_neg ha, e1]; rfl, by rw [indexByte, if_neg hb, if_pos (by rw [e2]; rfl)]⟩
     · refine Or.inr ⟨i + 1, ?_, by simp; omega, ?_⟩
       · rw [indexByte, if_neg hb, e1, if_neg (by rw [beq_iff_eq]; omega)]
         omega
       · rw [cutb, if_neg ha, e3]; rfl
def rdTell (l : List UInt8) : Option (Int × Int) :=
 match cutb l with
 | none => (rdInt l).map fun n => (n, 0)
 | some (h, t) => (rdInt h).bind fun n => (rdInt t).map fun e => (n, e)
theorem tell_whole {n : Int} (h : InR n) : rdTell (itoa n) = some (n, 0) := by
 unfold rdTell
 rw [cutb_none (itoa_no98 n), rd_itoa h]; rfl
theorem tell_both {n e : Int} (h : InR n) (he : InR e) : rdTell (itoa n ++ 98 :: itoa e) = some (n, e) := by
 unfold rdTell
 rw [cutb_at (itoa_no98 n)]
 show ((rdInt (itoa n)).bind fun n => (rdInt (itoa e)).map fun e => (n, e)) = _
 rw [rd_itoa h, rd_itoa he]; rfl
theorem tell_cases {l : List UInt8} {n e : Int} (h : rdTell l = some (n, e)) : InR n ∧ InR e ∧ ((l = itoa n ∧ e = 0) ∨ l = itoa n ++ 98 :: itoa e) := by
 unfold rdTell at h
 cases hc : cutb l with
 | none =>
   rw [hc] at h
   cases hr : rdInt l with
   | none => rw [hr] at h; cases h
   | some m =>
     rw [hr] at h
     simp at h
     obtain ⟨rfl, rfl⟩ := h
     obtain ⟨h1, h2⟩ := itoa_rd hr
     exact ⟨h1, ⟨by omega, by omega⟩, Or.inl ⟨h2.symm, rfl⟩⟩
 | some p =>
   obtain ⟨a, b⟩ := p
   rw [hc] at h
   cases ha : rdInt a with
   | none => simp [ha] at h
   | some m =>
     cases hb : rdInt b with
     | none => simp [ha, hb] at h
     | some k =>
       simp [ha, hb] at h
       obtain ⟨rfl, rfl⟩ := h
       obtain ⟨h1, h2⟩ := itoa_rd ha
       obtain ⟨h3, h4⟩ := itoa_rd hb
       exact ⟨h1, h3, Or.inr (by rw [cutb_some hc, h2, h4])⟩
theorem tell_length {l : List UInt8} {p : Int × Int} (h : rdTell l = some p) : l.length ≤ 43 := by
 obtain ⟨n, e⟩ := p
 obtain ⟨h1, h2, h3⟩ := tell_cases h
 have a := itoa_length_le n h1.1 h1.2
 have b := itoa_length_le e h2.1 h2.2
 rcases h3 with ⟨rfl, _⟩ | rfl
 · omega
 · simp; omega
end

/- The library's contracts for strconv.Itoa and strings.CutPrefix, laid at this program: tables of numbers, and facts of the program's own; each contract is one application of a theorem of the guide's library. -/
section
open Go.Shelf Go.Proofs
def Tryd.lays103_ren : Go.Shelf.Ren := ⟨fun | 103 => 92 | 210 => 106 | 206 => 88 | n => n, fun | 9 => 9 | 4 => 4 | 24 => 92 | 3 => 3 | n => n, fun | n => n⟩
theorem Tryd.lays103 : Go.Proofs.Lays.n103 Tryd.prog Tryd.lays103_ren := {
 mixed := by kernel_rfl
 f103 := Tryd.func92.trans (congrArg some (by kernel_rfl))
 f206 := Tryd.func88.trans (congrArg some (by kernel_rfl))
 f210 := Tryd.func106.trans (congrArg some (by kernel_rfl))
 t3 := Tryd.underlying3
 a3 := Tryd.isAgg3
 z3 := Tryd.sizeOf3
 v3 := Tryd.zeroValue3
 t4 := Tryd.underlying4
 a4 := Tryd.isAgg4
 z4 := Tryd.sizeOf4
 v4 := Tryd.zeroValue4
 t9 := Tryd.underlying9
 a9 := Tryd.isAgg9
 z9 := Tryd.sizeOf9
 v9 := Tryd.zeroValue9
 t24 := Tryd.underlying92
 a24 := Tryd.isAgg92
 z24 := Tryd.sizeOf92
 v24 := Tryd.zeroValue92 }
open Go.RowKit in
theorem Tryd.strings_CutPrefix (s p : ByteArray) (w : World) :
   Calls Tryd.prog 92 #[.string s, .string p] w fun e w' => e = .returned (.tuple #[.string ⟨(Lib.trimPrefix s.data.toList p.data.toList).toArray⟩, .bool (Lib.hasPrefix s.data.toList p.data.toList)]) ∧ w' = w := Any.strings_CutPrefix Tryd.lays103 s p w
def Tryd.laysM171_ren : Go.Shelf.Ren := ⟨fun | 171 => 60 | 243 => 86 | 246 => 103 | 283 => 111 | 284 => 112 | 285 => 113 | 286 => 114 | 129 => 119 | 317 => 122 | 318 => 123 | 319 => 124 | 320 => 125 | 337 => 129 | 338 => 83 | n => n, fun | 3 => 3 | 9 => 9 | 2 => 2 | 4 => 4 | 171 => 158 | 0 => 0 | 53 => 105 | 37 => 71 | 5 => 5 | 173 => 160 | 212 => 173 | 51 => 169 | 20 => 20 | 213 => 174 | 46 => 51 | 232 => 182 | 233 => 151 | n => n, fun | 17 => 3 | 18 => 4 | 19 => 1 | n => n⟩
theorem Tryd.laysM171 : Go.Proofs.LaysM.n171 Tryd.prog Tryd.laysM171_ren := {
 mixed := by kernel_rfl
 f129 := Tryd.func119.trans (congrArg some (by kernel_rfl))
 f171 := Tryd.func60.trans (congrArg some (by kernel_rfl))
 f243 := Tryd.func86.trans (congrArg some (by kernel_rfl))
 f246 := Tryd.func103.trans (congrArg some (by kernel_rfl))
 f283 := Tryd.func111.trans (congrArg some (by kernel_rfl))
 f284 := Tryd.func112.trans (congrArg some (by kernel_rfl))
 f285 := Tryd.func113.trans (congrArg some (by kernel_rfl))
 f286 := Tryd.func114.trans (congrArg some (by kernel_rfl))
 f317 := Tryd.func122.trans (congrArg some (by kernel_rfl))
 f318 := Tryd.func123.trans (congrArg some (by kernel_rfl))
 f319 := Tryd.func124.trans (congrArg some (by kernel_rfl))
 f320 := Tryd.func125.trans (congrArg some (by kernel_rfl))
 f337 := Tryd.func129.trans (congrArg some (by kernel_rfl))
 f338 := Tryd.func83.trans (congrArg some (by kernel_rfl))
 t0 := Tryd.underlying0
 a0 := Tryd.isAgg0
 z0 := Tryd.sizeOf0
 v0 := Tryd.zeroValue0
 t2 := Tryd.underlying2
 a2 := Tryd.isAgg2
 z2 := Tryd.sizeOf2
 v2 := Tryd.zeroValue2
 t3 := Tryd.underlying3
 a3 := Tryd.isAgg3
 z3 := Tryd.sizeOf3
 v3 := Tryd.zeroValue3
 t4 := Tryd.underlying4
 a4 := Tryd.isAgg4
 z4 := Tryd.sizeOf4
 v4 := Tryd.zeroValue4
 t5 := Tryd.underlying5
 a5 := Tryd.isAgg5
 z5 := Tryd.sizeOf5
 v5 := Tryd.zeroValue5
 t9 := Tryd.underlying9
 a9 := Tryd.isAgg9
 z9 := Tryd.sizeOf9
 v9 := Tryd.zeroValue9
 t20 := Tryd.underlying20
 a20 := Tryd.isAgg20
 z20 := Tryd.sizeOf20
 v20 := Tryd.zeroValue20
 t37 := Tryd.underlying71
 a37 := Tryd.isAgg71
 z37 := Tryd.sizeOf71
 v37 := Tryd.zeroValue71
 t46 := Tryd.underlying51
 a46 := Tryd.isAgg51
 z46 := Tryd.sizeOf51
 v46 := Tryd.zeroValue51
 t51 := Tryd.underlying169
 a51 := Tryd.isAgg169
 z51 := Tryd.sizeOf169
 v51 := Tryd.zeroValue169
 t53 := Tryd.underlying105
 a53 := Tryd.isAgg105
 z53 := Tryd.sizeOf105
 v53 := Tryd.zeroValue105
 t171 := Tryd.underlying158
 a171 := Tryd.isAgg158
 z171 := Tryd.sizeOf158
 v171 := Tryd.zeroValue158
 t173 := Tryd.underlying160
 a173 := Tryd.isAgg160
 z173 := Tryd.sizeOf160
 v173 := Tryd.zeroValue160
 t212 := Tryd.underlying173
 a212 := Tryd.isAgg173
 z212 := Tryd.sizeOf173
 v212 := Tryd.zeroValue173
 t213 := Tryd.underlying174
 a213 := Tryd.isAgg174
 z213 := Tryd.sizeOf174
 t232 := Tryd.underlying182
 a232 := Tryd.isAgg182
 z232 := Tryd.sizeOf182
 v232 := Tryd.zeroValue182
 t233 := Tryd.underlying151
 a233 := Tryd.isAgg151
 z233 := Tryd.sizeOf151
 v233 := Tryd.zeroValue151
 g17 := by kernel_rfl
 g18 := by kernel_rfl
 g19 := by kernel_rfl
 i0 := by kernel_rfl
 i2 := by kernel_rfl
 i3 := by kernel_rfl
 i4 := by kernel_rfl
 i5 := by kernel_rfl
 i9 := by kernel_rfl
 i20 := by kernel_rfl
 i37 := by kernel_rfl
 i46 := by kernel_rfl
 i51 := by kernel_rfl
 i53 := by kernel_rfl
 i171 := by kernel_rfl
 i173 := by kernel_rfl
 i212 := by kernel_rfl
 i232 := by kernel_rfl
 i233 := by kernel_rfl
 m17 := by kernel_rfl
 m18 := by kernel_rfl
 m19 := by kernel_rfl }
open Go.RowKit Go.Sort Go.Lib in
theorem Tryd.strconv_Itoa (n : Int) (h0 : -9223372036854775808 ≤ n) (h1 : n ≤ 9223372036854775807) (w : World) (htab : Lib.TabIs Tryd.prog w "internal/strconv.uint64pow10" .u64 Lib.pow10Tab) :
   Calls Tryd.prog 60 #[.int .i64 n] w fun e w' => e = .returned (.string ⟨(Lib.itoa n).toArray⟩) ∧ ∃ k os, w' = grow (w.drewN k) os := Any.strconv_Itoa Tryd.laysM171 n h0 h1 w htab
end

/- A drawn region, operation by operation, where some are not wanted. -/
section
open Go
section
variable {P : Program} {ops : Array Oper} {Q : Exit → Act → World → Prop} {md : Region.Mode} {S : World → Prop}
end
end

/- A drawn region in which one box is laid while a chain of operations goes on. -/
section
open Go Go.RowKit
section
variable {P : Program} {ops : Array Oper} {Q : Exit → Act → World → Prop} {md : Region.Mode} {S : World → Prop}
end
def CB (W : World) (b : Nat) (cs : Array Value) (t : Nat) : Prop := W.heap[b]? = some (.cells cs t (0, 0))
theorem CB.lt {W : World} {b t : Nat} {cs : Array Value} (h : CB W b cs t) : b < W.heap.size := (Array.getElem?_eq_some_iff.1 h).1
theorem CB.later {W W' : World} {b t : Nat} {cs : Array Value} (h : CB W b cs t) (hb : Below W.heap.size W W') : CB W' b cs t := by
 unfold CB
 rw [hb.block b h.lt]; exact h
theorem CB.new (W : World) (cs : Array Value) (t : Nat) : CB (W.alloc (.cells cs t)) W.heap.size cs t := heap_alloc_new W _
theorem CB.cell {W : World} {b t : Nat} {cs : Array Value} (h : CB W b cs t) (i : Nat) (hi : i < cs.size) : W.cell? ⟨b, i, none⟩ = some cs[i] := by
 unfold CB at h
 simp [World.cell?, h, hi]
theorem CB.frozen {W : World} {b t : Nat} {cs : Array Value} (h : CB W b cs t) (i : Nat) : W.frozen? ⟨b, i, none⟩ = false := by
 unfold CB at h
 simp [World.frozen?, h]
theorem CB.set {W : World} {b t : Nat} {cs : Array Value} (h : CB W b cs t) (i : Nat) (v : Value) : CB (W.setCell ⟨b, i, none⟩ v) b (cs.set! i v) t := by
 unfold CB at h ⊢
 simp [World.setCell, Array.getElem?_modify, h]
theorem CB.drew {W : World} {b t : Nat} {cs : Array Value} (h : CB W b cs t) : CB W.drew b cs t := h
end

/- strings.Builder's WriteString and String: the library's contracts, laid at this program. (gen_yo.py) -/
section
open Go.Shelf Go.Proofs
def Tryd.laysB_ren : Go.Shelf.Ren := ⟨fun | 166 => 23 | 169 => 24 | 240 => 61 | 276 => 87 | n => n, fun | 9 => 9 | 3 => 3 | 4 => 4 | 0 => 0 | 20 => 20 | 72 => 73 | 76 => 80 | 70 => 70 | 37 => 71 | 75 => 79 | 127 => 130 | 164 => 141 | 5 => 5 | 80 => 82 | n => n, fun | n => n⟩
theorem Tryd.laysB166 : Go.Proofs.Lays.n166 Tryd.prog Tryd.laysB_ren := {
 mixed := by kernel_rfl
 f166 := Tryd.func23.trans (congrArg some (by kernel_rfl))
 f240 := Tryd.func61.trans (congrArg some (by kernel_rfl))
 f276 := Tryd.func87.trans (congrArg some (by kernel_rfl))
 t0 := Tryd.underlying0
 a0 := Tryd.isAgg0
 z0 := Tryd.sizeOf0
 v0 := Tryd.zeroValue0
 t3 := Tryd.underlying3
 a3 := Tryd.isAgg3
 z3 := Tryd.sizeOf3
 v3 := Tryd.zeroValue3
 t4 := Tryd.underlying4
 a4 := Tryd.isAgg4
 z4 := Tryd.sizeOf4
 v4 := Tryd.zeroValue4
 t9 := Tryd.underlying9
 a9 := Tryd.isAgg9
 z9 := Tryd.sizeOf9
 v9 := Tryd.zeroValue9
 t20 := Tryd.underlying20
 a20 := Tryd.isAgg20
 z20 := Tryd.sizeOf20
 v20 := Tryd.zeroValue20
 t37 := Tryd.underlying71
 a37 := Tryd.isAgg71
 z37 := Tryd.sizeOf71
 v37 := Tryd.zeroValue71
 t70 := Tryd.underlying70
 a70 := Tryd.isAgg70
 z70 := Tryd.sizeOf70
 v70 := Tryd.zeroValue70
 t72 := Tryd.underlying73
 a72 := Tryd.isAgg73
 z72 := Tryd.sizeOf73
 v72 := Tryd.zeroValue73
 t75 := Tryd.underlying79
 a75 := Tryd.isAgg79
 z75 := Tryd.sizeOf79
 v75 := Tryd.zeroValue79
 t164 := Tryd.underlying141
 a164 := Tryd.isAgg141
 z164 := Tryd.sizeOf141
 v164 := Tryd.zeroValue141 }
theorem Tryd.laysB169 : Go.Proofs.Lays.n169 Tryd.prog Tryd.laysB_ren := {
 mixed := by kernel_rfl
 f169 := Tryd.func24.trans (congrArg some (by kernel_rfl))
 t0 := Tryd.underlying0
 a0 := Tryd.isAgg0
 z0 := Tryd.sizeOf0
 v0 := Tryd.zeroValue0
 t3 := Tryd.underlying3
 a3 := Tryd.isAgg3
 z3 := Tryd.sizeOf3
 v3 := Tryd.zeroValue3
 t9 := Tryd.underlying9
 a9 := Tryd.isAgg9
 z9 := Tryd.sizeOf9
 v9 := Tryd.zeroValue9
 t37 := Tryd.underlying71
 a37 := Tryd.isAgg71
 z37 := Tryd.sizeOf71
 v37 := Tryd.zeroValue71
 t70 := Tryd.underlying70
 a70 := Tryd.isAgg70
 z70 := Tryd.sizeOf70
 v70 := Tryd.zeroValue70
 t72 := Tryd.underlying73
 a72 := Tryd.isAgg73
 z72 := Tryd.sizeOf73
 v72 := Tryd.zeroValue73
 t127 := Tryd.underlying130
 a127 := Tryd.isAgg130
 z127 := Tryd.sizeOf130
 v127 := Tryd.zeroValue130 }
theorem Tryd.laysB_extra : Builder.Extra Tryd.prog Tryd.laysB_ren := {
 sizeBuilder := by kernel_rfl
 liesBuilder := by kernel_rfl
 t5 := Tryd.underlying5
 a5 := Tryd.isAgg5
 z5 := Tryd.sizeOf5
 v5 := Tryd.zeroValue5
 infoByte := by kernel_rfl
 cellsByte := by kernel_rfl
 sizeByte := by kernel_rfl
 neB5 := by decide }
open Go.RowKit in
theorem writeStringY (B b : Nat) (bs : List Value) (s : ByteArray) (w : World) (h : Lib.IsBuilderF 73 5 B b bs w) (hlen : bs.length + s.size ≤ 140737488355328) (hBw : B ≤ w.heap.size) :
   Calls Tryd.prog 23 #[.pointer (some ⟨b, 0, none⟩), .string s] w fun e w' => e = .returned (.tuple #[.int .i64 s.size, .nilIface]) ∧ (Lib.BuilderAtF 73 5 B b (.pointer (some ⟨b, 0, none⟩)) (bs ++ Lib.strCells s) w' ∧ Below B w w' ∧ Lib.OthersKept 5 (some b) w w') := Any.Builder_WriteString_k Tryd.laysB166 Tryd.laysB_extra B b bs s w h hlen hBw
open Go.RowKit in
theorem stringY (B b : Nat) (l : List UInt8) (w : World) (h : Lib.IsBuilderF 73 5 B b (Lib.byteCells l) w) (hBw : B ≤ w.heap.size) :
   Calls Tryd.prog 24 #[.pointer (some ⟨b, 0, none⟩)] w fun e w' => e = .returned (.string ⟨l.toArray⟩) ∧ (Lib.IsBuilderF 73 5 B b (Lib.byteCells l) w' ∧ Below B w w') := Any.Builder_String_any_f Tryd.laysB169 Tryd.laysB_extra B b l w h hBw
end
end Go.Proofs.YtkgnlobakicnjaaDoor
