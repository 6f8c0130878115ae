/- Own texts, put together: Ja Sw Yh Bz Qr. -/
import Derived.Lib.ItoaMem
import Derived.Lib.ItoaLen
import Derived.Lib.Strings
import Derived.Lib.Bytealg
import Derived.WalkKit
import Derived.Shelf.Strings.SlTrimAscii
import Derived.Shelf.Strings.Prefix
import Derived.Test.YtkgnlobakicnjaaDoorProg
import Derived.Shelf.Strings.OnBuilder
import Derived.Shelf.Strings.BuilderK
import Derived.Shelf.LaysM
import Derived.Shelf.Strconv.Clone
import Derived.OwnWalk
namespace Go.Proofs.YtkgnlobakicnjaaDoor
/- Plain: whole numbers in texts, as the program reads them. No model in this text. -/
section
open Go.Lib
def dv (c : UInt8) : Nat := (c.toNat + 208) % 256
theorem dv_le {c : UInt8} : dv c ≤ 9 ↔ 48 ≤ c.toNat ∧ c.toNat ≤ 57 := by
 have h : c.toNat < 256 := c.toNat_lt
 unfold dv; omega
theorem dv_digit {d : Nat} (h : d ≤ 9) : dv (UInt8.ofNat (48 + d)) = d := by
 have e : (UInt8.ofNat (48 + d)).toNat = 48 + d := by rw [UInt8.toNat_ofNat']; omega
 unfold dv; rw [e]; omega
theorem digit_dv {c : UInt8} (h : dv c ≤ 9) : UInt8.ofNat (48 + dv c) = c := by
 have h' := dv_le.1 h
 have hc : c.toNat < 256 := c.toNat_lt
 have e : dv c = c.toNat - 48 := by unfold dv; omega
 apply UInt8.toNat.inj
 rw [UInt8.toNat_ofNat', e]
 omega
def scan (m : Nat) : Nat → List UInt8 → Option Nat
 | a, [] => some a
 | a, c :: r => if dv c ≤ 9 ∧ a ≤ (m - dv c) / 10 then scan m (10 * a + dv c) r else none
theorem scan_append (m : Nat) (l r : List UInt8) : ∀ a, scan m a (l ++ r) = (scan m a l).bind (fun b => scan m b r) := by
 induction l with
 | nil => intro a; rfl
 | cons c l ih =>
   intro a
   rw [List.cons_append, scan, scan]
   split
   · exact ih _
   · rfl
theorem scan_one (m a : Nat) (c : UInt8) : scan m a [c] = if dv c ≤ 9 ∧ a ≤ (m - dv c) / 10 then some (10 * a + dv c) else none := by
 rw [scan]; rfl
theorem scan_dec {m : Nat} (hm : 9 ≤ m) : ∀ u, u ≤ m → scan m 0 (decDigits u) = some u := by
 intro u
 induction u using Nat.strongRecOn with
 | _ u ih =>
   intro hu
   by_cases h : u < 10
   · rw [decDigits, dif_pos h, scan_one, dv_digit (by omega), if_pos ⟨by omega, by omega⟩]
     congr 1; omega
   · rw [decDigits, dif_neg h, scan_append, ih (u / 10) (by omega) (by omega)]
     show scan m (u / 10) _ = _
     rw [scan_one, dv_digit (by omega), if_pos ⟨by omega, by omega⟩]
     congr 1; omega
theorem dec_ne (u : Nat) : decDigits u ≠ [] := by
 rw [decDigits]; split <;> simp
theorem dec_digits (u : Nat) : ∀ c ∈ decDigits u, dv c ≤ 9 := by
 induction u using Nat.strongRecOn with
 | _ u ih =>
   intro c hc
   by_cases h : u < 10
   · rw [decDigits, dif_pos h] at hc
     simp only [List.mem_singleton] at hc
     rw [hc, dv_digit (by omega)]; omega
   · rw [decDigits, dif_neg h] at hc
     rcases List.mem_append.1 hc with h1 | h1
     · exact ih (u / 10) (by omega) c h1
     · simp only [List.mem_singleton] at h1
       rw [h1, dv_digit (by omega)]; omega
theorem dec_head (u : Nat) (hu : u ≠ 0) : (decDigits u).head? ≠ some 48 := by
 induction u using Nat.strongRecOn with
 | _ u ih =>
   by_cases h : u < 10
   · rw [decDigits, dif_pos h]
     intro e
     have e' : UInt8.ofNat (48 + u) = 48 := by simpa using e
     have := congrArg UInt8.toNat e'
     rw [UInt8.toNat_ofNat'] at this
     have t : (48 : UInt8).toNat = 48 := rfl
     omega
   · rw [decDigits, dif_neg h]
     have h0 := dec_ne (u / 10)
     rw [List.head?_append]
     have h1 := ih (u / 10) (by omega) (by omega)
     cases hd : (decDigits (u / 10)).head? with
     | none => exact absurd (List.head?_eq_none_iff.1 hd) h0
     | some c => rw [hd] at h1; simpa using h1
theorem scan_back {m : Nat} (hm : 9 ≤ m) : ∀ (n : Nat) (ds : List UInt8), ds.length = n → ds ≠ [] → (ds.head? = some 48 → ds = [48]) → ∀ v, scan m 0 ds = some v → decDigits v = ds ∧ v ≤ m := by
 intro n
 induction n with
 | zero => intro ds hl h0; exact absurd (List.length_eq_zero_iff.1 hl) h0
 | succ n ih =>
   intro ds hl h0 hz v hv
   obtain ⟨l, c, rfl⟩ : ∃ l c, ds = l ++ [c] := ⟨ds.dropLast, ds.getLast h0, (List.dropLast_concat_getLast h0).symm⟩
   rw [scan_append] at hv
   cases hb : scan m 0 l with
   | none => rw [hb] at hv; cases hv
   | some b =>
     rw [hb] at hv
     have hv' : scan m b [c] = some v := hv
     rw [scan_one] at hv'
     split at hv'
     · rename_i hc
       have ev : 10 * b + dv c = v := by simpa using hv'
       by_cases hl0 : l = []
       · subst hl0
         have e0 : b = 0 := by have : some 0 = some b := hb; simpa using this.symm
         subst e0
         refine ⟨?_, by omega⟩
         rw [decDigits, dif_pos (by omega), ← ev, Nat.mul_zero, Nat.zero_add, digit_dv hc.1]
         rfl
       · have hl1 : l.length = n := by simpa using hl
         have hh : (l ++ [c]).head? = l.head? := by
           cases l with
           | nil => exact absurd rfl hl0
           | cons a r => rfl
         have hz' : l.head? ≠ some 48 := by
           intro e
           have := hz (by rw [hh]; exact e)
           have t := congrArg List.length this
           simp at t
           exact hl0 (by simpa using t)
         obtain ⟨hd, _⟩ := ih l hl1 hl0 (fun e => absurd e hz') b hb
         have hb0 : b ≠ 0 := by
           intro e
           subst e
           rw [decDigits, dif_pos (by omega)] at hd
           exact hz' (by rw [← hd]; rfl)
         refine ⟨?_, by omega⟩
         rw [decDigits, dif_neg (by omega), show v / 10 = b by omega, hd, show v % 10 = dv c by omega, digit_dv hc.1]
     · cases hv'
def far (neg : Bool) : Nat := if neg then 9223372036854775808 else 9223372036854775807
theorem far_ge (neg : Bool) : 9 ≤ far neg := by unfold far; split <;> omega
theorem far_le (neg : Bool) : far neg ≤ 9223372036854775808 := by unfold far; split <;> omega
def rdInt (l : List UInt8) : Option Int :=
 let neg := hasPrefix l [45]
 let ds := trimPrefix l [45]
 if ds = [] ∨ (ds.head? = some 48 ∧ l ≠ [48]) then none
 else (scan (far neg) 0 ds).map fun (v : Nat) => if neg then -(v : Int) else (v : Int)
def InR (n : Int) : Prop := -9223372036854775808 ≤ n ∧ n ≤ 9223372036854775807
theorem pre_cons (l : List UInt8) : hasPrefix (45 :: l) [45] = true ∧ trimPrefix (45 :: l) [45] = l := by
 constructor
 · simp [hasPrefix]
 · simp [trimPrefix, hasPrefix]
theorem pre_not {l : List UInt8} (h : l.head? ≠ some 45) : hasPrefix l [45] = false ∧ trimPrefix l [45] = l := by
 have e : hasPrefix l [45] = false := by
   cases l with
   | nil => rfl
   | cons a r =>
     have h' : ¬ a = 45 := fun e => h (by rw [e]; rfl)
     have hb : ((45 : UInt8) == a) = false := by rw [beq_eq_false_iff_ne]; exact fun e => h' (Eq.symm e)
     show ((45 : UInt8) == a && _) = false
     rw [hb]; rfl
 exact ⟨e, by simp [trimPrefix, e]⟩
theorem dec_head45 (u : Nat) : (decDigits u).head? ≠ some 45 := by
 intro e
 obtain ⟨c, hc⟩ : ∃ r, decDigits u = 45 :: r := by
   cases h : decDigits u with
   | nil => rw [h] at e; cases e
   | cons a r => rw [h] at e; simp at e; exact ⟨r, by rw [e]⟩
 have := dec_digits u 45 (by rw [hc]; simp)
 revert this; decide
theorem rd_itoa {n : Int} (h : InR n) : rdInt (itoa n) = some n := by
 obtain ⟨h1, h2⟩ := h
 by_cases hn : n < 0
 · obtain ⟨u, rfl⟩ : ∃ u : Nat, n = -(u : Int) := ⟨n.natAbs, by omega⟩
   rw [itoa_neg u (by omega)]
   unfold rdInt
   rw [(pre_cons _).1, (pre_cons _).2]
   simp only []
   rw [if_neg (by
     rintro (e | ⟨e, _⟩)
     · exact dec_ne u e
     · exact dec_head u (by omega) e), scan_dec (far_ge _) u (by unfold far; simp; omega)]
   rfl
 · obtain ⟨u, rfl⟩ : ∃ u : Nat, n = (u : Int) := ⟨n.toNat, by omega⟩
   rw [itoa_nonneg]
   unfold rdInt
   obtain ⟨e1, e2⟩ := pre_not (dec_head45 u)
   rw [e1, e2]
   simp only []
   rw [if_neg (by
     rintro (e | ⟨e, hne⟩)
     · exact dec_ne u e
     · by_cases h0 : u = 0
       · subst h0; exact hne (by rw [decDigits]; rfl)
       · exact dec_head u h0 e), scan_dec (far_ge _) u (by unfold far; simp; omega)]
   rfl
theorem itoa_rd {l : List UInt8} {n : Int} (h : rdInt l = some n) : InR n ∧ itoa n = l := by
 unfold rdInt at h
 simp only [] at h
 split at h
 · cases h
 rename_i hc
 cases hs : scan (far (hasPrefix l [45])) 0 (trimPrefix l [45]) with
 | none => rw [hs] at h; cases h
 | some v =>
   rw [hs] at h
   by_cases hp : l.head? = some 45
   · obtain ⟨r, rfl⟩ : ∃ r, l = 45 :: r := by
       cases l with
       | nil => cases hp
       | cons a r => simp at hp; exact ⟨r, by rw [hp]⟩
     rw [(pre_cons r).1, (pre_cons r).2] at *
     have hv : -(v : Int) = n := by simpa using h
     have h0 : r ≠ [] := fun e => hc (Or.inl e)
     have hz : r.head? = some 48 → r = [48] := fun e => absurd (Or.inr ⟨e, by simp⟩) hc
     have hz' : r.head? ≠ some 48 := fun e => hc (Or.inr ⟨e, by simp⟩)
     obtain ⟨hd, hm⟩ := scan_back (far_ge _) _ r rfl h0 hz v hs
     have hv0 : v ≠ 0 := by
       intro e; subst e
       rw [decDigits, dif_pos (by omega)] at hd
       exact hz' (by rw [← hd]; rfl)
     have hm' : v ≤ 9223372036854775808 := hm
     refine ⟨⟨by omega, by omega⟩, ?_⟩
     rw [← hv, itoa_neg v (by omega), hd]
   · obtain ⟨e1, e2⟩ := pre_not hp
     rw [e1, e2] at hs
     rw [e1] at h
     rw [e2] at hc
     have hv : (v : Int) = n := by simpa using h
     have h0 : l ≠ [] := fun e => hc (Or.inl e)
     have hz : l.head? = some 48 → l = [48] := fun e => Classical.byContradiction fun ne => hc (Or.inr ⟨e, ne⟩)
     obtain ⟨hd, hm⟩ := scan_back (far_ge _) _ l rfl h0 hz v hs
     have hm' : v ≤ 9223372036854775807 := hm
     refine ⟨⟨by omega, by omega⟩, ?_⟩
     rw [← hv, itoa_nonneg, hd]
theorem rd_iff {l : List UInt8} {n : Int} : rdInt l = some n ↔ InR n ∧ itoa n = l :=
 ⟨itoa_rd, fun ⟨h, e⟩ => by rw [← e]; exact rd_itoa h⟩
theorem itoa_no98 (n : Int) : ∀ c ∈ itoa n, c ≠ 98 := by
 intro c hc e
 subst e
 have key : ∀ u, (98 : UInt8) ∉ decDigits u := fun u h => by
   have := dec_digits u 98 h
   revert this; decide
 unfold itoa at hc
 split at hc
 · simp only [List.mem_cons] at hc
   rcases hc with h | h
   · revert h; decide
   · exact key _ h
 · exact key _ hc
def cutb : List UInt8 → Option (List UInt8 × List UInt8)
 | [] => none
 | c :: r => if c = 98 then some ([], r) else (cutb r).map fun p => (c :: p.1, p.2)
theorem cutb_none {l : List UInt8} (h : ∀ c ∈ l, c ≠ 98) : cutb l = none := by
 induction l with
 | nil => rfl
 | cons a r ih =>
   rw [cutb, if_neg (h a (by simp)), ih (fun c hc => h c (by simp [hc]))]
   rfl
theorem cutb_at {l r : List UInt8} (h : ∀ c ∈ l, c ≠ 98) : cutb (l ++ 98 :: r) = some (l, r) := by
 induction l with
 | nil => rw [List.nil_append, cutb, if_pos rfl]
 | cons a l ih =>
   rw [List.cons_append, cutb, if_neg (h a (by simp)), ih (fun c hc => h c (by simp [hc]))]
   rfl
theorem cutb_some {l h t : List UInt8} (e : cutb l = some (h, t)) : l = h ++ 98 :: t := by
 induction l generalizing h t with
 | nil => cases e
 | cons a l ih =>
   rw [cutb] at e
   split at e
   · rename_i ha
     simp at e
     obtain ⟨rfl, rfl⟩ := e
     rw [ha]; rfl
   · cases hc : cutb l with
     | none => rw [hc] at e; cases e
     | some p =>
       rw [hc] at e
       simp at e
       obtain ⟨rfl, rfl⟩ := e
       rw [ih hc]; rfl
theorem cutb_index : ∀ (l : List UInt8), (cutb l = none ∧ indexByte l 98 = -1) ∨ ∃ i : Nat, indexByte l 98 = (i : Int) ∧ i < l.length ∧ cutb l = some (l.take i, l.drop (i + 1)) := by
 intro l
 induction l with
 | nil => exact Or.inl ⟨rfl, rfl⟩
 | cons a r ih =>
   by_cases ha : a = 98
   · exact Or.inr ⟨0, by rw [indexByte, if_pos (by simp [ha])]; rfl, by simp, by rw [cutb, if_pos ha]; rfl⟩
   · have hb : ¬ ((a == 98) = true) := by simpa using ha
     rcases ih with ⟨e1, e2⟩ | ⟨i, e1, e2, e3⟩
     · exact Or.inl ⟨by rw [cutb, if_neg ha, e1]; rfl, by rw [indexByte, if_neg hb, if_pos (by rw [e2]; rfl)]⟩
     · refine Or.inr ⟨i + 1, ?_, by simp; omega, ?_⟩
       · rw [indexByte, if_neg hb, e1, if_neg (by rw [beq_iff_eq]; omega)]
         omega
       · rw [cutb, if_neg ha, e3]; rfl
def rdTell (l : List UInt8) : Option (Int × Int) :=
 match cutb l with
 | none => (rdInt l).map fun n => (n, 0)
 | some (h, t) => (rdInt h).bind fun n => (rdInt t).map fun e => (n, e)
theorem tell_whole {n : Int} (h : InR n) : rdTell (itoa n) = some (n, 0) := by
 unfold rdTell
 rw [cutb_none (itoa_no98 n), rd_itoa h]; rfl
theorem tell_both {n e : Int} (h : InR n) (he : InR e) : rdTell (itoa n ++ 98 :: itoa e) = some (n, e) := by
 unfold rdTell
 rw [cutb_at (itoa_no98 n)]
 show ((rdInt (itoa n)).bind fun n => (rdInt (itoa e)).map fun e => (n, e)) = _
 rw [rd_itoa h, rd_itoa he]; rfl
theorem tell_cases {l : List UInt8} {n e : Int} (h : rdTell l = some (n, e)) : InR n ∧ InR e ∧ ((l = itoa n ∧ e = 0) ∨ l = itoa n ++ 98 :: itoa e) := by
 unfold rdTell at h
 cases hc : cutb l with
 | none =>
   rw [hc] at h
   cases hr : rdInt l with
   | none => rw [hr] at h; cases h
   | some m =>
     rw [hr] at h
     simp at h
     obtain ⟨rfl, rfl⟩ := h
     obtain ⟨h1, h2⟩ := itoa_rd hr
     exact ⟨h1, ⟨by omega, by omega⟩, Or.inl ⟨h2.symm, rfl⟩⟩
 | some p =>
   obtain ⟨a, b⟩ := p
   rw [hc] at h
   cases ha : rdInt a with
   | none => simp [ha] at h
   | some m =>
     cases hb : rdInt b with
     | none => simp [ha, hb] at h
     | some k =>
       simp [ha, hb] at h
       obtain ⟨rfl, rfl⟩ := h
       obtain ⟨h1, h2⟩ := itoa_rd ha
       obtain ⟨h3, h4⟩ := itoa_rd hb
       exact ⟨h1, h3, Or.inr (by rw [cutb_some hc, h2, h4])⟩
theorem tell_length {l : List UInt8} {p : Int × Int} (h : rdTell l = some p) : l.length ≤ 43 := by
 obtain ⟨n, e⟩ := p
 obtain ⟨h1, h2, h3⟩ := tell_cases h
 have a := itoa_length_le n h1.1 h1.2
 have b := itoa_length_le e h2.1 h2.2
 rcases h3 with ⟨rfl, _⟩ | rfl
 · omega
 · simp; omega
end

/- A list of bytes as a text. -/
section
open Go.RowKit
abbrev sv (l : List UInt8) : Value := .string ⟨l.toArray⟩
end

/- The library's contracts for strings.TrimLeft (at a set of plain bytes) and strings.TrimPrefix, laid at this program: tables of numbers, and facts of the program's own. (gen_yh.py) -/
section
open Go.Shelf Go.Proofs
def Tryd.lays161_ren : Go.Shelf.Ren := ⟨fun | 161 => 104 | 231 => 115 | 227 => 116 | 233 => 117 | 235 => 118 | 228 => 126 | 197 => 127 | 151 => 128 | 260 => 130 | 152 => 131 | 137 => 132 | 119 => 133 | 224 => 109 | 225 => 108 | 217 => 107 | 266 => 120 | n => n, fun | 9 => 9 | 4 => 4 | 3 => 3 | 5 => 5 | 117 => 165 | 116 => 164 | 0 => 0 | 124 => 168 | 105 => 177 | 21 => 21 | 119 => 183 | 46 => 51 | 139 => 186 | 138 => 185 | n => n, fun | 3 => 5 | 4 => 6 | n => n⟩
theorem Tryd.lays161 : Go.Proofs.Lays.n161 Tryd.prog Tryd.lays161_ren := {
 mixed := by kernel_rfl
 f119 := Tryd.func133.trans (congrArg some (by kernel_rfl))
 f137 := Tryd.func132.trans (congrArg some (by kernel_rfl))
 f151 := Tryd.func128.trans (congrArg some (by kernel_rfl))
 f152 := Tryd.func131.trans (congrArg some (by kernel_rfl))
 f161 := Tryd.func104.trans (congrArg some (by kernel_rfl))
 f197 := Tryd.func127.trans (congrArg some (by kernel_rfl))
 f217 := Tryd.func107.trans (congrArg some (by kernel_rfl))
 f224 := Tryd.func109.trans (congrArg some (by kernel_rfl))
 f225 := Tryd.func108.trans (congrArg some (by kernel_rfl))
 f227 := Tryd.func116.trans (congrArg some (by kernel_rfl))
 f228 := Tryd.func126.trans (congrArg some (by kernel_rfl))
 f231 := Tryd.func115.trans (congrArg some (by kernel_rfl))
 f233 := Tryd.func117.trans (congrArg some (by kernel_rfl))
 f235 := Tryd.func118.trans (congrArg some (by kernel_rfl))
 f260 := Tryd.func130.trans (congrArg some (by kernel_rfl))
 f266 := Tryd.func120.trans (congrArg some (by kernel_rfl))
 t0 := Tryd.underlying0
 a0 := Tryd.isAgg0
 z0 := Tryd.sizeOf0
 v0 := Tryd.zeroValue0
 t3 := Tryd.underlying3
 a3 := Tryd.isAgg3
 z3 := Tryd.sizeOf3
 v3 := Tryd.zeroValue3
 t4 := Tryd.underlying4
 a4 := Tryd.isAgg4
 z4 := Tryd.sizeOf4
 v4 := Tryd.zeroValue4
 t5 := Tryd.underlying5
 a5 := Tryd.isAgg5
 z5 := Tryd.sizeOf5
 v5 := Tryd.zeroValue5
 t9 := Tryd.underlying9
 a9 := Tryd.isAgg9
 z9 := Tryd.sizeOf9
 v9 := Tryd.zeroValue9
 t21 := Tryd.underlying21
 a21 := Tryd.isAgg21
 z21 := Tryd.sizeOf21
 v21 := Tryd.zeroValue21
 t46 := Tryd.underlying51
 a46 := Tryd.isAgg51
 z46 := Tryd.sizeOf51
 v46 := Tryd.zeroValue51
 t105 := Tryd.underlying177
 a105 := Tryd.isAgg177
 z105 := Tryd.sizeOf177
 v105 := Tryd.zeroValue177
 t116 := Tryd.underlying164
 a116 := Tryd.isAgg164
 z116 := Tryd.sizeOf164
 t117 := Tryd.underlying165
 a117 := Tryd.isAgg165
 z117 := Tryd.sizeOf165
 v117 := Tryd.zeroValue165
 t119 := Tryd.underlying183
 a119 := Tryd.isAgg183
 z119 := Tryd.sizeOf183
 t124 := Tryd.underlying168
 a124 := Tryd.isAgg168
 z124 := Tryd.sizeOf168
 v124 := Tryd.zeroValue168
 t138 := Tryd.underlying185
 a138 := Tryd.isAgg185
 z138 := Tryd.sizeOf185
 v138 := Tryd.zeroValue185
 t139 := Tryd.underlying186
 a139 := Tryd.isAgg186
 z139 := Tryd.sizeOf186
 v139 := Tryd.zeroValue186
 g3 := by kernel_rfl
 g4 := by kernel_rfl }
def Tryd.lays101_ren : Go.Shelf.Ren := ⟨fun | 101 => 31 | 208 => 62 | 206 => 88 | n => n, fun | 9 => 9 | 4 => 4 | 3 => 3 | n => n, fun | n => n⟩
theorem Tryd.lays101 : Go.Proofs.Lays.n101 Tryd.prog Tryd.lays101_ren := {
 mixed := by kernel_rfl
 f101 := Tryd.func31.trans (congrArg some (by kernel_rfl))
 f206 := Tryd.func88.trans (congrArg some (by kernel_rfl))
 f208 := Tryd.func62.trans (congrArg some (by kernel_rfl))
 t3 := Tryd.underlying3
 a3 := Tryd.isAgg3
 z3 := Tryd.sizeOf3
 v3 := Tryd.zeroValue3
 t4 := Tryd.underlying4
 a4 := Tryd.isAgg4
 z4 := Tryd.sizeOf4
 v4 := Tryd.zeroValue4
 t9 := Tryd.underlying9
 a9 := Tryd.isAgg9
 z9 := Tryd.sizeOf9
 v9 := Tryd.zeroValue9 }
open Go.RowKit Go.Lib in
theorem trimLeft_any (s cs : ByteArray) (w : World) (hcs : cs.size < 4294967281) (ha : ∀ (j : Nat) b, cs.data.toList[j]? = some b → b.toNat < 128) :
   Calls Tryd.prog 104 #[.string s, .string cs] w fun e w' => e = .returned (sv (Lib.trimLeftS s.data.toList cs.data.toList)) ∧ Below w.heap.size w w' :=
 Any.strings_TrimLeft_laid Tryd.lays161 (by kernel_rfl) s cs w hcs ha
open Go.RowKit Go.Lib in
theorem trimPrefix_any (s p : ByteArray) (w : World) :
   Calls Tryd.prog 31 #[.string s, .string p] w fun e w' => e = .returned (sv (Lib.trimPrefix s.data.toList p.data.toList)) ∧ w' = w :=
 Any.strings_TrimPrefix Tryd.lays101 s p w
end

/- The library's contracts for strings.Builder, strings.Join and strings.Clone, laid at this program: tables of numbers, and facts of the program's own; each contract is one application of a theorem of the guide's library. -/
section
set_option maxRecDepth 100000
open Go.Shelf Go.Proofs
open Go.RowKit in
open Go.RowKit in
open Go.RowKit in
open Go.RowKit in
open Go.RowKit in
open Go.RowKit in
open Go.RowKit in
end

/- An append in a drawn region. -/
section
open Go.RowKit
theorem wp_append_own {P : Program} {o : Oper} {aa : Act} {w : World} {K : Act → World → Prop} {Q : Exit → Act → World → Prop} (s x : Operand) (t : TypeId) (ho : o.op = .call { callee := .builtin .append, args := #[s, x], argTypes := #[t, t] })
   (base : Nat) (e : TypeId) (i : TypeInfo) (z : Value) (size bytes : Nat) (ht : P.underlying t = some (.slice e)) (hi : P.info? e = some i) (hz : i.zero = some z) (hsize : i.size = size) (hby : i.bytes = bytes) (hzs : z.cells.size = size) (hsz : 0 < size)
   (v : Value) (n : Nat) (xs : List Value) (hs : aa.eval s = v) (hown : w.ownsRow base e size v n xs) (ad : Addr) (m c : Nat) (news : List Value) (hx : aa.eval x = .slice (some ad) m c) (hl : news.length = m * size) (hnews : ∀ j u, news[j]? = some u → w.cell? (ad.add j) = some u) (h1 : ∀ u ∈ news, u.oneCell' = true)
   (h63 : n + m ≤ maxLen) (hbytes : (n + m) * bytes ≤ 140737488355328) (hbase : base ≤ w.heap.size)
   (h : ∀ v' w', w'.ownsRow base e size v' (n + m) (xs ++ news) → w.grownBy w' v.ownBlock → K (aa.put o.dst v') w') : Oper.wp P o aa w K Q := by
 obtain ⟨v', w', hr, h2, h3, h4⟩ := run_append_own (P := P) w base t o.type e i z size bytes ht hi hz hsize hby hzs hsz v n xs hown ad m c news hl hnews h1 h63 hbytes hbase
 unfold Oper.wp execOp
 simp only [ho, resolve, invoke, builtin, Sem.run_bind, Sem.run_pure, Result.andThen_ok, List.map_toArray, List.map_cons, List.map_nil, hs, hx, hr]
 exact h v' w' h2 h3
end
end Go.Proofs.YtkgnlobakicnjaaDoor
