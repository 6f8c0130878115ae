/- Own texts, put together: Ja Ba Bz Lk Ln Tk. -/
import Derived.Lib.ItoaMem
import Derived.Lib.ItoaLen
import Derived.Lib.Strings
import Derived.Lib.Bytealg
import Derived.Shelf.Strings.OnBuilder
import Derived.Shelf.Strings.BuilderK
import Derived.Shelf.LaysM
import Derived.Shelf.Strconv.Clone
import Derived.Test.YtgoadpnoagaflaaDoorProg
import Derived.Deep.RegionHeld3
import Derived.Below
import Derived.KernelRfl
import Derived.Tactics
namespace Go.Proofs.YtgoadpnoagaflaaDoor
/- Plain: whole numbers in texts, as the program reads them. No model in this text. -/
section
open Go.Lib
def dv (c : UInt8) : Nat := (c.toNat + 208) % 256
theorem dv_le {c : UInt8} : dv c ≤ 9 ↔ 48 ≤ c.toNat ∧ c.toNat ≤ 57 := by
 have h : c.toNat < 256 := c.toNat_lt
 unfold dv; omega
theorem dv_digit {d : Nat} (h : d ≤ 9) : dv (UInt8.ofNat (48 + d)) = d := by
 have e : (UInt8.ofNat (48 + d)).toNat = 48 + d := by rw [UInt8.toNat_ofNat']; omega
 unfold dv; rw [e]; omega
theorem digit_dv {c : UInt8} (h : dv c ≤ 9) : UInt8.ofNat (48 + dv c) = c := by
 have h' := dv_le.1 h
 have hc : c.toNat < 256 := c.toNat_lt
 have e : dv c = c.toNat - 48 := by unfold dv; omega
 apply UInt8.toNat.inj
 rw [UInt8.toNat_ofNat', e]
 omega
def scan (m : Nat) : Nat → List UInt8 → Option Nat
 | a, [] => some a
 | a, c :: r => if dv c ≤ 9 ∧ a ≤ (m - dv c) / 10 then scan m (10 * a + dv c) r else none
theorem scan_append (m : Nat) (l r : List UInt8) : ∀ a, scan m a (l ++ r) = (scan m a l).bind (fun b => scan m b r) := by
 induction l with
 | nil => intro a; rfl
 | cons c l ih =>
   intro a
   rw [List.cons_append, scan, scan]
   split
   · exact ih _
   · rfl
theorem scan_one (m a : Nat) (c : UInt8) : scan m a [c] = if dv c ≤ 9 ∧ a ≤ (m - dv c) / 10 then some (10 * a + dv c) else none := by
 rw [scan]; rfl
theorem scan_dec {m : Nat} (hm : 9 ≤ m) : ∀ u, u ≤ m → scan m 0 (decDigits u) = some u := by
 intro u
 induction u using Nat.strongRecOn with
 | _ u ih =>
   intro hu
   by_cases h : u < 10
   · rw [decDigits, dif_pos h, scan_one, dv_digit (by omega), if_pos ⟨by omega, by omega⟩]
     congr 1; omega
   · rw [decDigits, dif_neg h, scan_append, ih (u / 10) (by omega) (by omega)]
     show scan m (u / 10) _ = _
     rw [scan_one, dv_digit (by omega), if_pos ⟨by omega, by omega⟩]
     congr 1; omega
theorem dec_ne (u : Nat) : decDigits u ≠ [] := by
 rw [decDigits]; split <;> simp
theorem dec_digits (u : Nat) : ∀ c ∈ decDigits u, dv c ≤ 9 := by
 induction u using Nat.strongRecOn with
 | _ u ih =>
   intro c hc
   by_cases h : u < 10
   · rw [decDigits, dif_pos h] at hc
     simp only [List.mem_singleton] at hc
     rw [hc, dv_digit (by omega)]; omega
   · rw [decDigits, dif_neg h] at hc
     rcases List.mem_append.1 hc with h1 | h1
     · exact ih (u / 10) (by omega) c h1
     · simp only [List.mem_singleton] at h1
       rw [h1, dv_digit (by omega)]; omega
theorem dec_head (u : Nat) (hu : u ≠ 0) : (decDigits u).head? ≠ some 48 := by
 induction u using Nat.strongRecOn with
 | _ u ih =>
   by_cases h : u < 10
   · rw [decDigits, dif_pos h]
     intro e
     have e' : UInt8.ofNat (48 + u) = 48 := by simpa using e
     have := congrArg UInt8.toNat e'
     rw [UInt8.toNat_ofNat'] at this
     have t : (48 : UInt8).toNat = 48 := rfl
     omega
   · rw [decDigits, dif_neg h]
     have h0 := dec_ne (u / 10)
     rw [List.head?_append]
     have h1 := ih (u / 10) (by omega) (by omega)
     cases hd : (decDigits (u / 10)).head? with
     | none => exact absurd (List.head?_eq_none_iff.1 hd) h0
     | some c => rw [hd] at h1; simpa using h1
theorem scan_back {m : Nat} (hm : 9 ≤ m) : ∀ (n : Nat) (ds : List UInt8), ds.length = n → ds ≠ [] → (ds.head? = some 48 → ds = [48]) → ∀ v, scan m 0 ds = some v → decDigits v = ds ∧ v ≤ m := by
 intro n
 induction n with
 | zero => intro ds hl h0; exact absurd (List.length_eq_zero_iff.1 hl) h0
 | succ n ih =>
   intro ds hl h0 hz v hv
   obtain ⟨l, c, rfl⟩ : ∃ l c, ds = l ++ [c] := ⟨ds.dropLast, ds.getLast h0, (List.dropLast_concat_getLast h0).symm⟩
   rw [scan_append] at hv
   cases hb : scan m 0 l with
   | none => rw [hb] at hv; cases hv
   | some b =>
     rw [hb] at hv
     have hv' : scan m b [c] = some v := hv
     rw [scan_one] at hv'
     split at hv'
     · rename_i hc
       have ev : 10 * b + dv c = v := by simpa using hv'
       by_cases hl0 : l = []
       · subst hl0
         have e0 : b = 0 := by have : some 0 = some b := hb; simpa using this.symm
         subst e0
         refine ⟨?_, by omega⟩
         rw [decDigits, dif_pos (by omega), ← ev, Nat.mul_zero, Nat.zero_add, digit_dv hc.1]
         rfl
       · have hl1 : l.length = n := by simpa using hl
         have hh : (l ++ [c]).head? = l.head? := by
           cases l with
           | nil => exact absurd rfl hl0
           | cons a r => rfl
         have hz' : l.head? ≠ some 48 := by
           intro e
           have := hz (by rw [hh]; exact e)
           have t := congrArg List.length this
           simp at t
           exact hl0 (by simpa using t)
         obtain ⟨hd, _⟩ := ih l hl1 hl0 (fun e => absurd e hz') b hb
         have hb0 : b ≠ 0 := by
           intro e
           subst e
           rw [decDigits, dif_pos (by omega)] at hd
           exact hz' (by rw [← hd]; rfl)
         refine ⟨?_, by omega⟩
         rw [decDigits, dif_neg (by omega), show v / 10 = b by omega, hd, show v % 10 = dv c by omega, digit_dv hc.1]
     · cases hv'
def far (neg : Bool) : Nat := if neg then 9223372036854775808 else 9223372036854775807
theorem far_ge (neg : Bool) : 9 ≤ far neg := by unfold far; split <;> omega
theorem far_le (neg : Bool) : far neg ≤ 9223372036854775808 := by unfold far; split <;> omega
def rdInt (l : List UInt8) : Option Int :=
 let neg := hasPrefix l [45]
 let ds := trimPrefix l [45]
 if ds = [] ∨ (ds.head? = some 48 ∧ l ≠ [48]) then none
 else (scan (far neg) 0 ds).map fun (v : Nat) => if neg then -(v : Int) else (v : Int)
def InR (n : Int) : Prop := -9223372036854775808 ≤ n ∧ n ≤ 9223372036854775807
theorem pre_cons (l : List UInt8) : hasPrefix (45 :: l) [45] = true ∧ trimPrefix (45 :: l) [45] = l := by
 constructor
 · simp [hasPrefix]
 · simp [trimPrefix, hasPrefix]
theorem pre_not {l : List UInt8} (h : l.head? ≠ some 45) : hasPrefix l [45] = false ∧ trimPrefix l [45] = l := by
 have e : hasPrefix l [45] = false := by
   cases l with
   | nil => rfl
   | cons a r =>
     have h' : ¬ a = 45 := fun e => h (by rw [e]; rfl)
     have hb : ((45 : UInt8) == a) = false := by rw [beq_eq_false_iff_ne]; exact fun e => h' (Eq.symm e)
     show ((45 : UInt8) == a && _) = false
     rw [hb]; rfl
 exact ⟨e, by simp [trimPrefix, e]⟩
theorem dec_head45 (u : Nat) : (decDigits u).head? ≠ some 45 := by
 intro e
 obtain ⟨c, hc⟩ : ∃ r, decDigits u = 45 :: r := by
   cases h : decDigits u with
   | nil => rw [h] at e; cases e
   | cons a r => rw [h] at e; simp at e; exact ⟨r, by rw [e]⟩
 have := dec_digits u 45 (by rw [hc]; simp)
 revert this; decide
theorem rd_itoa {n : Int} (h : InR n) : rdInt (itoa n) = some n := by
 obtain ⟨h1, h2⟩ := h
 by_cases hn : n < 0
 · obtain ⟨u, rfl⟩ : ∃ u : Nat, n = -(u : Int) := ⟨n.natAbs, by omega⟩
   rw [itoa_neg u (by omega)]
   unfold rdInt
   rw [(pre_cons _).1, (pre_cons _).2]
   simp only []
   rw [if_neg (by
     rintro (e | ⟨e, _⟩)
     · exact dec_ne u e
     · exact dec_head u (by omega) e), scan_dec (far_ge _) u (by unfold far; simp; omega)]
   rfl
 · obtain ⟨u, rfl⟩ : ∃ u : Nat, n = (u : Int) := ⟨n.toNat, by omega⟩
   rw [itoa_nonneg]
   unfold rdInt
   obtain ⟨e1, e2⟩ := pre_not (dec_head45 u)
   rw [e1, e2]
   simp only []
   rw [if_neg (by
     rintro (e | ⟨e, hne⟩)
     · exact dec_ne u e
     · by_cases h0 : u = 0
       · subst h0; exact hne (by rw [decDigits]; rfl)
       · exact dec_head u h0 e), scan_dec (far_ge _) u (by unfold far; simp; omega)]
   rfl
theorem itoa_rd {l : List UInt8} {n : Int} (h : rdInt l = some n) : InR n ∧ itoa n = l := by
 unfold rdInt at h
 simp only [] at h
 split at h
 · cases h
 rename_i hc
 cases hs : scan (far (hasPrefix l [45])) 0 (trimPrefix l [45]) with
 | none => rw [hs] at h; cases h
 | some v =>
   rw [hs] at h
   by_cases hp : l.head? = some 45
   · obtain ⟨r, rfl⟩ : ∃ r, l = 45 :: r := by
       cases l with
       | nil => cases hp
       | cons a r => simp at hp; exact ⟨r, by rw [hp]⟩
     rw [(pre_cons r).1, (pre_cons r).2] at *
     have hv : -(v : Int) = n := by simpa using h
     have h0 : r ≠ [] := fun e => hc (Or.inl e)
     have hz : r.head? = some 48 → r = [48] := fun e => absurd (Or.inr ⟨e, by simp⟩) hc
     have hz' : r.head? ≠ some 48 := fun e => hc (Or.inr ⟨e, by simp⟩)
     obtain ⟨hd, hm⟩ := scan_back (far_ge _) _ r rfl h0 hz v hs
     have hv0 : v ≠ 0 := by
       intro e; subst e
       rw [decDigits, dif_pos (by omega)] at hd
       exact hz' (by rw [← hd]; rfl)
     have hm' : v ≤ 9223372036854775808 := hm
     refine ⟨⟨by omega, by omega⟩, ?_⟩
     rw [← hv, itoa_neg v (by omega), hd]
   · obtain ⟨e1, e2⟩ := pre_not hp
     rw [e1, e2] at hs
     rw [e1] at h
     rw [e2] at hc
     have hv : (v : Int) = n := by simpa using h
     have h0 : l ≠ [] := fun e => hc (Or.inl e)
     have hz : l.head? = some 48 → l = [48] := fun e => Classical.byContradiction fun ne => hc (Or.inr ⟨e, ne⟩)
     obtain ⟨hd, hm⟩ := scan_back (far_ge _) _ l rfl h0 hz v hs
     have hm' : v ≤ 9223372036854775807 := hm
     refine ⟨⟨by omega, by omega⟩, ?_⟩
     rw [← hv, itoa_nonneg, hd]
theorem itoa_no98 (n : Int) : ∀ c ∈ itoa n, c ≠ 98 := by
 intro c hc e
 subst e
 have key : ∀ u, (98 : UInt8) ∉ decDigits u := fun u h => by
   have := dec_digits u 98 h
   revert this; decide
 unfold itoa at hc
 split at hc
 · simp only [List.mem_cons] at hc
   rcases hc with h | h
   · revert h; decide
   · exact key _ h
 · exact key _ hc
def cutb : List UInt8 → Option (List UInt8 × List UInt8)
 | [] => none
 | c :: r => if c = 98 then some ([], r) else (cutb r).map fun p => (c :: p.1, p.2)
theorem cutb_none {l : List UInt8} (h : ∀ c ∈ l, c ≠ 98) : cutb l = none := by
 induction l with
 | nil => rfl
 | cons a r ih =>
   rw [cutb, if_neg (h a (by simp)), ih (fun c hc => h c (by simp [hc]))]
   rfl
theorem cutb_at {l r : List UInt8} (h : ∀ c ∈ l, c ≠ 98) : cutb (l ++ 98 :: r) = some (l, r) := by
 induction l with
 | nil => rw [List.nil_append, cutb, if_pos rfl]
 | cons a l ih =>
   rw [List.cons_append, cutb, if_neg (h a (by simp)), ih (fun c hc => h c (by simp [hc]))]
   rfl
theorem cutb_some {l h t : List UInt8} (e : cutb l = some (h, t)) : l = h ++ 98 :: t := by
 induction l generalizing h t with
 | nil => cases e
 | cons a l ih =>
   rw [cutb] at e
   split at e
   · rename_i ha
     simp at e
     obtain ⟨rfl, rfl⟩ := e
     rw [ha]; rfl
   · cases hc : cutb l with
     | none => rw [hc] at e; cases e
     | some p =>
       rw [hc] at e
       simp at e
       obtain ⟨rfl, rfl⟩ := e
       rw [ih hc]; rfl
theorem cutb_index : ∀ (l : List UInt8), (cutb l = none ∧ indexByte l 98 = -1) ∨ ∃ i : Nat, indexByte l 98 = (i : Int) ∧ i < l.length ∧ cutb l = some (l.take i, l.drop (i + 1)) := by
 intro l
 induction l with
 | nil => exact Or.inl ⟨rfl, rfl⟩
 | cons a r ih =>
   by_cases ha : a = 98
   · exact Or.inr ⟨0, by rw [indexByte, if_pos (by simp [ha])]; rfl, by simp, by rw [cutb, if_pos ha]; rfl⟩
   · have hb : ¬ ((a == 98) = true) := by simpa using ha
     rcases ih with ⟨e1, e2⟩ | ⟨i, e1, e2, e3⟩
     · exact Or.inl ⟨by rw [cutb, if_neg ha, e1]; rfl, by rw [indexByte, if_neg hb, if_pos (by rw [e2]; rfl)]⟩
     · refine Or.inr ⟨i + 1, ?_, by simp; omega, ?_⟩
       · rw [indexByte, if_neg hb, e1, if_neg (by rw [beq_iff_eq]; omega)]
         omega
       · rw [cutb, if_neg ha, e3]; rfl
def rdTell (l : List UInt8) : Option (Int × Int) :=
 match cutb l with
 | none => (rdInt l).map fun n => (n, 0)
 | some (h, t) => (rdInt h).bind fun n => (rdInt t).map fun e => (n, e)
theorem tell_whole {n : Int} (h : InR n) : rdTell (itoa n) = some (n, 0) := by
 unfold rdTell
 rw [cutb_none (itoa_no98 n), rd_itoa h]; rfl
theorem tell_both {n e : Int} (h : InR n) (he : InR e) : rdTell (itoa n ++ 98 :: itoa e) = some (n, e) := by
 unfold rdTell
 rw [cutb_at (itoa_no98 n)]
 show ((rdInt (itoa n)).bind fun n => (rdInt (itoa e)).map fun e => (n, e)) = _
 rw [rd_itoa h, rd_itoa he]; rfl
theorem tell_cases {l : List UInt8} {n e : Int} (h : rdTell l = some (n, e)) : InR n ∧ InR e ∧ ((l = itoa n ∧ e = 0) ∨ l = itoa n ++ 98 :: itoa e) := by
 unfold rdTell at h
 cases hc : cutb l with
 | none =>
   rw [hc] at h
   cases hr : rdInt l with
   | none => rw [hr] at h; cases h
   | some m =>
     rw [hr] at h
     simp at h
     obtain ⟨rfl, rfl⟩ := h
     obtain ⟨h1, h2⟩ := itoa_rd hr
     exact ⟨h1, ⟨by omega, by omega⟩, Or.inl ⟨h2.symm, rfl⟩⟩
 | some p =>
   obtain ⟨a, b⟩ := p
   rw [hc] at h
   cases ha : rdInt a with
   | none => simp [ha] at h
   | some m =>
     cases hb : rdInt b with
     | none => simp [ha, hb] at h
     | some k =>
       simp [ha, hb] at h
       obtain ⟨rfl, rfl⟩ := h
       obtain ⟨h1, h2⟩ := itoa_rd ha
       obtain ⟨h3, h4⟩ := itoa_rd hb
       exact ⟨h1, h3, Or.inr (by rw [cutb_some hc, h2, h4])⟩
theorem tell_length {l : List UInt8} {p : Int × Int} (h : rdTell l = some p) : l.length ≤ 43 := by
 obtain ⟨n, e⟩ := p
 obtain ⟨h1, h2, h3⟩ := tell_cases h
 have a := itoa_length_le n h1.1 h1.2
 have b := itoa_length_le e h2.1 h2.2
 rcases h3 with ⟨rfl, _⟩ | rfl
 · omega
 · simp; omega
end

/- Package lines: lines, words, remarks of a list of bytes: plain facts. -/
section
open Go.Lib
abbrev Bs := List UInt8
def spl (p : UInt8 → Bool) : Bs → List Bs
 | [] => [[]]
 | c :: r => if p c then [] :: spl p r else
     match spl p r with
     | [] => [[c]]
     | h :: t => (c :: h) :: t
theorem spl_ne (p : UInt8 → Bool) (l : Bs) : spl p l ≠ [] := by
 cases l with
 | nil => simp [spl]
 | cons c r =>
   rw [spl]
   split
   · simp
   · split <;> simp
theorem spl_none {p : UInt8 → Bool} {l : Bs} (h : ∀ c ∈ l, p c = false) : spl p l = [l] := by
 induction l with
 | nil => rfl
 | cons c r ih =>
   rw [spl, if_neg (by rw [h c (by simp)]; simp), ih (fun x hx => h x (by simp [hx]))]
theorem spl_app {p : UInt8 → Bool} {a r : Bs} {c : UInt8} (h : ∀ x ∈ a, p x = false) (hc : p c = true) : spl p (a ++ c :: r) = a :: spl p r := by
 induction a with
 | nil => rw [List.nil_append, spl, if_pos hc]
 | cons x a ih =>
   rw [List.cons_append, spl, if_neg (by rw [h x (by simp)]; simp), ih (fun y hy => h y (by simp [hy]))]
def cutT (c : UInt8) (l : Bs) : Bs := l.takeWhile (fun x => x != c)
def cutD (c : UInt8) (l : Bs) : Bs := (l.dropWhile (fun x => x != c)).tail
def cutF (c : UInt8) (l : Bs) : Bool := decide (c ∈ l)
theorem cut_index (c : UInt8) : ∀ (l : Bs), (c ∉ l ∧ cutT c l = l ∧ cutD c l = [] ∧ indexByte l c = -1) ∨ ∃ i : Nat, indexByte l c = (i : Int) ∧ i < l.length ∧ cutT c l = l.take i ∧ cutD c l = l.drop (i + 1) ∧ c ∈ l := by
 intro l
 induction l with
 | nil => exact Or.inl ⟨by simp, rfl, rfl, rfl⟩
 | cons a r ih =>
   by_cases ha : a = c
   · subst ha
     exact Or.inr ⟨0, by rw [indexByte, if_pos (by simp)]; rfl, by simp, by simp [cutT], by simp [cutD], by simp⟩
   · have hb : ¬ ((a == c) = true) := by simpa using ha
     have hb2 : (a != c) = true := by simpa using ha
     rcases ih with ⟨e1, e2, e3, e4⟩ | ⟨i, e1, e2, e3, e4, e5⟩
     · refine Or.inl ⟨by simp [e1]; exact fun e => ha e.symm, ?_, ?_, ?_⟩
       · unfold cutT at e2 ⊢; rw [List.takeWhile_cons_of_pos (p := fun x => x != c) hb2, e2]
       · unfold cutD at e3 ⊢; rw [List.dropWhile_cons_of_pos (p := fun x => x != c) hb2, e3]
       · rw [indexByte, if_neg hb, if_pos (by rw [e4]; rfl)]
     · refine Or.inr ⟨i + 1, ?_, by simp; omega, ?_, ?_, by simp [e5]⟩
       · rw [indexByte, if_neg hb, e1, if_neg (by rw [beq_iff_eq]; omega)]
         omega
       · unfold cutT at e3 ⊢; rw [List.takeWhile_cons_of_pos (p := fun x => x != c) hb2, e3]; rfl
       · unfold cutD at e4 ⊢; rw [List.dropWhile_cons_of_pos (p := fun x => x != c) hb2, e4]; rfl
theorem cut_none {c : UInt8} {l : Bs} (h : c ∉ l) : cutT c l = l ∧ cutD c l = [] := by
 rcases cut_index c l with ⟨_, h1, h2, _⟩ | ⟨_, _, _, _, _, h5⟩
 · exact ⟨h1, h2⟩
 · exact absurd h5 h
theorem cutT_free {c : UInt8} {l : Bs} : ∀ x ∈ cutT c l, x ≠ c := by
 intro x hx
 unfold cutT at hx
 induction l with
 | nil => simp at hx
 | cons a r ih =>
   rw [List.takeWhile_cons] at hx
   split at hx
   · rename_i h
     rcases List.mem_cons.1 hx with e | e
     · subst e; simpa using h
     · exact ih e
   · simp at hx
theorem cut_some {c : UInt8} {l : Bs} (h : c ∈ l) : l = cutT c l ++ c :: cutD c l := by
 induction l with
 | nil => simp at h
 | cons a r ih =>
   by_cases ha : a = c
   · subst ha; simp [cutT, cutD]
   · have hb2 : (a != c) = true := by simpa using ha
     have hr : c ∈ r := by
       rcases List.mem_cons.1 h with e | e
       · exact absurd e.symm ha
       · exact e
     have := ih hr
     unfold cutT cutD at this ⊢
     rw [List.takeWhile_cons_of_pos (p := fun x => x != c) hb2, List.dropWhile_cons_of_pos (p := fun x => x != c) hb2, List.cons_append, ← this]
theorem cutT_len (c : UInt8) (l : Bs) : (cutT c l).length ≤ l.length := by
 rcases cut_index c l with ⟨_, h1, _, _⟩ | ⟨i, _, _, h3, _, _⟩
 · rw [h1]; exact Nat.le_refl _
 · rw [h3, List.length_take]; omega
theorem cutD_len (c : UInt8) (l : Bs) : (cutD c l).length ≤ l.length := by
 rcases cut_index c l with ⟨_, _, h2, _⟩ | ⟨i, _, _, _, h4, _⟩
 · rw [h2]; simp
 · rw [h4, List.length_drop]; omega
def lns (l : Bs) : List Bs := spl (fun x => x == 10) l
theorem lns_none {l : Bs} (h : (10 : UInt8) ∉ l) : lns l = [l] := spl_none fun c hc => by
 by_cases e : c = 10
 · exact absurd (e ▸ hc) h
 · simpa using e
theorem lns_app {a r : Bs} (h : ∀ x ∈ a, x ≠ 10) : lns (a ++ 10 :: r) = a :: lns r := spl_app (fun x hx => by simpa using h x hx) rfl
theorem lns_cut {l : Bs} (h : (10 : UInt8) ∈ l) : lns l = cutT 10 l :: lns (cutD 10 l) := by
 have e := cut_some h
 have := lns_app (a := cutT 10 l) (r := cutD 10 l) cutT_free
 rwa [← e] at this
def bl (c : UInt8) : Bool := c.toNat == 32 || c.toNat == 9 || c.toNat == 13
def gd (c : UInt8) : Bool := decide (33 ≤ c.toNat) && decide (c.toNat ≤ 126) && !(c.toNat == 35)
def toks (l : Bs) : List Bs := (spl bl l).filter (fun w => !w.isEmpty)
def one (a : Bs) : List Bs := if a.isEmpty then [] else [a]
theorem toks_none {l : Bs} (h : ∀ c ∈ l, bl c = false) : toks l = one l := by
 unfold toks one
 rw [spl_none h]
 cases l <;> simp
theorem toks_app {a r : Bs} {c : UInt8} (h : ∀ x ∈ a, bl x = false) (hc : bl c = true) : toks (a ++ c :: r) = one a ++ toks r := by
 unfold toks one
 rw [spl_app h hc]
 cases a <;> simp
theorem spl_word {p : UInt8 → Bool} : ∀ {l : Bs} {x : Bs}, x ∈ spl p l → (∀ c ∈ x, p c = false) ∧ x.length ≤ l.length ∧ ∀ c ∈ x, c ∈ l := by
 intro l
 induction l with
 | nil => intro x hx; simp [spl] at hx; subst hx; simp
 | cons a r ih =>
   intro x hx
   rw [spl] at hx
   by_cases hp : p a = true
   · rw [if_pos hp] at hx
     rcases List.mem_cons.1 hx with e | e
     · subst e; simp
     · have := ih e; exact ⟨this.1, by simp; omega, fun c hc => by simp [this.2.2 c hc]⟩
   · rw [if_neg hp] at hx
     split at hx
     · rename_i e; exact absurd e (spl_ne _ _)
     · rename_i h t e
       rcases List.mem_cons.1 hx with e2 | e2
       · have := ih (x := h) (by rw [e]; simp)
         subst e2
         refine ⟨fun c hc => ?_, by simp; omega, fun c hc => ?_⟩
         · rcases List.mem_cons.1 hc with e3 | e3
           · subst e3; simpa using hp
           · exact this.1 c e3
         · rcases List.mem_cons.1 hc with e3 | e3
           · simp [e3]
           · simp [this.2.2 c e3]
       · have := ih (x := x) (by rw [e]; simp [e2])
         exact ⟨this.1, by simp; omega, fun c hc => by simp [this.2.2 c hc]⟩
theorem toks_word {l x : Bs} (h : x ∈ toks l) : x ≠ [] ∧ (∀ c ∈ x, bl c = false) ∧ x.length ≤ l.length ∧ ∀ c ∈ x, c ∈ l := by
 unfold toks at h
 rw [List.mem_filter] at h
 exact ⟨by simpa using h.2, spl_word h.1⟩
theorem spl_len (p : UInt8 → Bool) : ∀ l : Bs, (spl p l).length ≤ l.length + 1 := by
 intro l
 induction l with
 | nil => simp [spl]
 | cons a r ih =>
   rw [spl]
   split
   · simp; omega
   · split
     · simp
     · rename_i e; rw [e] at ih; simp at ih ⊢; omega
theorem toks_len (l : Bs) : (toks l).length ≤ l.length + 1 := Nat.le_trans (List.length_filter_le _ _) (spl_len _ _)
def ahd (l : Bs) : Bs := cutT 35 l
def lineW (l : Bs) : List Bs := toks (ahd l)
def mayW (w : Bs) : Bool := !w.isEmpty && decide (w.length ≤ 400) && w.all gd
def lineE (l : Bs) : Nat := if 65536 < l.length then 3 else if (lineW l).all mayW then 0 else 4
def bad : Nat → List Bs → Option (Nat × Nat)
 | _, [] => none
 | n, l :: r => if lineE l = 0 then bad (n + 1) r else some (n, lineE l)
def good : Nat → List Bs → List (Nat × List Bs)
 | _, [] => []
 | n, l :: r => (if (lineW l).isEmpty then [] else [(n, lineW l)]) ++ good (n + 1) r
theorem bad_app {a b : List Bs} : ∀ {n : Nat}, bad n a = none → bad n (a ++ b) = bad (n + a.length) b := by
 induction a with
 | nil => intro n _; rfl
 | cons l r ih =>
   intro n h
   rw [bad] at h
   by_cases e : lineE l = 0
   · rw [if_pos e] at h
     rw [List.cons_append, bad, if_pos e, ih h]
     congr 1; simp; omega
   · rw [if_neg e] at h; cases h
theorem good_app {a b : List Bs} : ∀ {n : Nat}, good n (a ++ b) = good n a ++ good (n + a.length) b := by
 induction a with
 | nil => intro n; rfl
 | cons l r ih =>
   intro n
   rw [List.cons_append, good, good, ih, List.append_assoc]
   congr 2; congr 1; simp; omega
theorem good_len : ∀ (a : List Bs) (n : Nat), (good n a).length ≤ a.length := by
 intro a
 induction a with
 | nil => intro n; simp [good]
 | cons l r ih =>
   intro n
   rw [good, List.length_append]
   have := ih (n + 1)
   split <;> simp <;> omega
def rdV (l : Bs) : List (Nat × List Bs) × Nat × Nat :=
 if 16777216 < l.length then ([], 0, 3) else
 match bad 1 (lns l) with
 | some (n, e) => ([], n, e)
 | none => (good 1 (lns l), 0, 0)
theorem lineE_cases (l : Bs) : lineE l = 0 ∨ lineE l = 3 ∨ lineE l = 4 := by
 unfold lineE
 split
 · simp
 · split <;> simp
theorem lineE_zero {l : Bs} : lineE l = 0 ↔ l.length ≤ 65536 ∧ (lineW l).all mayW = true := by
 unfold lineE
 split
 · constructor
   · intro h; cases h
   · intro h; omega
 · split
   · rename_i h1 h2; simp [h2]; omega
   · rename_i h1 h2; simp [h2]
end

/- The library's contracts for strings.Builder, strings.Join and strings.Clone, laid at this program: tables of numbers, and facts of the program's own; each contract is one application of a theorem of the guide's library. -/
section
set_option maxRecDepth 100000
open Go.Shelf Go.Proofs
def Tryd.lays156_ren : Go.Shelf.Ren := ⟨fun | 156 => 51 | 165 => 49 | 166 => 50 | 167 => 52 | 169 => 53 | 240 => 83 | 241 => 84 | 276 => 104 | 277 => 105 | n => n, fun | 31 => 56 | 9 => 9 | 3 => 3 | 4 => 4 | 0 => 0 | 20 => 20 | 72 => 103 | 76 => 107 | 70 => 100 | 37 => 101 | 75 => 106 | 127 => 143 | 164 => 149 | 5 => 5 | 80 => 79 | n => n, fun | n => n⟩
theorem Tryd.lays156 : Go.Proofs.Lays.n156 Tryd.prog Tryd.lays156_ren := {
 mixed := by kernel_rfl
 f156 := Tryd.func51.trans (congrArg some (by kernel_rfl))
 f165 := Tryd.func49.trans (congrArg some (by kernel_rfl))
 f166 := Tryd.func50.trans (congrArg some (by kernel_rfl))
 f169 := Tryd.func53.trans (congrArg some (by kernel_rfl))
 f240 := Tryd.func83.trans (congrArg some (by kernel_rfl))
 f241 := Tryd.func84.trans (congrArg some (by kernel_rfl))
 f276 := Tryd.func104.trans (congrArg some (by kernel_rfl))
 f277 := Tryd.func105.trans (congrArg some (by kernel_rfl))
 t0 := Tryd.underlying0
 a0 := Tryd.isAgg0
 z0 := Tryd.sizeOf0
 v0 := Tryd.zeroValue0
 t3 := Tryd.underlying3
 a3 := Tryd.isAgg3
 z3 := Tryd.sizeOf3
 v3 := Tryd.zeroValue3
 t4 := Tryd.underlying4
 a4 := Tryd.isAgg4
 z4 := Tryd.sizeOf4
 v4 := Tryd.zeroValue4
 t9 := Tryd.underlying9
 a9 := Tryd.isAgg9
 z9 := Tryd.sizeOf9
 v9 := Tryd.zeroValue9
 t20 := Tryd.underlying20
 a20 := Tryd.isAgg20
 z20 := Tryd.sizeOf20
 v20 := Tryd.zeroValue20
 t31 := Tryd.underlying56
 a31 := Tryd.isAgg56
 z31 := Tryd.sizeOf56
 v31 := Tryd.zeroValue56
 t37 := Tryd.underlying101
 a37 := Tryd.isAgg101
 z37 := Tryd.sizeOf101
 v37 := Tryd.zeroValue101
 t70 := Tryd.underlying100
 a70 := Tryd.isAgg100
 z70 := Tryd.sizeOf100
 v70 := Tryd.zeroValue100
 t72 := Tryd.underlying103
 a72 := Tryd.isAgg103
 z72 := Tryd.sizeOf103
 v72 := Tryd.zeroValue103
 t75 := Tryd.underlying106
 a75 := Tryd.isAgg106
 z75 := Tryd.sizeOf106
 v75 := Tryd.zeroValue106
 t76 := Tryd.underlying107
 a76 := Tryd.isAgg107
 z76 := Tryd.sizeOf107
 v76 := Tryd.zeroValue107
 t127 := Tryd.underlying143
 a127 := Tryd.isAgg143
 z127 := Tryd.sizeOf143
 v127 := Tryd.zeroValue143
 t164 := Tryd.underlying149
 a164 := Tryd.isAgg149
 z164 := Tryd.sizeOf149
 v164 := Tryd.zeroValue149 }
theorem Tryd.Builder_Extra_156 : Builder.Extra Tryd.prog Tryd.lays156_ren := {
 sizeBuilder := by kernel_rfl
 liesBuilder := by kernel_rfl
 t5 := Tryd.underlying5
 a5 := Tryd.isAgg5
 z5 := Tryd.sizeOf5
 v5 := Tryd.zeroValue5
 infoByte := by kernel_rfl
 cellsByte := by kernel_rfl
 sizeByte := by kernel_rfl
 neB5 := by decide }
open Go.RowKit in
theorem Tryd.Builder_Grow_fresh (B b n : Nat) (w : World) (hB : B ≤ b) (hbk : w.heap[b]? = some (.cells #[.pointer none, .slice none 0 0] 103 (0, 0))) (hBw : B ≤ w.heap.size) (hn : n ≤ 281474976710656) :
   Calls Tryd.prog 49 #[.pointer (some ⟨b, 0, none⟩), .int .i64 n] w fun e w' => e = .returned (.tuple #[]) ∧ (Lib.BuilderAt 103 5 B b (.pointer (some ⟨b, 0, none⟩)) [] w' ∧ Below B w w') := Any.Builder_Grow_fresh { Tryd.lays156 with } Tryd.Builder_Extra_156 B b n w hB hbk hBw hn
open Go.RowKit in
theorem Tryd.Builder_WriteString (B b : Nat) (bs : List Value) (s : ByteArray) (w : World) (h : Lib.IsBuilder 103 5 B b bs w) (hlen : bs.length + s.size ≤ 140737488355328) (hBw : B ≤ w.heap.size) :
   Calls Tryd.prog 50 #[.pointer (some ⟨b, 0, none⟩), .string s] w fun e w' => e = .returned (.tuple #[.int .i64 s.size, .nilIface]) ∧ (Lib.BuilderAt 103 5 B b (.pointer (some ⟨b, 0, none⟩)) (bs ++ Lib.strCells s) w' ∧ Below B w w') := Any.Builder_WriteString { Tryd.lays156 with } Tryd.Builder_Extra_156 B b bs s w h hlen hBw
open Go.RowKit in
theorem Tryd.Builder_WriteByte (B b : Nat) (bs : List Value) (c : Int) (w : World) (h : Lib.IsBuilder 103 5 B b bs w) (hlen : bs.length + 1 ≤ 140737488355328) (hBw : B ≤ w.heap.size) :
   Calls Tryd.prog 52 #[.pointer (some ⟨b, 0, none⟩), .int .u8 c] w fun e w' => e = .returned .nilIface ∧ (Lib.BuilderAt 103 5 B b (.pointer (some ⟨b, 0, none⟩)) (bs ++ [.int .u8 c]) w' ∧ Below B w w') := Any.Builder_WriteByte { Tryd.lays156 with f167 := Tryd.func52.trans (congrArg some (by kernel_rfl)), t5 := Tryd.underlying5, a5 := Tryd.isAgg5, z5 := Tryd.sizeOf5, v5 := Tryd.zeroValue5 } Tryd.Builder_Extra_156 B b bs c w h hlen hBw
open Go.RowKit in
theorem Tryd.Builder_String_any (B b : Nat) (l : List UInt8) (w : World) (h : Lib.IsBuilder 103 5 B b (Lib.byteCells l) w) (hBw : B ≤ w.heap.size) :
   Calls Tryd.prog 53 #[.pointer (some ⟨b, 0, none⟩)] w fun e w' => e = .returned (.string ⟨l.toArray⟩) ∧ Below B w w' := Any.Builder_String_any { Tryd.lays156 with } Tryd.Builder_Extra_156 B b l w h hBw
open Go.RowKit in
open Go.RowKit in
theorem Tryd.strings_Join (bk o c : Nat) (xs : List ByteArray) (sep : ByteArray) (w : World) (hcells : ∀ (j : Nat) x, xs[j]? = some x → w.cell? ⟨bk, o + j, none⟩ = some (.string x)) (hbk : bk < w.heap.size) (hN : xs.length ≤ 140737488355328) (hcap : xs.length ≤ c) (hlen : (Lib.join (xs.map (·.data.toList)) sep.data.toList).length ≤ 140737488355328) :
   Calls Tryd.prog 51 #[.slice (some ⟨bk, o, none⟩) xs.length c, .string sep] w fun e w' => e = .returned (.string ⟨(Lib.join (xs.map (·.data.toList)) sep.data.toList).toArray⟩) ∧ Below w.heap.size w w' := Any.strings_Join Tryd.lays156 Tryd.Builder_Extra_156 bk o c xs sep w hcells hbk hN hcap hlen
def Tryd.laysM316_ren : Go.Shelf.Ren := ⟨fun | 316 => 92 | n => n, fun | 9 => 9 | 3 => 3 | 4 => 4 | 37 => 101 | 0 => 0 | 127 => 143 | 5 => 5 | n => n, fun | n => n⟩
theorem Tryd.laysM316 : Go.Proofs.LaysM.n316 Tryd.prog Tryd.laysM316_ren := {
 mixed := by kernel_rfl
 f316 := Tryd.func92.trans (congrArg some (by kernel_rfl))
 t0 := Tryd.underlying0
 a0 := Tryd.isAgg0
 z0 := Tryd.sizeOf0
 v0 := Tryd.zeroValue0
 t3 := Tryd.underlying3
 a3 := Tryd.isAgg3
 z3 := Tryd.sizeOf3
 v3 := Tryd.zeroValue3
 t4 := Tryd.underlying4
 a4 := Tryd.isAgg4
 z4 := Tryd.sizeOf4
 v4 := Tryd.zeroValue4
 t9 := Tryd.underlying9
 a9 := Tryd.isAgg9
 z9 := Tryd.sizeOf9
 v9 := Tryd.zeroValue9
 t37 := Tryd.underlying101
 a37 := Tryd.isAgg101
 z37 := Tryd.sizeOf101
 v37 := Tryd.zeroValue101
 t127 := Tryd.underlying143
 a127 := Tryd.isAgg143
 z127 := Tryd.sizeOf143
 v127 := Tryd.zeroValue143
 t5 := Tryd.underlying5
 a5 := Tryd.isAgg5
 z5 := Tryd.sizeOf5
 v5 := Tryd.zeroValue5
 i0 := by kernel_rfl
 i3 := by kernel_rfl
 i4 := by kernel_rfl
 i5 := by kernel_rfl
 i9 := by kernel_rfl
 i37 := by kernel_rfl
 i127 := by kernel_rfl }
open Go.RowKit in
theorem Tryd.stringslite_Clone (s : ByteArray) (w : World) (hlim : s.size ≤ 281474976710656) :
   Calls Tryd.prog 92 #[.string s] w fun e w' => e = .returned (.string s) ∧ Below w.heap.size w w' := Any.stringslite_Clone Tryd.laysM316 s w hlim
end

/- A drawn region, operation by operation, where some are not wanted. -/
section
open Go
section
variable {P : Program} {ops : Array Oper} {Q : Exit → Act → World → Prop} {md : Region.Mode} {S : World → Prop}
theorem take_at {i : Nat} {d : Option Tmp} {v : Value} {fuel : Nat} {listed : Array Bool} {a : Act} {w : World} (hd : (ops[i]?).map (·.dst) = some d)
   (hs : Region.noSelect ops = true) (hf : Region.free md ops listed i = true) (hr : (Region.ready md ops listed).contains i = true)
   (hQ : ∀ c a w, Q (.panic c) (a.put d v) w → Q (.panic c) a w) (hy : ∀ oi, ops[i]? = some oi → YieldsIf P ops S oi v a) (hS : S w)
   (h : wpAnyH P md ops Q S fuel (listed.setIfInBounds i true) (a.put d v) w) : wpAnyH P md ops Q S (fuel + 1) listed a w := by
 cases ho : ops[i]? with
 | none => rw [ho] at hd; cases hd
 | some oi =>
   rw [ho] at hd
   have e : oi.dst = d := Option.some.inj hd
   subst e
   exact wpAnyH_take ho hs hf hr hQ (hy oi ho) hS h
theorem call_at (i : Nat) {fuel : Nat} {listed : Array Bool} {a : Act} {w : World} (hr : Region.ready md ops listed = [i])
   (hi : (ops[i]?).isSome = true)
   (h : ∀ o, ops[i]? = some o → ∀ K' : Act → World → Prop, Shut (∀ a w, S w → (S w → wpAnyH P md ops Q S fuel (listed.setIfInBounds i true) a w) → K' a w) → if Region.wanted o (yielded ops a.tmps) = true then Oper.wp P o a w K' Q else K' (a.put o.dst undef) w) :
   wpAnyH P md ops Q S (fuel + 1) listed a w := by
 obtain ⟨o, ho⟩ := Option.isSome_iff_exists.1 hi
 exact wpAnyH_ready hr (by simp) (AllReadyH.cons ho (h o ho) AllReadyH.nil)
end
end

/- A drawn region in which one box is laid while a chain of operations goes on. -/
section
open Go Go.RowKit
section
variable {P : Program} {ops : Array Oper} {Q : Exit → Act → World → Prop} {md : Region.Mode} {S : World → Prop}
end
def CB (W : World) (b : Nat) (cs : Array Value) (t : Nat) : Prop := W.heap[b]? = some (.cells cs t (0, 0))
theorem CB.lt {W : World} {b t : Nat} {cs : Array Value} (h : CB W b cs t) : b < W.heap.size := (Array.getElem?_eq_some_iff.1 h).1
theorem CB.later {W W' : World} {b t : Nat} {cs : Array Value} (h : CB W b cs t) (hb : Below W.heap.size W W') : CB W' b cs t := by
 unfold CB
 rw [hb.block b h.lt]; exact h
theorem CB.new (W : World) (cs : Array Value) (t : Nat) : CB (W.alloc (.cells cs t)) W.heap.size cs t := heap_alloc_new W _
theorem CB.cell {W : World} {b t : Nat} {cs : Array Value} (h : CB W b cs t) (i : Nat) (hi : i < cs.size) : W.cell? ⟨b, i, none⟩ = some cs[i] := by
 unfold CB at h
 simp [World.cell?, h, hi]
theorem CB.frozen {W : World} {b t : Nat} {cs : Array Value} (h : CB W b cs t) (i : Nat) : W.frozen? ⟨b, i, none⟩ = false := by
 unfold CB at h
 simp [World.frozen?, h]
theorem CB.set {W : World} {b t : Nat} {cs : Array Value} (h : CB W b cs t) (i : Nat) (v : Value) : CB (W.setCell ⟨b, i, none⟩ v) b (cs.set! i v) t := by
 unfold CB at h ⊢
 simp [World.setCell, Array.getElem?_modify, h]
theorem CB.other {W : World} {b t g i : Nat} {cs : Array Value} (h : CB W b cs t) (hn : b ≠ g) (v : Value) : CB (W.setCell ⟨g, i, none⟩ v) b cs t := by
 unfold CB at h ⊢
 rw [Below.heap_setCell _ ⟨g, i, none⟩ v b hn]; exact h
theorem CB.drew {W : World} {b t : Nat} {cs : Array Value} (h : CB W b cs t) : CB W.drew b cs t := h
theorem CB.set2 {W : World} {b t : Nat} {u0 u1 : Value} (h : CB W b #[u0, u1] t) (v0 v1 : Value) : CB ((W.setCell ⟨b, 0, none⟩ v0).setCell ⟨b, 1, none⟩ v1) b #[v0, v1] t := by
 simpa using ((h.set 0 v0).set 1 v1)
end

/- A drawn region's operations in fewer words. -/
section
open Go
section
variable {P : Program} {ops : Array Oper} {Q : Exit → Act → World → Prop} {md : Region.Mode} {S : World → Prop}
theorem takA {i : Nat} {d : Option Tmp} {v : Value} {fuel : Nat} {listed : Array Bool} {a : Act} {w : World} (hS : S w)
   (h : wpAnyH P md ops Q S fuel (listed.setIfInBounds i true) (a.put d v) w)
   (hd : (ops[i]?).map (·.dst) = some d := by kernel_rfl) (hs : Region.noSelect ops = true := by kernel_rfl)
   (hf : Region.free md ops listed i = true := by kernel_rfl) (hr : (Region.ready md ops listed).contains i = true := by kernel_rfl)
   (hQ : ∀ c a w, Q (.panic c) (a.put d v) w → Q (.panic c) a w := by exact fun _ _ _ h => h)
   (hy : ∀ oi, ops[i]? = some oi → YieldsIf P ops S oi v a := by
     intro o ho
     simp only [List.getElem?_toArray, List.getElem?_cons_succ, List.getElem?_cons_zero, Option.some.injEq] at ho
     subst ho
     refine Or.inl ⟨by rfl, ?_⟩
     intro w hSw
     (try dsimp only at hSw)
     go_simp) : wpAnyH P md ops Q S (fuel + 1) listed a w := take_at hd hs hf hr hQ hy hS h
theorem calA (i : Nat) {o : Oper} {fuel : Nat} {listed : Array Bool} {a : Act} {w : World}
   (h : ∀ K' : Act → World → Prop, Shut (∀ a w, S w → (S w → wpAnyH P md ops Q S fuel (listed.setIfInBounds i true) a w) → K' a w) → if Region.wanted o (yielded ops a.tmps) = true then Oper.wp P o a w K' Q else K' (a.put o.dst undef) w)
   (hr : Region.ready md ops listed = [i] := by kernel_rfl)
   (ho : ops[i]? = some o := by
     simp only [List.getElem?_toArray, List.getElem?_cons_succ, List.getElem?_cons_zero]
     rfl) :
   wpAnyH P md ops Q S (fuel + 1) listed a w :=
 call_at i hr (by rw [ho]; rfl) (fun o' ho' => by rw [ho] at ho'; cases ho'; exact h)
end
theorem AP : (∀ (a : Act) (t : Tmp) (v : Value), a.put (some t) v = { a with tmps := a.tmps.setIfInBounds t v }) ∧ (∀ (a : Act) (v : Value), a.put none v = a) ∧ (∀ {α : Type} (l : List α) (i : Nat) (x : α), l.toArray.setIfInBounds i x = (l.set i x).toArray) ∧ (∀ {α : Type} (x y : α) (l : List α), (x :: l).set 0 y = y :: l) ∧ (∀ {α : Type} (x y : α) (l : List α) (i : Nat), (x :: l).set (i + 1) y = x :: l.set i y) :=
 ⟨fun _ _ _ => rfl, fun _ _ => rfl, fun _ _ _ => List.setIfInBounds_toArray .., fun _ _ _ => rfl, fun _ _ _ _ => rfl⟩
end
end Go.Proofs.YtgoadpnoagaflaaDoor
