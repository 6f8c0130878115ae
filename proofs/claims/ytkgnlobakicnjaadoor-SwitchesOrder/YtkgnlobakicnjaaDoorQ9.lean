/- Own texts, put together: Wd Jd. -/
import Derived.Test.YtkgnlobakicnjaaDoorQ3
import Derived.Test.YtkgnlobakicnjaaDoorQ4
import Derived.Test.YtkgnlobakicnjaaDoorQ5
import Derived.Lib.Strings
import Derived.Lib.Slices
import Derived.Lib.Small
import Derived.Lib.Walk
import Derived.Lib.BitFns
import Derived.Laws.MathBits
import Derived.Lib.TrailingZeros
import Derived.Shelf.Spec.TrailingZeros
import Derived.Lib.AppendIntMem
import Derived.Lib.LaidTab
import Derived.Laws.Strings3
namespace Go.Proofs.YtkgnlobakicnjaaDoor
/- Walks of math/bits: Len64, TrailingZeros64, Mul64, in the numbers of this program. -/
section
open Go.RowKit
theorem bitLenAux_log2 (f : Nat) : ∀ x : Nat, x ≠ 0 → x < 2 ^ f → Lib.bitLenAux f x = Nat.log2 x + 1 := by
 induction f with
 | zero => intro x h0 h1; simp at h1; omega
 | succ f ih =>
   intro x h0 h1
   rw [Lib.bitLenAux, if_neg h0]
   by_cases h2 : x / 2 = 0
   · have : x = 1 := by omega
     subst this
     simp
     cases f <;> simp [Lib.bitLenAux, show Nat.log2 1 = 0 from rfl]
   · rw [ih (x / 2) h2 (by rw [Nat.pow_succ] at h1; omega)]
     have : Nat.log2 x = Nat.log2 (x / 2) + 1 := by
       rw [Nat.log2_def x, if_pos (by omega)]
     omega
theorem bitLen_log2 (x : Nat) (h0 : x ≠ 0) (h1 : x < 18446744073709551616) : Lib.bitLen x = Nat.log2 x + 1 := bitLenAux_log2 64 x h0 h1
def Tab (w : World) : Prop := ∀ j, j < Lib.deBruijn64tab.length → w.cell? ⟨1, j, none⟩ = some (.int .u8 (Lib.deBruijn64tab.getD j 0 : Nat))
theorem Tab.later {w w' : World} (h : Tab w) (hb : Below w.heap.size w w') : Tab w' := fun j hj => cell_later hb (h j hj)
set_option maxHeartbeats 1000000 in
theorem tz64_core (x k idx : Nat) (w : World) (hx0 : ((x : Int) == 0) = false)
   (key : IntKind.u64.wrap (bits BinOp.and IntKind.u64 (x : Int) (IntKind.u64.wrap (-(x : Int))) * 285870213051353865) / 288230376151711744 = (idx : Int))
   (hi : idx < 64) (hk : k < 64) (hcell : w.cell? ⟨1, idx, none⟩ = some (.int .u8 k)) :
   Calls Tryd.prog 83 #[.int .u64 x] w fun e w' => e = .returned (.int .i64 k) ∧ w' = w := by
 go_enter Tryd.func83, Tryd.ntmps83
 go_wp2_with (simp only [key])
 go_ret
 exact ⟨rfl, rfl⟩
theorem tz64_any (x : Nat) (hx : x < 18446744073709551616) (hx0 : x ≠ 0) (w : World) (hT : Tab w) :
   Calls Tryd.prog 83 #[.int .u64 x] w fun e w' => e = .returned (.int .i64 (Lib.ctz 64 x)) ∧ w' = w := by
 obtain ⟨hlow, hk⟩ := Lib.lowest_bit 64 x hx0 hx
 obtain ⟨hi, htab⟩ := Lib.deBruijn64_at _ hk
 refine tz64_core x _ _ w (by simpa using hx0) (tz64_key x _ hx hx0 hlow) hi hk ?_
 rw [hT _ hi, htab]
theorem ctz_spec (x : Nat) (hx : x < 18446744073709551616) (hx0 : x ≠ 0) : ∃ m, x = 2 ^ Lib.ctz 64 x * (2 * m + 1) ∧ Lib.ctz 64 x < 64 := by
 have e : Lib.ctz 64 x = Lib.ctzFrom 64 x := by simp [Lib.ctz, hx0]
 rw [e]
 exact Lib.ctzFrom_spec 64 x (by omega) hx
theorem len64_any (x : Int) (w : World) (h0 : 0 < x) (h1 : x ≤ 18446744073709551615) :
   Calls Tryd.prog 119 #[.int .u64 x] w fun e w' => e = .returned (.int .i64 ((Nat.log2 x.toNat + 1 : Nat) : Int)) ∧ w' = w := by
 rw [← bitLen_log2 x.toNat (by omega) (by omega)]
 exact Tryd.bits_Len64 x w (by omega) h1
end

/- Package digits: Show, farthest, Int. -/
section
open Go.RowKit Go.Shelf Go.Lib
def T8 (w : World) : Prop := Tab w ∧ Lib.TabIs Tryd.prog w "internal/strconv.uint64pow10" .u64 Lib.pow10Tab
theorem T8.later {w w' : World} (h : T8 w) (hb : Below w.heap.size w w') : T8 w' := ⟨h.1.later hb, Lib.tabBelow_of_tabIs h.2 w' hb⟩
theorem show_any (n : Int) (hn : InR n) (w : World) (hT : T8 w) :
   Calls Tryd.prog 22 #[.int .i64 n] w fun e w' => e = .returned (sv (itoa n)) ∧ Below w.heap.size w w' := by
 have HT : Hid (T8 w) := hT
 have HN : Hid (InR n) := hn
 clear hT hn
 go_enter Tryd.func22, Tryd.ntmps22
 go_wp2_with (go_at_call 60; refine (Tryd.strconv_Itoa n HN.out.1 HN.out.2 _ HT.out.2).mono ?_; rintro e w' ⟨rfl, k, os, rfl⟩)
 go_ret
 exact ⟨rfl, below_grow _ _ (Nat.le_refl _) _ _⟩
theorem farthest_any (b : Bool) (w : World) : Calls Tryd.prog 99 #[.bool b] w fun e w' => e = .returned (.int .u64 (far b : Nat)) ∧ w' = w := by
 go_enter Tryd.func99, Tryd.ntmps99
 cases b
 · go_wp2
   go_ret
   exact ⟨rfl, rfl⟩
 · go_wp2
   go_ret
   exact ⟨rfl, rfl⟩
def intR : Option Int → Value
 | some n => .tuple #[.int .i64 n, .int .i64 0]
 | none => .tuple #[.int .i64 0, .int .i64 4]
theorem head48 {ds : List UInt8} (h0 : 0 < (⟨ds.toArray⟩ : ByteArray).size) : ((((⟨ds.toArray⟩ : ByteArray)[0]'h0).toNat : Nat) : Int) = 48 ↔ ds.head? = some 48 := by
 cases ds with
 | nil => simp [ByteArray.size] at h0
 | cons c r =>
   show ((c.toNat : Nat) : Int) = 48 ↔ some c = some 48
   constructor
   · intro h
     congr 1
     apply UInt8.toNat.inj
     show c.toNat = 48
     omega
   · intro h
     have : c = 48 := by simpa using h
     rw [this]; rfl
theorem eq48 {s : ByteArray} {l : List UInt8} (hl : s.data.toList = l) : (s.toList == [48]) = decide (l = [48]) := by
 rw [Lib.toList_data, hl]
 by_cases h : l = [48]
 · rw [decide_eq_true h, h]; rfl
 · rw [decide_eq_false h, beq_eq_false_iff_ne]; exact h
theorem scan_step {m a k : Nat} {ds : List UInt8} (hk : k < ds.length) : scan m a (ds.drop k) = if dv ds[k] ≤ 9 ∧ a ≤ (m - dv ds[k]) / 10 then scan m (10 * a + dv ds[k]) (ds.drop (k + 1)) else none := by
 rw [List.drop_eq_getElem_cons hk, scan]
theorem byte_at {ds : List UInt8} {k : Nat} (hk : k < (⟨ds.toArray⟩ : ByteArray).size) (hk' : k < ds.length) : (⟨ds.toArray⟩ : ByteArray)[k]'hk = ds[k] := by
 show (ds.toArray)[k] = ds[k]
 simp
theorem ret_ii1 {a b c : Int} (h : a = c) : Ending.returned (.tuple #[.int .i64 a, .int .i64 b]) = .returned (.tuple #[.int .i64 c, .int .i64 b]) := by rw [h]
set_option maxHeartbeats 2000000 in
theorem int_any (s : ByteArray) (w : World) (hs : s.size ≤ 1000000) :
   Calls Tryd.prog 77 #[.string s] w fun e w' => e = .returned (intR (rdInt s.data.toList)) ∧ w' = w := by
 obtain ⟨l, hl⟩ : ∃ l, Hid (s.data.toList = l) := ⟨_, rfl⟩
 obtain ⟨neg, hneg⟩ : ∃ b, Hid (hasPrefix l [45] = b) := ⟨_, rfl⟩
 obtain ⟨ds, hds⟩ : ∃ b, Hid (trimPrefix l [45] = b) := ⟨_, rfl⟩
 obtain ⟨m, hm⟩ : ∃ m, Hid (far neg = m) := ⟨_, rfl⟩
 have HC : Hid (∀ w, Calls Tryd.prog 92 #[.string s, .string ⟨#[45]⟩] w fun e w' => e = .returned (.tuple #[.string ⟨ds.toArray⟩, .bool neg]) ∧ w' = w) := fun w => by
   have := Tryd.strings_CutPrefix s ⟨#[45]⟩ w
   rw [hl.out] at this
   rw [show (⟨#[45]⟩ : ByteArray).data.toList = [45] from rfl, hneg.out, hds.out] at this
   exact this
 have HF : Hid (∀ w, Calls Tryd.prog 99 #[.bool neg] w fun e w' => e = .returned (.int .u64 (m : Nat)) ∧ w' = w) := fun w => by
   have := farthest_any neg w
   rwa [hm.out] at this
 have hdl : ds.length ≤ 1000000 := by
   have e : l.length = s.size := by rw [← hl.out]; exact Array.length_toList
   have := hds.out
   unfold trimPrefix at this
   split at this
   · rw [← this, List.length_drop]; omega
   · rw [← this]; omega
 have hm1 : m ≤ 9223372036854775808 := by rw [← hm.out]; exact far_le _
 have hm2 : 9 ≤ m := by rw [← hm.out]; exact far_ge _
 have HE := Lib.hid (eq48 hl.out)
 have HR : Hid (rdInt l = if ds = [] ∨ (ds.head? = some 48 ∧ l ≠ [48]) then none else (scan m 0 ds).map fun (v : Nat) => if neg then -(v : Int) else (v : Int)) := by
   show rdInt l = _
   unfold rdInt
   rw [hneg.out, hds.out]
   simp only []
   rw [hm.out]
 rw [hl.out]
 by_cases h0 : ds = []
 · subst h0
   rw [HR.out, if_pos (Or.inl rfl)]
   go_enter Tryd.func77, Tryd.ntmps77
   go_wp2_with (first
     | (go_at_call 92; refine (HC.out _).mono ?_; rintro e w' ⟨rfl, rfl⟩)
     | (go_at_call 99; refine (HF.out _).mono ?_; rintro e w' ⟨rfl, rfl⟩))
   go_ret2
   exact ⟨rfl, rfl⟩
 have h1 : 0 < ds.length := List.length_pos_iff.2 h0
 have h2 : ds.isEmpty = false := by cases ds with
   | nil => exact absurd rfl h0
   | cons a r => rfl
 have hz : 0 < (⟨ds.toArray⟩ : ByteArray).size := by simpa [ByteArray.size] using h1
 have HH := Lib.hid (head48 hz)
 go_enter Tryd.func77, Tryd.ntmps77
 go_wp2_with (first
   | (go_at_call 92; refine (HC.out _).mono ?_; rintro e w' ⟨rfl, rfl⟩)
   | (go_at_call 99; refine (HF.out _).mono ?_; rintro e w' ⟨rfl, rfl⟩))
 · have a1 : ((((⟨ds.toArray⟩ : ByteArray)[0]'hz).toNat : Nat) : Int) = 48 := by assumption
   have a2 : (!s.toList == [48]) = true := by assumption
   have a3 : l ≠ [48] := by rw [HE.out] at a2; simpa using a2
   go_ret2
   rw [HR.out, if_pos (Or.inr ⟨HH.out.1 a1, a3⟩)]
   exact ⟨rfl, rfl⟩
 all_goals
   have hgood : Hid (rdInt l = (scan m 0 ds).map fun (v : Nat) => if neg then -(v : Int) else (v : Int)) := by
     show rdInt l = _
     rw [HR.out, if_neg]
     rintro (e | ⟨e1, e2⟩)
     · exact h0 e
     · first
         | exact absurd (HH.out.2 e1) (by assumption)
         | (have a2 : (!s.toList == [48]) = false := by assumption
            rw [HE.out] at a2
            exact e2 (by simpa using a2))
   clear HR HH HE
   go_loop [7, 30] (fun va vi => ∃ (k a : Nat), k ≤ ds.length ∧ vi = .int .i64 (k : Nat) ∧ va = .int .u64 (a : Nat) ∧ a ≤ m ∧ Hid (scan m a (ds.drop k) = scan m 0 ds)) (fun _ vi => ds.length - (RowKit.intOf vi).toNat)
   case atStart => exact ⟨0, 0, Nat.zero_le _, rfl, rfl, Nat.zero_le _, rfl⟩
   case round =>
     obtain ⟨k, a, hk, rfl, rfl, ha, hsc⟩ := hrel
     by_cases hlt : k < ds.length
     · have hks : k < (⟨ds.toArray⟩ : ByteArray).size := by simpa [ByteArray.size] using hlt
       have hstep := Lib.hid (scan_step (m := m) (a := a) hlt)
       have hdb : ((((⟨ds.toArray⟩ : ByteArray)[k]'hks).toNat : Nat) : Int) = (ds[k].toNat : Int) := by rw [byte_at hks hlt]
       have hdv : Hid ((((ds[k].toNat : Nat) : Int) - 48) % 256 = (dv ds[k] : Int)) := (by unfold dv; omega : (((ds[k].toNat : Nat) : Int) - 48) % 256 = (dv ds[k] : Int))
       have hno : Hid (¬ (dv ds[k] ≤ 9 ∧ a ≤ (m - dv ds[k]) / 10) → scan m 0 ds = none) := fun h => by rw [← hsc.out, hstep.out, if_neg h]
       have hyes : Hid (dv ds[k] ≤ 9 ∧ a ≤ (m - dv ds[k]) / 10 → scan m (10 * a + dv ds[k]) (ds.drop (k + 1)) = scan m 0 ds) := fun h => by rw [← hsc.out, hstep.out, if_pos h]
       clear hsc hstep
       go_wp2
       · have a1 : (((ds[k].toNat : Nat) : Int) - 48) % 256 ≤ 9 := by assumption
         have a2 : 9 < (((ds[k].toNat : Nat) : Int) - 48) % 256 ∨ ((m : Int) - (((ds[k].toNat : Nat) : Int) - 48) % 256) / 10 < (a : Int) := by assumption
         rw [hdv.out] at a1 a2
         go_ret2
         rw [hgood.out, hno.out (by omega)]
         exact ⟨rfl, rfl⟩
       · have a2 : (((ds[k].toNat : Nat) : Int) - 48) % 256 ≤ 9 ∧ (a : Int) ≤ ((m : Int) - (((ds[k].toNat : Nat) : Int) - 48) % 256) / 10 := by assumption
         rw [hdv.out] at a2
         refine ⟨⟨k + 1, 10 * a + dv ds[k], by omega, by go_num, by rw [hdv.out]; rfl, by omega, hyes.out (by omega)⟩, ?_⟩
         simp [RowKit.intOf]; omega
       · have a2 : 9 < (((ds[k].toNat : Nat) : Int) - 48) % 256 := by assumption
         rw [hdv.out] at a2
         go_ret2
         rw [hgood.out, hno.out (by omega)]
         exact ⟨rfl, rfl⟩
     · obtain rfl : k = ds.length := by omega
       have hend : Hid (scan m 0 ds = some a) := by
         have := hsc.out
         rw [List.drop_length] at this
         exact this.symm
       clear hsc
       cases neg
       · have hm3 : m = 9223372036854775807 := hm.out.symm
         have ha' : (a : Int) ≤ 9223372036854775807 := by omega
         clear hm3
         go_wp2
         go_ret2
         rw [hgood.out, hend.out]
         exact ⟨rfl, rfl⟩
       · have ha' : (a : Int) ≤ 9223372036854775808 := by omega
         go_wp2
         go_ret2
         rw [hgood.out, hend.out]
         exact ⟨ret_ii1 (c := -(a : Int)) (by rw [IntKind.wrap_u64]; unfold wrap64; omega), rfl⟩
end
end Go.Proofs.YtkgnlobakicnjaaDoor
