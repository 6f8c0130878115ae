/- Own texts, put together: Fd Jd Qf Qg. -/
import Derived.Test.YtgfloegaoofbbaaDoorQ3
import Derived.Test.YtgfloegaoofbbaaDoorQ4
import Derived.Test.YtgfloegaoofbbaaDoorQ5
import Derived.Lib.AppendIntMem
import Derived.Lib.LaidTab
import Derived.Lib.Walk
import Derived.Laws.Strings3
import Derived.Lib.Strings
namespace Go.Proofs.YtgfloegaoofbbaaDoor
/- Floats: Ldexp, on floats that are not below the normal ones. -/
section
open Go.RowKit
set_option maxHeartbeats 1000000 in
theorem Ldexp_of (a b : Nat) (k : Int) (w : World) (hf : ∀ w, Calls Tryd.prog 75 #[.float .f64 a, .int .i64 k] w fun e w' => e = .returned (.float .f64 b) ∧ w' = w) :
   Calls Tryd.prog 72 #[.float .f64 a, .int .i64 k] w fun e w' => e = .returned (.float .f64 b) ∧ w' = w := by
 have HF : Hid _ := hf
 clear hf
 go_enter Tryd.func72, Tryd.ntmps72
 go_wp2_with (first | (go_at_call 75; refine (HF.out _).mono ?_; rintro e w' ⟨rfl, rfl⟩))
 go_ret
 exact ⟨rfl, rfl⟩
end

/- Package digits: Show, farthest, Int. -/
section
open Go.RowKit Go.Shelf Go.Lib
def T8 (w : World) : Prop := Tab w ∧ Lib.TabIs Tryd.prog w "internal/strconv.uint64pow10" .u64 Lib.pow10Tab
theorem T8.later {w w' : World} (h : T8 w) (hb : Below w.heap.size w w') : T8 w' := ⟨h.1.later hb, Lib.tabBelow_of_tabIs h.2 w' hb⟩
theorem farthest_any (b : Bool) (w : World) : Calls Tryd.prog 55 #[.bool b] w fun e w' => e = .returned (.int .u64 (far b : Nat)) ∧ w' = w := by
 go_enter Tryd.func55, Tryd.ntmps55
 cases b
 · go_wp2
   go_ret
   exact ⟨rfl, rfl⟩
 · go_wp2
   go_ret
   exact ⟨rfl, rfl⟩
def intR : Option Int → Value
 | some n => .tuple #[.int .i64 n, .int .i64 0]
 | none => .tuple #[.int .i64 0, .int .i64 4]
theorem head48 {ds : List UInt8} (h0 : 0 < (⟨ds.toArray⟩ : ByteArray).size) : ((((⟨ds.toArray⟩ : ByteArray)[0]'h0).toNat : Nat) : Int) = 48 ↔ ds.head? = some 48 := by
 cases ds with
 | nil => simp [ByteArray.size] at h0
 | cons c r =>
   show ((c.toNat : Nat) : Int) = 48 ↔ some c = some 48
   constructor
   · intro h
     congr 1
     apply UInt8.toNat.inj
     show c.toNat = 48
     omega
   · intro h
     have : c = 48 := by simpa using h
     rw [this]; rfl
theorem eq48 {s : ByteArray} {l : List UInt8} (hl : s.data.toList = l) : (s.toList == [48]) = decide (l = [48]) := by
 rw [Lib.toList_data, hl]
 by_cases h : l = [48]
 · rw [decide_eq_true h, h]; rfl
 · rw [decide_eq_false h, beq_eq_false_iff_ne]; exact h
theorem scan_step {m a k : Nat} {ds : List UInt8} (hk : k < ds.length) : scan m a (ds.drop k) = if dv ds[k] ≤ 9 ∧ a ≤ (m - dv ds[k]) / 10 then scan m (10 * a + dv ds[k]) (ds.drop (k + 1)) else none := by
 rw [List.drop_eq_getElem_cons hk, scan]
theorem byte_at {ds : List UInt8} {k : Nat} (hk : k < (⟨ds.toArray⟩ : ByteArray).size) (hk' : k < ds.length) : (⟨ds.toArray⟩ : ByteArray)[k]'hk = ds[k] := by
 show (ds.toArray)[k] = ds[k]
 simp
theorem ret_ii1 {a b c : Int} (h : a = c) : Ending.returned (.tuple #[.int .i64 a, .int .i64 b]) = .returned (.tuple #[.int .i64 c, .int .i64 b]) := by rw [h]
set_option maxHeartbeats 2000000 in
theorem int_any (s : ByteArray) (w : World) (hs : s.size ≤ 1000000) :
   Calls Tryd.prog 44 #[.string s] w fun e w' => e = .returned (intR (rdInt s.data.toList)) ∧ w' = w := by
 obtain ⟨l, hl⟩ : ∃ l, Hid (s.data.toList = l) := ⟨_, rfl⟩
 obtain ⟨neg, hneg⟩ : ∃ b, Hid (hasPrefix l [45] = b) := ⟨_, rfl⟩
 obtain ⟨ds, hds⟩ : ∃ b, Hid (trimPrefix l [45] = b) := ⟨_, rfl⟩
 obtain ⟨m, hm⟩ : ∃ m, Hid (far neg = m) := ⟨_, rfl⟩
 have HC : Hid (∀ w, Calls Tryd.prog 54 #[.string s, .string ⟨#[45]⟩] w fun e w' => e = .returned (.tuple #[.string ⟨ds.toArray⟩, .bool neg]) ∧ w' = w) := fun w => by
   have := Tryd.strings_CutPrefix s ⟨#[45]⟩ w
   rw [hl.out] at this
   rw [show (⟨#[45]⟩ : ByteArray).data.toList = [45] from rfl, hneg.out, hds.out] at this
   exact this
 have HF : Hid (∀ w, Calls Tryd.prog 55 #[.bool neg] w fun e w' => e = .returned (.int .u64 (m : Nat)) ∧ w' = w) := fun w => by
   have := farthest_any neg w
   rwa [hm.out] at this
 have hdl : ds.length ≤ 1000000 := by
   have e : l.length = s.size := by rw [← hl.out]; exact Array.length_toList
   have := hds.out
   unfold trimPrefix at this
   split at this
   · rw [← this, List.length_drop]; omega
   · rw [← this]; omega
 have hm1 : m ≤ 9223372036854775808 := by rw [← hm.out]; exact far_le _
 have hm2 : 9 ≤ m := by rw [← hm.out]; exact far_ge _
 have HE := Lib.hid (eq48 hl.out)
 have HR : Hid (rdInt l = if ds = [] ∨ (ds.head? = some 48 ∧ l ≠ [48]) then none else (scan m 0 ds).map fun (v : Nat) => if neg then -(v : Int) else (v : Int)) := by
   show rdInt l = _
   unfold rdInt
   rw [hneg.out, hds.out]
   simp only []
   rw [hm.out]
 rw [hl.out]
 by_cases h0 : ds = []
 · subst h0
   rw [HR.out, if_pos (Or.inl rfl)]
   go_enter Tryd.func44, Tryd.ntmps44
   go_wp2_with (first
     | (go_at_call 54; refine (HC.out _).mono ?_; rintro e w' ⟨rfl, rfl⟩)
     | (go_at_call 55; refine (HF.out _).mono ?_; rintro e w' ⟨rfl, rfl⟩))
   go_ret2
   exact ⟨rfl, rfl⟩
 have h1 : 0 < ds.length := List.length_pos_iff.2 h0
 have h2 : ds.isEmpty = false := by cases ds with
   | nil => exact absurd rfl h0
   | cons a r => rfl
 have hz : 0 < (⟨ds.toArray⟩ : ByteArray).size := by simpa [ByteArray.size] using h1
 have HH := Lib.hid (head48 hz)
 go_enter Tryd.func44, Tryd.ntmps44
 go_wp2_with (first
   | (go_at_call 54; refine (HC.out _).mono ?_; rintro e w' ⟨rfl, rfl⟩)
   | (go_at_call 55; refine (HF.out _).mono ?_; rintro e w' ⟨rfl, rfl⟩))
 · have a1 : ((((⟨ds.toArray⟩ : ByteArray)[0]'hz).toNat : Nat) : Int) = 48 := by assumption
   have a2 : (!s.toList == [48]) = true := by assumption
   have a3 : l ≠ [48] := by rw [HE.out] at a2; simpa using a2
   go_ret2
   rw [HR.out, if_pos (Or.inr ⟨HH.out.1 a1, a3⟩)]
   exact ⟨rfl, rfl⟩
 all_goals
   have hgood : Hid (rdInt l = (scan m 0 ds).map fun (v : Nat) => if neg then -(v : Int) else (v : Int)) := by
     show rdInt l = _
     rw [HR.out, if_neg]
     rintro (e | ⟨e1, e2⟩)
     · exact h0 e
     · first
         | exact absurd (HH.out.2 e1) (by assumption)
         | (have a2 : (!s.toList == [48]) = false := by assumption
            rw [HE.out] at a2
            exact e2 (by simpa using a2))
   clear HR HH HE
   go_loop [7, 30] (fun va vi => ∃ (k a : Nat), k ≤ ds.length ∧ vi = .int .i64 (k : Nat) ∧ va = .int .u64 (a : Nat) ∧ a ≤ m ∧ Hid (scan m a (ds.drop k) = scan m 0 ds)) (fun _ vi => ds.length - (RowKit.intOf vi).toNat)
   case atStart => exact ⟨0, 0, Nat.zero_le _, rfl, rfl, Nat.zero_le _, rfl⟩
   case round =>
     obtain ⟨k, a, hk, rfl, rfl, ha, hsc⟩ := hrel
     by_cases hlt : k < ds.length
     · have hks : k < (⟨ds.toArray⟩ : ByteArray).size := by simpa [ByteArray.size] using hlt
       have hstep := Lib.hid (scan_step (m := m) (a := a) hlt)
       have hdb : ((((⟨ds.toArray⟩ : ByteArray)[k]'hks).toNat : Nat) : Int) = (ds[k].toNat : Int) := by rw [byte_at hks hlt]
       have hdv : Hid ((((ds[k].toNat : Nat) : Int) - 48) % 256 = (dv ds[k] : Int)) := (by unfold dv; omega : (((ds[k].toNat : Nat) : Int) - 48) % 256 = (dv ds[k] : Int))
       have hno : Hid (¬ (dv ds[k] ≤ 9 ∧ a ≤ (m - dv ds[k]) / 10) → scan m 0 ds = none) := fun h => by rw [← hsc.out, hstep.out, if_neg h]
       have hyes : Hid (dv ds[k] ≤ 9 ∧ a ≤ (m - dv ds[k]) / 10 → scan m (10 * a + dv ds[k]) (ds.drop (k + 1)) = scan m 0 ds) := fun h => by rw [← hsc.out, hstep.out, if_pos h]
       clear hsc hstep
       go_wp2
       · have a1 : (((ds[k].toNat : Nat) : Int) - 48) % 256 ≤ 9 := by assumption
         have a2 : 9 < (((ds[k].toNat : Nat) : Int) - 48) % 256 ∨ ((m : Int) - (((ds[k].toNat : Nat) : Int) - 48) % 256) / 10 < (a : Int) := by assumption
         rw [hdv.out] at a1 a2
         go_ret2
         rw [hgood.out, hno.out (by omega)]
         exact ⟨rfl, rfl⟩
       · have a2 : (((ds[k].toNat : Nat) : Int) - 48) % 256 ≤ 9 ∧ (a : Int) ≤ ((m : Int) - (((ds[k].toNat : Nat) : Int) - 48) % 256) / 10 := by assumption
         rw [hdv.out] at a2
         refine ⟨⟨k + 1, 10 * a + dv ds[k], by omega, by go_num, by rw [hdv.out]; rfl, by omega, hyes.out (by omega)⟩, ?_⟩
         simp [RowKit.intOf]; omega
       · have a2 : 9 < (((ds[k].toNat : Nat) : Int) - 48) % 256 := by assumption
         rw [hdv.out] at a2
         go_ret2
         rw [hgood.out, hno.out (by omega)]
         exact ⟨rfl, rfl⟩
     · obtain rfl : k = ds.length := by omega
       have hend : Hid (scan m 0 ds = some a) := by
         have := hsc.out
         rw [List.drop_length] at this
         exact this.symm
       clear hsc
       cases neg
       · have hm3 : m = 9223372036854775807 := hm.out.symm
         have ha' : (a : Int) ≤ 9223372036854775807 := by omega
         clear hm3
         go_wp2
         go_ret2
         rw [hgood.out, hend.out]
         exact ⟨rfl, rfl⟩
       · have ha' : (a : Int) ≤ 9223372036854775808 := by omega
         go_wp2
         go_ret2
         rw [hgood.out, hend.out]
         exact ⟨ret_ii1 (c := -(a : Int)) (by rw [IntKind.wrap_u64]; unfold wrap64; omega), rfl⟩
end

/- errors.As at the two targets; what told tells. -/
section
open Go.RowKit Go.Extern.Stop Go.Stop Go.Extern
def h3 (t b : Nat) : Array Value := #[.pointer (some ⟨3, t, none⟩), .pointer (some ⟨b, 0, none⟩), .int .u64 150]
end

/- errors.As at a target of type Errno; told. -/
section
set_option maxRecDepth 100000
open Go.RowKit Go.Extern.Stop Go.Stop Go.Extern
end
end Go.Proofs.YtgfloegaoofbbaaDoor
