/- Own texts, put together: Wd Jd Rh. -/
import Derived.Test.YtgoadpnoagaflaaDoorQ3
import Derived.Test.YtgoadpnoagaflaaDoorQ4
import Derived.Lib.Strings
import Derived.Lib.Slices
import Derived.Lib.Small
import Derived.Lib.Walk
import Derived.Lib.BitFns
import Derived.Laws.MathBits
import Derived.Lib.TrailingZeros
import Derived.Shelf.Spec.TrailingZeros
import Derived.Lib.AppendIntMem
import Derived.Lib.LaidTab
import Derived.Laws.Strings3
namespace Go.Proofs.YtgoadpnoagaflaaDoor
/- Walks of math/bits: Len64, TrailingZeros64, Mul64, in the numbers of this program. -/
section
open Go.RowKit
theorem bitLenAux_log2 (f : Nat) : ∀ x : Nat, x ≠ 0 → x < 2 ^ f → Lib.bitLenAux f x = Nat.log2 x + 1 := by
 induction f with
 | zero => intro x h0 h1; simp at h1; omega
 | succ f ih =>
   intro x h0 h1
   rw [Lib.bitLenAux, if_neg h0]
   by_cases h2 : x / 2 = 0
   · have : x = 1 := by omega
     subst this
     simp
     cases f <;> simp [Lib.bitLenAux, show Nat.log2 1 = 0 from rfl]
   · rw [ih (x / 2) h2 (by rw [Nat.pow_succ] at h1; omega)]
     have : Nat.log2 x = Nat.log2 (x / 2) + 1 := by
       rw [Nat.log2_def x, if_pos (by omega)]
     omega
theorem bitLen_log2 (x : Nat) (h0 : x ≠ 0) (h1 : x < 18446744073709551616) : Lib.bitLen x = Nat.log2 x + 1 := bitLenAux_log2 64 x h0 h1
def Tab (w : World) : Prop := ∀ j, j < Lib.deBruijn64tab.length → w.cell? ⟨2, j, none⟩ = some (.int .u8 (Lib.deBruijn64tab.getD j 0 : Nat))
theorem Tab.later {w w' : World} (h : Tab w) (hb : Below w.heap.size w w') : Tab w' := fun j hj => cell_later hb (h j hj)
set_option maxHeartbeats 1000000 in
theorem tz64_core (x k idx : Nat) (w : World) (hx0 : ((x : Int) == 0) = false)
   (key : IntKind.u64.wrap (bits BinOp.and IntKind.u64 (x : Int) (IntKind.u64.wrap (-(x : Int))) * 285870213051353865) / 288230376151711744 = (idx : Int))
   (hi : idx < 64) (hk : k < 64) (hcell : w.cell? ⟨2, idx, none⟩ = some (.int .u8 k)) :
   Calls Tryd.prog 101 #[.int .u64 x] w fun e w' => e = .returned (.int .i64 k) ∧ w' = w := by
 go_enter Tryd.func101, Tryd.ntmps101
 go_wp2_with (simp only [key])
 go_ret
 exact ⟨rfl, rfl⟩
theorem tz64_any (x : Nat) (hx : x < 18446744073709551616) (hx0 : x ≠ 0) (w : World) (hT : Tab w) :
   Calls Tryd.prog 101 #[.int .u64 x] w fun e w' => e = .returned (.int .i64 (Lib.ctz 64 x)) ∧ w' = w := by
 obtain ⟨hlow, hk⟩ := Lib.lowest_bit 64 x hx0 hx
 obtain ⟨hi, htab⟩ := Lib.deBruijn64_at _ hk
 refine tz64_core x _ _ w (by simpa using hx0) (tz64_key x _ hx hx0 hlow) hi hk ?_
 rw [hT _ hi, htab]
theorem ctz_spec (x : Nat) (hx : x < 18446744073709551616) (hx0 : x ≠ 0) : ∃ m, x = 2 ^ Lib.ctz 64 x * (2 * m + 1) ∧ Lib.ctz 64 x < 64 := by
 have e : Lib.ctz 64 x = Lib.ctzFrom 64 x := by simp [Lib.ctz, hx0]
 rw [e]
 exact Lib.ctzFrom_spec 64 x (by omega) hx
theorem len64_any (x : Int) (w : World) (h0 : 0 < x) (h1 : x ≤ 18446744073709551615) :
   Calls Tryd.prog 123 #[.int .u64 x] w fun e w' => e = .returned (.int .i64 ((Nat.log2 x.toNat + 1 : Nat) : Int)) ∧ w' = w := by
 rw [← bitLen_log2 x.toNat (by omega) (by omega)]
 exact Tryd.bits_Len64 x w (by omega) h1
end

/- Package digits: Show, farthest, Int. -/
section
open Go.RowKit Go.Shelf Go.Lib
def T8 (w : World) : Prop := Tab w ∧ Lib.TabIs Tryd.prog w "internal/strconv.uint64pow10" .u64 Lib.pow10Tab
theorem T8.later {w w' : World} (h : T8 w) (hb : Below w.heap.size w w') : T8 w' := ⟨h.1.later hb, Lib.tabBelow_of_tabIs h.2 w' hb⟩
theorem show_any (n : Int) (hn : InR n) (w : World) (hT : T8 w) :
   Calls Tryd.prog 21 #[.int .i64 n] w fun e w' => e = .returned (sv (itoa n)) ∧ Below w.heap.size w w' := by
 have HT : Hid (T8 w) := hT
 have HN : Hid (InR n) := hn
 clear hT hn
 go_enter Tryd.func21, Tryd.ntmps21
 go_wp2_with (go_at_call 45; refine (Tryd.strconv_Itoa n HN.out.1 HN.out.2 _ HT.out.2).mono ?_; rintro e w' ⟨rfl, k, os, rfl⟩)
 go_ret
 exact ⟨rfl, below_grow _ _ (Nat.le_refl _) _ _⟩
theorem farthest_any (b : Bool) (w : World) : Calls Tryd.prog 94 #[.bool b] w fun e w' => e = .returned (.int .u64 (far b : Nat)) ∧ w' = w := by
 go_enter Tryd.func94, Tryd.ntmps94
 cases b
 · go_wp2
   go_ret
   exact ⟨rfl, rfl⟩
 · go_wp2
   go_ret
   exact ⟨rfl, rfl⟩
def intR : Option Int → Value
 | some n => .tuple #[.int .i64 n, .int .i64 0]
 | none => .tuple #[.int .i64 0, .int .i64 4]
theorem head48 {ds : List UInt8} (h0 : 0 < (⟨ds.toArray⟩ : ByteArray).size) : ((((⟨ds.toArray⟩ : ByteArray)[0]'h0).toNat : Nat) : Int) = 48 ↔ ds.head? = some 48 := by
 cases ds with
 | nil => simp [ByteArray.size] at h0
 | cons c r =>
   show ((c.toNat : Nat) : Int) = 48 ↔ some c = some 48
   constructor
   · intro h
     congr 1
     apply UInt8.toNat.inj
     show c.toNat = 48
     omega
   · intro h
     have : c = 48 := by simpa using h
     rw [this]; rfl
theorem eq48 {s : ByteArray} {l : List UInt8} (hl : s.data.toList = l) : (s.toList == [48]) = decide (l = [48]) := by
 rw [Lib.toList_data, hl]
 by_cases h : l = [48]
 · rw [decide_eq_true h, h]; rfl
 · rw [decide_eq_false h, beq_eq_false_iff_ne]; exact h
theorem scan_step {m a k : Nat} {ds : List UInt8} (hk : k < ds.length) : scan m a (ds.drop k) = if dv ds[k] ≤ 9 ∧ a ≤ (m - dv ds[k]) / 10 then scan m (10 * a + dv ds[k]) (ds.drop (k + 1)) else none := by
 rw [List.drop_eq_getElem_cons hk, scan]
theorem byte_at {ds : List UInt8} {k : Nat} (hk : k < (⟨ds.toArray⟩ : ByteArray).size) (hk' : k < ds.length) : (⟨ds.toArray⟩ : ByteArray)[k]'hk = ds[k] := by
 show (ds.toArray)[k] = ds[k]
 simp
theorem ret_ii1 {a b c : Int} (h : a = c) : Ending.returned (.tuple #[.int .i64 a, .int .i64 b]) = .returned (.tuple #[.int .i64 c, .int .i64 b]) := by rw [h]
set_option maxHeartbeats 2000000 in
theorem int_any (s : ByteArray) (w : World) (hs : s.size ≤ 1000000) :
   Calls Tryd.prog 70 #[.string s] w fun e w' => e = .returned (intR (rdInt s.data.toList)) ∧ w' = w := by
 obtain ⟨l, hl⟩ : ∃ l, Hid (s.data.toList = l) := ⟨_, rfl⟩
 obtain ⟨neg, hneg⟩ : ∃ b, Hid (hasPrefix l [45] = b) := ⟨_, rfl⟩
 obtain ⟨ds, hds⟩ : ∃ b, Hid (trimPrefix l [45] = b) := ⟨_, rfl⟩
 obtain ⟨m, hm⟩ : ∃ m, Hid (far neg = m) := ⟨_, rfl⟩
 have HC : Hid (∀ w, Calls Tryd.prog 93 #[.string s, .string ⟨#[45]⟩] w fun e w' => e = .returned (.tuple #[.string ⟨ds.toArray⟩, .bool neg]) ∧ w' = w) := fun w => by
   have := Tryd.strings_CutPrefix s ⟨#[45]⟩ w
   rw [hl.out] at this
   rw [show (⟨#[45]⟩ : ByteArray).data.toList = [45] from rfl, hneg.out, hds.out] at this
   exact this
 have HF : Hid (∀ w, Calls Tryd.prog 94 #[.bool neg] w fun e w' => e = .returned (.int .u64 (m : Nat)) ∧ w' = w) := fun w => by
   have := farthest_any neg w
   rwa [hm.out] at this
 have hdl : ds.length ≤ 1000000 := by
   have e : l.length = s.size := by rw [← hl.out]; exact Array.length_toList
   have := hds.out
   unfold trimPrefix at this
   split at this
   · rw [← this, List.length_drop]; omega
   · rw [← this]; omega
 have hm1 : m ≤ 9223372036854775808 := by rw [← hm.out]; exact far_le _
 have hm2 : 9 ≤ m := by rw [← hm.out]; exact far_ge _
 have HE := Lib.hid (eq48 hl.out)
 have HR : Hid (rdInt l = if ds = [] ∨ (ds.head? = some 48 ∧ l ≠ [48]) then none else (scan m 0 ds).map fun (v : Nat) => if neg then -(v : Int) else (v : Int)) := by
   show rdInt l = _
   unfold rdInt
   rw [hneg.out, hds.out]
   simp only []
   rw [hm.out]
 rw [hl.out]
 by_cases h0 : ds = []
 · subst h0
   rw [HR.out, if_pos (Or.inl rfl)]
   go_enter Tryd.func70, Tryd.ntmps70
   go_wp2_with (first
     | (go_at_call 93; refine (HC.out _).mono ?_; rintro e w' ⟨rfl, rfl⟩)
     | (go_at_call 94; refine (HF.out _).mono ?_; rintro e w' ⟨rfl, rfl⟩))
   go_ret2
   exact ⟨rfl, rfl⟩
 have h1 : 0 < ds.length := List.length_pos_iff.2 h0
 have h2 : ds.isEmpty = false := by cases ds with
   | nil => exact absurd rfl h0
   | cons a r => rfl
 have hz : 0 < (⟨ds.toArray⟩ : ByteArray).size := by simpa [ByteArray.size] using h1
 have HH := Lib.hid (head48 hz)
 go_enter Tryd.func70, Tryd.ntmps70
 go_wp2_with (first
   | (go_at_call 93; refine (HC.out _).mono ?_; rintro e w' ⟨rfl, rfl⟩)
   | (go_at_call 94; refine (HF.out _).mono ?_; rintro e w' ⟨rfl, rfl⟩))
 · have a1 : ((((⟨ds.toArray⟩ : ByteArray)[0]'hz).toNat : Nat) : Int) = 48 := by assumption
   have a2 : (!s.toList == [48]) = true := by assumption
   have a3 : l ≠ [48] := by rw [HE.out] at a2; simpa using a2
   go_ret2
   rw [HR.out, if_pos (Or.inr ⟨HH.out.1 a1, a3⟩)]
   exact ⟨rfl, rfl⟩
 all_goals
   have hgood : Hid (rdInt l = (scan m 0 ds).map fun (v : Nat) => if neg then -(v : Int) else (v : Int)) := by
     show rdInt l = _
     rw [HR.out, if_neg]
     rintro (e | ⟨e1, e2⟩)
     · exact h0 e
     · first
         | exact absurd (HH.out.2 e1) (by assumption)
         | (have a2 : (!s.toList == [48]) = false := by assumption
            rw [HE.out] at a2
            exact e2 (by simpa using a2))
   clear HR HH HE
   go_loop [7, 30] (fun va vi => ∃ (k a : Nat), k ≤ ds.length ∧ vi = .int .i64 (k : Nat) ∧ va = .int .u64 (a : Nat) ∧ a ≤ m ∧ Hid (scan m a (ds.drop k) = scan m 0 ds)) (fun _ vi => ds.length - (RowKit.intOf vi).toNat)
   case atStart => exact ⟨0, 0, Nat.zero_le _, rfl, rfl, Nat.zero_le _, rfl⟩
   case round =>
     obtain ⟨k, a, hk, rfl, rfl, ha, hsc⟩ := hrel
     by_cases hlt : k < ds.length
     · have hks : k < (⟨ds.toArray⟩ : ByteArray).size := by simpa [ByteArray.size] using hlt
       have hstep := Lib.hid (scan_step (m := m) (a := a) hlt)
       have hdb : ((((⟨ds.toArray⟩ : ByteArray)[k]'hks).toNat : Nat) : Int) = (ds[k].toNat : Int) := by rw [byte_at hks hlt]
       have hdv : Hid ((((ds[k].toNat : Nat) : Int) - 48) % 256 = (dv ds[k] : Int)) := (by unfold dv; omega : (((ds[k].toNat : Nat) : Int) - 48) % 256 = (dv ds[k] : Int))
       have hno : Hid (¬ (dv ds[k] ≤ 9 ∧ a ≤ (m - dv ds[k]) / 10) → scan m 0 ds = none) := fun h => by rw [← hsc.out, hstep.out, if_neg h]
       have hyes : Hid (dv ds[k] ≤ 9 ∧ a ≤ (m - dv ds[k]) / 10 → scan m (10 * a + dv ds[k]) (ds.drop (k + 1)) = scan m 0 ds) := fun h => by rw [← hsc.out, hstep.out, if_pos h]
       clear hsc hstep
       go_wp2
       · have a1 : (((ds[k].toNat : Nat) : Int) - 48) % 256 ≤ 9 := by assumption
         have a2 : 9 < (((ds[k].toNat : Nat) : Int) - 48) % 256 ∨ ((m : Int) - (((ds[k].toNat : Nat) : Int) - 48) % 256) / 10 < (a : Int) := by assumption
         rw [hdv.out] at a1 a2
         go_ret2
         rw [hgood.out, hno.out (by omega)]
         exact ⟨rfl, rfl⟩
       · have a2 : (((ds[k].toNat : Nat) : Int) - 48) % 256 ≤ 9 ∧ (a : Int) ≤ ((m : Int) - (((ds[k].toNat : Nat) : Int) - 48) % 256) / 10 := by assumption
         rw [hdv.out] at a2
         refine ⟨⟨k + 1, 10 * a + dv ds[k], by omega, by go_num, by rw [hdv.out]; rfl, by omega, hyes.out (by omega)⟩, ?_⟩
         simp [RowKit.intOf]; omega
       · have a2 : 9 < (((ds[k].toNat : Nat) : Int) - 48) % 256 := by assumption
         rw [hdv.out] at a2
         go_ret2
         rw [hgood.out, hno.out (by omega)]
         exact ⟨rfl, rfl⟩
     · obtain rfl : k = ds.length := by omega
       have hend : Hid (scan m 0 ds = some a) := by
         have := hsc.out
         rw [List.drop_length] at this
         exact this.symm
       clear hsc
       cases neg
       · have hm3 : m = 9223372036854775807 := hm.out.symm
         have ha' : (a : Int) ≤ 9223372036854775807 := by omega
         clear hm3
         go_wp2
         go_ret2
         rw [hgood.out, hend.out]
         exact ⟨rfl, rfl⟩
       · have ha' : (a : Int) ≤ 9223372036854775808 := by omega
         go_wp2
         go_ret2
         rw [hgood.out, hend.out]
         exact ⟨ret_ii1 (c := -(a : Int)) (by rw [IntKind.wrap_u64]; unfold wrap64; omega), rfl⟩
end

/- A drawn region whose first operations only make memory, in any order, ahead of all others. -/
section
open Go Go.RowKit
section
variable {P : Program} {ops : Array Oper} {Q : Exit → Act → World → Prop}
def listM (m n : Nat) : Array Bool := (List.replicate m true ++ List.replicate (n - m) false).toArray
theorem listM_eq {m n : Nat} {listed : Array Bool} (hmn : m ≤ n) (hl : listed.size = n) (h1 : ∀ j, j < m → listed.getD j false = true) (h2 : ∀ j, m ≤ j → j < n → listed.getD j false = false) : listed = listM m n := by
 apply Array.ext
 · simp [listM]; omega
 · intro i hi hi2
   have hi' : i < n := by omega
   have e : listed.getD i false = listed[i] := by rw [Array.getD_eq_getD_getElem?, Array.getElem?_eq_getElem hi]; rfl
   rw [← e]
   simp only [listM, List.getElem_toArray]
   by_cases h : i < m
   · rw [h1 i h, List.getElem_append_left (by simpa using h), List.getElem_replicate]
   · rw [h2 i (by omega) hi', List.getElem_append_right (by simp; omega), List.getElem_replicate]
def regOk2 (base m : Nat) (ops : Array Oper) : Bool :=
 ((List.range m).all fun j => match ops[j]? with
   | some o => o.dst == some (base + j) && o.guard.isNone && o.after.all (fun e => decide (e.on < j))
   | none => false) &&
 ((List.range m).all fun j => (List.range (m + 1)).any fun u => decide (j < u) && (match ops[u]? with
   | some o => o.after.any (fun e => Region.binds .any e && e.on == j)
   | none => false)) &&
 ((List.range ops.size).all fun j => decide (j ≤ m) || (match ops[j]? with
   | some o => o.after.any (fun e => Region.binds .any e && decide (m ≤ e.on))
   | none => false))
theorem regOk2_at {base m : Nat} {ops : Array Oper} (h : regOk2 base m ops = true) {j : Nat} {o : Oper} (hj : j < m) (ho : ops[j]? = some o) : o.dst = some (base + j) ∧ o.guard = none ∧ ∀ e ∈ o.after, e.on < j := by
 unfold regOk2 at h
 simp only [Bool.and_eq_true] at h
 have := List.all_eq_true.1 h.1.1 j (List.mem_range.2 hj)
 rw [ho] at this
 simp only [Bool.and_eq_true, beq_iff_eq] at this
 obtain ⟨⟨h1, h2⟩, h3⟩ := this
 refine ⟨h1, by simpa using h2, fun e he => ?_⟩
 have := (Array.all_eq_true'.1 h3) e he
 simpa using this
theorem regOk2_use {base m : Nat} {ops : Array Oper} (h : regOk2 base m ops = true) {j : Nat} (hj : j < m) : ∃ u o, j < u ∧ u ≤ m ∧ ops[u]? = some o ∧ ∃ e ∈ o.after, Region.binds .any e = true ∧ e.on = j := by
 unfold regOk2 at h
 simp only [Bool.and_eq_true] at h
 obtain ⟨u, hu, hh⟩ := List.any_eq_true.1 (List.all_eq_true.1 h.1.2 j (List.mem_range.2 hj))
 simp only [Bool.and_eq_true, decide_eq_true_eq] at hh
 obtain ⟨h1, h2⟩ := hh
 have hu' := List.mem_range.1 hu
 cases ho : ops[u]? with
 | none => rw [ho] at h2; cases h2
 | some o =>
   rw [ho] at h2
   obtain ⟨e, he, hb⟩ := Array.any_eq_true'.1 h2
   simp only [Bool.and_eq_true, beq_iff_eq] at hb
   exact ⟨u, o, h1, by omega, ho, e, he, hb.1, hb.2⟩
theorem regOk2_tail {base m : Nat} {ops : Array Oper} (h : regOk2 base m ops = true) {j : Nat} {o : Oper} (hj : m < j) (ho : ops[j]? = some o) : ∃ e ∈ o.after, Region.binds .any e = true ∧ m ≤ e.on := by
 unfold regOk2 at h
 simp only [Bool.and_eq_true] at h
 have hlt : j < ops.size := (Array.getElem?_eq_some_iff.1 ho).1
 have hh := List.all_eq_true.1 h.2 j (List.mem_range.2 hlt)
 simp only [Bool.or_eq_true, decide_eq_true_eq] at hh
 rcases hh with hh | hh
 · omega
 · rw [ho] at hh
   obtain ⟨e, he, hb⟩ := Array.any_eq_true'.1 hh
   simp only [Bool.and_eq_true, decide_eq_true_eq] at hb
   exact ⟨e, he, hb.1, hb.2⟩
theorem region_facts2 {id : Nat} {a0 : Act} {w0 : World} (base m n : Nat) (G : World → Prop) (F : Nat → Value → World → Prop) (hm : P.follows .mixedOrders = true) (hn : ops.size = n) (hmn : m < n) (hok : regOk2 base m ops = true) (hsz : base + m ≤ a0.tmps.size) (hG : G w0.drew)
   (stab : ∀ j v w w', F j v w → Below w.heap.size w w' → F j v w')
   (step : ∀ (Q' : Exit → Act → World → Prop) j o, j < m → ops[j]? = some o → ∀ (a : Act) (w : World), G w → (∀ t, t < base → a.eval (.tmp t) = a0.eval (.tmp t)) → (∀ e ∈ o.after, Region.binds .any e = true → F e.on (a.eval (.tmp (base + e.on))) w) → Oper.wp P o a w (fun a' w' => ∃ v, a' = a.put (some (base + j)) v ∧ G w' ∧ Below w.heap.size w w' ∧ F j v w') Q')
   (fin : ∀ vs w, G w → (∀ j, j < m → F j (vs j) w) → wpAny P .any ops Q (n - m) (listM m n) (actF a0 base m (fun _ => true) vs) w) : (Code.region id ops true).wp P Q a0 w0 := by
 have main : ∀ (fuel : Nat) (listed : Array Bool) (a : Act) (w : World), listed.size = n → (∀ j, m ≤ j → j < n → listed.getD j false = false) → (∀ i o, i < m → ops[i]? = some o → listed.getD i false = true → ∀ e ∈ o.after, Region.binds .any e = true → listed.getD e.on false = true) → cntD listed m + fuel = n → G w → (∃ vs, a = actF a0 base m (fun j => listed.getD j false) vs ∧ ∀ j, j < m → listed.getD j false = true → F j (vs j) w) → wpAny P .any ops Q fuel listed a w := by
   intro fuel
   induction fuel with
   | zero =>
     intro listed a w hl _ _ hc _ _
     have := cntD_le listed m
     omega
   | succ fuel ih =>
     intro listed a w hl htl hcl hc hG hI
     by_cases hall : ∀ j, j < m → listed.getD j false = true
     · obtain ⟨vs, rfl, hF⟩ := hI
       have e1 := listM_eq (by omega) hl hall htl
       have e2 : cntD listed m = m := by
         have : ∀ k, k ≤ m → cntD listed k = k := by
           intro k
           induction k with
           | zero => intro _; rfl
           | succ k ih => intro hk; rw [cntD, ih (by omega), if_pos (hall k (by omega))]
         exact this m (Nat.le_refl _)
       have h := fin vs w hG (fun j hj => hF j hj (hall j hj))
       rw [show n - m = fuel + 1 by omega, ← e1] at h
       unfold actF at h ⊢
       rwa [fillL_all base m _ vs hall]
     · have hrd : ∀ i, i ∈ Region.ready .any ops listed → i < n ∧ listed.getD i false = false ∧ ∃ o, ops[i]? = some o ∧ ∀ e ∈ o.after, Region.binds .any e = true → listed.getD e.on false = true := by
         intro i hi
         unfold Region.ready at hi
         rw [List.mem_filter, List.mem_range, hn] at hi
         obtain ⟨hin, hi⟩ := hi
         obtain ⟨o, ho⟩ : ∃ o, ops[i]? = some o := ⟨_, Array.getElem?_eq_getElem (by omega)⟩
         rw [ho] at hi
         simp only [Option.map_some, Option.getD_some, Bool.and_eq_true, Bool.not_eq_true'] at hi
         obtain ⟨h1, h2⟩ := hi
         refine ⟨hin, ?_, o, ho, fun e he hb => ?_⟩
         · rw [Array.getD_eq_getD_getElem?, Array.getElem?_eq_getElem (by omega)] at h1 ⊢
           exact h1
         · have := Array.all_eq_true'.1 h2 e he
           rw [hb] at this
           simpa using this
       have hlow : ∀ i, i ∈ Region.ready .any ops listed → i < m := by
         intro i hi
         obtain ⟨h1, h2, o, ho, hd⟩ := hrd i hi
         rcases Nat.lt_or_ge i m with h | h
         · exact h
         · exfalso
           rcases Nat.lt_or_ge m i with h' | h'
           · obtain ⟨e, he, hb, hme⟩ := regOk2_tail hok h' ho
             have h3 := hd e he hb
             by_cases hen : e.on < n
             · rw [htl e.on hme hen] at h3; cases h3
             · rw [Array.getD_eq_getD_getElem?, Array.getElem?_eq_none (by omega)] at h3; cases h3
           · obtain rfl : i = m := by omega
             apply hall
             have key : ∀ d j, j + d = i → j < i → listed.getD j false = true := by
               intro d
               induction d using Nat.strongRecOn with
               | ind d ihd =>
                 intro j hjd hj
                 obtain ⟨u, o2, hju, hum, ho2, e, he, hb, rfl⟩ := regOk2_use hok hj
                 rcases Nat.lt_or_ge u i with hu | hu
                 · exact hcl u o2 hu ho2 (ihd (i - u) (by omega) u (by omega) hu) e he hb
                 · obtain rfl : u = i := by omega
                   obtain rfl : o = o2 := Option.some.inj (ho.symm.trans ho2)
                   exact hd e he hb
             exact fun j hj => key (i - j) j (by omega) hj
       refine ⟨fun hr => ?_, fun i hi => ?_⟩
       · exfalso
         apply hall
         intro j
         induction j using Nat.strongRecOn with
         | ind j ihj =>
           intro hj
           cases hc : listed.getD j false with
           | true => rfl
           | false =>
             obtain ⟨o, ho⟩ : ∃ o, ops[j]? = some o := ⟨_, Array.getElem?_eq_getElem (by omega)⟩
             have hb := (regOk2_at hok hj ho).2.2
             have : j ∈ Region.ready .any ops listed := by
               unfold Region.ready
               rw [List.mem_filter]
               refine ⟨List.mem_range.2 (by omega), ?_⟩
               have e1 : listed.getD j true = false := by
                 rw [Array.getD_eq_getD_getElem?, Array.getElem?_eq_getElem (by omega)] at hc ⊢
                 exact hc
               rw [e1, ho]
               simp only [Bool.not_false, Bool.true_and, Option.map_some, Option.getD_some]
               rw [Array.all_eq_true']
               intro e he
               rw [ihj e.on (hb e he) (by have := hb e he; omega)]
               simp
             rw [hr] at this
             simp at this
       · have him := hlow i hi
         obtain ⟨hin, h1', o, ho, hd'⟩ := hrd i hi
         obtain ⟨hd, hg, hb⟩ := regOk2_at hok him ho
         unfold wpOp
         rw [ho]
         simp only []
         have hw : Region.wanted o (yielded ops a.tmps) = true := by unfold Region.wanted; rw [hg]
         rw [if_pos hw]
         obtain ⟨vs, rfl, hF⟩ := hI
         refine Or.inl (Oper.wp_mono ?_ (step Q i o him ho _ w hG ?_ ?_))
         · rintro a' w' ⟨v, rfl, hG', hbel, hFi⟩
           rw [actF_put a0 base m _ vs i v him hsz]
           refine ih _ _ _ (by simpa using hl) ?_ ?_ ?_ hG' ⟨fun j => if j = i then v else vs j, ?_, ?_⟩
           · intro j hj hjn
             rw [getD_set _ _ _ (by omega), htl j hj hjn]
             have : (j == i) = false := by simp; omega
             rw [this]; rfl
           · intro k o2 hk ho2 hlk e he hbe
             rw [getD_set _ _ _ (by omega)] at hlk ⊢
             by_cases hki : k = i
             · subst hki
               obtain rfl : o = o2 := Option.some.inj (ho.symm.trans ho2)
               rw [hd' e he hbe]; rfl
             · have : (k == i) = false := by simpa using hki
               rw [this, Bool.or_false] at hlk
               rw [hcl k o2 hk ho2 hlk e he hbe]; rfl
           · rw [cntD_set listed i (by omega) h1', if_pos him]; omega
           · congr 1
             funext j
             rw [getD_set _ _ _ (by omega)]
           · intro j hj hlj
             rw [getD_set _ _ _ (by omega)] at hlj
             by_cases e : j = i
             · subst e; simpa using hFi
             · show F j (if j = i then v else vs j) w'
               rw [if_neg e]
               have : (j == i) = false := by simpa using e
               rw [this, Bool.or_false] at hlj
               exact stab j _ w w' (hF j hj hlj) hbel
         · intro t ht
           rw [actF_get, if_neg (fun e => by omega)]
         · intro e he hbi
           have hon := hb e he
           have hle := hd' e he hbi
           rw [actF_get, if_pos ⟨by omega, by omega, by omega, by rw [show base + e.on - base = e.on by omega]; exact hle⟩, show base + e.on - base = e.on by omega]
           exact hF e.on (by omega) hle
 have hz : ∀ k, (Array.replicate ops.size false).getD k false = false := fun k => by
   rw [Array.getD_eq_getD_getElem?, Array.getElem?_replicate]; split <;> rfl
 refine wp_region_any hm ?_
 refine main _ _ _ _ (by simpa using hn) (fun j _ _ => hz j) (fun i o _ _ h => by rw [hz] at h; cases h) ?_ hG ⟨fun _ => undef, ?_, ?_⟩
 · have : ∀ k, cntD (Array.replicate ops.size false) k = 0 := by
     intro k
     induction k with
     | zero => rfl
     | succ k ih =>
       rw [cntD, ih, hz]; simp
   rw [this]; omega
 · unfold actF
   have : ∀ (l : List Value) (t : Nat), fillL base m (fun j => (Array.replicate ops.size false).getD j false) (fun _ => undef) t l = l := by
     intro l
     induction l with
     | nil => intro t; rfl
     | cons x r ih =>
       intro t
       rw [fillL, ih, hz]
       simp
   rw [this]
 · intro j _ h
   rw [hz] at h; cases h
end
end
end Go.Proofs.YtgoadpnoagaflaaDoor
