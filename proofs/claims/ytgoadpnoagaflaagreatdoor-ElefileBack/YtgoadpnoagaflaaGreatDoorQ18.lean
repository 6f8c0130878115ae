/- Own texts, put together: Bd. -/
import Derived.Test.YtgoadpnoagaflaaGreatDoorQ5
import Derived.Test.YtgoadpnoagaflaaGreatDoorQ15
import Derived.RangeFuncNested
import Derived.RangeFuncBound
import Derived.RangeFuncCalls
import Derived.RangeFuncLeaves
import Derived.RangeFuncBox
import Derived.RangeFuncWrites
import Derived.Shelf.Abstract
import Derived.Shelf.RegionOpen
import Derived.WalkKit
import Derived.OwnWalkIn
import Derived.TacticsInMore
import Derived.LoopNIn
import Derived.LoopIn
/- Package lines: Clone; told: the words of a line, one by one. -/
namespace Go.Proofs.YtgoadpnoagaflaaGreatDoor
set_option maxRecDepth 100000
open Go.RowKit Go.Shelf Go.Lib
attribute [local go_sem] Oper.semAt_some
theorem clone_any (s : ByteArray) (w : World) (hs : s.size ≤ 1000000000) : Calls Tryz.prog 57 #[.string s] w fun e w' => e = .returned (.string s) ∧ Below w.heap.size w w' := by
 go_enter Tryz.func57, Tryz.ntmps57
 go_wp2_with (go_at_call 76; refine (Tryz.stringslite_Clone s _ (by omega)).mono ?_; rintro e w' ⟨rfl, hb⟩)
 go_ret
 exact ⟨rfl, hb⟩
abbrev Wl := { l : Bs // l.length ≤ 70000 }
theorem told_in (n : Nat) (s : ByteArray) (w : World) :
   CallsIn Fence.wide n Tryz.prog 56 #[.string s] w fun e w' => e = .returned (.func (.func 74) #[] #[.pointer (some ⟨w.heap.size, 0, none⟩)]) ∧ w' = w.alloc (.cells #[.string s] 9) := by
 refine callsIn_of_wp Tryz.func56 rfl trivial ?_ rfl
 simp only [Tryz.ntmps56, List.size_toArray, List.length_cons, List.length_nil, Nat.reduceAdd, Nat.reduceSub, Array.replicate_succ, Array.replicate_zero, List.push_toArray, List.append_toArray, List.nil_append, List.cons_append]
 gi_wp2
 go_ret
 exact ⟨rfl, rfl⟩
theorem grownBy_drew (w : World) (row : Option Nat) : w.grownBy w.drew row := ⟨rfl, rfl, rfl, Nat.le_refl _, fun _ _ _ => rfl⟩
def TI (a : Bs) (st k : Nat) (pre : List Wl) : Prop := pre.map (·.1) ++ toks (a.drop st) = toks a ∧ ∀ c ∈ (a.drop st).take (k - st), bl c = false
theorem TI.go {a : Bs} {st k : Nat} {pre : List Wl} (h : TI a st k pre) (hst : st ≤ k) (hk : k < a.length) (hb : bl a[k] = false) : TI a st (k + 1) pre := by
 refine ⟨h.1, fun c hc => ?_⟩
 rw [show k + 1 - st = (k - st) + 1 by omega, List.take_add_one] at hc
 rcases List.mem_append.1 hc with e | e
 · exact h.2 c e
 · rw [List.getElem?_drop, show st + (k - st) = k by omega, List.getElem?_eq_getElem hk] at e
   obtain rfl : c = a[k] := by simpa using e
   exact hb
theorem TI.cut {a : Bs} {st k : Nat} {pre : List Wl} (h : TI a st k pre) (hst : st ≤ k) (hk : k ≤ a.length) (hb : ∀ hk : k < a.length, bl a[k] = true) : toks (a.drop st) = one ((a.drop st).take (k - st)) ++ toks (a.drop (k + 1)) := by
 by_cases e : k < a.length
 · have : a.drop st = (a.drop st).take (k - st) ++ a[k] :: a.drop (k + 1) := by
     rw [← List.drop_eq_getElem_cons e]
     have := (List.take_append_drop (k - st) (a.drop st)).symm
     rw [List.drop_drop, show st + (k - st) = k by omega] at this
     exact this
   have h2 := toks_app (r := a.drop (k + 1)) h.2 (hb e)
   rw [← this] at h2
   exact h2
 · obtain rfl : k = a.length := by omega
   have : (a.drop st).take (a.length - st) = a.drop st := List.take_of_length_le (by rw [List.length_drop]; omega)
   have h2 := h.2
   rw [this] at h2 ⊢
   rw [toks_none h2, List.drop_of_length_le (by omega : a.length ≤ a.length + 1)]
   show _ = _ ++ []
   rw [List.append_nil]
theorem TI.skip {a : Bs} {k : Nat} {pre : List Wl} (h : TI a k k pre) (hk : k ≤ a.length) (hb : ∀ hk : k < a.length, bl a[k] = true) : TI a (k + 1) (k + 1) pre := by
 have := h.cut (Nat.le_refl _) hk hb
 refine ⟨?_, fun c hc => by simp at hc⟩
 rw [Nat.sub_self, List.take_zero] at this
 rw [← h.1, this]; rfl
theorem take_mid_len {a : Bs} {st k : Nat} (hst : st < k) (hk : k ≤ a.length) : ((a.drop st).take (k - st)).length = k - st := by
 rw [List.length_take, List.length_drop]; omega
theorem one_ne {x : Bs} (h : x ≠ []) : one x = [x] := by
 unfold one; cases x with
 | nil => exact absurd rfl h
 | cons c r => rfl
theorem TI.word {a : Bs} {st k : Nat} {pre : List Wl} (h : TI a st k pre) (hst : st < k) (hk : k ≤ a.length) (hb : ∀ hk : k < a.length, bl a[k] = true) (x : Wl) (hx : x.1 = (a.drop st).take (k - st)) : TI a (k + 1) (k + 1) (pre ++ [x]) ∧ pre.length < (toks a).length := by
 have hc := h.cut (by omega) hk hb
 have hne : (a.drop st).take (k - st) ≠ [] := fun e => by have := take_mid_len hst hk; rw [e] at this; simp at this; omega
 rw [one_ne hne, ← hx] at hc
 have e2 := h.1
 rw [hc] at e2
 refine ⟨⟨?_, fun c hc => by simp at hc⟩, ?_⟩
 · rw [← e2]; simp
 · rw [← e2]; simp
set_option maxRecDepth 100000 in
set_option maxHeartbeats 2000000 in
theorem tell1_in (n : Nat) (hn : 1 ≤ n) (l Bx : Nat) (s : ByteArray) (t : Bs) (ht : s.data.toList = t) (hlen : t.length ≤ 70000) (J Jx : List Wl → World → Prop) (W : World) (hJ : AbidesFrom W.heap.size J)
   (hY : ∀ pre x W, J pre W → pre.length < (toks (ahd t)).length → YieldAt Fence.wide (n - 1) Tryz.prog l #[.string ⟨x.1.toArray⟩] W fun e W' =>
     (e = .returned (.bool true) ∧ J (pre ++ [x]) W' ∧ True) ∨ (e = .returned (.bool false) ∧ Jx (pre ++ [x]) W'))
   (hBs : W.cell? ⟨Bx, 0, none⟩ = some (.string s)) (h0 : J [] W) :
   CallsIn Fence.wide n Tryz.prog 74 #[.func (.yield l) #[] #[], .pointer (some ⟨Bx, 0, none⟩)] W fun e W' => (∃ v, e = .returned v) ∧
     ((∃ ys, ys.map (·.1) = toks (ahd t) ∧ J ys W') ∨ (∃ pre, pre.map (·.1) <+: toks (ahd t) ∧ Jx pre W')) := by
 obtain ⟨a, ha⟩ : ∃ a, cutT 35 t = a := ⟨_, rfl⟩
 have hla : a.length ≤ 70000 := by
   rw [← ha]
   exact Nat.le_trans (cutT_len _ _) hlen
 obtain ⟨q, hq⟩ : ∃ q : ByteArray, (⟨a.toArray⟩ : ByteArray) = q := ⟨_, rfl⟩
 obtain ⟨r, hr⟩ : ∃ r : ByteArray, (⟨(cutD 35 t).toArray⟩ : ByteArray) = r := ⟨_, rfl⟩
 have hsz : q.size = a.length := by rw [← hq]; exact sv_size a
 have HZ := Lib.hid hsz
 have HQ := Lib.hid hq
 have HC : Hid (∀ w, Calls Tryz.prog 35 #[.string s, .string ⟨#[35]⟩] w fun e w' => e = .returned (.tuple #[.string q, .string r, .bool (cutF 35 t)]) ∧ (w' = w ∨ w' = w.drew)) := fun w => by
   have := cutL_any s 35 w (by rw [Lib.size_eq, ht]; omega)
   rw [ht] at this
   unfold cutVL sv at this
   rwa [ha, hq, hr] at this
 have HB : Hid (∀ (k : Nat) (h1 : k < q.size) (h2 : k < a.length), q[k]'h1 = a[k]) := fun k h1 h2 => by
   subst hq; exact byte_atL h1 h2
 have HJ := Lib.hid hJ
 have HY := Lib.hid hY
 have H0 : Hid (∀ W', W' = W ∨ W' = W.drew → J [] W') := fun W' h => by
   rcases h with rfl | rfl
   · exact h0
   · exact hJ _ _ _ none h0 (grownBy_drew _ _) (fun r e => by cases e)
 have l1 : (q.size : Int) ≤ 70000 := by omega
 rw [show ahd t = a from ha] at HY ⊢
 obtain ⟨fo, hfo⟩ : ∃ fo, cutF 35 t = fo := ⟨_, rfl⟩
 rw [hfo] at HC
 clear hq hr hY hJ h0 hsz ht hfo
 refine callsIn_of_wp Tryz.func74 rfl trivial ?_ rfl
 simp only [Tryz.ntmps74, List.size_toArray, List.length_cons, List.length_nil, Nat.reduceAdd, Nat.reduceSub, Array.replicate_succ, Array.replicate_zero, List.push_toArray, List.append_toArray, List.nil_append, List.cons_append]
 gi_wp2_with (refine ⟨trivial, ?_⟩; gi_at_call 35; refine (callsIn_wide.2 (HC.out _)).mono ?_; rintro e W1 ⟨rfl, hw1⟩; have HJ1 := Lib.hid (H0.out W1 hw1); clear hw1)
 gi_loopw [6, 17] (fun s6 s17 wr => ∃ st k : Nat, st ≤ k ∧ k ≤ q.size + 1 ∧ s6 = .int .i64 (st : Nat) ∧ s17 = .int .i64 (k : Nat) ∧ Hid ((k = q.size + 1 → st = k) ∧ ∃ pre, J pre wr ∧ TI a st k pre)) (fun _ s17 _ => q.size + 1 - (RowKit.intOf s17).toNat)
 case atStart => exact ⟨0, 0, Nat.le_refl _, Nat.zero_le _, rfl, rfl, fun h => by omega, [], HJ1.out, by simp, fun c hc => by simp at hc⟩
 case round =>
   obtain ⟨st, k, hst, hk, rfl, rfl, hI⟩ := hrel
   have hst0 : (0 : Int) ≤ (st : Int) := by omega
   have hk0 : (0 : Int) ≤ (k : Int) := by omega
   by_cases hend : k = q.size + 1
   · subst hend
     have hle : ¬ (((q.size + 1 : Nat) : Int) < (q.size : Int) + 1) := by omega
     obtain ⟨h0, pre, h1, h2⟩ := hI.out
     have h3 := h2.1
     rw [h0 rfl, List.drop_of_length_le (by have := HZ.out; omega), show toks [] = [] from rfl, List.append_nil] at h3
     have HF := Lib.hid (And.intro h3 h1)
     clear h0 h1 h2 h3 hI
     gi_wp2
     go_end0
     exact ⟨⟨_, rfl⟩, .inl ⟨pre, HF.out.1, HF.out.2⟩⟩
   · have hk1 : (k : Int) < (q.size : Int) + 1 := by omega
     have hdec : (∃ hk : k < a.length, bl a[k] = false) ∨ (∀ hk : k < a.length, bl a[k] = true) := by
       by_cases h : k < a.length
       · cases hb : bl a[k] with
         | false => exact Or.inl ⟨h, hb⟩
         | true => exact Or.inr fun _ => hb
       · exact Or.inr fun h' => absurd h' h
     rcases hdec with ⟨hka, hbf⟩ | hbt
     · have hlt : k < q.size := by have := HZ.out; omega
       have hlt' : (k : Int) < (q.size : Int) := by omega
       have HI : Hid (∀ w, Calls Tryz.prog 75 #[.int .u8 (((q[k]'hlt).toNat : Nat) : Int)] w fun e w' => e = .returned (.bool false) ∧ w' = w) := fun w => by
         rw [HB.out k hlt hka, ← hbf]; exact isBlank_any _ w
       have HK := Lib.hid hbf
       clear hbf
       gi_wp2_with (refine ⟨trivial, ?_⟩; gi_at_call 75; refine (callsIn_wide.2 (HI.out _)).mono ?_; rintro e w' ⟨rfl, rfl⟩)
       go_roundw
       case rel =>
         obtain ⟨h0, pre, h1, h2⟩ := hI.out
         exact ⟨st, k + 1, by omega, by omega, rfl, by go_num, fun h => by omega, pre, h1, h2.go hst hka HK.out⟩
       case measure => simp [RowKit.intOf]; omega
     · have HBT := Lib.hid hbt
       have HI : Hid (∀ (hlt : k < q.size) w, Calls Tryz.prog 75 #[.int .u8 (((q[k]'hlt).toNat : Nat) : Int)] w fun e w' => e = .returned (.bool true) ∧ w' = w) := fun hlt w => by
         have hka : k < a.length := by have := HZ.out; omega
         rw [HB.out k hlt hka, ← hbt hka]; exact isBlank_any _ w
       have hkz : k ≤ q.size := by omega
       clear hbt
       by_cases hsk : st < k
       · have hsk' : (st : Int) < (k : Int) := by omega
         have hk2 : (k : Int) ≤ (q.size : Int) := by omega
         have hst2 : (st : Int) ≤ (k : Int) := by omega
         obtain ⟨h0, pre, h1, h2⟩ := hI.out
         obtain ⟨x, hx⟩ : ∃ x : Wl, x.1 = (a.drop st).take (k - st) := ⟨⟨(a.drop st).take (k - st), by rw [List.length_take, List.length_drop]; omega⟩, rfl⟩
         obtain ⟨h3, h4⟩ := h2.word hsk (by have := HZ.out; omega) HBT.out x hx
         obtain ⟨fn, tmps, assign, body, hy, hR⟩ := HY.out pre x wr h1 h4
         have hex : (⟨x.1.toArray⟩ : ByteArray) = q.extract st k := by
           rw [hx, Lib.extract_eq, ← HQ.out]
         rw [hex] at hy
         have H3 := Lib.hid h3
         have HPre : Hid ((pre ++ [x]).map (·.1) <+: toks a) := ⟨_, h3.1⟩
         clear h0 h1 h2 h3 h4 hex hx hI
         by_cases hlt : k < q.size
         · have hlt' : (k : Int) < (q.size : Int) := by omega
           gi_wp2_with (refine ⟨trivial, ?_⟩; gi_at_call 75; refine (callsIn_wide.2 (HI.out hlt _)).mono ?_; rintro e w' ⟨rfl, rfl⟩)
           refine hR.mono ?_
           rintro e W3 (⟨rfl, hJ3, _⟩ | ⟨rfl, hJx3⟩)
           · gi_wp2
             go_roundw
             case rel => exact ⟨k + 1, k + 1, Nat.le_refl _, by omega, by go_num, by go_num, fun _ => rfl, pre ++ [x], hJ3, H3.out⟩
             case measure => simp [RowKit.intOf]; omega
           · gi_wp2
             refine bodyPost_ret (results_none rfl _ _ _) rfl ?_
             exact ⟨⟨_, rfl⟩, .inr ⟨_, HPre.out, hJx3⟩⟩
         · have hlt' : ¬ ((k : Int) < (q.size : Int)) := by omega
           gi_wp2
           refine ⟨trivial, ?_⟩
           gi_wp2
           refine hR.mono ?_
           rintro e W3 (⟨rfl, hJ3, _⟩ | ⟨rfl, hJx3⟩)
           · gi_wp2
             go_roundw
             case rel => exact ⟨k + 1, k + 1, Nat.le_refl _, by omega, by go_num, by go_num, fun _ => rfl, pre ++ [x], hJ3, H3.out⟩
             case measure => simp [RowKit.intOf]; omega
           · gi_wp2
             refine bodyPost_ret (results_none rfl _ _ _) rfl ?_
             exact ⟨⟨_, rfl⟩, .inr ⟨_, HPre.out, hJx3⟩⟩
       · obtain rfl : st = k := by omega
         by_cases hlt : st < q.size
         · have hlt' : (st : Int) < (q.size : Int) := by omega
           gi_wp2_with (refine ⟨trivial, ?_⟩; gi_at_call 75; refine (callsIn_wide.2 (HI.out hlt _)).mono ?_; rintro e w' ⟨rfl, rfl⟩)
           refine ⟨fun _ h => (by cases h), ?_⟩
           gi_wp2
           go_roundw
           case rel =>
             obtain ⟨h0, pre, h1, h2⟩ := hI.out
             exact ⟨st + 1, st + 1, Nat.le_refl _, by omega, by go_num, by go_num, fun _ => rfl, pre, h1, h2.skip (by have := HZ.out; omega) HBT.out⟩
           case measure => simp [RowKit.intOf]; omega
         · have hlt' : ¬ ((st : Int) < (q.size : Int)) := by omega
           gi_wp2
           refine ⟨trivial, ?_⟩
           gi_wp2
           refine ⟨fun _ h => (by cases h), ?_⟩
           gi_wp2
           go_roundw
           case rel =>
             obtain ⟨h0, pre, h1, h2⟩ := hI.out
             exact ⟨st + 1, st + 1, Nat.le_refl _, by omega, by go_num, by go_num, fun _ => rfl, pre, h1, h2.skip (by have := HZ.out; omega) HBT.out⟩
           case measure => simp [RowKit.intOf]; omega
theorem tell_stops (n : Nat) (hn : 1 ≤ n) (Bx : Nat) (s : ByteArray) (t : Bs) (ht : s.data.toList = t) (hlen : t.length ≤ 70000) (w : World) (hBs : Boxed w Bx 9 (.string s)) :
   SeqStopsK Fence.wide n Tryz.prog 74 #[.pointer (some ⟨Bx, 0, none⟩)] (fun x : Wl => #[Value.string ⟨x.1.toArray⟩]) (fun _ _ => True) (fun ys => ys.map (·.1) = toks (ahd t)) (fun pre => pre.map (·.1) <+: toks (ahd t)) (toks (ahd t)).length w := fun l J Jx W hW hJ _ hY h0 =>
 tell1_in n hn l Bx s t ht hlen J Jx W hJ hY ((hW.cell (p := ⟨Bx, 0, none⟩) hBs.lt).trans hBs.cell) h0
end Go.Proofs.YtgoadpnoagaflaaGreatDoor
