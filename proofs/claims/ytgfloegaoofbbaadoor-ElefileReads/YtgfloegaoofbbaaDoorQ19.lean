/- Own texts, put together: Ib Ic Id Ie If. -/
import Derived.Test.YtgfloegaoofbbaaDoorQ4
import Derived.Test.YtgfloegaoofbbaaDoorQ17
import Derived.Test.YtgfloegaoofbbaaDoorQ18
import Derived.Deep.RegionWith
namespace Go.Proofs.YtgfloegaoofbbaaDoor
/- The document's side of layer 8: Text. -/
section
open Go.RowKit Go.Shelf Go.Lib
theorem itoa_minusI {n : Int} (h : 0 < n) : itoa (-n) = 45 :: itoa n := by
 obtain ⟨u, rfl⟩ : ∃ u : Nat, n = (u : Int) := ⟨n.toNat, by omega⟩
 rw [itoa_neg u (by omega), itoa_nonneg]
theorem eq_flipI {x : Nat} (hx : Fin64 x) (lx : x < 18446744073709551616) : Fin64 (fflip x) ∧ fflip x < 18446744073709551616 ∧ fval (fflip x) = -fval x :=
 ⟨by unfold Fin64; rw [frung_flip lx]; exact hx, flip_lt lx, fval_flip lx hx⟩
theorem fit_p2 (k : Int) (h1 : -4000 ≤ k) (h2 : k ≤ 4000) : Fit (p2 k) := by
 refine Bd.mono (h := k + 1) (l := k) ⟨p2_lt (by omega), ?_, 1, by rw [show ((1 : Int) : Rat) = 1 from rfl, Rat.one_mul]⟩ (by omega) (by omega)
 have a := p2_pos k
 have b := p2_pos (k + 1)
 grind
theorem TextR.flip {x : Nat} {l : List UInt8} (fx : Fin64 x) (lx : x < 18446744073709551616) (h0 : fval x < 0) (h : TextR x l) : ∃ r, l = 45 :: r ∧ TextR (fflip x) r := by
 obtain ⟨f1, f2, f3⟩ := eq_flipI fx lx
 rcases h with ⟨h, _⟩ | ⟨_, ⟨k, e, h1, h2, rfl⟩ | ⟨hn, n, e, ho, h1, h2, h3, h4, hv, rfl⟩⟩
 · exact absurd fx h
 · have hk : k < 0 := Rat.intCast_lt_intCast.1 (by rw [← e]; exact h0)
   refine ⟨itoa (-k), ?_, Or.inr ⟨f1, Or.inl ⟨-k, by rw [f3, e, Rat.intCast_neg], by omega, by omega, rfl⟩⟩⟩
   have := itoa_minusI (n := -k) (by omega)
   rwa [Int.neg_neg] at this
 · have hp : n < 0 := by
     apply Rat.intCast_lt_intCast.1
     show (n : Rat) < 0
     apply Classical.byContradiction
     intro hc
     have hp2 := p2_pos e
     have : 0 * p2 e ≤ (n : Rat) * p2 e := Rat.mul_le_mul_of_nonneg_right (by grind) (Rat.le_of_lt hp2)
     grind
   refine ⟨itoa (-n) ++ 98 :: itoa e, ?_, Or.inr ⟨f1, Or.inr ⟨?_, -n, e, by omega, by omega, by omega, h3, h4, ?_, rfl⟩⟩⟩
   · have := itoa_minusI (n := -n) (by omega)
     rw [Int.neg_neg] at this
     rw [this]; rfl
   · rintro ⟨k, ek, k1, k2⟩
     exact hn ⟨-k, by rw [Rat.intCast_neg, ← ek, f3]; grind, by omega, by omega⟩
   · rw [f3, hv, Rat.intCast_neg]; grind
theorem TextR.len {x : Nat} {l : List UInt8} (h : TextR x l) : l.length ≤ 43 := by
 by_cases hx : Fin64 x
 · obtain ⟨_, _, _, _, h⟩ := h.tell hx
   exact h
 · rcases h with ⟨_, rfl⟩ | ⟨h, _⟩
   · simp
   · exact absurd h hx
end

/- The document's side of layer 8: Int, parts. -/
section
open Go.RowKit Go.Shelf Go.Lib
theorem nDigits_le : ∀ (k u : Nat), 1 ≤ k → u < 10 ^ k → nDigits u ≤ k
 | 0, _, h, _ => by omega
 | 1, u, _, h => by rw [nDigits_small (by simpa using h)]; exact Nat.le_refl _
 | k + 2, u, _, h => by
   by_cases hu : u < 10
   · rw [nDigits_small hu]; omega
   · rw [nDigits_big hu]
     have := nDigits_le (k + 1) (u / 10) (by omega) (by rw [Nat.pow_succ] at h; omega)
     omega
theorem itoa_len20 {n : Int} (h : InR n) : (itoa n).length ≤ 20 := by
 obtain ⟨h1, h2⟩ := h
 by_cases hn : n < 0
 · obtain ⟨u, rfl⟩ : ∃ u : Nat, n = -(u : Int) := ⟨n.natAbs, by omega⟩
   rw [itoa_neg u (by omega), List.length_cons, decDigits_length]
   have := nDigits_le 19 u (by omega) (by omega)
   omega
 · obtain ⟨u, rfl⟩ : ∃ u : Nat, n = (u : Int) := ⟨n.toNat, by omega⟩
   rw [itoa_nonneg, decDigits_length]
   have := nDigits_le 19 u (by omega) (by omega)
   omega
def i0 (neg : Bool) : Nat := if neg then 1 else 0
theorem trim_drop (l : List UInt8) : trimPrefix l [45] = l.drop (i0 (hasPrefix l [45])) := by
 unfold trimPrefix i0
 split <;> simp
def sgnN (neg : Bool) (v : Nat) : Int := if neg then -(v : Int) else (v : Int)
theorem rd_scan_none {l : List UInt8} (h : scan (far (hasPrefix l [45])) 0 (l.drop (i0 (hasPrefix l [45]))) = none) : rdInt l = none := by
 unfold rdInt
 simp only []
 rw [trim_drop, h]
 split <;> rfl
theorem rd_scan_some {l : List UInt8} {v : Nat} (h : scan (far (hasPrefix l [45])) 0 (l.drop (i0 (hasPrefix l [45]))) = some v) (hv : InR (sgnN (hasPrefix l [45]) v)) : rdInt l = if itoa (sgnN (hasPrefix l [45]) v) = l then some (sgnN (hasPrefix l [45]) v) else none := by
 by_cases he : itoa (sgnN (hasPrefix l [45]) v) = l
 · rw [if_pos he]
   exact rd_iff.2 ⟨hv, he⟩
 · rw [if_neg he]
   cases hr : rdInt l with
   | none => rfl
   | some n =>
     exfalso
     apply he
     have h2 := (itoa_rd hr).2
     unfold rdInt at hr
     simp only [] at hr
     rw [trim_drop, h] at hr
     split at hr
     · cases hr
     · have : sgnN (hasPrefix l [45]) v = n := by simpa [sgnN] using hr
       rw [this]; exact h2
theorem digit8_any (c : Int) (w : World) : Calls Tryd.prog 16 #[.int .u8 c] w fun e w' => e = .returned (.bool (decide (48 ≤ c ∧ c ≤ 57))) ∧ w' = w := by
 by_cases h1 : 48 ≤ c
 · by_cases h2 : c ≤ 57
   · rw [decide_eq_true ⟨h1, h2⟩]
     go_enter Tryd.func16, Tryd.ntmps16
     go_wp2
     go_ret
     exact ⟨rfl, rfl⟩
   · rw [decide_eq_false (by omega)]
     go_enter Tryd.func16, Tryd.ntmps16
     go_wp2
     go_ret
     exact ⟨rfl, rfl⟩
 · rw [decide_eq_false (by omega)]
   go_enter Tryd.func16, Tryd.ntmps16
   go_wp2
   go_ret
   exact ⟨rfl, rfl⟩
theorem head45 {s : ByteArray} (h0 : 0 < s.size) : (((s[0]'h0).toNat : Nat) : Int) = 45 ↔ hasPrefix s.data.toList [45] = true := by
 obtain ⟨⟨l⟩⟩ := s
 cases l with
 | nil => simp [ByteArray.size] at h0
 | cons c r =>
   show ((c.toNat : Nat) : Int) = 45 ↔ ((45 : UInt8) == c && _) = true
   rw [show ([] : List UInt8).isPrefixOf r = true from List.isPrefixOf_nil_left, Bool.and_true, beq_iff_eq]
   constructor
   · intro h
     apply UInt8.toNat.inj
     show 45 = c.toNat
     omega
   · intro h
     rw [← h]; rfl
set_option maxHeartbeats 4000000 in
set_option maxRecDepth 100000 in
theorem refInt8_any (s : ByteArray) (w : World) (hs : s.size ≤ 1000000) :
   Calls Tryd.prog 9 #[.string s] w fun e w' => e = .returned (intR (rdInt s.data.toList)) ∧ Below w.heap.size w w' := by
 obtain ⟨l, hl⟩ : ∃ l, Hid (s.data.toList = l) := ⟨_, rfl⟩
 have hsz : s.size = l.length := by rw [Lib.size_eq, hl.out]
 by_cases h20 : 20 < s.size
 · have hn : rdInt s.data.toList = none := by
     cases hr : rdInt s.data.toList with
     | none => rfl
     | some n =>
       obtain ⟨a, b⟩ := itoa_rd hr
       have := itoa_len20 a
       rw [b, ← Lib.size_eq] at this
       omega
   rw [hn]
   clear hsz hn
   go_enter Tryd.func9, Tryd.ntmps9
   go_wp2
   go_ret2
   exact ⟨rfl, Below.refl _ _⟩
 obtain ⟨neg, hneg⟩ : ∃ b, Hid (hasPrefix l [45] = b) := ⟨_, rfl⟩
 obtain ⟨m, hm⟩ : ∃ m, Hid (far neg = m) := ⟨_, rfl⟩
 have hm1 : m ≤ 9223372036854775808 := by rw [← hm.out]; exact far_le _
 have hm2 : 9 ≤ m := by rw [← hm.out]; exact far_ge _
 have HD : Hid (∀ c w, Calls Tryd.prog 16 #[.int .u8 c] w fun e w' => e = .returned (.bool (decide (48 ≤ c ∧ c ≤ 57))) ∧ w' = w) := digit8_any
 have HN : Hid (scan m 0 (l.drop (i0 neg)) = none → rdInt l = none) := fun h => rd_scan_none (by rw [hneg.out, hm.out]; exact h)
 have HS : Hid (∀ v, scan m 0 (l.drop (i0 neg)) = some v → InR (sgnN neg v) → rdInt l = if itoa (sgnN neg v) = l then some (sgnN neg v) else none) := fun v h h2 => by
   have := rd_scan_some (l := l) (v := v) (by rw [hneg.out, hm.out]; exact h) (by rw [hneg.out]; exact h2)
   rwa [hneg.out] at this
 rw [hl.out]
 have HSZ := Lib.hid hsz
 have HP : Hid ((h0 : 0 < s.size) → ((((s[0]'h0).toNat : Nat) : Int) = 45 ↔ neg = true)) := fun h0 => by
   have := head45 h0
   rw [hl.out, hneg.out] at this
   exact this
 have HBY : Hid (∀ (k : Nat) (h1 : k < s.size) (h2 : k < l.length), (((s[k]'h1).toNat : Nat) : Int) = (l[k].toNat : Int)) := fun k h1 h2 => by
   have e : s = ⟨l.toArray⟩ := by rw [← hl.out]
   subst e
   rw [byte_at h1 h2]
 clear hsz
 cases neg
 · have hne0 : Hid (∀ h0 : 0 < s.size, (((s[0]'h0).toNat : Nat) : Int) = 45 → False) := fun h0 e => by have := (HP.out h0).1 e; cases this
   by_cases hz : 0 < s.size
   · have h45 : ((((s[0]'hz).toNat : Nat) : Int) == 45) = false := by rw [beq_eq_false_iff_ne]; exact fun e => hne0.out hz e
     obtain ⟨c0, hc0⟩ : ∃ c0, (((s[0]'hz).toNat : Nat) : Int) = c0 := ⟨_, rfl⟩
     rw [hc0] at h45
     go_enter Tryd.func9, Tryd.ntmps9
     go_wp2_with fail
     clear hc0
     have HL0 : Hid (0 ≤ l.length) := Nat.zero_le _
     go_loop [5, 6] (fun va vi => ∃ (k a : Nat), 0 ≤ k ∧ k ≤ l.length ∧ vi = .int .i64 (k : Nat) ∧ va = .int .i64 ((a : Int)) ∧ a ≤ m ∧ Hid (scan m a (l.drop k) = scan m 0 (l.drop 0))) (fun _ vi => l.length - (RowKit.intOf vi).toNat)
     case atStart => exact ⟨0, 0, Nat.le_refl _, HL0.out, rfl, rfl, Nat.zero_le _, rfl⟩
     case round =>
       obtain ⟨k, a, hk0, hk, rfl, rfl, ha, hsc⟩ := hrel
       by_cases hlt : k < l.length
       · have hks : k < s.size := by rw [HSZ.out]; exact hlt
         have hdb := HBY.out k hks hlt
         have hstep := Lib.hid (scan_step (m := m) (a := a) hlt)
         have hno : Hid (¬ (dv l[k] ≤ 9 ∧ a ≤ (m - dv l[k]) / 10) → scan m 0 (l.drop 0) = none) := fun h => by rw [← hsc.out, hstep.out, if_neg h]
         have hyes : Hid (dv l[k] ≤ 9 ∧ a ≤ (m - dv l[k]) / 10 → scan m (10 * a + dv l[k]) (l.drop (k + 1)) = scan m 0 (l.drop 0)) := fun h => by rw [← hsc.out, hstep.out, if_pos h]
         have hdv : Hid (dv l[k] ≤ 9 → (l[k].toNat : Int) - 48 = (dv l[k] : Int)) := fun h => by have := dv_le.1 h; unfold dv; omega
         have hdi : Hid (decide (48 ≤ (l[k].toNat : Int) ∧ (l[k].toNat : Int) ≤ 57) = decide (dv l[k] ≤ 9)) := (decide_eq_decide.2 (by rw [dv_le]; omega) : decide (48 ≤ (l[k].toNat : Int) ∧ (l[k].toNat : Int) ≤ 57) = decide (dv l[k] ≤ 9))
         clear hsc hstep
         have hmi : (m : Int) = 9223372036854775807 := by have := hm.out; unfold far at this; simp at this; omega
         have hai : (a : Int) ≤ (m : Int) := by omega
         by_cases hdg : dv l[k] ≤ 9
         · have hdt : decide (48 ≤ (l[k].toNat : Int) ∧ (l[k].toNat : Int) ≤ 57) = true := by rw [hdi.out]; exact decide_eq_true hdg
           have hd2 := hdv.out hdg
           obtain ⟨d, hd⟩ : ∃ d, dv l[k] = d := ⟨_, rfl⟩
           rw [hd] at hno hyes hd2 hdg
           have hdi9 : (d : Int) ≤ 9 := by omega
           have HHD := Lib.hid hd
           have HMI := Lib.hid hmi
           have HAI : Hid ((a : Int) ≤ 9223372036854775807) := (by rw [← hmi]; exact hai : (a : Int) ≤ 9223372036854775807)
           have hai2 := HAI.out
           have hq10 : (-9223372036854775808 + (d : Int)).tdiv 10 = -((9223372036854775808 - (d : Int)) / 10) := by rw [show -9223372036854775808 + (d : Int) = -(9223372036854775808 - (d : Int)) by omega, Int.neg_tdiv, Int.tdiv_eq_ediv_of_nonneg (by omega)]
           have HQ10 := Lib.hid hq10
           clear hq10
           clear hd hmi hai
           go_wp2_with (first | (go_at_call 16; refine (HD.out _ _).mono ?_; rintro e w' ⟨rfl, rfl⟩; rw [hdt]))
           · have a2 : (a : Int) ≤ (9223372036854775807 - (d : Int)) / 10 := by assumption
             have hle : a ≤ (m - d) / 10 := by have := HMI.out; omega
             have hmi2 := HMI.out
             refine ⟨⟨k + 1, 10 * a + d, by omega, by omega, by go_num, by congr 1 <;> omega, by omega, hyes.out ⟨hdg, hle⟩⟩, ?_⟩
             show l.length - ((k : Int) + 1).toNat < l.length - ((k : Int)).toNat
             omega
           · have a2 : (9223372036854775807 - (d : Int)) / 10 < (a : Int) := by assumption
             go_ret2
             rw [HN.out (hno.out (by have := HMI.out; omega))]
             exact ⟨rfl, Below.refl _ _⟩
         · have hdt : decide (48 ≤ (l[k].toNat : Int) ∧ (l[k].toNat : Int) ≤ 57) = false := by rw [hdi.out]; exact decide_eq_false hdg
           go_wp2_with (first | (go_at_call 16; refine (HD.out _ _).mono ?_; rintro e w' ⟨rfl, rfl⟩; rw [hdt]))
           go_ret2
           rw [HN.out (hno.out (fun h => hdg h.1))]
           exact ⟨rfl, Below.refl _ _⟩
       · obtain rfl : k = l.length := by omega
         have hnl : ¬ ((l.length : Int) < (s.size : Int)) := by have := HSZ.out; omega
         have hmi : (m : Int) = 9223372036854775807 := by have := hm.out; unfold far at this; simp at this; omega
         have hin : InR (sgnN false a) := by unfold sgnN InR; simp; omega
         have hend := HS.out a (by have := hsc.out; rw [List.drop_length] at this; exact this.symm) hin
         have HSH : Hid (∀ w, Calls Tryd.prog 17 #[.int .i64 ((a : Int))] w fun r w' => r = .returned (sv (itoa (sgnN false a))) ∧ Below w.heap.size w w') := fun w => refShow_any (sgnN false a) hin w
         have hcmp : (itoa (sgnN false a) == s.toList) = decide (itoa (sgnN false a) = l) := by rw [Lib.toList_data, hl.out]; exact sv_eq _ _
         have hai3 : (a : Int) ≤ (m : Int) := by omega
         rw [hmi] at hai3
         clear hmi hsc
         by_cases he : itoa (sgnN false a) = l
         · rw [if_pos he] at hend
           rw [decide_eq_true he] at hcmp
           have HEND := Lib.hid hend
           clear hend he
           go_wp2_with fail
           refine (HSH.out _).mono ?_
           rintro r w6 ⟨rfl, hb6⟩
           go_wp2
           go_ret2
           rw [HEND.out]
           exact ⟨rfl, hb6⟩
         · rw [if_neg he] at hend
           rw [decide_eq_false he] at hcmp
           have HEND := Lib.hid hend
           clear hend he
           go_wp2_with fail
           refine (HSH.out _).mono ?_
           rintro r w6 ⟨rfl, hb6⟩
           go_wp2
           go_ret2
           rw [HEND.out]
           exact ⟨rfl, hb6⟩
   · have hl0 : l = [] := by
       have := HSZ.out
       exact List.length_eq_zero_iff.1 (by omega)
     subst hl0
     have hr : rdInt [] = none := by decide
     rw [hr]
     have HSH : Hid (∀ w, Calls Tryd.prog 17 #[.int .i64 0] w fun r w' => r = .returned (sv [48]) ∧ Below w.heap.size w w') := fun w => by
       have := refShow_any 0 ⟨by omega, by omega⟩ w
       rwa [show itoa 0 = [48] from (itoa_rd (n := 0) (by decide)).2] at this
     have hcmp : ([48] == s.toList) = false := by rw [Lib.toList_data, hl.out]; rfl
     have hnl : ¬ ((0 : Int) < (s.size : Int)) := by omega
     have hnl2 : ¬ (0 < s.size) := hz
     clear hz
     go_enter Tryd.func9, Tryd.ntmps9
     go_wp2_with fail
     go_loop [5, 6] (fun va vi => va = .int .i64 0 ∧ vi = .int .i64 0) (fun _ _ => 0)
     case atStart => exact ⟨rfl, rfl⟩
     case round =>
       obtain ⟨rfl, rfl⟩ := hrel
       go_wp2_with fail
       refine (HSH.out _).mono ?_
       rintro r w6 ⟨rfl, hb6⟩
       go_wp2
       go_ret2
       exact ⟨rfl, hb6⟩
 · have hpos : 0 < s.size := by
     rw [HSZ.out]
     cases l with
     | nil => have := hneg.out; cases this
     | cons a r => simp
   have hne1 := Lib.hid ((HP.out hpos).2 rfl)
   have HPOS := Lib.hid hpos
   go_enter Tryd.func9, Tryd.ntmps9
   go_wp2_with fail
   · have a1 : (((((s[0]'hpos).toNat : Nat) : Int)) == 45) = true := by assumption
     clear a1
     have HL0 : Hid (1 ≤ l.length) := (by show 1 ≤ l.length; rw [← HSZ.out]; exact HPOS.out)
     go_loop [5, 6] (fun va vi => ∃ (k a : Nat), 1 ≤ k ∧ k ≤ l.length ∧ vi = .int .i64 (k : Nat) ∧ va = .int .i64 (-(a : Int)) ∧ a ≤ m ∧ Hid (scan m a (l.drop k) = scan m 0 (l.drop 1))) (fun _ vi => l.length - (RowKit.intOf vi).toNat)
     case atStart => exact ⟨1, 0, Nat.le_refl _, HL0.out, rfl, rfl, Nat.zero_le _, rfl⟩
     case round =>
       obtain ⟨k, a, hk0, hk, rfl, rfl, ha, hsc⟩ := hrel
       by_cases hlt : k < l.length
       · have hks : k < s.size := by rw [HSZ.out]; exact hlt
         have hdb := HBY.out k hks hlt
         have hstep := Lib.hid (scan_step (m := m) (a := a) hlt)
         have hno : Hid (¬ (dv l[k] ≤ 9 ∧ a ≤ (m - dv l[k]) / 10) → scan m 0 (l.drop 1) = none) := fun h => by rw [← hsc.out, hstep.out, if_neg h]
         have hyes : Hid (dv l[k] ≤ 9 ∧ a ≤ (m - dv l[k]) / 10 → scan m (10 * a + dv l[k]) (l.drop (k + 1)) = scan m 0 (l.drop 1)) := fun h => by rw [← hsc.out, hstep.out, if_pos h]
         have hdv : Hid (dv l[k] ≤ 9 → (l[k].toNat : Int) - 48 = (dv l[k] : Int)) := fun h => by have := dv_le.1 h; unfold dv; omega
         have hdi : Hid (decide (48 ≤ (l[k].toNat : Int) ∧ (l[k].toNat : Int) ≤ 57) = decide (dv l[k] ≤ 9)) := (decide_eq_decide.2 (by rw [dv_le]; omega) : decide (48 ≤ (l[k].toNat : Int) ∧ (l[k].toNat : Int) ≤ 57) = decide (dv l[k] ≤ 9))
         clear hsc hstep
         have hmi : (m : Int) = 9223372036854775808 := by have := hm.out; unfold far at this; simp at this; omega
         have hai : (a : Int) ≤ (m : Int) := by omega
         by_cases hdg : dv l[k] ≤ 9
         · have hdt : decide (48 ≤ (l[k].toNat : Int) ∧ (l[k].toNat : Int) ≤ 57) = true := by rw [hdi.out]; exact decide_eq_true hdg
           have hd2 := hdv.out hdg
           obtain ⟨d, hd⟩ : ∃ d, dv l[k] = d := ⟨_, rfl⟩
           rw [hd] at hno hyes hd2 hdg
           have hdi9 : (d : Int) ≤ 9 := by omega
           have HHD := Lib.hid hd
           have HMI := Lib.hid hmi
           have HAI : Hid ((a : Int) ≤ 9223372036854775808) := (by rw [← hmi]; exact hai : (a : Int) ≤ 9223372036854775808)
           have hai2 := HAI.out
           have hq10 : (-9223372036854775808 + (d : Int)).tdiv 10 = -((9223372036854775808 - (d : Int)) / 10) := by rw [show -9223372036854775808 + (d : Int) = -(9223372036854775808 - (d : Int)) by omega, Int.neg_tdiv, Int.tdiv_eq_ediv_of_nonneg (by omega)]
           have HQ10 := Lib.hid hq10
           clear hq10
           clear hd hmi hai
           go_wp2_with (first | (go_at_call 16; refine (HD.out _ _).mono ?_; rintro e w' ⟨rfl, rfl⟩; rw [hdt]))
           · have a2 : -(a : Int) < (-9223372036854775808 + (d : Int)).tdiv 10 := by assumption
             go_ret2
             rw [HN.out (hno.out (by have := HMI.out; rw [HQ10.out] at a2; omega))]
             exact ⟨rfl, Below.refl _ _⟩
           · have a2 : (-9223372036854775808 + (d : Int)).tdiv 10 ≤ -(a : Int) := by assumption
             have hle : a ≤ (m - d) / 10 := by have := HMI.out; rw [HQ10.out] at a2; omega
             have hmi2 := HMI.out
             refine ⟨⟨k + 1, 10 * a + d, by omega, by omega, by go_num, by congr 1; unfold wrap64; omega, by omega, hyes.out ⟨hdg, hle⟩⟩, ?_⟩
             show l.length - ((k : Int) + 1).toNat < l.length - ((k : Int)).toNat
             omega
         · have hdt : decide (48 ≤ (l[k].toNat : Int) ∧ (l[k].toNat : Int) ≤ 57) = false := by rw [hdi.out]; exact decide_eq_false hdg
           go_wp2_with (first | (go_at_call 16; refine (HD.out _ _).mono ?_; rintro e w' ⟨rfl, rfl⟩; rw [hdt]))
           go_ret2
           rw [HN.out (hno.out (fun h => hdg h.1))]
           exact ⟨rfl, Below.refl _ _⟩
       · obtain rfl : k = l.length := by omega
         have hnl : ¬ ((l.length : Int) < (s.size : Int)) := by have := HSZ.out; omega
         have hmi : (m : Int) = 9223372036854775808 := by have := hm.out; unfold far at this; simp at this; omega
         have hin : InR (sgnN true a) := by unfold sgnN InR; simp; omega
         have hend := HS.out a (by have := hsc.out; rw [List.drop_length] at this; exact this.symm) hin
         have HSH : Hid (∀ w, Calls Tryd.prog 17 #[.int .i64 (-(a : Int))] w fun r w' => r = .returned (sv (itoa (sgnN true a))) ∧ Below w.heap.size w w') := fun w => refShow_any (sgnN true a) hin w
         have hcmp : (itoa (sgnN true a) == s.toList) = decide (itoa (sgnN true a) = l) := by rw [Lib.toList_data, hl.out]; exact sv_eq _ _
         have hai3 : (a : Int) ≤ (m : Int) := by omega
         rw [hmi] at hai3
         clear hmi hsc
         by_cases he : itoa (sgnN true a) = l
         · rw [if_pos he] at hend
           rw [decide_eq_true he] at hcmp
           have HEND := Lib.hid hend
           clear hend he
           go_wp2_with fail
           refine (HSH.out _).mono ?_
           rintro r w6 ⟨rfl, hb6⟩
           go_wp2
           go_ret2
           rw [HEND.out]
           exact ⟨rfl, hb6⟩
         · rw [if_neg he] at hend
           rw [decide_eq_false he] at hcmp
           have HEND := Lib.hid hend
           clear hend he
           go_wp2_with fail
           refine (HSH.out _).mono ?_
           rintro r w6 ⟨rfl, hb6⟩
           go_wp2
           go_ret2
           rw [HEND.out]
           exact ⟨rfl, hb6⟩
   · exfalso
     have a2 : (((((s[0]'hpos).toNat : Nat) : Int)) == 45) = false := by assumption
     rw [hne1.out] at a2
     cases a2
end

/- The document's side of layer 8: parts. -/
section
open Go.RowKit Go.Shelf Go.Lib
def PartsR (l : List UInt8) (n p : Int) (ok : Bool) : Prop := (ok = true ∧ rdTell l = some (n, p)) ∨ (ok = false ∧ rdTell l = none)
theorem parts_cut {l : List UInt8} {k : Nat} (hk : k < l.length) (hb : l[k] = 98) (hn : ∀ j (hj : j < k), l[j]'(by omega) ≠ 98) : cutb l = some (l.take k, l.drop (k + 1)) := by
 have e : l = l.take k ++ 98 :: l.drop (k + 1) := by
   rw [← hb, ← List.drop_eq_getElem_cons hk, List.take_append_drop]
 have h := cutb_at (l := l.take k) (r := l.drop (k + 1)) (fun c hc => by
   obtain ⟨j, hj, rfl⟩ := List.mem_iff_getElem.1 hc
   rw [List.getElem_take]
   exact hn j (by rw [List.length_take] at hj; omega))
 rw [← e] at h
 exact h
set_option maxHeartbeats 4000000 in
set_option maxRecDepth 100000 in
theorem refParts_any (s : ByteArray) (w : World) (hs : s.size ≤ 900000) :
   Calls Tryd.prog 18 #[.string s] w fun e w' => (∃ n p ok, e = .returned (.tuple #[.int .i64 n, .int .i64 p, .bool ok]) ∧ PartsR s.data.toList n p ok) ∧ Below w.heap.size w w' := by
 obtain ⟨l, hl⟩ : ∃ l, Hid (s.data.toList = l) := ⟨_, rfl⟩
 have HSZ : Hid (s.size = l.length) := (by rw [Lib.size_eq, hl.out] : s.size = l.length)
 have HBY : Hid (∀ (k : Nat) (h1 : k < s.size) (h2 : k < l.length), (((s[k]'h1).toNat : Nat) : Int) = (l[k].toNat : Int)) := fun k h1 h2 => by
   have e : s = ⟨l.toArray⟩ := by rw [← hl.out]
   subst e
   rw [byte_at h1 h2]
 rw [hl.out]
 go_enter Tryd.func18, Tryd.ntmps18
 go_wp2_with fail
 go_loop [5] (fun vi => ∃ k : Nat, k ≤ l.length ∧ vi = .int .i64 (k : Nat) ∧ Hid (∀ j (hj : j < k) (hl : j < l.length), l[j] ≠ 98)) (fun vi => l.length - (RowKit.intOf vi).toNat)
 case atStart => exact ⟨0, Nat.zero_le _, rfl, fun j hj _ => by omega⟩
 case round =>
   obtain ⟨k, hk, rfl, hno⟩ := hrel
   by_cases hlt : k < l.length
   · have hks : k < s.size := by rw [HSZ.out]; exact hlt
     have hdb := HBY.out k hks hlt
     by_cases hb : l[k] = 98
     · have hb2 : (l[k].toNat : Int) = 98 := by rw [hb]; rfl
       have HC := Lib.hid (parts_cut hlt hb (fun j hj => hno.out j hj (by omega)))
       obtain ⟨n1, e1, q1, p1⟩ := int_parts (rdInt (l.take k))
       obtain ⟨n2, e2, q2, p2'⟩ := int_parts (rdInt (l.drop (k + 1)))
       have H1 : Hid (∀ w, Calls Tryd.prog 9 #[.string (s.extract 0 k)] w fun e w' => e = .returned (.tuple #[.int .i64 n1, .int .i64 e1]) ∧ Below w.heap.size w w') := fun w => by
         have h := refInt8_any (s.extract 0 k) w (by rw [Lib.size_eq, Lib.extract_eq]; show ((s.data.toList.drop 0).take (k - 0)).length ≤ _; rw [List.length_take, List.length_drop, ← Lib.size_eq]; omega)
         rw [show (s.extract 0 k).data.toList = l.take k by rw [Lib.extract_eq, hl.out]; rfl, q1] at h
         exact h
       have H2 : Hid (∀ w, Calls Tryd.prog 9 #[.string (s.extract (k + 1) s.size)] w fun e w' => e = .returned (.tuple #[.int .i64 n2, .int .i64 e2]) ∧ Below w.heap.size w w') := fun w => by
         have h := refInt8_any (s.extract (k + 1) s.size) w (by rw [Lib.size_eq, Lib.extract_eq]; show ((s.data.toList.drop (k + 1)).take (s.size - (k + 1))).length ≤ _; rw [List.length_take, List.length_drop, ← Lib.size_eq]; omega)
         rw [show (s.extract (k + 1) s.size).data.toList = l.drop (k + 1) by
           rw [Lib.extract_eq, hl.out]
           show (l.drop (k + 1)).take (s.size - (k + 1)) = _
           rw [List.take_of_length_le (by rw [List.length_drop, HSZ.out]; omega)], q2] at h
         exact h
       have HR : Hid (PartsR l n1 n2 (decide (e1 = 0) && decide (e2 = 0))) := by
         show PartsR l n1 n2 _
         have ht : rdTell l = (rdInt (l.take k)).bind fun n => (rdInt (l.drop (k + 1))).map fun e => (n, e) := by unfold rdTell; rw [HC.out]
         rcases p1 with ⟨rfl, a⟩ | ⟨rfl, _, a⟩
         · rcases p2' with ⟨rfl, b⟩ | ⟨rfl, _, b⟩
           · exact Or.inl ⟨rfl, by rw [ht, a, b]; rfl⟩
           · exact Or.inr ⟨rfl, by rw [ht, a, b]; rfl⟩
         · exact Or.inr ⟨rfl, by rw [ht, a]; rfl⟩
       have he1 : e1 = 0 ∨ e1 = 4 := by rcases p1 with ⟨h, _⟩ | ⟨h, _⟩ <;> simp [h]
       have he2 : e2 = 0 ∨ e2 = 4 := by rcases p2' with ⟨h, _⟩ | ⟨h, _⟩ <;> simp [h]
       have c2 : (k : Int) ≤ (s.size : Int) := by omega
       have c4 : (k : Int) + 1 ≤ (s.size : Int) := by omega
       clear p1 p2' q1 q2 hb hno
       rcases he1 with rfl | rfl <;> rcases he2 with rfl | rfl
       all_goals
         go_wp2_with fail
         refine (H1.out _).mono ?_
         rintro e w1 ⟨rfl, hb1⟩
         have HB1 := Lib.hid hb1
         clear hb1
         go_wp2_with fail
         refine (H2.out _).mono ?_
         rintro e w2 ⟨rfl, hb2⟩
         have HB2 := Lib.hid (HB1.out.trans (hb2.mono HB1.out.size))
         clear hb2 HB1
         go_wp2
         go_ret3
         exact ⟨⟨_, _, _, rfl, HR.out⟩, HB2.out⟩
     · have hb2 : ¬ ((l[k].toNat : Int) = 98) := fun e => hb (UInt8.toNat.inj (by show l[k].toNat = 98; omega))
       go_wp2
       refine ⟨⟨k + 1, by omega, by go_num, fun j hj hjl => ?_⟩, ?_⟩
       · by_cases hjk : j = k
         · subst hjk; exact hb
         · exact hno.out j (by omega) hjl
       · show l.length - ((k : Int) + 1).toNat < l.length - ((k : Int)).toNat
         omega
   · obtain rfl : k = l.length := by omega
     have hnl : ¬ ((l.length : Int) < (s.size : Int)) := by have := HSZ.out; omega
     have HC := Lib.hid (cutb_none (l := l) (fun c hc => by
       obtain ⟨j, hj, rfl⟩ := List.mem_iff_getElem.1 hc
       exact hno.out j hj hj))
     obtain ⟨n1, e1, q1, p1⟩ := int_parts (rdInt l)
     have H1 : Hid (∀ w, Calls Tryd.prog 9 #[.string s] w fun e w' => e = .returned (.tuple #[.int .i64 n1, .int .i64 e1]) ∧ Below w.heap.size w w') := fun w => by
       have h := refInt8_any s w (by omega)
       rw [hl.out, q1] at h
       exact h
     have HR : Hid (PartsR l n1 0 (decide (e1 = 0))) := by
       show PartsR l n1 0 _
       have ht : rdTell l = (rdInt l).map fun n => (n, 0) := by unfold rdTell; rw [HC.out]
       rcases p1 with ⟨rfl, a⟩ | ⟨rfl, _, a⟩
       · exact Or.inl ⟨rfl, by rw [ht, a]; rfl⟩
       · exact Or.inr ⟨rfl, by rw [ht, a]; rfl⟩
     have he1 : e1 = 0 ∨ e1 = 4 := by rcases p1 with ⟨h, _⟩ | ⟨h, _⟩ <;> simp [h]
     clear p1 q1 hno
     rcases he1 with rfl | rfl
     all_goals
       go_wp2_with fail
       refine (H1.out _).mono ?_
       rintro e w1 ⟨rfl, hb1⟩
       go_wp2
       go_ret3
       exact ⟨⟨_, _, _, rfl, HR.out⟩, hb1⟩
end

/- The document's side of layer 8: a whole number as a number of the reference. -/
section
open Go.RowKit Go.Shelf Go.Lib
theorem belS {w a b : World} (h : Below w.heap.size w a) (h2 : Below a.heap.size a b) : Below w.heap.size w b := h.trans (h2.mono h.size)
theorem fit_int {n : Int} (h : InR n) : Fit (n : Rat) := (int_bd n h.1 h.2).mono (by omega) (by omega)
theorem fit_nat {n : Nat} (h : n < 18446744073709551616) : Fit ((n : Nat) : Rat) := by
 refine Bd.mono (h := 64) (l := 0) ⟨?_, ?_, n, ?_⟩ (by omega) (by omega)
 · rw [show (64 : Int) = ((64 : Nat) : Int) from rfl, p2_nat]
   exact Rat.natCast_lt_natCast.2 h
 · have a := p2_pos 64
   have b : (0 : Rat) ≤ ((n : Nat) : Rat) := Rat.natCast_nonneg
   grind
 · rw [p2_zero, Rat.mul_one]; rfl
set_option maxRecDepth 100000 in
set_option maxHeartbeats 2000000 in
theorem refNum_pos (n : Nat) (w : World) (hn : n ≤ 9223372036854775807) : Calls Tryd.prog 20 #[.int .i64 (n : Nat)] w fun e w' => RfR w w' ((n : Nat) : Rat) e := by
 have HAL : Hid (Below w.heap.size w (w.alloc (.cells #[.int .i64 0, .slice none 0 0, .int .i64 0] 67))) := (Below.refl _ w).alloc (Nat.le_refl _) _
 have HP : Hid (∀ w, Calls Tryd.prog 22 #[.int .u64 (n : Nat), .int .i64 0] w fun e w' => RfR w w' ((n : Nat) : Rat) e) := fun w => by
   have := power_walk n 0 w (by omega) (by omega) (by omega)
   rwa [p2_zero, Rat.mul_one] at this
 have hn2 : (n : Int) ≤ 9223372036854775807 := by omega
 clear hn
 go_enter Tryd.func20, Tryd.ntmps20
 go_wp2_with fail
 refine (HP.out _).mono ?_
 rintro e w3 ⟨v3, rfl, hr3, hb3⟩
 obtain ⟨S3, a3, n3, c3, E3, rfl⟩ := hr3.agg
 have R3 := Lib.hid hr3
 have HB3 : Hid (Below w.heap.size w w3) := belS HAL.out hb3
 have X3 : Hid (BoxN w3 w.heap.size 0 (.slice none 0 0) 0) := (BoxN.new w 0 0 _).later hb3
 clear hr3 hb3
 obtain ⟨t0, t1, t2, tf, _⟩ := X3.out.cells
 have tf0 := tf 0
 have tf1 := tf 1
 have tf2 := tf 2
 clear tf
 go_wp2
 have Y := (X3.out.set3 (S' := S3) (sv' := .slice a3 n3 c3) (E' := E3)).cells
 refine bodyPost_ret (v := .agg #[.int .i64 S3, .slice a3 n3 c3, .int .i64 E3]) (by simp [results, Tryd.results20, go_sem, Y.1, Y.2.1, Y.2.2.1]) rfl ?_
 refine ⟨_, rfl, R3.out.boxed (other_box X3.out) _ _ _, ?_⟩
 exact ((HB3.out.setCell (Nat.le_refl _) _).setCell (Nat.le_refl _) _).setCell (Nat.le_refl _) _
set_option maxRecDepth 100000 in
set_option maxHeartbeats 4000000 in
theorem refNum_neg (n : Int) (w : World) (h0 : n < 0) (hn : -9223372036854775808 ≤ n) : Calls Tryd.prog 20 #[.int .i64 n] w fun e w' => RfR w w' (n : Rat) e := by
 have HAL : Hid (Below w.heap.size w (w.alloc (.cells #[.int .i64 0, .slice none 0 0, .int .i64 0] 67))) := (Below.refl _ w).alloc (Nat.le_refl _) _
 obtain ⟨u, hu⟩ : ∃ u : Nat, -(n + 1) = (u : Int) := ⟨(-(n + 1)).toNat, by omega⟩
 have HP : Hid (∀ w, Calls Tryd.prog 22 #[.int .u64 (-(n + 1)), .int .i64 0] w fun e w' => RfR w w' ((u : Nat) : Rat) e) := fun w => by
   have := power_walk u 0 w (by omega) (by omega) (by omega)
   rw [hu]
   rwa [p2_zero, Rat.mul_one] at this
 have HP1 : Hid (∀ w, Calls Tryd.prog 22 #[.int .u64 1, .int .i64 0] w fun e w' => RfR w w' 1 e) := fun w => by
   have := power_walk 1 0 w (by omega) (by omega) (by omega)
   rwa [p2_zero, Rat.mul_one, show ((1 : Nat) : Rat) = 1 from rfl] at this
 have hq : -(((u : Nat) : Rat) + 1) = (n : Rat) := by
   have : (n : Rat) = ((-((u : Int) + 1) : Int) : Rat) := by rw [show -((u : Int) + 1) = n by omega]
   rw [this, Rat.intCast_neg, Rat.intCast_add]; rfl
 have HAd : Hid (∀ v1 v2 w, Rf w v1 ((u : Nat) : Rat) → Rf w v2 1 → Calls Tryd.prog 35 #[v1, v2] w fun e w' => RfR w w' (((u : Nat) : Rat) + 1) e) := fun v1 v2 w h1 h2 => refAdd_any v1 v2 _ 1 w h1 h2 (fit_nat (by omega)) (by have := fit_nat (n := 1) (by omega); exact this)
 have HNg : Hid (∀ v w, Rf w v (((u : Nat) : Rat) + 1) → Calls Tryd.prog 34 #[v] w fun e w' => RfR w w' (n : Rat) e) := fun v w h => by
   have := neg_rf v _ w h
   rwa [hq] at this
 have g1 : -9223372036854775807 ≤ n + 1 := by omega
 clear hq hu
 go_enter Tryd.func20, Tryd.ntmps20
 go_wp2_with fail
 refine (HP.out _).mono ?_
 rintro e w3 ⟨v3, rfl, hr3, hb3⟩
 have R3 := Lib.hid hr3
 have HB3 : Hid (Below w.heap.size w w3) := belS HAL.out hb3
 have X3 : Hid (BoxN w3 w.heap.size 0 (.slice none 0 0) 0) := (BoxN.new w 0 0 _).later hb3
 clear hr3 hb3
 go_wp2_with fail
 refine (HP1.out _).mono ?_
 rintro e w4 ⟨v4, rfl, hr4, hb4⟩
 have R4 := Lib.hid (And.intro (R3.out.later hb4) hr4)
 have HB4 : Hid (Below w.heap.size w w4) := belS HB3.out hb4
 have X4 := Lib.hid (X3.out.later hb4)
 clear hr4 hb4 R3 X3 HB3
 go_wp2_with fail
 refine (HAd.out _ _ _ R4.out.1 R4.out.2).mono ?_
 rintro e w5 ⟨v5, rfl, hr5, hb5⟩
 obtain ⟨S5, a5, n5, c5, E5, rfl⟩ := hr5.agg
 have hbA : Below w5.heap.size w5 (w5.alloc (.cells #[.int .i64 S5, .slice a5 n5 c5, .int .i64 E5] 67)) := (Below.refl _ _).alloc (Nat.le_refl _) _
 have R5 := Lib.hid (hr5.later hbA)
 have HB5 : Hid (Below w.heap.size w (w5.alloc (.cells #[.int .i64 S5, .slice a5 n5 c5, .int .i64 E5] 67))) := belS (belS HB4.out hb5) hbA
 have X5 := Lib.hid ((X4.out.later hb5).later hbA)
 have hbx : BoxN (w5.alloc (.cells #[.int .i64 S5, .slice a5 n5 c5, .int .i64 E5] 67)) w5.heap.size S5 (.slice a5 n5 c5) E5 := BoxN.new w5 _ _ _
 clear hr5 hb5 R4 X4 HB4 hbA hbx
 go_wp2_with fail
 refine (HNg.out _ _ R5.out).mono ?_
 rintro e w6 ⟨v6, rfl, hr6, hb6⟩
 obtain ⟨S6, a6, n6, c6, E6, rfl⟩ := hr6.agg
 have R6 := Lib.hid hr6
 have HB6 : Hid (Below w.heap.size w w6) := belS HB5.out hb6
 have X6 := Lib.hid (X5.out.later hb6)
 clear hr6 hb6 X5 R5
 obtain ⟨t0, t1, t2, tf, _⟩ := X6.out.cells
 have tf0 := tf 0
 have tf1 := tf 1
 have tf2 := tf 2
 clear tf
 go_wp2
 have Y := (X6.out.set3 (S' := S6) (sv' := .slice a6 n6 c6) (E' := E6)).cells
 refine bodyPost_ret (v := .agg #[.int .i64 S6, .slice a6 n6 c6, .int .i64 E6]) (by simp [results, Tryd.results20, go_sem, Y.1, Y.2.1, Y.2.2.1]) rfl ?_
 refine ⟨_, rfl, R6.out.boxed (other_box X6.out) _ _ _, ?_⟩
 exact ((HB6.out.setCell (Nat.le_refl _) _).setCell (Nat.le_refl _) _).setCell (Nat.le_refl _) _
theorem refNum_any (n : Int) (w : World) (hn : InR n) : Calls Tryd.prog 20 #[.int .i64 n] w fun e w' => RfR w w' (n : Rat) e := by
 by_cases h : n < 0
 · exact refNum_neg n w h hn.1
 · obtain ⟨u, rfl⟩ : ∃ u : Nat, n = (u : Int) := ⟨n.toNat, by omega⟩
   have := hn.2
   exact refNum_pos u w (by omega)
end

/- The document's side of layer 8: Float. -/
section
open Go.RowKit Go.Shelf Go.Lib
def SInv8 (Q : Rat) (lo hi : Nat) : Prop := lo ≤ hi ∧ hi ≤ 9218868437227405311 ∧ fval lo ≤ Q ∧ (hi = 9218868437227405311 ∨ Q < fval (hi + 1))
theorem sinv_end {Q : Rat} {lo : Nat} (h : SInv8 Q lo lo) (hne : fval lo ≠ Q) : ∀ r, r < 9218868437227405312 → fval r ≠ Q := by
 obtain ⟨_, h2, h3, h4⟩ := h
 intro r hr e
 rcases Nat.lt_or_ge lo r with hlt | hge
 · rcases h4 with h4 | h4
   · omega
   · rcases Nat.lt_or_ge (lo + 1) r with h5 | h5
     · have := fval_lt h5 hr
       grind
     · obtain rfl : r = lo + 1 := by omega
       grind
 · rcases Nat.lt_or_ge r lo with h5 | h5
   · have := fval_lt h5 (by omega : lo < 9218868437227405312)
     grind
   · obtain rfl : r = lo := by omega
     exact hne e
theorem sgq_le (a b : Rat) : sgq (a - b) ≤ 0 ↔ a ≤ b := by
 unfold sgq
 split
 · constructor
   · intro _; grind
   · intro _; omega
 · split
   · constructor
     · intro _; grind
     · intro _; omega
   · constructor
     · intro h; omega
     · intro h; exfalso; grind
theorem sgq_subz (a b : Rat) : sgq (a - b) = 0 ↔ a = b := by
 unfold sgq
 split
 · constructor
   · intro h; omega
   · intro h; exfalso; grind
 · split
   · constructor
     · intro _; grind
     · intro _; rfl
   · constructor
     · intro h; omega
     · intro h; exfalso; grind
theorem mag_int (n : Int) (e : Int) : ((n.natAbs : Nat) : Rat) * p2 e = (if (n : Rat) < 0 then -(n : Rat) else (n : Rat)) * p2 e := by
 have ha := abs_total n (p2 e)
 rw [ha]
 by_cases h : n < 0
 · have : (n : Rat) < 0 := Rat.intCast_lt_intCast.2 h
   rw [if_pos h, if_pos this]; grind
 · have : ¬ (n : Rat) < 0 := fun hc => h (Rat.intCast_lt_intCast.1 hc)
   rw [if_neg h, if_neg this]
set_option maxHeartbeats 4000000 in
set_option maxRecDepth 100000 in
theorem refFloat_core (s : ByteArray) (w : World) (hs : s.size ≤ 400) (n e : Int) (hn : InR n) (h0 : n ≠ 0) (he1 : -2000 ≤ e) (he2 : e ≤ 2000) (x : Nat) (er : Int)
   (hpt : ∀ w, Calls Tryd.prog 18 #[.string s] w fun r w' => r = .returned (.tuple #[.int .i64 n, .int .i64 e, .bool true]) ∧ Below w.heap.size w w')
   (hfin : ∀ lo, SInv8 (((n.natAbs : Nat) : Rat) * p2 e) lo lo → lo < 9218868437227405312 ∧ ((fval lo = ((n.natAbs : Nat) : Rat) * p2 e → er = 0 ∧ x = if n < 0 then fflip lo else lo) ∧ (fval lo ≠ ((n.natAbs : Nat) : Rat) * p2 e → er = 10 ∧ x = 0))) :
   Calls Tryd.prog 10 #[.string s] w fun r w' => r = .returned (.tuple #[.float .f64 x, .int .i64 er]) ∧ Below w.heap.size w w' := by
 have HPT : Hid (∀ w, Calls Tryd.prog 18 #[.string s] w fun r w' => r = .returned (.tuple #[.int .i64 n, .int .i64 e, .bool true]) ∧ Below w.heap.size w w') := hpt
 obtain ⟨Q, hQ⟩ : ∃ Q, ((n.natAbs : Nat) : Rat) * p2 e = Q := ⟨_, rfl⟩
 rw [hQ] at hfin
 have HFIN := Lib.hid hfin
 obtain ⟨A, hA⟩ : ∃ A : Rat, (if (n : Rat) < 0 then -(n : Rat) else (n : Rat)) = A := ⟨_, rfl⟩
 have hAQ : A * p2 e = Q := by rw [← hA, ← mag_int, hQ]
 have fitA : Fit A := by
   rw [← hA]
   split
   · exact (fit_int hn).neg
   · exact fit_int hn
 have fitP : Fit (p2 e) := fit_p2 e (by omega) (by omega)
 have fitQ : Fit Q := by
   rw [← hAQ, ← hA]
   have b1 : Bd 64 0 (if (n : Rat) < 0 then -(n : Rat) else (n : Rat)) := by
     split
     · exact (int_bd n hn.1 hn.2).neg
     · exact int_bd n hn.1 hn.2
   exact (b1.shift e).mono (by omega) (by omega)
 have HN : Hid (∀ w, Calls Tryd.prog 20 #[.int .i64 n] w fun r w' => RfR w w' (n : Rat) r) := fun w => refNum_any n w hn
 have HA : Hid (∀ v w, Rf w v (n : Rat) → Calls Tryd.prog 19 #[v] w fun r w' => RfR w w' A r) := fun v w h => by
   have := abs_rf v _ w h
   rwa [hA] at this
 have HP : Hid (∀ w, Calls Tryd.prog 22 #[.int .u64 1, .int .i64 e] w fun r w' => RfR w w' (p2 e) r) := fun w => by
   have := power_walk 1 e w (by omega) (by omega) (by omega)
   rwa [show ((1 : Nat) : Rat) * p2 e = p2 e by show (1 : Rat) * _ = _; rw [Rat.one_mul]] at this
 have HM : Hid (∀ v1 v2 w, Rf w v1 A → Rf w v2 (p2 e) → Calls Tryd.prog 21 #[v1, v2] w fun r w' => RfR w w' Q r) := fun v1 v2 w h1 h2 => by
   have := mul_rf v1 v2 _ _ w h1 h2 fitA fitP
   rwa [hAQ] at this
 have HO : Hid (∀ b w, b < 9218868437227405312 → Calls Tryd.prog 25 #[.float .f64 b] w fun r w' => RfR w w' (fval b) r) := fun b w hb => by
   have := refOf_any b w (by omega)
   rwa [show den b = fval b by unfold den; exact if_pos (by unfold frung; omega)] at this
 have HC : Hid (∀ b v1 v2 w, b < 9218868437227405312 → Rf w v1 (fval b) → Rf w v2 Q → Calls Tryd.prog 24 #[v1, v2] w fun r w' => r = .returned (.int .i64 (sgq (fval b - Q))) ∧ Below w.heap.size w w') := fun b v1 v2 w hb h1 h2 => cmp_rf v1 v2 _ _ w h1 h2 ((fval_bd (b := b) (by unfold Fin64 frung; omega)).mono (by omega) (by omega)) fitQ
 have hn0 : (n == 0) = false := by rw [beq_eq_false_iff_ne]; exact h0
 have hsi : (s.size : Int) ≤ 400 := by omega
 have HNB := Lib.hid hn
 have HQ0 : Hid (0 ≤ Q) := (by rw [← hQ]; exact Rat.mul_nonneg Rat.natCast_nonneg (Rat.le_of_lt (p2_pos _)) : 0 ≤ Q)
 clear hpt hfin fitA fitP fitQ hAQ hA hQ hn h0
 have hesplit : 0 ≤ e ∨ e < 0 := by omega
 rcases hesplit with hes | hes
 all_goals
   go_enter Tryd.func10, Tryd.ntmps10
   go_wp2_with fail
   refine (HPT.out _).mono ?_
   rintro r w1 ⟨rfl, hb1⟩
   have HB1 := Lib.hid hb1
   clear hb1
   go_wp2_with fail
   refine (HN.out _).mono ?_
   rintro r w2 ⟨v2, rfl, hr2, hb2⟩
   have HB2 := Lib.hid (belS HB1.out hb2)
   have HR2 := Lib.hid hr2
   clear hb2 hr2 HB1
   go_wp2_with fail
   refine (HA.out _ _ HR2.out).mono ?_
   rintro r w3 ⟨v3, rfl, hr3, hb3⟩
   obtain ⟨S3, a3, n3, c3, E3, rfl⟩ := hr3.agg
   have hbA : Below w3.heap.size w3 (w3.alloc (.cells #[.int .i64 S3, .slice a3 n3 c3, .int .i64 E3] 67)) := (Below.refl _ _).alloc (Nat.le_refl _) _
   have HB3 := Lib.hid (belS (belS HB2.out hb3) hbA)
   have HR3 := Lib.hid (hr3.later hbA)
   have HX3 := Lib.hid (BoxN.new w3 S3 E3 (.slice a3 n3 c3))
   have HG : Hid (w.heap.size ≤ w3.heap.size) := (belS HB2.out hb3).size
   clear hb3 hr3 HB2 hbA
   go_wp2_with fail
   generalize w3.alloc (.cells #[.int .i64 S3, .slice a3 n3 c3, .int .i64 E3] 67) = WX at *
   generalize w3.heap.size = g0 at *
   have hbd : Below WX.heap.size WX WX.drew := (Below.refl _ _).drew
   replace HX3 := Lib.hid (HX3.out.later hbd)
   replace HR3 := Lib.hid (HR3.out.later hbd)
   replace HB3 := Lib.hid (belS HB3.out hbd)
   obtain ⟨t0, t1, t2, tf, _⟩ := HX3.out.cells
   have y0 : WX.cell? ⟨g0, 0, none⟩ = some (.int .i64 S3) := t0
   have y1 : WX.cell? ⟨g0, 1, none⟩ = some (.slice a3 n3 c3) := t1
   have y2 : WX.cell? ⟨g0, 2, none⟩ = some (.int .i64 E3) := t2
   clear hbd tf
   go_region_with (first
     | (go_at_call 22; refine (HP.out _).mono ?_; rintro r w4 ⟨v4, rfl, hr4, hb4⟩; have u0 := box_cell hb4 t0; have u1 := box_cell hb4 t1; have u2 := box_cell hb4 t2; have HX4 := Lib.hid (HX3.out.later hb4); have HR4 := Lib.hid hr4; have HRA := Lib.hid (HR3.out.later hb4); have HB4 := Lib.hid (belS HB3.out hb4); clear hr4 hb4)
     | (go_at_call 21; refine (HM.out _ _ _ HRA.out HR4.out).mono ?_; rintro r w5 ⟨v5, rfl, hr5, hb5⟩; obtain ⟨S5, a5, n5, c5, E5, rfl⟩ := hr5.agg; have x0 := box_cell hb5 u0; have x1 := box_cell hb5 u1; have x2 := box_cell hb5 u2; have HX5 := Lib.hid (HX4.out.later hb5); have hf5 := HX5.out.cells.2.2.2.1; have HR5 := Lib.hid hr5; have HB5 := Lib.hid (belS HB4.out hb5); clear hr5 hb5))
   all_goals
     have HX6 := Lib.hid (HX5.out.set3 (S' := S5) (sv' := .slice a5 n5 c5) (E' := E5))
     have HR6 := Lib.hid (HR5.out.boxed (other_box HX5.out) (.int .i64 S5) (.slice a5 n5 c5) (.int .i64 E5))
     have HB6 := Lib.hid (below_num3 HB5.out HG.out (.int .i64 S5) (.slice a5 n5 c5) (.int .i64 E5))
     clear x0 x1 x2 hf5 HX5 HR5 HB5
     have b1 := run_bits 9218868437227405311
     generalize ((w5.setCell ⟨g0, 0, none⟩ (.int .i64 S5)).setCell ⟨g0, 1, none⟩ (.slice a5 n5 c5)).setCell ⟨g0, 2, none⟩ (.int .i64 E5) = WL at *
     go_wp2_with fail
     go_loopw [8, 9] (fun vlo vhi wr => ∃ lo hi : Nat, vlo = .int .u64 (lo : Nat) ∧ vhi = .int .u64 (hi : Nat) ∧ lo ≤ hi ∧ (hi : Int) ≤ 9218868437227405311 ∧ Hid (SInv8 Q lo hi) ∧ Hid ((fun W => W.cell? ⟨g0, 0, none⟩ = some (.int .i64 S5) ∧ W.cell? ⟨g0, 1, none⟩ = some (.slice a5 n5 c5) ∧ W.cell? ⟨g0, 2, none⟩ = some (.int .i64 E5) ∧ Rf W (.agg #[.int .i64 S5, .slice a5 n5 c5, .int .i64 E5]) Q ∧ Below w.heap.size w W) wr)) (fun vlo vhi _ => (RowKit.intOf vhi - RowKit.intOf vlo).toNat)
     case atStart => exact ⟨0, 9218868437227405311, rfl, rfl, by omega, by omega, ⟨by omega, Nat.le_refl _, by rw [fval_zero]; exact HQ0.out, Or.inl rfl⟩, ⟨HX6.out.cells.1, HX6.out.cells.2.1, HX6.out.cells.2.2.1, HR6.out, HB6.out⟩⟩
     case round =>
       obtain ⟨lo, hi, rfl, rfl, hle, hhi, hinv, hw⟩ := hrel
       have HS0 : Hid ((fun W => W.cell? ⟨g0, 0, none⟩ = some (.int .i64 S5) ∧ W.cell? ⟨g0, 1, none⟩ = some (.slice a5 n5 c5) ∧ W.cell? ⟨g0, 2, none⟩ = some (.int .i64 E5) ∧ Rf W (.agg #[.int .i64 S5, .slice a5 n5 c5, .int .i64 E5]) Q ∧ Below w.heap.size w W) wr.drew) := ⟨hw.out.1, hw.out.2.1, hw.out.2.2.1, hw.out.2.2.2.1.later (Below.refl _ wr).drew, hw.out.2.2.2.2.drew⟩
       by_cases hlt : lo < hi
       · obtain ⟨mid, hmid⟩ : ∃ mid : Nat, (lo : Int) + ((hi : Int) - (lo : Int) + 1) / 2 = (mid : Int) := ⟨lo + (hi - lo + 1) / 2, by omega⟩
         have hm1 : lo < mid ∧ mid ≤ hi := by omega
         have HBL : Hid (mid < 9218868437227405312) := (by omega : mid < 9218868437227405312)
         have b2 := run_frombits mid
         obtain ⟨sg, hsg⟩ : ∃ sg, Hid (sgq (fval mid - Q) = sg) := ⟨_, rfl⟩
         have HCS : Hid (∀ v1 v2 w, Rf w v1 (fval mid) → Rf w v2 Q → Calls Tryd.prog 24 #[v1, v2] w fun r w' => r = .returned (.int .i64 sg) ∧ Below w.heap.size w w') := fun v1 v2 w h1 h2 => by
           have := HC.out mid v1 v2 w HBL.out h1 h2
           rwa [hsg.out] at this
         obtain ⟨t, ht⟩ : ∃ t, decide (sg ≤ 0) = t := ⟨_, rfl⟩
         have HTT : Hid (t = decide (fval mid ≤ Q)) := (by rw [← ht, ← hsg.out]; exact decide_eq_decide.2 (sgq_le _ _) : t = decide (fval mid ≤ Q))
         have hlti : (lo : Int) < (hi : Int) := by omega
         go_wp2_with fail
         clear hmid
         refine wp_region_held_drew (S := (fun W => W.cell? ⟨g0, 0, none⟩ = some (.int .i64 S5) ∧ W.cell? ⟨g0, 1, none⟩ = some (.slice a5 n5 c5) ∧ W.cell? ⟨g0, 2, none⟩ = some (.int .i64 E5) ∧ Rf W (.agg #[.int .i64 S5, .slice a5 n5 c5, .int .i64 E5]) Q ∧ Below w.heap.size w W)) (by kernel_rfl) HS0.out (fun hS => ?_)
         refine takA (i := 0) (d := some 57) (v := .int .u64 (mid : Nat)) hS ?_
         simp only [AP]
         refine takA (i := 1) (d := some 58) (v := .float .f64 mid) hS ?_
         simp only [AP]
         refine takA (i := 3) (d := some 60) (v := .agg #[.int .i64 S5, .slice a5 n5 c5, .int .i64 E5]) hS ?_
         simp only [AP]
         refine calA 2 fun KF hK => ?_
         go_simp
         refine (HO.out mid _ HBL.out).mono ?_
         rintro r wx ⟨vx, rfl, hrx, hbx⟩
         go_wp2_with fail
         refine hK.out _ _ ⟨box_cell hbx hS.1, box_cell hbx hS.2.1, box_cell hbx hS.2.2.1, hS.2.2.2.1.later hbx, belS hS.2.2.2.2 hbx⟩ ?_
         clear hS hbx
         intro hS
         clear hK KF
         try simp only [AP]
         refine calA 4 fun KF hK => ?_
         go_simp
         refine (HCS.out vx _ _ hrx hS.2.2.2.1).mono ?_
         rintro r wx ⟨rfl, hbx⟩
         clear hrx
         go_wp2_with fail
         refine hK.out _ _ ⟨box_cell hbx hS.1, box_cell hbx hS.2.1, box_cell hbx hS.2.2.1, hS.2.2.2.1.later hbx, belS hS.2.2.2.2 hbx⟩ ?_
         clear hS hbx
         intro hS
         clear hK KF
         try simp only [AP]
         refine takA (i := 5) (d := some 62) (v := .bool t) hS ?_
         simp only [AP]
         refine wpAnyH_done (by kernel_rfl) ?_ _
         have HSE := Lib.hid hS
         clear hS
         cases t
         · go_wp2
           obtain ⟨_, i2, i3, i4⟩ := hinv.out
           have hf := of_decide_eq_false HTT.out.symm
           refine ⟨⟨lo, mid - 1, rfl, by congr 1; omega, by omega, by omega, ⟨by omega, by omega, i3, Or.inr (by rw [show mid - 1 + 1 = mid by omega]; grind)⟩, HSE.out⟩, ?_⟩
           show ((mid : Int) - 1 - (lo : Int)).toNat < ((hi : Int) - (lo : Int)).toNat
           omega
         · go_wp2
           obtain ⟨_, i2, i3, i4⟩ := hinv.out
           have hf := of_decide_eq_true HTT.out.symm
           refine ⟨⟨mid, hi, rfl, rfl, by omega, by omega, ⟨by omega, by omega, hf, i4⟩, HSE.out⟩, ?_⟩
           show ((hi : Int) - (mid : Int)).toNat < ((hi : Int) - (lo : Int)).toNat
           omega
       · obtain rfl : lo = hi := by omega
         obtain ⟨hlo, hf1, hf2⟩ := HFIN.out lo hinv.out
         have HBL : Hid (lo < 9218868437227405312) := hlo
         have b2 := run_frombits lo
         obtain ⟨sg, hsg⟩ : ∃ sg, Hid (sgq (fval lo - Q) = sg) := ⟨_, rfl⟩
         have HCS : Hid (∀ v1 v2 w, Rf w v1 (fval lo) → Rf w v2 Q → Calls Tryd.prog 24 #[v1, v2] w fun r w' => r = .returned (.int .i64 sg) ∧ Below w.heap.size w w') := fun v1 v2 w h1 h2 => by
           have := HC.out lo v1 v2 w HBL.out h1 h2
           rwa [hsg.out] at this
         obtain ⟨t, ht⟩ : ∃ t, (sg != 0) = t := ⟨_, rfl⟩
         have HTT : Hid (t = true ↔ fval lo ≠ Q) := (by rw [← ht, ← hsg.out, bne_iff_ne, Ne, sgq_subz] : t = true ↔ fval lo ≠ Q)
         have HF1 := Lib.hid hf1
         have HF2 := Lib.hid hf2
         have rn := run_negF lo (by omega)
         clear hf1 hf2 hlo
         go_wp2_with fail
         refine wp_region_held_drew (S := (fun W => W.cell? ⟨g0, 0, none⟩ = some (.int .i64 S5) ∧ W.cell? ⟨g0, 1, none⟩ = some (.slice a5 n5 c5) ∧ W.cell? ⟨g0, 2, none⟩ = some (.int .i64 E5) ∧ Rf W (.agg #[.int .i64 S5, .slice a5 n5 c5, .int .i64 E5]) Q ∧ Below w.heap.size w W)) (by kernel_rfl) HS0.out (fun hS => ?_)
         refine takA (i := 0) (d := some 68) (v := .float .f64 lo) hS ?_
         simp only [AP]
         refine takA (i := 2) (d := some 70) (v := .agg #[.int .i64 S5, .slice a5 n5 c5, .int .i64 E5]) hS ?_
         simp only [AP]
         refine calA 1 fun KF hK => ?_
         go_simp
         refine (HO.out lo _ HBL.out).mono ?_
         rintro r wx ⟨vx, rfl, hrx, hbx⟩
         go_wp2_with fail
         refine hK.out _ _ ⟨box_cell hbx hS.1, box_cell hbx hS.2.1, box_cell hbx hS.2.2.1, hS.2.2.2.1.later hbx, belS hS.2.2.2.2 hbx⟩ ?_
         clear hS hbx
         intro hS
         clear hK KF
         try simp only [AP]
         refine calA 3 fun KF hK => ?_
         go_simp
         refine (HCS.out vx _ _ hrx hS.2.2.2.1).mono ?_
         rintro r wx ⟨rfl, hbx⟩
         clear hrx
         go_wp2_with fail
         refine hK.out _ _ ⟨box_cell hbx hS.1, box_cell hbx hS.2.1, box_cell hbx hS.2.2.1, hS.2.2.2.1.later hbx, belS hS.2.2.2.2 hbx⟩ ?_
         clear hS hbx
         intro hS
         clear hK KF
         try simp only [AP]
         refine takA (i := 4) (d := some 72) (v := .bool t) hS ?_
         simp only [AP]
         refine wpAnyH_done (by kernel_rfl) ?_ _
         have HSE := Lib.hid hS
         clear hS
         cases t
         · have he : fval lo = Q := Classical.byContradiction fun hc => by have := HTT.out.2 hc; cases this
           obtain ⟨rfl, hx⟩ := HF1.out he
           by_cases hng : n < 0
           · rw [if_pos hng] at hx
             subst hx
             go_wp2
             go_ret2
             exact ⟨rfl, HSE.out.2.2.2.2⟩
           · rw [if_neg hng] at hx
             subst hx
             go_wp2
             go_ret2
             exact ⟨rfl, HSE.out.2.2.2.2⟩
         · obtain ⟨rfl, rfl⟩ := HF2.out (HTT.out.1 rfl)
           go_wp2
           go_ret2
           exact ⟨rfl, HSE.out.2.2.2.2⟩
end
end Go.Proofs.YtgfloegaoofbbaaDoor
