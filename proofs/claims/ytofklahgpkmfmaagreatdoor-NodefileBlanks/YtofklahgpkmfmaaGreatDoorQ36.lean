/- Own texts, put together: Jg Jh Qa Qb. -/
import Derived.Test.YtofklahgpkmfmaaGreatDoorQ10
import Derived.Test.YtofklahgpkmfmaaGreatDoorQ17
import Derived.Test.YtofklahgpkmfmaaGreatDoorQ25
import Derived.Test.YtofklahgpkmfmaaGreatDoorQ26
import Derived.Test.YtofklahgpkmfmaaGreatDoorQ28
import Derived.Test.YtofklahgpkmfmaaGreatDoorQ29
namespace Go.Proofs.YtofklahgpkmfmaaGreatDoor
/- Package digits: Text. -/
section
set_option maxRecDepth 100000
open Go.RowKit Go.Shelf Go.Lib
def TextR (x : Nat) (l : List UInt8) : Prop :=
 (¬ Fin64 x ∧ l = []) ∨ (Fin64 x ∧ ((∃ k : Int, fval x = (k : Rat) ∧ -9007199254740992 < k ∧ k < 9007199254740992 ∧ l = itoa k) ∨
   ((¬ ∃ k : Int, fval x = (k : Rat) ∧ -9007199254740992 < k ∧ k < 9007199254740992) ∧ ∃ n e : Int, n % 2 = 1 ∧ -9007199254740992 < n ∧ n < 9007199254740992 ∧ -3000 ≤ e ∧ e ≤ 3000 ∧ fval x = (n : Rat) * p2 e ∧ l = itoa n ++ 98 :: itoa e)))
theorem cat_b (a b : List UInt8) : (⟨a.toArray⟩ : ByteArray) ++ ⟨#[98]⟩ ++ ⟨b.toArray⟩ = ⟨(a ++ 98 :: b).toArray⟩ := by
 apply ByteArray.ext
 simp [ByteArray.data_append]
theorem ret_s {a b : ByteArray} (h : a = b) : Ending.returned (.string a) = .returned (.string b) := by rw [h]
theorem p53_val : fval 4845873199050653696 = 9007199254740992 := by
 rw [(fval_pos_lt (r := 4845873199050653696) (by omega)).1, show fmag 4845873199050653696 = 4503599627370496 by decide, show fpl 4845873199050653696 = 1 by decide, p2_one]
 have : ((4503599627370496 : Nat) : Rat) = 4503599627370496 := rfl
 rw [this]; grind
theorem lt53 {x : Nat} (hx : Fin64 x) : (FloatKind.f64.format.order (x % 9223372036854775808) 4845873199050653696 == some .lt) = decide (fval (frung x) < 9007199254740992) := by
 show (Ieee.double.order (frung x) 4845873199050653696 == some .lt) = _
 have hf : Fin64 (frung x) := by unfold Fin64 frung at *; omega
 rw [order_fin hf (by unfold Fin64 frung; decide), p53_val]
 by_cases h : fval (frung x) < 9007199254740992
 · rw [if_pos h, decide_eq_true h]; rfl
 · rw [if_neg h, decide_eq_false h]; split <;> rfl
theorem whole_iff {x : Nat} (hx : Fin64 x) (lx : x < 18446744073709551616) : (∃ k : Int, fval x = (k : Rat) ∧ -9007199254740992 < k ∧ k < 9007199254740992) ↔ (M 1 (fval x) ∧ fval (frung x) < 9007199254740992) := by
 have hn := fval_nonneg (r := frung x) hx
 have c1 : ((9007199254740992 : Int) : Rat) = 9007199254740992 := rfl
 have c2 : ((-9007199254740992 : Int) : Rat) = -9007199254740992 := rfl
 rw [M_one]
 constructor
 · rintro ⟨k, e, h1, h2⟩
   have g1 : ((-9007199254740992 : Int) : Rat) < (k : Rat) := Rat.intCast_lt_intCast.2 h1
   have g2 : (k : Rat) < ((9007199254740992 : Int) : Rat) := Rat.intCast_lt_intCast.2 h2
   refine ⟨⟨k, e⟩, ?_⟩
   rcases fval_sgn hx lx with ⟨_, v⟩ | ⟨_, v⟩ <;> grind
 · rintro ⟨⟨k, e⟩, h⟩
   refine ⟨k, e, ?_, ?_⟩
   · apply Rat.intCast_lt_intCast.1
     rw [c2]
     rcases fval_sgn hx lx with ⟨_, v⟩ | ⟨_, v⟩ <;> grind
   · apply Rat.intCast_lt_intCast.1
     rw [c1]
     rcases fval_sgn hx lx with ⟨_, v⟩ | ⟨_, v⟩ <;> grind
theorem eqT {x : Nat} (hx : Fin64 x) (lx : x < 18446744073709551616) : (FloatKind.f64.format.order (trw x) x == some .eq) = decide (fval (trw x) = fval x) := by
 show (Ieee.double.order (trw x) x == some .eq) = _
 rw [order_fin (trw_full hx lx).1 hx]
 by_cases h : fval (trw x) = fval x
 · rw [decide_eq_true h, h, if_neg Rat.lt_irrefl, if_pos rfl]; rfl
 · rw [decide_eq_false h, if_neg h]; split <;> rfl
theorem conv_run {z : Nat} {k : Int} (hz : Fin64 z) (h : fval z = (k : Rat)) (h1 : -9223372036854775808 ≤ k) (h2 : k ≤ 9223372036854775807) : ∀ w, (convert 57 3 (.float .f64 z)).run Tryz.prog w = .ok (.int .i64 k) w := fun w => run_convert_float_int w _ _ _ _ _ _ (by rw [Tryz.underlying57]; rfl) Tryz.underlying3 (conv_int hz h h1 h2)
set_option maxHeartbeats 2000000 in
set_option maxRecDepth 100000 in
theorem text_any (x : Nat) (lx : x < 18446744073709551616) : ∃ l, TextR x l ∧ ∀ w, T8 w → Calls Tryz.prog 73 #[.float .f64 x] w fun r w' => r = .returned (sv l) ∧ Below w.heap.size w w' := by
 have HN : Hid (∀ w, Calls Tryz.prog 108 #[.float .f64 x] w fun e w' => e = .returned (.bool (isnan x)) ∧ w' = w) := fun w => isNaN_any x w
 have HI : Hid (∀ w, Calls Tryz.prog 109 #[.float .f64 x, .int .i64 0] w fun e w' => e = .returned (.bool (isinf x)) ∧ w' = w) := fun w => isInf0_any x w lx
 by_cases hx : Fin64 x
 · obtain ⟨f1, f2⟩ := flagsS hx
   rw [f1] at HI
   rw [f2] at HN
   have HTr : Hid (∀ w, Calls Tryz.prog 112 #[.float .f64 x] w fun e w' => e = .returned (.float .f64 (trw x)) ∧ w' = w) := fun w => trunc_any x w hx
   have HA : Hid (∀ w, Calls Tryz.prog 113 #[.float .f64 x] w fun e w' => e = .returned (.float .f64 (x % 9223372036854775808)) ∧ w' = w) := fun w => abs_any x w lx
   have q1 := eqT hx lx
   have q2 := lt53 hx
   obtain ⟨_, _, ht⟩ := trw_full hx lx
   have hw := whole_iff hx lx
   obtain ⟨t, hte⟩ : ∃ t, trw x = t := ⟨_, rfl⟩
   obtain ⟨a, hae⟩ : ∃ a, x % 9223372036854775808 = a := ⟨_, rfl⟩
   by_cases h : ∃ k : Int, fval x = (k : Rat) ∧ -9007199254740992 < k ∧ k < 9007199254740992
   · have h' := hw.1 h
     obtain ⟨k, e, h1, h2⟩ := h
     refine ⟨itoa k, Or.inr ⟨hx, Or.inl ⟨k, e, h1, h2, rfl⟩⟩, fun w hT => ?_⟩
     rw [decide_eq_true (ht.2 h'.1), hte] at q1
     rw [decide_eq_true h'.2, hae] at q2
     rw [hte] at HTr
     rw [hae] at HA
     have hcv := conv_run hx e (by omega) (by omega)
     have HS : Hid (∀ w, T8 w → Calls Tryz.prog 39 #[.int .i64 k] w fun e w' => e = .returned (sv (itoa k)) ∧ Below w.heap.size w w') := fun w hT => show_any k ⟨by omega, by omega⟩ w hT
     have HT : Hid (T8 w) := hT
     clear hT h' e h1 h2 ht hw hte hae f1 f2 hx lx
     go_enter Tryz.func73, Tryz.ntmps73
     go_wp2_with (first
       | (go_at_call 108; refine (HN.out _).mono ?_; rintro e w' ⟨rfl, rfl⟩)
       | (go_at_call 109; refine (HI.out _).mono ?_; rintro e w' ⟨rfl, rfl⟩)
       | (go_at_call 112; refine (HTr.out _).mono ?_; rintro e w' ⟨rfl, rfl⟩)
       | (go_at_call 113; refine (HA.out _).mono ?_; rintro e w' ⟨rfl, rfl⟩)
       | (go_at_call 39; refine (HS.out _ HT.out).mono ?_; rintro e w' ⟨rfl, hb⟩))
     go_ret
     exact ⟨rfl, hb⟩
   · have hx0 : fval x ≠ 0 := fun e => h ⟨0, by rw [e]; rfl, by omega, by omega⟩
     obtain ⟨f, ex, m, ff, lf, vf, hm, vx, hex1, hex2, hF⟩ := frexp_val x hx lx hx0
     obtain ⟨fm, lm, vm⟩ := fwJ_val (n := m) (by omega) (by omega)
     have hm0 : m ≠ 0 := by omega
     obtain ⟨n, k, ho, hO⟩ := odd_any m (ex - 53) hm0 ⟨by omega, by omega⟩ (by omega) (by omega)
     have hk := ho.2.2
     have hnb : -9007199254740992 < n ∧ n < 9007199254740992 := by
       have e1 := congrArg Int.natAbs ho.1
       rw [Int.natAbs_mul, Int.natAbs_natCast] at e1
       have e2 : n.natAbs * 1 ≤ n.natAbs * 2 ^ k := Nat.mul_le_mul_left _ (Nat.two_pow_pos k)
       omega
     obtain ⟨z, hz⟩ : ∃ z, fwJ m = z := ⟨_, rfl⟩
     rw [hz] at fm lm vm
     obtain ⟨ek, hek⟩ : ∃ ek : Int, ex - 53 + (k : Nat) = ek := ⟨_, rfl⟩
     rw [hek] at hO
     refine ⟨itoa n ++ 98 :: itoa ek, Or.inr ⟨hx, Or.inr ⟨h, n, ek, ho.2.1, hnb.1, hnb.2, by omega, by omega, ?_, rfl⟩⟩, fun w hT => ?_⟩
     · rw [vx, odd_val ho, hek]
     have HF : Hid (∀ w, Calls Tryz.prog 114 #[.float .f64 x] w fun e w' => e = .returned (.tuple #[.float .f64 f, .int .i64 ex]) ∧ w' = w) := hF
     have hz0 : fval z ≠ 0 := by
       rw [vm]
       exact fun e => hm0 (Rat.intCast_inj.1 (e.trans rfl))
     have HL : Hid (∀ w, Calls Tryz.prog 116 #[.float .f64 f, .int .i64 53] w fun e w' => e = .returned (.float .f64 z) ∧ w' = w) := fun w => Ldexp_val f z 53 w ff lf fm lm (by rw [vm, vf, Rat.mul_assoc, ← p2_add, show (-53 + 53 : Int) = 0 from rfl, p2_zero, Rat.mul_one]) hz0 (by omega) (by omega)
     have hcv := conv_run fm vm (by omega) (by omega)
     have HO : Hid (∀ w, Tab w → Calls Tryz.prog 115 #[.int .i64 m, .int .i64 (ex - 53)] w fun r w' => r = .returned (.tuple #[.int .i64 n, .int .i64 ek]) ∧ w' = w) := hO
     have HS1 : Hid (∀ w, T8 w → Calls Tryz.prog 39 #[.int .i64 n] w fun e w' => e = .returned (sv (itoa n)) ∧ Below w.heap.size w w') := fun w hT => show_any n ⟨by omega, by omega⟩ w hT
     have HS2 : Hid (∀ w, T8 w → Calls Tryz.prog 39 #[.int .i64 ek] w fun e w' => e = .returned (sv (itoa ek)) ∧ Below w.heap.size w w') := fun w hT => show_any ek ⟨by omega, by omega⟩ w hT
     have HT : Hid (T8 w) := hT
     rw [hte] at q1 HTr
     rw [hae] at q2 HA
     have hnw := fun hc => h (hw.2 hc)
     have hln : (itoa n).length ≤ 21 := itoa_length_le n (by omega) (by omega)
     have hle : (itoa ek).length ≤ 21 := itoa_length_le ek (by omega) (by omega)
     by_cases hM : M 1 (fval x)
     · rw [hte] at ht
       rw [decide_eq_true (ht.2 hM)] at q1
       rw [decide_eq_false (fun hc => hnw ⟨hM, hc⟩)] at q2
       clear hM hnw hT hO hF hz0 ho hz hek hnb hm0 fm lm vm ff lf vf hm vx hx0 h ht hw hte hae f1 f2 hx lx
       go_enter Tryz.func73, Tryz.ntmps73
       go_wp2_with (first
         | (go_at_call 108; refine (HN.out _).mono ?_; rintro e w' ⟨rfl, rfl⟩)
         | (go_at_call 109; refine (HI.out _).mono ?_; rintro e w' ⟨rfl, rfl⟩)
         | (go_at_call 112; refine (HTr.out _).mono ?_; rintro e w' ⟨rfl, rfl⟩)
         | (go_at_call 113; refine (HA.out _).mono ?_; rintro e w' ⟨rfl, rfl⟩)
         | (go_at_call 114; refine (HF.out _).mono ?_; rintro e w' ⟨rfl, rfl⟩)
         | (go_at_call 116; refine (HL.out _).mono ?_; rintro e w' ⟨rfl, rfl⟩)
         | (go_at_call 115; refine (HO.out _ HT.out.1).mono ?_; rintro e w' ⟨rfl, rfl⟩; refine Hid.out ?_))
       refine Lib.hid ?_
       go_wp2_with fail
       refine (HS1.out _ HT.out).mono ?_
       rintro e w1 ⟨rfl, hb1⟩
       have HB1 := Lib.hid hb1
       clear hb1
       go_wp2_with fail
       refine (HS2.out _ (HT.out.later HB1.out)).mono ?_
       rintro e w2 ⟨rfl, hb2⟩
       have HB2 := Lib.hid hb2
       clear hb2
       go_wp2
       go_ret
       exact ⟨ret_s (cat_b _ _), HB1.out.trans (HB2.out.mono HB1.out.size)⟩
     · rw [hte] at ht
       rw [decide_eq_false (fun hc => hM (ht.1 hc))] at q1
       clear q2 hM hnw hT hO hF hz0 ho hz hek hnb hm0 fm lm vm ff lf vf hm vx hx0 h ht hw hte hae f1 f2 hx lx
       go_enter Tryz.func73, Tryz.ntmps73
       go_wp2_with (first
         | (go_at_call 108; refine (HN.out _).mono ?_; rintro e w' ⟨rfl, rfl⟩)
         | (go_at_call 109; refine (HI.out _).mono ?_; rintro e w' ⟨rfl, rfl⟩)
         | (go_at_call 112; refine (HTr.out _).mono ?_; rintro e w' ⟨rfl, rfl⟩)
         | (go_at_call 113; refine (HA.out _).mono ?_; rintro e w' ⟨rfl, rfl⟩)
         | (go_at_call 114; refine (HF.out _).mono ?_; rintro e w' ⟨rfl, rfl⟩)
         | (go_at_call 116; refine (HL.out _).mono ?_; rintro e w' ⟨rfl, rfl⟩)
         | (go_at_call 115; refine (HO.out _ HT.out.1).mono ?_; rintro e w' ⟨rfl, rfl⟩; refine Hid.out ?_))
       refine Lib.hid ?_
       go_wp2_with fail
       refine (HS1.out _ HT.out).mono ?_
       rintro e w1 ⟨rfl, hb1⟩
       have HB1 := Lib.hid hb1
       clear hb1
       go_wp2_with fail
       refine (HS2.out _ (HT.out.later HB1.out)).mono ?_
       rintro e w2 ⟨rfl, hb2⟩
       have HB2 := Lib.hid hb2
       clear hb2
       go_wp2
       go_ret
       exact ⟨ret_s (cat_b _ _), HB1.out.trans (HB2.out.mono HB1.out.size)⟩
 · refine ⟨[], Or.inl ⟨hx, rfl⟩, fun w _ => ?_⟩
   have hx' : ¬ frung x < 9218868437227405312 := hx
   by_cases hn : 9218868437227405312 < frung x
   · rw [show isnan x = true by unfold isnan; exact decide_eq_true hn] at HN
     clear hn hx' hx lx
     go_enter Tryz.func73, Tryz.ntmps73
     go_wp2_with (first
       | (go_at_call 108; refine (HN.out _).mono ?_; rintro e w' ⟨rfl, rfl⟩)
       | (go_at_call 109; refine (HI.out _).mono ?_; rintro e w' ⟨rfl, rfl⟩))
     go_ret
     exact ⟨rfl, Below.refl _ _⟩
   · rw [show isnan x = false by unfold isnan; exact decide_eq_false hn] at HN
     rw [show isinf x = true by unfold isinf; rw [beq_iff_eq]; omega] at HI
     clear hn hx' hx lx
     go_enter Tryz.func73, Tryz.ntmps73
     go_wp2_with (first
       | (go_at_call 108; refine (HN.out _).mono ?_; rintro e w' ⟨rfl, rfl⟩)
       | (go_at_call 109; refine (HI.out _).mono ?_; rintro e w' ⟨rfl, rfl⟩))
     go_ret
     exact ⟨rfl, Below.refl _ _⟩
end

/- Package digits: what follows of the contracts, and the statements' helper awake. -/
section
set_option maxRecDepth 100000
open Go.RowKit Go.Shelf Go.Lib
theorem FloatR.ok {l : List UInt8} {x v : Nat} {er n e : Int} (h : FloatR l x er) (ht : rdTell l = some (n, e)) (fv : Fin64 v) (lv : v < 18446744073709551616) (hv : fval v = (n : Rat) * p2 e) (h0 : n = 0 → v = 0) : x = v ∧ er = 0 := by
 rcases h with ⟨h1, _⟩ | ⟨n', e', ok, h1, h2, h3⟩
 · rw [h1] at ht; cases ht
 rw [h1] at ht
 simp at ht
 obtain ⟨rfl, rfl⟩ := ht
 rcases h2 with ⟨rfl, fx, lx, vx, z⟩ | ⟨rfl, _, hn⟩
 · refine ⟨?_, h3⟩
   by_cases hz : n' = 0
   · rw [z hz, h0 hz]
   · refine fval_inj fx fv lx lv (by rw [vx, hv]) ?_
     rw [vx]
     intro e0
     have hp := p2_pos e'
     have hn0 : (n' : Rat) = 0 := by
       rcases Rat.mul_eq_zero.1 e0 with h | h
       · exact h
       · rw [h] at hp; exact absurd hp Rat.lt_irrefl
     exact hz (Rat.intCast_inj.1 (hn0.trans rfl))
 · exact absurd hv (hn v fv lv)
theorem FloatR.no {l : List UInt8} {x : Nat} {er n e : Int} (h : FloatR l x er) (ht : rdTell l = some (n, e)) (hn : ∀ y, Fin64 y → y < 18446744073709551616 → fval y ≠ (n : Rat) * p2 e) : x = 0 ∧ er = 10 := by
 rcases h with ⟨h1, _⟩ | ⟨n', e', ok, h1, h2, h3⟩
 · rw [h1] at ht; cases ht
 rw [h1] at ht
 simp at ht
 obtain ⟨rfl, rfl⟩ := ht
 rcases h2 with ⟨rfl, fx, lx, vx, z⟩ | ⟨rfl, hx, _⟩
 · exact absurd vx (hn x fx lx)
 · exact ⟨hx, h3⟩
theorem FloatR.form {l : List UInt8} {x : Nat} {er : Int} (h : FloatR l x er) (ht : rdTell l = none) : x = 0 ∧ er = 4 := by
 rcases h with ⟨_, h⟩ | ⟨n', e', ok, h1, _⟩
 · exact h
 · rw [h1] at ht; cases ht
theorem odd_uniq {n n' e e' : Int} (h1 : n % 2 = 1) (h2 : n' % 2 = 1) (h : (n : Rat) * p2 e = (n' : Rat) * p2 e') : n = n' ∧ e = e' := by
 have key : ∀ {n n' e e' : Int}, n % 2 = 1 → n' % 2 = 1 → (n : Rat) * p2 e = (n' : Rat) * p2 e' → e ≤ e' → n = n' ∧ e = e' := by
   intro n n' e e' h1 h2 h hle
   obtain ⟨k, hk⟩ : ∃ k : Nat, e' = (k : Int) + e := ⟨(e' - e).toNat, by omega⟩
   rw [hk, p2_add, ← Rat.mul_assoc, p2_nat] at h
   have h' : (n : Rat) * p2 e = ((n' * ((2 ^ k : Nat) : Int) : Int) : Rat) * p2 e := by rw [h, Rat.intCast_mul]; rfl
   have := int_eq (p2_pos e) h'
   cases k with
   | zero => exact ⟨by rw [this, Nat.pow_zero]; omega, by omega⟩
   | succ k =>
     exfalso
     rw [Nat.pow_succ, Int.natCast_mul, ← Int.mul_assoc] at this
     omega
 rcases Int.le_total e e' with hl | hl
 · exact key h1 h2 h hl
 · have := key h2 h1 h.symm hl
   exact ⟨this.1.symm, this.2.symm⟩
theorem TextR.whole {x : Nat} {l : List UInt8} (h : TextR x l) (hx : Fin64 x) {k : Int} (hk : fval x = (k : Rat)) (h1 : -9007199254740992 < k) (h2 : k < 9007199254740992) : l = itoa k := by
 rcases h with ⟨h, _⟩ | ⟨_, ⟨k', e, _, _, hl⟩ | ⟨h, _⟩⟩
 · exact absurd hx h
 · rw [hl, Rat.intCast_inj.1 (e.symm.trans hk)]
 · exact absurd ⟨k, hk, h1, h2⟩ h
theorem TextR.odd {x : Nat} {l : List UInt8} (h : TextR x l) (hx : Fin64 x) {n e : Int} (ho : n % 2 = 1) (hv : fval x = (n : Rat) * p2 e) (hn : ¬ ∃ k : Int, fval x = (k : Rat) ∧ -9007199254740992 < k ∧ k < 9007199254740992) : l = itoa n ++ 98 :: itoa e := by
 rcases h with ⟨h, _⟩ | ⟨_, ⟨k', e', g1, g2, _⟩ | ⟨_, n', e', ho', _, _, _, _, hv', hl⟩⟩
 · exact absurd hx h
 · exact absurd ⟨k', e', g1, g2⟩ hn
 · obtain ⟨rfl, rfl⟩ := odd_uniq ho ho' (hv.symm.trans hv')
   exact hl
theorem TextR.tell {x : Nat} {l : List UInt8} (h : TextR x l) (hx : Fin64 x) : ∃ n e, rdTell l = some (n, e) ∧ fval x = (n : Rat) * p2 e ∧ l.length ≤ 43 := by
 rcases h with ⟨h, _⟩ | ⟨_, ⟨k, e, h1, h2, rfl⟩ | ⟨_, n, e, _, h1, h2, h3, h4, hv, rfl⟩⟩
 · exact absurd hx h
 · have ht := tell_whole (n := k) ⟨by omega, by omega⟩
   exact ⟨k, 0, ht, by rw [e, p2_zero, Rat.mul_one], tell_length ht⟩
 · have ht := tell_both (n := n) (e := e) ⟨by omega, by omega⟩ ⟨by omega, by omega⟩
   exact ⟨n, e, ht, hv, tell_length ht⟩
theorem TextR.same {x y : Nat} {l r : List UInt8} (hl : TextR x l) (hr : TextR y r) (hx : Fin64 x) : l = r ↔ (Fin64 y ∧ fval x = fval y) := by
 constructor
 · rintro rfl
   obtain ⟨n, e, ht, hv, _⟩ := hl.tell hx
   by_cases hy : Fin64 y
   · obtain ⟨n', e', ht', hv', _⟩ := hr.tell hy
     rw [ht] at ht'
     simp at ht'
     obtain ⟨rfl, rfl⟩ := ht'
     exact ⟨hy, by rw [hv, hv']⟩
   · exfalso
     rcases hr with ⟨_, rfl⟩ | ⟨h, _⟩
     · rw [show rdTell [] = none by decide] at ht; cases ht
     · exact hy h
 · rintro ⟨hy, he⟩
   rcases hr with ⟨h, _⟩ | ⟨_, ⟨k, e, h1, h2, rfl⟩ | ⟨hn, n, e, ho, h1, h2, h3, h4, hv, rfl⟩⟩
   · exact absurd hy h
   · exact hl.whole hx (by rw [he, e]) h1 h2
   · exact hl.odd hx ho (by rw [he, hv]) (by rw [he]; exact hn)
end

/- Package nodefile: what is read and written: plain. -/
section
open Go.RowKit Go.Shelf Go.Lib
structure Pm where
 rf : Bs → Nat × Int
 pt : Nat → Nat → Bool
 tx : Nat → Bs
structure Pm.Ok (p : Pm) : Prop where
 rf : ∀ l, FloatR l (p.rf l).1 (p.rf l).2
 pt : ∀ x y, p.pt x y = true ↔ Pt x y
 tx : ∀ x, x < 18446744073709551616 → TextR x (p.tx x)
theorem floatR_ex (l : Bs) : ∃ q : Nat × Int, FloatR l q.1 q.2 := by
 by_cases h : l.length ≤ 900000
 · obtain ⟨x, er, h1, _⟩ := float_any ⟨l.toArray⟩ (by rw [Lib.size_eq]; simpa using h)
   exact ⟨(x, er), by simpa using h1⟩
 · refine ⟨(0, 4), Or.inl ⟨?_, rfl, rfl⟩⟩
   cases ht : rdTell l with
   | none => rfl
   | some p => have := tell_length ht; omega
theorem pm_ex : ∃ p : Pm, p.Ok := by
 obtain ⟨rf, h1⟩ := Classical.skolem.1 floatR_ex
 obtain ⟨tx, h3⟩ := Classical.skolem.1 (fun x : Nat => (by
   by_cases h : x < 18446744073709551616
   · obtain ⟨l, hl, _⟩ := text_any x h
     exact ⟨l, fun _ => hl⟩
   · exact ⟨[], fun e => absurd e h⟩ : ∃ l : Bs, x < 18446744073709551616 → TextR x l))
 have hd : ∀ q : Nat × Nat, ∃ b : Bool, b = true ↔ Pt q.1 q.2 := fun q => by
   by_cases h : Pt q.1 q.2
   · exact ⟨true, by simp [h]⟩
   · exact ⟨false, by simp [h]⟩
 obtain ⟨pt, h2⟩ := Classical.skolem.1 hd
 exact ⟨⟨rf, fun x y => pt (x, y), tx⟩, h1, fun x y => h2 (x, y), h3⟩
structure Nd where
 x : Nat
 y : Nat
 a : List Nat
 m : Int
def hdP (ws : List Bs) : Option (Nat × Nat × Bool) :=
 match ws with
 | [a, b, c, d] =>
   match rdInt a, rdInt b, rdInt c, rdInt d with
   | some n, some t, some k, some m => if 0 ≤ n ∧ t = 2 ∧ 0 ≤ k ∧ (m = 0 ∨ m = 1) then some (n.toNat, k.toNat, m == 1) else none
   | _, _, _, _ => none
 | _ => none
def hdE (ws : List Bs) : Nat := match hdP ws with
 | none => 4
 | some q => if q.1 ≤ 1048576 ∧ q.2.1 ≤ 16 then 0 else 3
def fst0 : List Int → Int
 | [] => 0
 | e :: r => if e = 0 then fst0 r else e
theorem fst0_app (a b : List Int) : fst0 (a ++ b) = if fst0 a = 0 then fst0 b else fst0 a := by
 induction a with
 | nil => simp [fst0]
 | cons e r ih =>
   rw [List.cons_append, fst0, fst0]
   by_cases h : e = 0
   · rw [if_pos h, if_pos h, ih]
   · rw [if_neg h, if_neg h, if_neg h]
def wid (k : Nat) (m : Bool) : Nat := if m then 3 + k + 1 else 3 + k
def mayN (i : Nat) (z : Bool) (n : Int) : Bool := if i = 0 then n == 0 || n == 1 else n == (if z then (i : Int) else (i : Int) + 1)
def zN (i : Nat) (z : Bool) (w : Bs) : Bool := if i = 0 then rdInt w == some 0 else z
def intE (may : Int → Bool) (w : Bs) : Int := match rdInt w with
 | none => 4
 | some n => if may n then 0 else 4
def ndE (p : Pm) (k : Nat) (m : Bool) (may : Int → Bool) (ws : List Bs) : Int :=
 fst0 ([if ws.length = wid k m then 0 else 4, intE may (ws.getD 0 []), (p.rf (ws.getD 1 [])).2, (p.rf (ws.getD 2 [])).2, if p.pt (p.rf (ws.getD 1 [])).1 (p.rf (ws.getD 2 [])).1 then 0 else 10] ++ (((ws.drop 3).take k).map fun w => (p.rf w).2) ++ (if m then [intE (fun _ => true) (ws.getD (3 + k) [])] else []))
def ndV (p : Pm) (k : Nat) (m : Bool) (ws : List Bs) : Nd :=
 ⟨(p.rf (ws.getD 1 [])).1, (p.rf (ws.getD 2 [])).1, ((ws.drop 3).take k).map fun w => (p.rf w).1, if m then (rdInt (ws.getD (3 + k) [])).getD 0 else 0⟩
def goN (p : Pm) (k : Nat) (m : Bool) : Nat → Bool → List (Nat × List Bs) → Sum (Nat × Int) (List Nd × Bool)
 | _, z, [] => .inr ([], z)
 | i, z, (no, ws) :: r =>
   if ndE p k m (mayN i z) ws = 0 then
     match goN p k m (i + 1) (zN i z (ws.getD 0 [])) r with
     | .inl e => .inl e
     | .inr (ns, z') => .inr (ndV p k m ws :: ns, z')
   else .inl (no, ndE p k m (mayN i z) ws)
theorem goN_snoc (p : Pm) (k : Nat) (m : Bool) : ∀ (L : List (Nat × List Bs)) (i : Nat) (z : Bool) (q : Nat × List Bs), goN p k m i z (L ++ [q]) =
   match goN p k m i z L with
   | .inl e => .inl e
   | .inr (ns, z') => if ndE p k m (mayN (i + L.length) z') q.2 = 0 then .inr (ns ++ [ndV p k m q.2], zN (i + L.length) z' (q.2.getD 0 [])) else .inl (q.1, ndE p k m (mayN (i + L.length) z') q.2) := by
 intro L
 induction L with
 | nil =>
   intro i z q
   obtain ⟨no, ws⟩ := q
   simp only [List.nil_append, goN, List.length_nil, Nat.add_zero]
 | cons a r ih =>
   intro i z q
   obtain ⟨no, ws⟩ := a
   simp only [List.cons_append, goN]
   by_cases h : ndE p k m (mayN i z) ws = 0
   · rw [if_pos h, if_pos h, ih, List.length_cons, show i + 1 + r.length = i + (r.length + 1) by omega]
     cases goN p k m (i + 1) (zN i z (ws.getD 0 [])) r with
     | inl e => rfl
     | inr x =>
       obtain ⟨ns, z'⟩ := x
       simp only []
       by_cases h2 : ndE p k m (mayN (i + (r.length + 1)) z') q.2 = 0
       · rw [if_pos h2, if_pos h2]; rfl
       · rw [if_neg h2, if_neg h2]
   · rw [if_neg h, if_neg h]
theorem goN_bad {p : Pm} {k : Nat} {m : Bool} : ∀ {L : List (Nat × List Bs)} {i : Nat} {z : Bool} {e : Nat × Int} (R : List (Nat × List Bs)), goN p k m i z L = .inl e → goN p k m i z (L ++ R) = .inl e := by
 intro L
 induction L with
 | nil => intro i z e R h; cases h
 | cons a r ih =>
   intro i z e R h
   obtain ⟨no, ws⟩ := a
   simp only [List.cons_append, goN] at h ⊢
   by_cases h0 : ndE p k m (mayN i z) ws = 0
   · rw [if_pos h0] at h ⊢
     cases hg : goN p k m (i + 1) (zN i z (ws.getD 0 [])) r with
     | inl x =>
       rw [hg] at h
       rw [ih R hg]
       exact h
     | inr x => rw [hg] at h; obtain ⟨ns, z'⟩ := x; cases h
   · rw [if_neg h0] at h ⊢; exact h
structure Fd where
 ns : List Nd
 z : Bool
 k : Int
 m : Bool
def tkV (p : Pm) (L : List (Nat × List Bs)) : Fd × Nat × Nat × Int :=
 match L with
 | [] => (⟨[], false, 0, false⟩, 0, 1, 4)
 | (no, ws) :: r =>
   if hdE ws = 0 then
     match hdP ws with
     | none => (⟨[], false, 0, false⟩, 0, no, 4)
     | some (c, k, m) =>
       match goN p k m 0 false (r.take c) with
       | .inl e => (⟨[], false, 0, false⟩, 0, e.1, e.2)
       | .inr (ns, z) => if r.length < c then (⟨[], false, 0, false⟩, 0, ((no, ws) :: r).getLast!.1 + 1, 4) else (⟨ns, z, k, m⟩, 1 + ns.length, 0, 0)
   else (⟨[], false, 0, false⟩, 0, no, hdE ws)
def rfV (p : Pm) (t : Bs) : Fd × Nat × Int :=
 if (rdV t).2.2 = 0 then
   let L := (rdV t).1
   let q := tkV p L
   if q.2.2.2 = 0 then (if q.2.1 < L.length then (⟨[], false, 0, false⟩, (L.getD q.2.1 (0, [])).1, 4) else (q.1, 0, 0)) else (⟨[], false, 0, false⟩, q.2.2.1, q.2.2.2)
 else (⟨[], false, 0, false⟩, (rdV t).2.1, (rdV t).2.2)
end

/- Package nodefile: a line's words are taken one by one. -/
section
open Go.RowKit Go.Shelf Go.Lib
attribute [local go_sem] run_store_str
theorem run_store_iface (P : Program) (w : World) (a : Addr) (m : Mode) (t : TypeId) (v : Value) : (store a (.iface t v) m).run P w = stored P w a (.iface t v) m := run_store P w a _ m rfl
abbrev erI (e : Int) : Value := .iface 26 (.int .i64 e)
def erV (e : Int) : Value := if e = 0 then .nilIface else erI e
theorem erV_no {e : Int} (h : e ≠ 0) : erV e = erI e := if_neg h
theorem hold_ok (B : Nat) (l : Value) (why : Int) (w : World) (h : CB w B #[l, .nilIface] 150) :
   Calls Tryz.prog 88 #[.pointer (some ⟨B, 0, none⟩), .bool true, .int .i64 why] w fun e w' => e = .returned (.tuple #[]) ∧ w' = w := by
 have c1 : w.cell? ⟨B, 1, none⟩ = some .nilIface := h.cell 1 (by simp)
 clear h
 go_enter Tryz.func88, Tryz.ntmps88
 go_wp2
 refine bodyPost_end (results_none rfl _ _ _) rfl ?_
 exact ⟨rfl, rfl⟩
theorem hold_was (B : Nat) (l : Value) (e0 why : Int) (right : Bool) (w : World) (h : CB w B #[l, erI e0] 150) :
   Calls Tryz.prog 88 #[.pointer (some ⟨B, 0, none⟩), .bool right, .int .i64 why] w fun e w' => e = .returned (.tuple #[]) ∧ w' = w := by
 have c1 : w.cell? ⟨B, 1, none⟩ = some (erI e0) := h.cell 1 (by simp)
 clear h
 go_enter Tryz.func88, Tryz.ntmps88
 go_wp2
 refine bodyPost_end (results_none rfl _ _ _) rfl ?_
 exact ⟨rfl, rfl⟩
theorem hold_set (B : Nat) (l : Value) (why : Int) (w : World) (h : CB w B #[l, .nilIface] 150) :
   Calls Tryz.prog 88 #[.pointer (some ⟨B, 0, none⟩), .bool false, .int .i64 why] w fun e w' => e = .returned (.tuple #[]) ∧ w' = w.setCell ⟨B, 1, none⟩ (erI why) := by
 have c1 : w.cell? ⟨B, 1, none⟩ = some .nilIface := h.cell 1 (by simp)
 have f1 : w.frozen? ⟨B, 1, none⟩ = false := h.frozen 1
 have hst := fun (v : Value) m => run_store_iface Tryz.prog w ⟨B, 1, none⟩ m 26 v
 clear h
 go_enter Tryz.func88, Tryz.ntmps88
 go_wp2
 refine bodyPost_end (results_none rfl _ _ _) rfl ?_
 exact ⟨rfl, rfl⟩
theorem word_was (B : Nat) (l : Value) (e0 : Int) (w : World) (h : CB w B #[l, erI e0] 150) :
   Calls Tryz.prog 123 #[.pointer (some ⟨B, 0, none⟩)] w fun e w' => e = .returned (.string ⟨#[]⟩) ∧ w' = w := by
 have c1 : w.cell? ⟨B, 1, none⟩ = some (erI e0) := h.cell 1 (by simp)
 clear h
 go_enter Tryz.func123, Tryz.ntmps123
 go_wp2
 go_ret
 exact ⟨rfl, rfl⟩
theorem Sl.tail {W : World} {g off c : Nat} {x : Bs} {r : List Bs} (h : Sl W (.slice (some ⟨g, off, none⟩) (r.length + 1) c) (x :: r)) : Sl W (.slice (some (if c = 1 then ⟨g, off, none⟩ else ⟨g, off + 1, none⟩)) r.length (c - 1)) r := by
 obtain ⟨⟨a, c', e, h2, h3, h4⟩, h5⟩ := h
 cases e
 rcases h4 with h4 | ⟨g', o', e, hg, hc⟩
 · cases h4
 cases e
 simp only [List.length_cons] at h2
 refine ⟨⟨_, _, rfl, by omega, by omega, ?_⟩, fun y hy => h5 y (by simp [hy])⟩
 by_cases hr : r = []
 · exact Or.inl hr
 · refine Or.inr ⟨g, off + 1, ?_, hg, fun k y hk => ?_⟩
   · have : 0 < r.length := List.length_pos_iff.2 hr
     rw [if_neg (by omega)]
   · have := hc (k + 1) y (by simpa using hk)
     rwa [show off + (k + 1) = off + 1 + k by omega] at this
def Bk (N : Nat) (l : Value) : Prop := ∀ b, l.ownBlock = some b → b < N
theorem Sl.below {W W' : World} {N : Nat} {v : Value} {ws : List Bs} (h : Sl W v ws) (hk : Bk N v) (hb : Below N W W') : Sl W' v ws := by
 obtain ⟨⟨a, c, h1, h2, h3, h4⟩, h5⟩ := h
 refine ⟨⟨a, c, h1, h2, h3, ?_⟩, h5⟩
 rcases h4 with h4 | ⟨g, off, h6, h7, h8⟩
 · exact Or.inl h4
 · have hg : g < N := hk g (by rw [h1, h6]; rfl)
   exact Or.inr ⟨g, off, h6, Nat.lt_of_lt_of_le h7 hb.size, fun k x hx => cell_later hb hg (h8 k x hx)⟩
theorem Sl.set {W : World} {v : Value} {ws : List Bs} {p : Addr} {u : Value} (h : Sl W v ws) (hp : W.cell? p = some u) (hu : ∀ s, u ≠ .string s) (y : Value) : Sl (W.setCell p y) v ws := by
 obtain ⟨⟨a, c, h1, h2, h3, h4⟩, h5⟩ := h
 refine ⟨⟨a, c, h1, h2, h3, ?_⟩, h5⟩
 rcases h4 with h4 | ⟨g, off, h6, h7, h8⟩
 · exact Or.inl h4
 · refine Or.inr ⟨g, off, h6, by simpa [World.setCell] using h7, fun k x hk => ?_⟩
   have hc := h8 k x hk
   rw [World.cell?_setCell_other]
   · exact hc
   · intro e
     rw [← e] at hc
     rw [hc] at hp
     exact hu _ (Option.some.inj hp).symm
set_option maxHeartbeats 1000000 in
theorem word_take (B : Nat) (l : Value) (x : Bs) (r : List Bs) (w : World) (h : CB w B #[l, .nilIface] 150) (hS : Sl w l (x :: r)) :
   ∃ l', Sl (w.setCell ⟨B, 0, none⟩ l') l' r ∧ l'.ownBlock = l.ownBlock ∧ (∃ a c, l' = .slice a r.length c) ∧ Calls Tryz.prog 123 #[.pointer (some ⟨B, 0, none⟩)] w fun e w' => e = .returned (sv x) ∧ w' = w.setCell ⟨B, 0, none⟩ l' := by
 obtain ⟨a, c, rfl, h2, h3, h4⟩ := hS.form
 obtain ⟨g, off, rfl, hg, hc⟩ := h4.resolve_left (by simp)
 simp only [List.length_cons] at h2
 rw [List.length_cons] at hS
 have hT := hS.tail
 have c1 : w.cell? ⟨B, 1, none⟩ = some .nilIface := h.cell 1 (by simp)
 have c0 : w.cell? ⟨B, 0, none⟩ = some (.slice (some ⟨g, off, none⟩) (r.length + 1) c) := h.cell 0 (by simp)
 have f0 : w.frozen? ⟨B, 0, none⟩ = false := h.frozen 0
 have cx : w.cell? ⟨g, off, none⟩ = some (sv x) := hc 0 x rfl
 obtain ⟨ad, had⟩ : ∃ ad : Addr, (if c = 1 then (⟨g, off, none⟩ : Addr) else ⟨g, off + 1, none⟩) = ad := ⟨_, rfl⟩
 rw [had] at hT
 refine ⟨.slice (some ad) r.length (c - 1), hT.set c0 (by simp) _, by rw [← had]; split <;> rfl, ⟨_, _, rfl⟩, ?_⟩
 have l1 : (r.length : Int) + 1 ≤ c := by omega
 have l2 : (c : Int) ≤ 9223372036854775807 := by omega
 obtain ⟨n, hn⟩ : ∃ n, r.length = n := ⟨_, rfl⟩
 rw [hn] at c0 l1 h2 ⊢
 clear hS hT h hc h4 hn
 go_enter Tryz.func123, Tryz.ntmps123
 go_wp2
 all_goals
   go_ret
   refine ⟨rfl, ?_⟩
   rw [← had]
   simp_all
end
end Go.Proofs.YtofklahgpkmfmaaGreatDoor
