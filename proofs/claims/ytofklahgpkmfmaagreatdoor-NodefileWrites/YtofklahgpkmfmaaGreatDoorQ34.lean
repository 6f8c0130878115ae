/- Own texts, put together: Jg Jh Qa Qb Oe Qm Qc Of Og Oh Oi Oj On Ji Ia Ib. -/
import Derived.Test.YtofklahgpkmfmaaGreatDoorQ4
import Derived.Test.YtofklahgpkmfmaaGreatDoorQ9
import Derived.Test.YtofklahgpkmfmaaGreatDoorQ23
import Derived.Test.YtofklahgpkmfmaaGreatDoorQ24
import Derived.Test.YtofklahgpkmfmaaGreatDoorQ26
import Derived.Test.YtofklahgpkmfmaaGreatDoorQ27
import Derived.Test.YtofklahgpkmfmaaGreatDoorQ28
import Derived.Test.YtofklahgpkmfmaaGreatDoorQ31
import Derived.Test.YtofklahgpkmfmaaGreatDoorQ33
import Derived.Laws.IdiomStrings
namespace Go.Proofs.YtofklahgpkmfmaaGreatDoor
/- Package digits: Text. -/
section
set_option maxRecDepth 100000
open Go.RowKit Go.Shelf Go.Lib
def TextR (x : Nat) (l : List UInt8) : Prop :=
 (¬ Fin64 x ∧ l = []) ∨ (Fin64 x ∧ ((∃ k : Int, fval x = (k : Rat) ∧ -9007199254740992 < k ∧ k < 9007199254740992 ∧ l = itoa k) ∨
   ((¬ ∃ k : Int, fval x = (k : Rat) ∧ -9007199254740992 < k ∧ k < 9007199254740992) ∧ ∃ n e : Int, n % 2 = 1 ∧ -9007199254740992 < n ∧ n < 9007199254740992 ∧ -3000 ≤ e ∧ e ≤ 3000 ∧ fval x = (n : Rat) * p2 e ∧ l = itoa n ++ 98 :: itoa e)))
theorem cat_b (a b : List UInt8) : (⟨a.toArray⟩ : ByteArray) ++ ⟨#[98]⟩ ++ ⟨b.toArray⟩ = ⟨(a ++ 98 :: b).toArray⟩ := by
 apply ByteArray.ext
 simp [ByteArray.data_append]
theorem ret_s {a b : ByteArray} (h : a = b) : Ending.returned (.string a) = .returned (.string b) := by rw [h]
theorem p53_val : fval 4845873199050653696 = 9007199254740992 := by
 rw [(fval_pos_lt (r := 4845873199050653696) (by omega)).1, show fmag 4845873199050653696 = 4503599627370496 by decide, show fpl 4845873199050653696 = 1 by decide, p2_one]
 have : ((4503599627370496 : Nat) : Rat) = 4503599627370496 := rfl
 rw [this]; grind
theorem lt53 {x : Nat} (hx : Fin64 x) : (FloatKind.f64.format.order (x % 9223372036854775808) 4845873199050653696 == some .lt) = decide (fval (frung x) < 9007199254740992) := by
 show (Ieee.double.order (frung x) 4845873199050653696 == some .lt) = _
 have hf : Fin64 (frung x) := by unfold Fin64 frung at *; omega
 rw [order_fin hf (by unfold Fin64 frung; decide), p53_val]
 by_cases h : fval (frung x) < 9007199254740992
 · rw [if_pos h, decide_eq_true h]; rfl
 · rw [if_neg h, decide_eq_false h]; split <;> rfl
theorem whole_iff {x : Nat} (hx : Fin64 x) (lx : x < 18446744073709551616) : (∃ k : Int, fval x = (k : Rat) ∧ -9007199254740992 < k ∧ k < 9007199254740992) ↔ (M 1 (fval x) ∧ fval (frung x) < 9007199254740992) := by
 have hn := fval_nonneg (r := frung x) hx
 have c1 : ((9007199254740992 : Int) : Rat) = 9007199254740992 := rfl
 have c2 : ((-9007199254740992 : Int) : Rat) = -9007199254740992 := rfl
 rw [M_one]
 constructor
 · rintro ⟨k, e, h1, h2⟩
   have g1 : ((-9007199254740992 : Int) : Rat) < (k : Rat) := Rat.intCast_lt_intCast.2 h1
   have g2 : (k : Rat) < ((9007199254740992 : Int) : Rat) := Rat.intCast_lt_intCast.2 h2
   refine ⟨⟨k, e⟩, ?_⟩
   rcases fval_sgn hx lx with ⟨_, v⟩ | ⟨_, v⟩ <;> grind
 · rintro ⟨⟨k, e⟩, h⟩
   refine ⟨k, e, ?_, ?_⟩
   · apply Rat.intCast_lt_intCast.1
     rw [c2]
     rcases fval_sgn hx lx with ⟨_, v⟩ | ⟨_, v⟩ <;> grind
   · apply Rat.intCast_lt_intCast.1
     rw [c1]
     rcases fval_sgn hx lx with ⟨_, v⟩ | ⟨_, v⟩ <;> grind
theorem eqT {x : Nat} (hx : Fin64 x) (lx : x < 18446744073709551616) : (FloatKind.f64.format.order (trw x) x == some .eq) = decide (fval (trw x) = fval x) := by
 show (Ieee.double.order (trw x) x == some .eq) = _
 rw [order_fin (trw_full hx lx).1 hx]
 by_cases h : fval (trw x) = fval x
 · rw [decide_eq_true h, h, if_neg Rat.lt_irrefl, if_pos rfl]; rfl
 · rw [decide_eq_false h, if_neg h]; split <;> rfl
theorem conv_run {z : Nat} {k : Int} (hz : Fin64 z) (h : fval z = (k : Rat)) (h1 : -9223372036854775808 ≤ k) (h2 : k ≤ 9223372036854775807) : ∀ w, (convert 57 3 (.float .f64 z)).run Tryz.prog w = .ok (.int .i64 k) w := fun w => run_convert_float_int w _ _ _ _ _ _ (by rw [Tryz.underlying57]; rfl) Tryz.underlying3 (conv_int hz h h1 h2)
set_option maxHeartbeats 2000000 in
set_option maxRecDepth 100000 in
theorem text_any (x : Nat) (lx : x < 18446744073709551616) : ∃ l, TextR x l ∧ ∀ w, T8 w → Calls Tryz.prog 73 #[.float .f64 x] w fun r w' => r = .returned (sv l) ∧ Below w.heap.size w w' := by
 have HN : Hid (∀ w, Calls Tryz.prog 108 #[.float .f64 x] w fun e w' => e = .returned (.bool (isnan x)) ∧ w' = w) := fun w => isNaN_any x w
 have HI : Hid (∀ w, Calls Tryz.prog 109 #[.float .f64 x, .int .i64 0] w fun e w' => e = .returned (.bool (isinf x)) ∧ w' = w) := fun w => isInf0_any x w lx
 by_cases hx : Fin64 x
 · obtain ⟨f1, f2⟩ := flagsS hx
   rw [f1] at HI
   rw [f2] at HN
   have HTr : Hid (∀ w, Calls Tryz.prog 112 #[.float .f64 x] w fun e w' => e = .returned (.float .f64 (trw x)) ∧ w' = w) := fun w => trunc_any x w hx
   have HA : Hid (∀ w, Calls Tryz.prog 113 #[.float .f64 x] w fun e w' => e = .returned (.float .f64 (x % 9223372036854775808)) ∧ w' = w) := fun w => abs_any x w lx
   have q1 := eqT hx lx
   have q2 := lt53 hx
   obtain ⟨_, _, ht⟩ := trw_full hx lx
   have hw := whole_iff hx lx
   obtain ⟨t, hte⟩ : ∃ t, trw x = t := ⟨_, rfl⟩
   obtain ⟨a, hae⟩ : ∃ a, x % 9223372036854775808 = a := ⟨_, rfl⟩
   by_cases h : ∃ k : Int, fval x = (k : Rat) ∧ -9007199254740992 < k ∧ k < 9007199254740992
   · have h' := hw.1 h
     obtain ⟨k, e, h1, h2⟩ := h
     refine ⟨itoa k, Or.inr ⟨hx, Or.inl ⟨k, e, h1, h2, rfl⟩⟩, fun w hT => ?_⟩
     rw [decide_eq_true (ht.2 h'.1), hte] at q1
     rw [decide_eq_true h'.2, hae] at q2
     rw [hte] at HTr
     rw [hae] at HA
     have hcv := conv_run hx e (by omega) (by omega)
     have HS : Hid (∀ w, T8 w → Calls Tryz.prog 39 #[.int .i64 k] w fun e w' => e = .returned (sv (itoa k)) ∧ Below w.heap.size w w') := fun w hT => show_any k ⟨by omega, by omega⟩ w hT
     have HT : Hid (T8 w) := hT
     clear hT h' e h1 h2 ht hw hte hae f1 f2 hx lx
     go_enter Tryz.func73, Tryz.ntmps73
     go_wp2_with (first
       | (go_at_call 108; refine (HN.out _).mono ?_; rintro e w' ⟨rfl, rfl⟩)
       | (go_at_call 109; refine (HI.out _).mono ?_; rintro e w' ⟨rfl, rfl⟩)
       | (go_at_call 112; refine (HTr.out _).mono ?_; rintro e w' ⟨rfl, rfl⟩)
       | (go_at_call 113; refine (HA.out _).mono ?_; rintro e w' ⟨rfl, rfl⟩)
       | (go_at_call 39; refine (HS.out _ HT.out).mono ?_; rintro e w' ⟨rfl, hb⟩))
     go_ret
     exact ⟨rfl, hb⟩
   · have hx0 : fval x ≠ 0 := fun e => h ⟨0, by rw [e]; rfl, by omega, by omega⟩
     obtain ⟨f, ex, m, ff, lf, vf, hm, vx, hex1, hex2, hF⟩ := frexp_val x hx lx hx0
     obtain ⟨fm, lm, vm⟩ := fwJ_val (n := m) (by omega) (by omega)
     have hm0 : m ≠ 0 := by omega
     obtain ⟨n, k, ho, hO⟩ := odd_any m (ex - 53) hm0 ⟨by omega, by omega⟩ (by omega) (by omega)
     have hk := ho.2.2
     have hnb : -9007199254740992 < n ∧ n < 9007199254740992 := by
       have e1 := congrArg Int.natAbs ho.1
       rw [Int.natAbs_mul, Int.natAbs_natCast] at e1
       have e2 : n.natAbs * 1 ≤ n.natAbs * 2 ^ k := Nat.mul_le_mul_left _ (Nat.two_pow_pos k)
       omega
     obtain ⟨z, hz⟩ : ∃ z, fwJ m = z := ⟨_, rfl⟩
     rw [hz] at fm lm vm
     obtain ⟨ek, hek⟩ : ∃ ek : Int, ex - 53 + (k : Nat) = ek := ⟨_, rfl⟩
     rw [hek] at hO
     refine ⟨itoa n ++ 98 :: itoa ek, Or.inr ⟨hx, Or.inr ⟨h, n, ek, ho.2.1, hnb.1, hnb.2, by omega, by omega, ?_, rfl⟩⟩, fun w hT => ?_⟩
     · rw [vx, odd_val ho, hek]
     have HF : Hid (∀ w, Calls Tryz.prog 114 #[.float .f64 x] w fun e w' => e = .returned (.tuple #[.float .f64 f, .int .i64 ex]) ∧ w' = w) := hF
     have hz0 : fval z ≠ 0 := by
       rw [vm]
       exact fun e => hm0 (Rat.intCast_inj.1 (e.trans rfl))
     have HL : Hid (∀ w, Calls Tryz.prog 116 #[.float .f64 f, .int .i64 53] w fun e w' => e = .returned (.float .f64 z) ∧ w' = w) := fun w => Ldexp_val f z 53 w ff lf fm lm (by rw [vm, vf, Rat.mul_assoc, ← p2_add, show (-53 + 53 : Int) = 0 from rfl, p2_zero, Rat.mul_one]) hz0 (by omega) (by omega)
     have hcv := conv_run fm vm (by omega) (by omega)
     have HO : Hid (∀ w, Tab w → Calls Tryz.prog 115 #[.int .i64 m, .int .i64 (ex - 53)] w fun r w' => r = .returned (.tuple #[.int .i64 n, .int .i64 ek]) ∧ w' = w) := hO
     have HS1 : Hid (∀ w, T8 w → Calls Tryz.prog 39 #[.int .i64 n] w fun e w' => e = .returned (sv (itoa n)) ∧ Below w.heap.size w w') := fun w hT => show_any n ⟨by omega, by omega⟩ w hT
     have HS2 : Hid (∀ w, T8 w → Calls Tryz.prog 39 #[.int .i64 ek] w fun e w' => e = .returned (sv (itoa ek)) ∧ Below w.heap.size w w') := fun w hT => show_any ek ⟨by omega, by omega⟩ w hT
     have HT : Hid (T8 w) := hT
     rw [hte] at q1 HTr
     rw [hae] at q2 HA
     have hnw := fun hc => h (hw.2 hc)
     have hln : (itoa n).length ≤ 21 := itoa_length_le n (by omega) (by omega)
     have hle : (itoa ek).length ≤ 21 := itoa_length_le ek (by omega) (by omega)
     by_cases hM : M 1 (fval x)
     · rw [hte] at ht
       rw [decide_eq_true (ht.2 hM)] at q1
       rw [decide_eq_false (fun hc => hnw ⟨hM, hc⟩)] at q2
       clear hM hnw hT hO hF hz0 ho hz hek hnb hm0 fm lm vm ff lf vf hm vx hx0 h ht hw hte hae f1 f2 hx lx
       go_enter Tryz.func73, Tryz.ntmps73
       go_wp2_with (first
         | (go_at_call 108; refine (HN.out _).mono ?_; rintro e w' ⟨rfl, rfl⟩)
         | (go_at_call 109; refine (HI.out _).mono ?_; rintro e w' ⟨rfl, rfl⟩)
         | (go_at_call 112; refine (HTr.out _).mono ?_; rintro e w' ⟨rfl, rfl⟩)
         | (go_at_call 113; refine (HA.out _).mono ?_; rintro e w' ⟨rfl, rfl⟩)
         | (go_at_call 114; refine (HF.out _).mono ?_; rintro e w' ⟨rfl, rfl⟩)
         | (go_at_call 116; refine (HL.out _).mono ?_; rintro e w' ⟨rfl, rfl⟩)
         | (go_at_call 115; refine (HO.out _ HT.out.1).mono ?_; rintro e w' ⟨rfl, rfl⟩; refine Hid.out ?_))
       refine Lib.hid ?_
       go_wp2_with fail
       refine (HS1.out _ HT.out).mono ?_
       rintro e w1 ⟨rfl, hb1⟩
       have HB1 := Lib.hid hb1
       clear hb1
       go_wp2_with fail
       refine (HS2.out _ (HT.out.later HB1.out)).mono ?_
       rintro e w2 ⟨rfl, hb2⟩
       have HB2 := Lib.hid hb2
       clear hb2
       go_wp2
       go_ret
       exact ⟨ret_s (cat_b _ _), HB1.out.trans (HB2.out.mono HB1.out.size)⟩
     · rw [hte] at ht
       rw [decide_eq_false (fun hc => hM (ht.1 hc))] at q1
       clear q2 hM hnw hT hO hF hz0 ho hz hek hnb hm0 fm lm vm ff lf vf hm vx hx0 h ht hw hte hae f1 f2 hx lx
       go_enter Tryz.func73, Tryz.ntmps73
       go_wp2_with (first
         | (go_at_call 108; refine (HN.out _).mono ?_; rintro e w' ⟨rfl, rfl⟩)
         | (go_at_call 109; refine (HI.out _).mono ?_; rintro e w' ⟨rfl, rfl⟩)
         | (go_at_call 112; refine (HTr.out _).mono ?_; rintro e w' ⟨rfl, rfl⟩)
         | (go_at_call 113; refine (HA.out _).mono ?_; rintro e w' ⟨rfl, rfl⟩)
         | (go_at_call 114; refine (HF.out _).mono ?_; rintro e w' ⟨rfl, rfl⟩)
         | (go_at_call 116; refine (HL.out _).mono ?_; rintro e w' ⟨rfl, rfl⟩)
         | (go_at_call 115; refine (HO.out _ HT.out.1).mono ?_; rintro e w' ⟨rfl, rfl⟩; refine Hid.out ?_))
       refine Lib.hid ?_
       go_wp2_with fail
       refine (HS1.out _ HT.out).mono ?_
       rintro e w1 ⟨rfl, hb1⟩
       have HB1 := Lib.hid hb1
       clear hb1
       go_wp2_with fail
       refine (HS2.out _ (HT.out.later HB1.out)).mono ?_
       rintro e w2 ⟨rfl, hb2⟩
       have HB2 := Lib.hid hb2
       clear hb2
       go_wp2
       go_ret
       exact ⟨ret_s (cat_b _ _), HB1.out.trans (HB2.out.mono HB1.out.size)⟩
 · refine ⟨[], Or.inl ⟨hx, rfl⟩, fun w _ => ?_⟩
   have hx' : ¬ frung x < 9218868437227405312 := hx
   by_cases hn : 9218868437227405312 < frung x
   · rw [show isnan x = true by unfold isnan; exact decide_eq_true hn] at HN
     clear hn hx' hx lx
     go_enter Tryz.func73, Tryz.ntmps73
     go_wp2_with (first
       | (go_at_call 108; refine (HN.out _).mono ?_; rintro e w' ⟨rfl, rfl⟩)
       | (go_at_call 109; refine (HI.out _).mono ?_; rintro e w' ⟨rfl, rfl⟩))
     go_ret
     exact ⟨rfl, Below.refl _ _⟩
   · rw [show isnan x = false by unfold isnan; exact decide_eq_false hn] at HN
     rw [show isinf x = true by unfold isinf; rw [beq_iff_eq]; omega] at HI
     clear hn hx' hx lx
     go_enter Tryz.func73, Tryz.ntmps73
     go_wp2_with (first
       | (go_at_call 108; refine (HN.out _).mono ?_; rintro e w' ⟨rfl, rfl⟩)
       | (go_at_call 109; refine (HI.out _).mono ?_; rintro e w' ⟨rfl, rfl⟩))
     go_ret
     exact ⟨rfl, Below.refl _ _⟩
end

/- Package digits: what follows of the contracts, and the statements' helper awake. -/
section
set_option maxRecDepth 100000
open Go.RowKit Go.Shelf Go.Lib
theorem FloatR.ok {l : List UInt8} {x v : Nat} {er n e : Int} (h : FloatR l x er) (ht : rdTell l = some (n, e)) (fv : Fin64 v) (lv : v < 18446744073709551616) (hv : fval v = (n : Rat) * p2 e) (h0 : n = 0 → v = 0) : x = v ∧ er = 0 := by
 rcases h with ⟨h1, _⟩ | ⟨n', e', ok, h1, h2, h3⟩
 · rw [h1] at ht; cases ht
 rw [h1] at ht
 simp at ht
 obtain ⟨rfl, rfl⟩ := ht
 rcases h2 with ⟨rfl, fx, lx, vx, z⟩ | ⟨rfl, _, hn⟩
 · refine ⟨?_, h3⟩
   by_cases hz : n' = 0
   · rw [z hz, h0 hz]
   · refine fval_inj fx fv lx lv (by rw [vx, hv]) ?_
     rw [vx]
     intro e0
     have hp := p2_pos e'
     have hn0 : (n' : Rat) = 0 := by
       rcases Rat.mul_eq_zero.1 e0 with h | h
       · exact h
       · rw [h] at hp; exact absurd hp Rat.lt_irrefl
     exact hz (Rat.intCast_inj.1 (hn0.trans rfl))
 · exact absurd hv (hn v fv lv)
theorem FloatR.no {l : List UInt8} {x : Nat} {er n e : Int} (h : FloatR l x er) (ht : rdTell l = some (n, e)) (hn : ∀ y, Fin64 y → y < 18446744073709551616 → fval y ≠ (n : Rat) * p2 e) : x = 0 ∧ er = 10 := by
 rcases h with ⟨h1, _⟩ | ⟨n', e', ok, h1, h2, h3⟩
 · rw [h1] at ht; cases ht
 rw [h1] at ht
 simp at ht
 obtain ⟨rfl, rfl⟩ := ht
 rcases h2 with ⟨rfl, fx, lx, vx, z⟩ | ⟨rfl, hx, _⟩
 · exact absurd vx (hn x fx lx)
 · exact ⟨hx, h3⟩
theorem FloatR.form {l : List UInt8} {x : Nat} {er : Int} (h : FloatR l x er) (ht : rdTell l = none) : x = 0 ∧ er = 4 := by
 rcases h with ⟨_, h⟩ | ⟨n', e', ok, h1, _⟩
 · exact h
 · rw [h1] at ht; cases ht
theorem odd_uniq {n n' e e' : Int} (h1 : n % 2 = 1) (h2 : n' % 2 = 1) (h : (n : Rat) * p2 e = (n' : Rat) * p2 e') : n = n' ∧ e = e' := by
 have key : ∀ {n n' e e' : Int}, n % 2 = 1 → n' % 2 = 1 → (n : Rat) * p2 e = (n' : Rat) * p2 e' → e ≤ e' → n = n' ∧ e = e' := by
   intro n n' e e' h1 h2 h hle
   obtain ⟨k, hk⟩ : ∃ k : Nat, e' = (k : Int) + e := ⟨(e' - e).toNat, by omega⟩
   rw [hk, p2_add, ← Rat.mul_assoc, p2_nat] at h
   have h' : (n : Rat) * p2 e = ((n' * ((2 ^ k : Nat) : Int) : Int) : Rat) * p2 e := by rw [h, Rat.intCast_mul]; rfl
   have := int_eq (p2_pos e) h'
   cases k with
   | zero => exact ⟨by rw [this, Nat.pow_zero]; omega, by omega⟩
   | succ k =>
     exfalso
     rw [Nat.pow_succ, Int.natCast_mul, ← Int.mul_assoc] at this
     omega
 rcases Int.le_total e e' with hl | hl
 · exact key h1 h2 h hl
 · have := key h2 h1 h.symm hl
   exact ⟨this.1.symm, this.2.symm⟩
theorem TextR.whole {x : Nat} {l : List UInt8} (h : TextR x l) (hx : Fin64 x) {k : Int} (hk : fval x = (k : Rat)) (h1 : -9007199254740992 < k) (h2 : k < 9007199254740992) : l = itoa k := by
 rcases h with ⟨h, _⟩ | ⟨_, ⟨k', e, _, _, hl⟩ | ⟨h, _⟩⟩
 · exact absurd hx h
 · rw [hl, Rat.intCast_inj.1 (e.symm.trans hk)]
 · exact absurd ⟨k, hk, h1, h2⟩ h
theorem TextR.odd {x : Nat} {l : List UInt8} (h : TextR x l) (hx : Fin64 x) {n e : Int} (ho : n % 2 = 1) (hv : fval x = (n : Rat) * p2 e) (hn : ¬ ∃ k : Int, fval x = (k : Rat) ∧ -9007199254740992 < k ∧ k < 9007199254740992) : l = itoa n ++ 98 :: itoa e := by
 rcases h with ⟨h, _⟩ | ⟨_, ⟨k', e', g1, g2, _⟩ | ⟨_, n', e', ho', _, _, _, _, hv', hl⟩⟩
 · exact absurd hx h
 · exact absurd ⟨k', e', g1, g2⟩ hn
 · obtain ⟨rfl, rfl⟩ := odd_uniq ho ho' (hv.symm.trans hv')
   exact hl
theorem TextR.tell {x : Nat} {l : List UInt8} (h : TextR x l) (hx : Fin64 x) : ∃ n e, rdTell l = some (n, e) ∧ fval x = (n : Rat) * p2 e ∧ l.length ≤ 43 := by
 rcases h with ⟨h, _⟩ | ⟨_, ⟨k, e, h1, h2, rfl⟩ | ⟨_, n, e, _, h1, h2, h3, h4, hv, rfl⟩⟩
 · exact absurd hx h
 · have ht := tell_whole (n := k) ⟨by omega, by omega⟩
   exact ⟨k, 0, ht, by rw [e, p2_zero, Rat.mul_one], tell_length ht⟩
 · have ht := tell_both (n := n) (e := e) ⟨by omega, by omega⟩ ⟨by omega, by omega⟩
   exact ⟨n, e, ht, hv, tell_length ht⟩
theorem TextR.same {x y : Nat} {l r : List UInt8} (hl : TextR x l) (hr : TextR y r) (hx : Fin64 x) : l = r ↔ (Fin64 y ∧ fval x = fval y) := by
 constructor
 · rintro rfl
   obtain ⟨n, e, ht, hv, _⟩ := hl.tell hx
   by_cases hy : Fin64 y
   · obtain ⟨n', e', ht', hv', _⟩ := hr.tell hy
     rw [ht] at ht'
     simp at ht'
     obtain ⟨rfl, rfl⟩ := ht'
     exact ⟨hy, by rw [hv, hv']⟩
   · exfalso
     rcases hr with ⟨_, rfl⟩ | ⟨h, _⟩
     · rw [show rdTell [] = none by decide] at ht; cases ht
     · exact hy h
 · rintro ⟨hy, he⟩
   rcases hr with ⟨h, _⟩ | ⟨_, ⟨k, e, h1, h2, rfl⟩ | ⟨hn, n, e, ho, h1, h2, h3, h4, hv, rfl⟩⟩
   · exact absurd hy h
   · exact hl.whole hx (by rw [he, e]) h1 h2
   · exact hl.odd hx ho (by rw [he, hv]) (by rw [he]; exact hn)
end

/- Package nodefile: what is read and written: plain. -/
section
open Go.RowKit Go.Shelf Go.Lib
structure Pm where
 rf : Bs → Nat × Int
 pt : Nat → Nat → Bool
 tx : Nat → Bs
structure Pm.Ok (p : Pm) : Prop where
 rf : ∀ l, FloatR l (p.rf l).1 (p.rf l).2
 pt : ∀ x y, p.pt x y = true ↔ Pt x y
 tx : ∀ x, x < 18446744073709551616 → TextR x (p.tx x)
theorem floatR_ex (l : Bs) : ∃ q : Nat × Int, FloatR l q.1 q.2 := by
 by_cases h : l.length ≤ 900000
 · obtain ⟨x, er, h1, _⟩ := float_any ⟨l.toArray⟩ (by rw [Lib.size_eq]; simpa using h)
   exact ⟨(x, er), by simpa using h1⟩
 · refine ⟨(0, 4), Or.inl ⟨?_, rfl, rfl⟩⟩
   cases ht : rdTell l with
   | none => rfl
   | some p => have := tell_length ht; omega
theorem pm_ex : ∃ p : Pm, p.Ok := by
 obtain ⟨rf, h1⟩ := Classical.skolem.1 floatR_ex
 obtain ⟨tx, h3⟩ := Classical.skolem.1 (fun x : Nat => (by
   by_cases h : x < 18446744073709551616
   · obtain ⟨l, hl, _⟩ := text_any x h
     exact ⟨l, fun _ => hl⟩
   · exact ⟨[], fun e => absurd e h⟩ : ∃ l : Bs, x < 18446744073709551616 → TextR x l))
 have hd : ∀ q : Nat × Nat, ∃ b : Bool, b = true ↔ Pt q.1 q.2 := fun q => by
   by_cases h : Pt q.1 q.2
   · exact ⟨true, by simp [h]⟩
   · exact ⟨false, by simp [h]⟩
 obtain ⟨pt, h2⟩ := Classical.skolem.1 hd
 exact ⟨⟨rf, fun x y => pt (x, y), tx⟩, h1, fun x y => h2 (x, y), h3⟩
structure Nd where
 x : Nat
 y : Nat
 a : List Nat
 m : Int
def hdP (ws : List Bs) : Option (Nat × Nat × Bool) :=
 match ws with
 | [a, b, c, d] =>
   match rdInt a, rdInt b, rdInt c, rdInt d with
   | some n, some t, some k, some m => if 0 ≤ n ∧ t = 2 ∧ 0 ≤ k ∧ (m = 0 ∨ m = 1) then some (n.toNat, k.toNat, m == 1) else none
   | _, _, _, _ => none
 | _ => none
def hdE (ws : List Bs) : Nat := match hdP ws with
 | none => 4
 | some q => if q.1 ≤ 1048576 ∧ q.2.1 ≤ 16 then 0 else 3
def fst0 : List Int → Int
 | [] => 0
 | e :: r => if e = 0 then fst0 r else e
theorem fst0_app (a b : List Int) : fst0 (a ++ b) = if fst0 a = 0 then fst0 b else fst0 a := by
 induction a with
 | nil => simp [fst0]
 | cons e r ih =>
   rw [List.cons_append, fst0, fst0]
   by_cases h : e = 0
   · rw [if_pos h, if_pos h, ih]
   · rw [if_neg h, if_neg h, if_neg h]
def wid (k : Nat) (m : Bool) : Nat := if m then 3 + k + 1 else 3 + k
def mayN (i : Nat) (z : Bool) (n : Int) : Bool := if i = 0 then n == 0 || n == 1 else n == (if z then (i : Int) else (i : Int) + 1)
def zN (i : Nat) (z : Bool) (w : Bs) : Bool := if i = 0 then rdInt w == some 0 else z
def intE (may : Int → Bool) (w : Bs) : Int := match rdInt w with
 | none => 4
 | some n => if may n then 0 else 4
def ndE (p : Pm) (k : Nat) (m : Bool) (may : Int → Bool) (ws : List Bs) : Int :=
 fst0 ([if ws.length = wid k m then 0 else 4, intE may (ws.getD 0 []), (p.rf (ws.getD 1 [])).2, (p.rf (ws.getD 2 [])).2, if p.pt (p.rf (ws.getD 1 [])).1 (p.rf (ws.getD 2 [])).1 then 0 else 10] ++ (((ws.drop 3).take k).map fun w => (p.rf w).2) ++ (if m then [intE (fun _ => true) (ws.getD (3 + k) [])] else []))
def ndV (p : Pm) (k : Nat) (m : Bool) (ws : List Bs) : Nd :=
 ⟨(p.rf (ws.getD 1 [])).1, (p.rf (ws.getD 2 [])).1, ((ws.drop 3).take k).map fun w => (p.rf w).1, if m then (rdInt (ws.getD (3 + k) [])).getD 0 else 0⟩
def goN (p : Pm) (k : Nat) (m : Bool) : Nat → Bool → List (Nat × List Bs) → Sum (Nat × Int) (List Nd × Bool)
 | _, z, [] => .inr ([], z)
 | i, z, (no, ws) :: r =>
   if ndE p k m (mayN i z) ws = 0 then
     match goN p k m (i + 1) (zN i z (ws.getD 0 [])) r with
     | .inl e => .inl e
     | .inr (ns, z') => .inr (ndV p k m ws :: ns, z')
   else .inl (no, ndE p k m (mayN i z) ws)
theorem goN_snoc (p : Pm) (k : Nat) (m : Bool) : ∀ (L : List (Nat × List Bs)) (i : Nat) (z : Bool) (q : Nat × List Bs), goN p k m i z (L ++ [q]) =
   match goN p k m i z L with
   | .inl e => .inl e
   | .inr (ns, z') => if ndE p k m (mayN (i + L.length) z') q.2 = 0 then .inr (ns ++ [ndV p k m q.2], zN (i + L.length) z' (q.2.getD 0 [])) else .inl (q.1, ndE p k m (mayN (i + L.length) z') q.2) := by
 intro L
 induction L with
 | nil =>
   intro i z q
   obtain ⟨no, ws⟩ := q
   simp only [List.nil_append, goN, List.length_nil, Nat.add_zero]
 | cons a r ih =>
   intro i z q
   obtain ⟨no, ws⟩ := a
   simp only [List.cons_append, goN]
   by_cases h : ndE p k m (mayN i z) ws = 0
   · rw [if_pos h, if_pos h, ih, List.length_cons, show i + 1 + r.length = i + (r.length + 1) by omega]
     cases goN p k m (i + 1) (zN i z (ws.getD 0 [])) r with
     | inl e => rfl
     | inr x =>
       obtain ⟨ns, z'⟩ := x
       simp only []
       by_cases h2 : ndE p k m (mayN (i + (r.length + 1)) z') q.2 = 0
       · rw [if_pos h2, if_pos h2]; rfl
       · rw [if_neg h2, if_neg h2]
   · rw [if_neg h, if_neg h]
theorem goN_bad {p : Pm} {k : Nat} {m : Bool} : ∀ {L : List (Nat × List Bs)} {i : Nat} {z : Bool} {e : Nat × Int} (R : List (Nat × List Bs)), goN p k m i z L = .inl e → goN p k m i z (L ++ R) = .inl e := by
 intro L
 induction L with
 | nil => intro i z e R h; cases h
 | cons a r ih =>
   intro i z e R h
   obtain ⟨no, ws⟩ := a
   simp only [List.cons_append, goN] at h ⊢
   by_cases h0 : ndE p k m (mayN i z) ws = 0
   · rw [if_pos h0] at h ⊢
     cases hg : goN p k m (i + 1) (zN i z (ws.getD 0 [])) r with
     | inl x =>
       rw [hg] at h
       rw [ih R hg]
       exact h
     | inr x => rw [hg] at h; obtain ⟨ns, z'⟩ := x; cases h
   · rw [if_neg h0] at h ⊢; exact h
structure Fd where
 ns : List Nd
 z : Bool
 k : Int
 m : Bool
def tkV (p : Pm) (L : List (Nat × List Bs)) : Fd × Nat × Nat × Int :=
 match L with
 | [] => (⟨[], false, 0, false⟩, 0, 1, 4)
 | (no, ws) :: r =>
   if hdE ws = 0 then
     match hdP ws with
     | none => (⟨[], false, 0, false⟩, 0, no, 4)
     | some (c, k, m) =>
       match goN p k m 0 false (r.take c) with
       | .inl e => (⟨[], false, 0, false⟩, 0, e.1, e.2)
       | .inr (ns, z) => if r.length < c then (⟨[], false, 0, false⟩, 0, ((no, ws) :: r).getLast!.1 + 1, 4) else (⟨ns, z, k, m⟩, 1 + ns.length, 0, 0)
   else (⟨[], false, 0, false⟩, 0, no, hdE ws)
def rfV (p : Pm) (t : Bs) : Fd × Nat × Int :=
 if (rdV t).2.2 = 0 then
   let L := (rdV t).1
   let q := tkV p L
   if q.2.2.2 = 0 then (if q.2.1 < L.length then (⟨[], false, 0, false⟩, (L.getD q.2.1 (0, [])).1, 4) else (q.1, 0, 0)) else (⟨[], false, 0, false⟩, q.2.2.1, q.2.2.2)
 else (⟨[], false, 0, false⟩, (rdV t).2.1, (rdV t).2.2)
end

/- Package nodefile: a line's words are taken one by one. -/
section
open Go.RowKit Go.Shelf Go.Lib
attribute [local go_sem] run_store_str
theorem run_store_iface (P : Program) (w : World) (a : Addr) (m : Mode) (t : TypeId) (v : Value) : (store a (.iface t v) m).run P w = stored P w a (.iface t v) m := run_store P w a _ m rfl
abbrev erI (e : Int) : Value := .iface 26 (.int .i64 e)
def erV (e : Int) : Value := if e = 0 then .nilIface else erI e
theorem erV_no {e : Int} (h : e ≠ 0) : erV e = erI e := if_neg h
theorem hold_ok (B : Nat) (l : Value) (why : Int) (w : World) (h : CB w B #[l, .nilIface] 150) :
   Calls Tryz.prog 88 #[.pointer (some ⟨B, 0, none⟩), .bool true, .int .i64 why] w fun e w' => e = .returned (.tuple #[]) ∧ w' = w := by
 have c1 : w.cell? ⟨B, 1, none⟩ = some .nilIface := h.cell 1 (by simp)
 clear h
 go_enter Tryz.func88, Tryz.ntmps88
 go_wp2
 refine bodyPost_end (results_none rfl _ _ _) rfl ?_
 exact ⟨rfl, rfl⟩
theorem hold_was (B : Nat) (l : Value) (e0 why : Int) (right : Bool) (w : World) (h : CB w B #[l, erI e0] 150) :
   Calls Tryz.prog 88 #[.pointer (some ⟨B, 0, none⟩), .bool right, .int .i64 why] w fun e w' => e = .returned (.tuple #[]) ∧ w' = w := by
 have c1 : w.cell? ⟨B, 1, none⟩ = some (erI e0) := h.cell 1 (by simp)
 clear h
 go_enter Tryz.func88, Tryz.ntmps88
 go_wp2
 refine bodyPost_end (results_none rfl _ _ _) rfl ?_
 exact ⟨rfl, rfl⟩
theorem hold_set (B : Nat) (l : Value) (why : Int) (w : World) (h : CB w B #[l, .nilIface] 150) :
   Calls Tryz.prog 88 #[.pointer (some ⟨B, 0, none⟩), .bool false, .int .i64 why] w fun e w' => e = .returned (.tuple #[]) ∧ w' = w.setCell ⟨B, 1, none⟩ (erI why) := by
 have c1 : w.cell? ⟨B, 1, none⟩ = some .nilIface := h.cell 1 (by simp)
 have f1 : w.frozen? ⟨B, 1, none⟩ = false := h.frozen 1
 have hst := fun (v : Value) m => run_store_iface Tryz.prog w ⟨B, 1, none⟩ m 26 v
 clear h
 go_enter Tryz.func88, Tryz.ntmps88
 go_wp2
 refine bodyPost_end (results_none rfl _ _ _) rfl ?_
 exact ⟨rfl, rfl⟩
theorem word_was (B : Nat) (l : Value) (e0 : Int) (w : World) (h : CB w B #[l, erI e0] 150) :
   Calls Tryz.prog 123 #[.pointer (some ⟨B, 0, none⟩)] w fun e w' => e = .returned (.string ⟨#[]⟩) ∧ w' = w := by
 have c1 : w.cell? ⟨B, 1, none⟩ = some (erI e0) := h.cell 1 (by simp)
 clear h
 go_enter Tryz.func123, Tryz.ntmps123
 go_wp2
 go_ret
 exact ⟨rfl, rfl⟩
theorem Sl.tail {W : World} {g off c : Nat} {x : Bs} {r : List Bs} (h : Sl W (.slice (some ⟨g, off, none⟩) (r.length + 1) c) (x :: r)) : Sl W (.slice (some (if c = 1 then ⟨g, off, none⟩ else ⟨g, off + 1, none⟩)) r.length (c - 1)) r := by
 obtain ⟨⟨a, c', e, h2, h3, h4⟩, h5⟩ := h
 cases e
 rcases h4 with h4 | ⟨g', o', e, hg, hc⟩
 · cases h4
 cases e
 simp only [List.length_cons] at h2
 refine ⟨⟨_, _, rfl, by omega, by omega, ?_⟩, fun y hy => h5 y (by simp [hy])⟩
 by_cases hr : r = []
 · exact Or.inl hr
 · refine Or.inr ⟨g, off + 1, ?_, hg, fun k y hk => ?_⟩
   · have : 0 < r.length := List.length_pos_iff.2 hr
     rw [if_neg (by omega)]
   · have := hc (k + 1) y (by simpa using hk)
     rwa [show off + (k + 1) = off + 1 + k by omega] at this
def Bk (N : Nat) (l : Value) : Prop := ∀ b, l.ownBlock = some b → b < N
theorem Sl.below {W W' : World} {N : Nat} {v : Value} {ws : List Bs} (h : Sl W v ws) (hk : Bk N v) (hb : Below N W W') : Sl W' v ws := by
 obtain ⟨⟨a, c, h1, h2, h3, h4⟩, h5⟩ := h
 refine ⟨⟨a, c, h1, h2, h3, ?_⟩, h5⟩
 rcases h4 with h4 | ⟨g, off, h6, h7, h8⟩
 · exact Or.inl h4
 · have hg : g < N := hk g (by rw [h1, h6]; rfl)
   exact Or.inr ⟨g, off, h6, Nat.lt_of_lt_of_le h7 hb.size, fun k x hx => cell_later hb hg (h8 k x hx)⟩
theorem Sl.set {W : World} {v : Value} {ws : List Bs} {p : Addr} {u : Value} (h : Sl W v ws) (hp : W.cell? p = some u) (hu : ∀ s, u ≠ .string s) (y : Value) : Sl (W.setCell p y) v ws := by
 obtain ⟨⟨a, c, h1, h2, h3, h4⟩, h5⟩ := h
 refine ⟨⟨a, c, h1, h2, h3, ?_⟩, h5⟩
 rcases h4 with h4 | ⟨g, off, h6, h7, h8⟩
 · exact Or.inl h4
 · refine Or.inr ⟨g, off, h6, by simpa [World.setCell] using h7, fun k x hk => ?_⟩
   have hc := h8 k x hk
   rw [World.cell?_setCell_other]
   · exact hc
   · intro e
     rw [← e] at hc
     rw [hc] at hp
     exact hu _ (Option.some.inj hp).symm
set_option maxHeartbeats 1000000 in
theorem word_take (B : Nat) (l : Value) (x : Bs) (r : List Bs) (w : World) (h : CB w B #[l, .nilIface] 150) (hS : Sl w l (x :: r)) :
   ∃ l', Sl (w.setCell ⟨B, 0, none⟩ l') l' r ∧ l'.ownBlock = l.ownBlock ∧ (∃ a c, l' = .slice a r.length c) ∧ Calls Tryz.prog 123 #[.pointer (some ⟨B, 0, none⟩)] w fun e w' => e = .returned (sv x) ∧ w' = w.setCell ⟨B, 0, none⟩ l' := by
 obtain ⟨a, c, rfl, h2, h3, h4⟩ := hS.form
 obtain ⟨g, off, rfl, hg, hc⟩ := h4.resolve_left (by simp)
 simp only [List.length_cons] at h2
 rw [List.length_cons] at hS
 have hT := hS.tail
 have c1 : w.cell? ⟨B, 1, none⟩ = some .nilIface := h.cell 1 (by simp)
 have c0 : w.cell? ⟨B, 0, none⟩ = some (.slice (some ⟨g, off, none⟩) (r.length + 1) c) := h.cell 0 (by simp)
 have f0 : w.frozen? ⟨B, 0, none⟩ = false := h.frozen 0
 have cx : w.cell? ⟨g, off, none⟩ = some (sv x) := hc 0 x rfl
 obtain ⟨ad, had⟩ : ∃ ad : Addr, (if c = 1 then (⟨g, off, none⟩ : Addr) else ⟨g, off + 1, none⟩) = ad := ⟨_, rfl⟩
 rw [had] at hT
 refine ⟨.slice (some ad) r.length (c - 1), hT.set c0 (by simp) _, by rw [← had]; split <;> rfl, ⟨_, _, rfl⟩, ?_⟩
 have l1 : (r.length : Int) + 1 ≤ c := by omega
 have l2 : (c : Int) ≤ 9223372036854775807 := by omega
 obtain ⟨n, hn⟩ : ∃ n, r.length = n := ⟨_, rfl⟩
 rw [hn] at c0 l1 h2 ⊢
 clear hS hT h hc h4 hn
 go_enter Tryz.func123, Tryz.ntmps123
 go_wp2
 all_goals
   go_ret
   refine ⟨rfl, ?_⟩
   rw [← had]
   simp_all
end

/- Package orient: Fast. -/
section
open Go.RowKit Go.Shelf
attribute [local go_sem ↓] Go.wp_at_zero Go.wp_at_succ
attribute [local go_sem] run_store_float
abbrev pv (x y : Nat) : Value := .agg #[.float .f64 x, .float .f64 y]
def P3 (ax ay bx by' cx cy : Nat) : Prop := Pt ax ay ∧ Pt bx by' ∧ Pt cx cy
def W6 (ax ay bx by' cx cy : Nat) : Prop := (ax < 18446744073709551616 ∧ ay < 18446744073709551616) ∧ (bx < 18446744073709551616 ∧ by' < 18446744073709551616) ∧ cx < 18446744073709551616 ∧ cy < 18446744073709551616
structure B3 (w W : World) (ax ay bx by' cx cy : Nat) : Prop where
 a0 : W.cell? ⟨w.heap.size, 0, none⟩ = some (.float .f64 ax)
 a1 : W.cell? ⟨w.heap.size, 1, none⟩ = some (.float .f64 ay)
 b0 : W.cell? ⟨w.heap.size + 1, 0, none⟩ = some (.float .f64 bx)
 b1 : W.cell? ⟨w.heap.size + 1, 1, none⟩ = some (.float .f64 by')
 c0 : W.cell? ⟨w.heap.size + 1 + 1, 0, none⟩ = some (.float .f64 cx)
 c1 : W.cell? ⟨w.heap.size + 1 + 1, 1, none⟩ = some (.float .f64 cy)
 bel : Below w.heap.size w W
theorem B3.later {w W W' : World} {ax ay bx by' cx cy : Nat} (h : B3 w W ax ay bx by' cx cy) (hb : Below W.heap.size W W') : B3 w W' ax ay bx by' cx cy :=
 ⟨box_cell hb h.a0, box_cell hb h.a1, box_cell hb h.b0, box_cell hb h.b1, box_cell hb h.c0, box_cell hb h.c1, below_step h.bel hb⟩
theorem B3.start (w : World) (ax ay bx by' cx cy : Nat) : B3 w (((w.alloc (.cells #[.float .f64 ax, .float .f64 ay] 59)).alloc (.cells #[.float .f64 bx, .float .f64 by'] 59)).alloc (.cells #[.float .f64 cx, .float .f64 cy] 59)) ax ay bx by' cx cy :=
 ⟨by go_simp, by go_simp, by go_simp, by go_simp, by go_simp, by go_simp, (((Below.refl _ w).alloc (Nat.le_refl _) _).alloc (by simp) _).alloc (by simp; omega) _⟩
end

/- Which points may be: admit.May. -/
section
open Go.RowKit Go.Shelf
attribute [local go_sem ↓] Go.wp_at_zero Go.wp_at_succ
attribute [local go_sem] run_store_float
def WdP (p : Nat × Nat) : Prop := p.1 < 18446744073709551616 ∧ p.2 < 18446744073709551616
theorem has1 (ax ay : Nat) (w : World) (hw : WdP (ax, ay)) :
   Calls Tryz.prog 125 #[.slice (some ⟨w.heap.size, 0, none⟩) 1 1] (w.alloc (.cells #[.float .f64 ax, .float .f64 ay] 59)) fun e w' => (∃ t, e = .returned (.bool t) ∧ (t = true ↔ Pt ax ay)) ∧ Below w.heap.size w w' := by
 have hb : Below w.heap.size w (w.alloc (.cells #[.float .f64 ax, .float .f64 ay] 59)) := (Below.refl _ w).alloc (Nat.le_refl _) _
 refine (has_walk w.heap.size 1 1 (fun _ => ax) (fun _ => ay) _ (fun k hk => ?_) (fun k => hw) (by omega)).mono ?_
 · obtain rfl : k = 0 := by omega
   exact ⟨by go_simp, by go_simp⟩
 · rintro e w' ⟨⟨t, rfl, ht⟩, hb'⟩
   refine ⟨⟨t, rfl, ?_⟩, below_step hb hb'⟩
   rw [ht]
   exact ⟨fun h => h 0 (by omega), fun h j hj => h⟩
set_option maxRecDepth 100000 in
theorem may1_any (x y : Nat) (w : World) (hw : WdP (x, y)) : Calls Tryz.prog 90 #[pv x y] w fun e w' => (∃ t, e = .returned (.bool t) ∧ (t = true ↔ Pt x y)) ∧ Below w.heap.size w w' := by
 have HW : Hid (WdP (x, y)) := hw
 clear hw
 go_enter Tryz.func90, Tryz.ntmps90
 go_wp2_with fail
 have hb : Below w.heap.size w (w.alloc (.cells #[.float .f64 x, .float .f64 y] 59)) := (Below.refl _ w).alloc (Nat.le_refl _) _
 have hh := has1 x y (w.alloc (.cells #[.float .f64 x, .float .f64 y] 59)) HW.out
 have e1 : (w.alloc (.cells #[.float .f64 x, .float .f64 y] 59)).heap.size = w.heap.size + 1 := by simp
 rw [e1] at hh
 refine hh.mono ?_
 rintro e w' ⟨⟨t, rfl, ht⟩, hb'⟩
 have HT : Hid (t = true ↔ Pt x y) := ht
 have HB : Hid (Below w.heap.size w w') := hb.trans (hb'.mono (by simp))
 clear ht hb hb' hh e1
 go_wp2
 go_ret
 exact ⟨⟨t, rfl, HT.out⟩, HB.out⟩
end

/- Package nodefile: the steps of a row. -/
section
set_option maxRecDepth 100000
open Go.RowKit Go.Shelf Go.Lib
structure Ob (B : Nat) (w w' : World) : Prop where
 os : w'.os = w.os
 tape : w'.tape = w.tape
 output : w'.output = w.output
 size : w.heap.size ≤ w'.heap.size
 block : ∀ k, k < w.heap.size → k ≠ B → w'.heap[k]? = w.heap[k]?
theorem Ob.refl (B : Nat) (w : World) : Ob B w w := ⟨rfl, rfl, rfl, Nat.le_refl _, fun _ _ _ => rfl⟩
theorem Ob.trans {B : Nat} {a b c : World} (h : Ob B a b) (k : Ob B b c) : Ob B a c := ⟨k.os.trans h.os, k.tape.trans h.tape, k.output.trans h.output, Nat.le_trans h.size k.size, fun i hi hn => (k.block i (Nat.lt_of_lt_of_le hi h.size) hn).trans (h.block i hi hn)⟩
theorem Ob.of_below {B : Nat} {w w' : World} (h : Below w.heap.size w w') : Ob B w w' := ⟨h.os, h.tape, h.output, h.size, fun k hk _ => h.block k hk⟩
theorem Ob.set (B i : Nat) (w : World) (v : Value) : Ob B w (w.setCell ⟨B, i, none⟩ v) := ⟨rfl, rfl, rfl, by simp [World.setCell], fun k _ hn => Below.heap_setCell w ⟨B, i, none⟩ v k hn⟩
theorem Ob.below {B N : Nat} {w w' : World} (h : Ob B w w') (h1 : N ≤ B) (h2 : N ≤ w.heap.size) : Below N w w' := ⟨h.os, h.tape, h.output, h.size, fun k hk => h.block k (by omega) (by omega)⟩
theorem Ob.cb {B b t : Nat} {cs : Array Value} {w w' : World} (h : Ob B w w') (hc : CB w b cs t) (hn : b ≠ B) : CB w' b cs t := by
 unfold CB
 rw [h.block b hc.lt hn]; exact hc
theorem Ob.cell {B g i : Nat} {w w' : World} {v : Value} (h : Ob B w w') (hc : w.cell? ⟨g, i, none⟩ = some v) (hn : g ≠ B) : w'.cell? ⟨g, i, none⟩ = some v := by
 have hl : g < w.heap.size := by
   rcases Nat.lt_or_ge g w.heap.size with h0 | h0
   · exact h0
   · simp [World.cell?, Array.getElem?_eq_none h0] at hc
 rw [← hc]
 exact World.cell?_of_block (w := w) (h.block g hl hn)
def nx (e f : Int) : Int := if e = 0 then f else e
theorem fst0_snoc (l : List Int) (f : Int) : fst0 (l ++ [f]) = nx (fst0 l) f := by
 rw [fst0_app]
 unfold nx
 split <;> simp [fst0]
 intro h; exact h.symm
def Rs (N : Nat) (W : World) (B : Nat) (ws : List Bs) (e : Int) : Prop := ∃ l, CB W B #[l, erV e] 150 ∧ (e = 0 → Sl W l ws ∧ Bk N l)
theorem hold_step {N : Nat} (B : Nat) (ws : List Bs) (e why : Int) (right : Bool) (w : World) (h : Rs N w B ws e) (hw : why ≠ 0 ∨ right = true) :
   Calls Tryz.prog 88 #[.pointer (some ⟨B, 0, none⟩), .bool right, .int .i64 why] w fun r w' => r = .returned (.tuple #[]) ∧ Rs N w' B ws (nx e (if right then 0 else why)) ∧ Ob B w w' := by
 obtain ⟨l, h1, h2⟩ := h
 by_cases he : e = 0
 · subst he
   cases right
   · have hw' : why ≠ 0 := by simpa using hw
     refine (hold_set B l why w h1).mono ?_
     rintro r w' ⟨rfl, rfl⟩
     refine ⟨rfl, ⟨l, ?_, fun e0 => ?_⟩, Ob.set _ _ _ _⟩
     · have := h1.set 1 (erI why)
       simpa [nx, erV_no hw'] using this
     · exact absurd e0 (by simpa [nx] using hw')
   · refine (hold_ok B l why w h1).mono ?_
     rintro r w' ⟨rfl, rfl⟩
     exact ⟨rfl, ⟨l, by simpa [nx] using h1, fun _ => h2 rfl⟩, Ob.refl _ _⟩
 · rw [erV_no he] at h1
   refine (hold_was B l e why right w h1).mono ?_
   rintro r w' ⟨rfl, rfl⟩
   refine ⟨rfl, ⟨l, by simpa [nx, he, erV_no he] using h1, fun e0 => absurd e0 (by simp [nx, he])⟩, Ob.refl _ _⟩
theorem Sl.ob {W W' : World} {B : Nat} {v l : Value} {ws : List Bs} {ev : Value} (h : Sl W v ws) (ho : Ob B W W') (hc : CB W B #[l, ev] 150) (hl : ∀ s, l ≠ .string s) (he : ∀ s, ev ≠ .string s) : Sl W' v ws := by
 obtain ⟨⟨a, c, h1, h2, h3, h4⟩, h5⟩ := h
 refine ⟨⟨a, c, h1, h2, h3, ?_⟩, h5⟩
 rcases h4 with h4 | ⟨g, off, h6, h7, h8⟩
 · exact Or.inl h4
 · refine Or.inr ⟨g, off, h6, Nat.lt_of_lt_of_le h7 ho.size, fun k x hk => ?_⟩
   have h9 := h8 k x hk
   refine ho.cell h9 (fun e => ?_)
   subst e
   unfold CB at hc
   simp only [World.cell?, hc] at h9
   have h10 : #[l, ev][off + k]? = some (sv x) := by simpa using h9
   rcases Nat.lt_or_ge (off + k) 2 with hlt | hge
   · have : off + k = 0 ∨ off + k = 1 := by omega
     rcases this with e | e <;> rw [e] at h10 <;> simp at h10
     · exact hl _ h10
     · exact he _ h10
   · rw [Array.getElem?_eq_none (by simpa using hge)] at h10
     cases h10
theorem int_nil (w : World) : Calls Tryz.prog 122 #[.string ⟨#[]⟩] w fun e w' => e = .returned (.tuple #[.int .i64 0, .int .i64 4]) ∧ w' = w := int_any ⟨#[]⟩ w (by decide)
theorem whole_was (B : Nat) (l : Value) (e0 : Int) (fv : Value) (w : World) (h : CB w B #[l, erI e0] 150) :
   Calls Tryz.prog 84 #[.pointer (some ⟨B, 0, none⟩), fv] w fun e w' => e = .returned (.int .i64 0) ∧ w' = w := by
 have HH := Lib.hid h
 clear h
 go_enter Tryz.func84, Tryz.ntmps84
 go_wp2_with (first
   | (go_at_call 123; refine (word_was B l e0 _ HH.out).mono ?_; rintro e w' ⟨rfl, rfl⟩)
   | (go_at_call 122; refine (int_nil _).mono ?_; rintro e w' ⟨rfl, rfl⟩)
   | (go_at_call 88; refine (hold_was B l e0 4 false _ HH.out).mono ?_; rintro e w' ⟨rfl, rfl⟩))
 go_ret
 exact ⟨rfl, rfl⟩
theorem int_x (x : Bs) (n er : Int) (w : World) (hx : x.length ≤ 1000000) (h : (er = 0 ∧ rdInt x = some n) ∨ (er = 4 ∧ n = 0 ∧ rdInt x = none)) : Calls Tryz.prog 122 #[sv x] w fun e w' => e = .returned (.tuple #[.int .i64 n, .int .i64 er]) ∧ w' = w := by
 have := int_any ⟨x.toArray⟩ w (by rw [Lib.size_eq]; simpa using hx)
 simp only [] at this
 rcases h with ⟨rfl, h⟩ | ⟨rfl, rfl, h⟩
 · rw [h] at this; exact this
 · rw [h] at this; exact this
theorem whole_none (B : Nat) (l : Value) (x : Bs) (r : List Bs) (fv : Value) (w : World) (h : CB w B #[l, .nilIface] 150) (hS : Sl w l (x :: r)) (hx : x.length ≤ 1000000) (hn : rdInt x = none) :
   ∃ l', Sl (w.setCell ⟨B, 0, none⟩ l') l' r ∧ l'.ownBlock = l.ownBlock ∧ Calls Tryz.prog 84 #[.pointer (some ⟨B, 0, none⟩), fv] w fun e w' => e = .returned (.int .i64 0) ∧ w' = (w.setCell ⟨B, 0, none⟩ l').setCell ⟨B, 1, none⟩ (erI 4) := by
 obtain ⟨l', h1, gB, _, h2⟩ := word_take B l x r w h hS
 refine ⟨l', h1, gB, ?_⟩
 have H2 := Lib.hid h2
 have HI := Lib.hid (fun w => int_x x 0 4 w hx (Or.inr ⟨rfl, rfl, hn⟩))
 have HH : Hid (CB (w.setCell ⟨B, 0, none⟩ l') B #[l', .nilIface] 150) := Lib.hid (by have := h.set 0 l'; simpa using this)
 clear h2 h1 hS h hx hn gB
 go_enter Tryz.func84, Tryz.ntmps84
 go_wp2_with (first
   | (go_at_call 123; refine H2.out.mono ?_; rintro e w' ⟨rfl, rfl⟩)
   | (go_at_call 122; refine (HI.out _).mono ?_; rintro e w' ⟨rfl, rfl⟩)
   | (go_at_call 88; refine (hold_set B l' 4 _ HH.out).mono ?_; rintro e w' ⟨rfl, rfl⟩))
 go_ret
 exact ⟨rfl, rfl⟩
theorem fromNought_is (n : Int) (w : World) : Calls Tryz.prog 85 #[.int .i64 n] w fun e w' => e = .returned (.bool (decide (0 ≤ n))) ∧ w' = w := by
 by_cases h : 0 ≤ n
 · rw [decide_eq_true h]
   go_enter Tryz.func85, Tryz.ntmps85
   go_wp2
   go_ret
   exact ⟨rfl, rfl⟩
 · rw [decide_eq_false h]
   have h' : n < 0 := by omega
   go_enter Tryz.func85, Tryz.ntmps85
   go_wp2
   go_ret
   exact ⟨rfl, rfl⟩
theorem whole_fromNought {N : Nat} (B : Nat) (ws : List Bs) (e : Int) (w : World) (h : Rs N w B ws e) (hw : e = 0 → ∃ x r, ws = x :: r ∧ x.length ≤ 1000000) :
   Calls Tryz.prog 84 #[.pointer (some ⟨B, 0, none⟩), .func (.func 85) #[] #[]] w fun v w' => ∃ k, v = .returned (.int .i64 k) ∧ Rs N w' B ws.tail (nx e (intE (fun n => decide (0 ≤ n)) (ws.getD 0 []))) ∧ Ob B w w' ∧ (e = 0 → k = (rdInt (ws.getD 0 [])).getD 0) := by
 obtain ⟨l, h1, h2⟩ := h
 by_cases he : e = 0
 · subst he
   obtain ⟨x, r, rfl, hx⟩ := hw rfl
   have h1' : CB w B #[l, .nilIface] 150 := h1
   cases hn : rdInt x with
   | none =>
     obtain ⟨l', g1, gB, g2⟩ := whole_none B l x r (.func (.func 85) #[] #[]) w h1' (h2 rfl).1 hx hn
     refine g2.mono ?_
     rintro v w' ⟨rfl, rfl⟩
     refine ⟨0, rfl, ⟨l', ?_, fun e0 => ?_⟩, (Ob.set _ _ _ _).trans (Ob.set _ _ _ _), fun _ => by simp [hn]⟩
     · have := (h1.set 0 l').set 1 (erI 4)
       simpa [nx, intE, hn, erV] using this
     · simp [nx, intE, hn] at e0
   | some n =>
     obtain ⟨l', g1, gB, _, g2⟩ := word_take B l x r w h1' (h2 rfl).1
     have HK : Hid (Bk N l') := Lib.hid (fun b hb => (h2 rfl).2 b (gB ▸ hb))
     have G2 := Lib.hid g2
     have HI := Lib.hid (fun w => int_x x n 0 w hx (Or.inl ⟨rfl, hn⟩))
     have HH : Hid (CB (w.setCell ⟨B, 0, none⟩ l') B #[l', .nilIface] 150) := Lib.hid (by have := h1'.set 0 l'; simpa using this)
     obtain ⟨m, hm⟩ : ∃ m : Bool, (decide (0 ≤ n)) = m := ⟨_, rfl⟩
     have HF : Hid (∀ w, Calls Tryz.prog 85 #[.int .i64 n] w fun e w' => e = .returned (.bool m) ∧ w' = w) := fun w => by rw [← hm]; exact fromNought_is n w
     have HE : Hid (intE (fun n => decide (0 ≤ n)) x = if m then 0 else 4) := (by unfold intE; rw [hn, ← hm] : intE (fun n => decide (0 ≤ n)) x = if m then 0 else 4)
     have HN : Hid (n = (rdInt x).getD 0) := (by rw [hn]; rfl : n = (rdInt x).getD 0)
     have HS := Lib.hid g1
     clear g1 g2 gB hm hn hx h1 h1' h2 hw
     cases m
     · go_enter Tryz.func84, Tryz.ntmps84
       go_wp2_with (first
         | (go_at_call 123; refine G2.out.mono ?_; rintro e w' ⟨rfl, rfl⟩)
         | (go_at_call 122; refine (HI.out _).mono ?_; rintro e w' ⟨rfl, rfl⟩)
         | (go_at_call 85; refine (HF.out _).mono ?_; rintro e w' ⟨rfl, rfl⟩)
         | (go_at_call 88; refine (hold_set B l' 4 _ HH.out).mono ?_; rintro e w' ⟨rfl, rfl⟩))
       go_ret
       refine ⟨n, rfl, ⟨l', ?_, fun e0 => ?_⟩, (Ob.set _ _ _ _).trans (Ob.set _ _ _ _), fun _ => HN.out⟩
       · have := HH.out.set 1 (erI 4)
         simpa [nx, HE.out, erV] using this
       · simp [nx, HE.out] at e0
     · go_enter Tryz.func84, Tryz.ntmps84
       go_wp2_with (first
         | (go_at_call 123; refine G2.out.mono ?_; rintro e w' ⟨rfl, rfl⟩)
         | (go_at_call 122; refine (HI.out _).mono ?_; rintro e w' ⟨rfl, rfl⟩)
         | (go_at_call 85; refine (HF.out _).mono ?_; rintro e w' ⟨rfl, rfl⟩)
         | (go_at_call 88; refine (hold_ok B l' 4 _ HH.out).mono ?_; rintro e w' ⟨rfl, rfl⟩))
       go_ret
       refine ⟨n, rfl, ⟨l', ?_, fun e0 => ⟨HS.out, HK.out⟩⟩, Ob.set _ _ _ _, fun _ => HN.out⟩
       simpa [nx, HE.out, erV] using HH.out
 · rw [erV_no he] at h1
   refine (whole_was B l e _ w h1).mono ?_
   rintro v w' ⟨rfl, rfl⟩
   exact ⟨0, rfl, ⟨l, by simpa [nx, he, erV_no he] using h1, fun e0 => absurd e0 (by simp [nx, he])⟩, Ob.refl _ _, fun e0 => absurd e0 he⟩
theorem two_is (n : Int) (w : World) : Calls Tryz.prog 86 #[.int .i64 n] w fun e w' => e = .returned (.bool (n == 2)) ∧ w' = w := by
 go_enter Tryz.func86, Tryz.ntmps86
 go_wp2
 go_ret
 exact ⟨rfl, rfl⟩
theorem whole_two {N : Nat} (B : Nat) (ws : List Bs) (e : Int) (w : World) (h : Rs N w B ws e) (hw : e = 0 → ∃ x r, ws = x :: r ∧ x.length ≤ 1000000) :
   Calls Tryz.prog 84 #[.pointer (some ⟨B, 0, none⟩), .func (.func 86) #[] #[]] w fun v w' => ∃ k, v = .returned (.int .i64 k) ∧ Rs N w' B ws.tail (nx e (intE (fun n => n == 2) (ws.getD 0 []))) ∧ Ob B w w' ∧ (e = 0 → k = (rdInt (ws.getD 0 [])).getD 0) := by
 obtain ⟨l, h1, h2⟩ := h
 by_cases he : e = 0
 · subst he
   obtain ⟨x, r, rfl, hx⟩ := hw rfl
   have h1' : CB w B #[l, .nilIface] 150 := h1
   cases hn : rdInt x with
   | none =>
     obtain ⟨l', g1, gB, g2⟩ := whole_none B l x r (.func (.func 86) #[] #[]) w h1' (h2 rfl).1 hx hn
     refine g2.mono ?_
     rintro v w' ⟨rfl, rfl⟩
     refine ⟨0, rfl, ⟨l', ?_, fun e0 => ?_⟩, (Ob.set _ _ _ _).trans (Ob.set _ _ _ _), fun _ => by simp [hn]⟩
     · have := (h1.set 0 l').set 1 (erI 4)
       simpa [nx, intE, hn, erV] using this
     · simp [nx, intE, hn] at e0
   | some n =>
     obtain ⟨l', g1, gB, _, g2⟩ := word_take B l x r w h1' (h2 rfl).1
     have HK : Hid (Bk N l') := Lib.hid (fun b hb => (h2 rfl).2 b (gB ▸ hb))
     have G2 := Lib.hid g2
     have HI := Lib.hid (fun w => int_x x n 0 w hx (Or.inl ⟨rfl, hn⟩))
     have HH : Hid (CB (w.setCell ⟨B, 0, none⟩ l') B #[l', .nilIface] 150) := Lib.hid (by have := h1'.set 0 l'; simpa using this)
     obtain ⟨m, hm⟩ : ∃ m : Bool, (n == 2) = m := ⟨_, rfl⟩
     have HF : Hid (∀ w, Calls Tryz.prog 86 #[.int .i64 n] w fun e w' => e = .returned (.bool m) ∧ w' = w) := fun w => by rw [← hm]; exact two_is n w
     have HE : Hid (intE (fun n => n == 2) x = if m then 0 else 4) := (by unfold intE; rw [hn, ← hm] : intE (fun n => n == 2) x = if m then 0 else 4)
     have HN : Hid (n = (rdInt x).getD 0) := (by rw [hn]; rfl : n = (rdInt x).getD 0)
     have HS := Lib.hid g1
     clear g1 g2 gB hm hn hx h1 h1' h2 hw
     cases m
     · go_enter Tryz.func84, Tryz.ntmps84
       go_wp2_with (first
         | (go_at_call 123; refine G2.out.mono ?_; rintro e w' ⟨rfl, rfl⟩)
         | (go_at_call 122; refine (HI.out _).mono ?_; rintro e w' ⟨rfl, rfl⟩)
         | (go_at_call 86; refine (HF.out _).mono ?_; rintro e w' ⟨rfl, rfl⟩)
         | (go_at_call 88; refine (hold_set B l' 4 _ HH.out).mono ?_; rintro e w' ⟨rfl, rfl⟩))
       go_ret
       refine ⟨n, rfl, ⟨l', ?_, fun e0 => ?_⟩, (Ob.set _ _ _ _).trans (Ob.set _ _ _ _), fun _ => HN.out⟩
       · have := HH.out.set 1 (erI 4)
         simpa [nx, HE.out, erV] using this
       · simp [nx, HE.out] at e0
     · go_enter Tryz.func84, Tryz.ntmps84
       go_wp2_with (first
         | (go_at_call 123; refine G2.out.mono ?_; rintro e w' ⟨rfl, rfl⟩)
         | (go_at_call 122; refine (HI.out _).mono ?_; rintro e w' ⟨rfl, rfl⟩)
         | (go_at_call 86; refine (HF.out _).mono ?_; rintro e w' ⟨rfl, rfl⟩)
         | (go_at_call 88; refine (hold_ok B l' 4 _ HH.out).mono ?_; rintro e w' ⟨rfl, rfl⟩))
       go_ret
       refine ⟨n, rfl, ⟨l', ?_, fun e0 => ⟨HS.out, HK.out⟩⟩, Ob.set _ _ _ _, fun _ => HN.out⟩
       simpa [nx, HE.out, erV] using HH.out
 · rw [erV_no he] at h1
   refine (whole_was B l e _ w h1).mono ?_
   rintro v w' ⟨rfl, rfl⟩
   exact ⟨0, rfl, ⟨l, by simpa [nx, he, erV_no he] using h1, fun e0 => absurd e0 (by simp [nx, he])⟩, Ob.refl _ _, fun e0 => absurd e0 he⟩
theorem bit_is (n : Int) (w : World) : Calls Tryz.prog 87 #[.int .i64 n] w fun e w' => e = .returned (.bool (n == 0 || n == 1)) ∧ w' = w := by
 by_cases h0 : n = 0
 · subst h0
   go_enter Tryz.func87, Tryz.ntmps87
   go_wp2
   go_ret
   exact ⟨rfl, rfl⟩
 go_enter Tryz.func87, Tryz.ntmps87
 go_wp2
 go_ret
 exact ⟨rfl, rfl⟩
theorem whole_bit {N : Nat} (B : Nat) (ws : List Bs) (e : Int) (w : World) (h : Rs N w B ws e) (hw : e = 0 → ∃ x r, ws = x :: r ∧ x.length ≤ 1000000) :
   Calls Tryz.prog 84 #[.pointer (some ⟨B, 0, none⟩), .func (.func 87) #[] #[]] w fun v w' => ∃ k, v = .returned (.int .i64 k) ∧ Rs N w' B ws.tail (nx e (intE (fun n => n == 0 || n == 1) (ws.getD 0 []))) ∧ Ob B w w' ∧ (e = 0 → k = (rdInt (ws.getD 0 [])).getD 0) := by
 obtain ⟨l, h1, h2⟩ := h
 by_cases he : e = 0
 · subst he
   obtain ⟨x, r, rfl, hx⟩ := hw rfl
   have h1' : CB w B #[l, .nilIface] 150 := h1
   cases hn : rdInt x with
   | none =>
     obtain ⟨l', g1, gB, g2⟩ := whole_none B l x r (.func (.func 87) #[] #[]) w h1' (h2 rfl).1 hx hn
     refine g2.mono ?_
     rintro v w' ⟨rfl, rfl⟩
     refine ⟨0, rfl, ⟨l', ?_, fun e0 => ?_⟩, (Ob.set _ _ _ _).trans (Ob.set _ _ _ _), fun _ => by simp [hn]⟩
     · have := (h1.set 0 l').set 1 (erI 4)
       simpa [nx, intE, hn, erV] using this
     · simp [nx, intE, hn] at e0
   | some n =>
     obtain ⟨l', g1, gB, _, g2⟩ := word_take B l x r w h1' (h2 rfl).1
     have HK : Hid (Bk N l') := Lib.hid (fun b hb => (h2 rfl).2 b (gB ▸ hb))
     have G2 := Lib.hid g2
     have HI := Lib.hid (fun w => int_x x n 0 w hx (Or.inl ⟨rfl, hn⟩))
     have HH : Hid (CB (w.setCell ⟨B, 0, none⟩ l') B #[l', .nilIface] 150) := Lib.hid (by have := h1'.set 0 l'; simpa using this)
     obtain ⟨m, hm⟩ : ∃ m : Bool, (n == 0 || n == 1) = m := ⟨_, rfl⟩
     have HF : Hid (∀ w, Calls Tryz.prog 87 #[.int .i64 n] w fun e w' => e = .returned (.bool m) ∧ w' = w) := fun w => by rw [← hm]; exact bit_is n w
     have HE : Hid (intE (fun n => n == 0 || n == 1) x = if m then 0 else 4) := (by unfold intE; rw [hn, ← hm] : intE (fun n => n == 0 || n == 1) x = if m then 0 else 4)
     have HN : Hid (n = (rdInt x).getD 0) := (by rw [hn]; rfl : n = (rdInt x).getD 0)
     have HS := Lib.hid g1
     clear g1 g2 gB hm hn hx h1 h1' h2 hw
     cases m
     · go_enter Tryz.func84, Tryz.ntmps84
       go_wp2_with (first
         | (go_at_call 123; refine G2.out.mono ?_; rintro e w' ⟨rfl, rfl⟩)
         | (go_at_call 122; refine (HI.out _).mono ?_; rintro e w' ⟨rfl, rfl⟩)
         | (go_at_call 87; refine (HF.out _).mono ?_; rintro e w' ⟨rfl, rfl⟩)
         | (go_at_call 88; refine (hold_set B l' 4 _ HH.out).mono ?_; rintro e w' ⟨rfl, rfl⟩))
       go_ret
       refine ⟨n, rfl, ⟨l', ?_, fun e0 => ?_⟩, (Ob.set _ _ _ _).trans (Ob.set _ _ _ _), fun _ => HN.out⟩
       · have := HH.out.set 1 (erI 4)
         simpa [nx, HE.out, erV] using this
       · simp [nx, HE.out] at e0
     · go_enter Tryz.func84, Tryz.ntmps84
       go_wp2_with (first
         | (go_at_call 123; refine G2.out.mono ?_; rintro e w' ⟨rfl, rfl⟩)
         | (go_at_call 122; refine (HI.out _).mono ?_; rintro e w' ⟨rfl, rfl⟩)
         | (go_at_call 87; refine (HF.out _).mono ?_; rintro e w' ⟨rfl, rfl⟩)
         | (go_at_call 88; refine (hold_ok B l' 4 _ HH.out).mono ?_; rintro e w' ⟨rfl, rfl⟩))
       go_ret
       refine ⟨n, rfl, ⟨l', ?_, fun e0 => ⟨HS.out, HK.out⟩⟩, Ob.set _ _ _ _, fun _ => HN.out⟩
       simpa [nx, HE.out, erV] using HH.out
 · rw [erV_no he] at h1
   refine (whole_was B l e _ w h1).mono ?_
   rintro v w' ⟨rfl, rfl⟩
   exact ⟨0, rfl, ⟨l, by simpa [nx, he, erV_no he] using h1, fun e0 => absurd e0 (by simp [nx, he])⟩, Ob.refl _ _, fun e0 => absurd e0 he⟩
theorem any_is (n : Int) (w : World) : Calls Tryz.prog 92 #[.int .i64 n] w fun e w' => e = .returned (.bool (true)) ∧ w' = w := by
 go_enter Tryz.func92, Tryz.ntmps92
 go_wp2
 go_ret
 exact ⟨rfl, rfl⟩
theorem whole_any {N : Nat} (B : Nat) (ws : List Bs) (e : Int) (w : World) (h : Rs N w B ws e) (hw : e = 0 → ∃ x r, ws = x :: r ∧ x.length ≤ 1000000) :
   Calls Tryz.prog 84 #[.pointer (some ⟨B, 0, none⟩), .func (.func 92) #[] #[]] w fun v w' => ∃ k, v = .returned (.int .i64 k) ∧ Rs N w' B ws.tail (nx e (intE (fun _ => true) (ws.getD 0 []))) ∧ Ob B w w' ∧ (e = 0 → k = (rdInt (ws.getD 0 [])).getD 0) := by
 obtain ⟨l, h1, h2⟩ := h
 by_cases he : e = 0
 · subst he
   obtain ⟨x, r, rfl, hx⟩ := hw rfl
   have h1' : CB w B #[l, .nilIface] 150 := h1
   cases hn : rdInt x with
   | none =>
     obtain ⟨l', g1, gB, g2⟩ := whole_none B l x r (.func (.func 92) #[] #[]) w h1' (h2 rfl).1 hx hn
     refine g2.mono ?_
     rintro v w' ⟨rfl, rfl⟩
     refine ⟨0, rfl, ⟨l', ?_, fun e0 => ?_⟩, (Ob.set _ _ _ _).trans (Ob.set _ _ _ _), fun _ => by simp [hn]⟩
     · have := (h1.set 0 l').set 1 (erI 4)
       simpa [nx, intE, hn, erV] using this
     · simp [nx, intE, hn] at e0
   | some n =>
     obtain ⟨l', g1, gB, _, g2⟩ := word_take B l x r w h1' (h2 rfl).1
     have HK : Hid (Bk N l') := Lib.hid (fun b hb => (h2 rfl).2 b (gB ▸ hb))
     have G2 := Lib.hid g2
     have HI := Lib.hid (fun w => int_x x n 0 w hx (Or.inl ⟨rfl, hn⟩))
     have HH : Hid (CB (w.setCell ⟨B, 0, none⟩ l') B #[l', .nilIface] 150) := Lib.hid (by have := h1'.set 0 l'; simpa using this)
     obtain ⟨m, hm⟩ : ∃ m : Bool, (true) = m := ⟨_, rfl⟩
     have HF : Hid (∀ w, Calls Tryz.prog 92 #[.int .i64 n] w fun e w' => e = .returned (.bool m) ∧ w' = w) := fun w => by rw [← hm]; exact any_is n w
     have HE : Hid (intE (fun _ => true) x = if m then 0 else 4) := (by unfold intE; rw [hn, ← hm] : intE (fun _ => true) x = if m then 0 else 4)
     have HN : Hid (n = (rdInt x).getD 0) := (by rw [hn]; rfl : n = (rdInt x).getD 0)
     have HS := Lib.hid g1
     clear g1 g2 gB hm hn hx h1 h1' h2 hw
     cases m
     · go_enter Tryz.func84, Tryz.ntmps84
       go_wp2_with (first
         | (go_at_call 123; refine G2.out.mono ?_; rintro e w' ⟨rfl, rfl⟩)
         | (go_at_call 122; refine (HI.out _).mono ?_; rintro e w' ⟨rfl, rfl⟩)
         | (go_at_call 92; refine (HF.out _).mono ?_; rintro e w' ⟨rfl, rfl⟩)
         | (go_at_call 88; refine (hold_set B l' 4 _ HH.out).mono ?_; rintro e w' ⟨rfl, rfl⟩))
       go_ret
       refine ⟨n, rfl, ⟨l', ?_, fun e0 => ?_⟩, (Ob.set _ _ _ _).trans (Ob.set _ _ _ _), fun _ => HN.out⟩
       · have := HH.out.set 1 (erI 4)
         simpa [nx, HE.out, erV] using this
       · simp [nx, HE.out] at e0
     · go_enter Tryz.func84, Tryz.ntmps84
       go_wp2_with (first
         | (go_at_call 123; refine G2.out.mono ?_; rintro e w' ⟨rfl, rfl⟩)
         | (go_at_call 122; refine (HI.out _).mono ?_; rintro e w' ⟨rfl, rfl⟩)
         | (go_at_call 92; refine (HF.out _).mono ?_; rintro e w' ⟨rfl, rfl⟩)
         | (go_at_call 88; refine (hold_ok B l' 4 _ HH.out).mono ?_; rintro e w' ⟨rfl, rfl⟩))
       go_ret
       refine ⟨n, rfl, ⟨l', ?_, fun e0 => ⟨HS.out, HK.out⟩⟩, Ob.set _ _ _ _, fun _ => HN.out⟩
       simpa [nx, HE.out, erV] using HH.out
 · rw [erV_no he] at h1
   refine (whole_was B l e _ w h1).mono ?_
   rintro v w' ⟨rfl, rfl⟩
   exact ⟨0, rfl, ⟨l, by simpa [nx, he, erV_no he] using h1, fun e0 => absurd e0 (by simp [nx, he])⟩, Ob.refl _ _, fun e0 => absurd e0 he⟩
end

/- Package orient: grown, differences as lists. -/
section
open Go.RowKit Go.Shelf
attribute [local go_sem ↓] Go.wp_at_zero Go.wp_at_succ
attribute [local go_sem] run_store_float
end

/- Package orient: exactSign, Sign. -/
section
open Go.RowKit Go.Shelf
attribute [local go_sem ↓] Go.wp_at_zero Go.wp_at_succ
attribute [local go_sem] run_store_float
end

/- Package orient: On, Cross. -/
section
open Go.RowKit Go.Shelf
attribute [local go_sem ↓] Go.wp_at_zero Go.wp_at_succ
attribute [local go_sem] run_store_float
def Btw (a b x : Rat) : Prop := (a ≤ x ∧ x ≤ b) ∨ (b ≤ x ∧ x ≤ a)
def OnP (ax ay bx by' px py : Nat) : Prop := P3 ax ay bx by' px py ∧ Btw (fval ax) (fval bx) (fval px) ∧ Btw (fval ay) (fval by') (fval py) ∧ S3 ax ay bx by' px py = 0
end

/- Package orient: Cross. -/
section
open Go.RowKit Go.Shelf
end

/- Which points may be, by reckoning. -/
section
theorem den_one {q : Rat} : q.den = 1 ↔ ∃ k : Int, q = (k : Rat) := by
 constructor
 · intro h
   refine ⟨q.num, ?_⟩
   apply Rat.ext
   · simp
   · simp [h]
 · rintro ⟨k, rfl⟩
   simp
theorem crd_iff (x : Nat) : Crd x ↔ frung x ≤ 5057542381537067008 ∧ (fval x * U 1174).den = 1 := by
 unfold Crd
 rw [den_one, ← M_one, steps_one]
instance (x : Nat) : Decidable (Crd x) := decidable_of_iff _ (crd_iff x).symm
instance (x y : Nat) : Decidable (Pt x y) := by unfold Pt; exact inferInstance
instance (ax ay bx by' cx cy : Nat) : Decidable (P3 ax ay bx by' cx cy) := by unfold P3; exact inferInstance
instance (a b x : Rat) : Decidable (Btw a b x) := by unfold Btw; exact inferInstance
instance (ax ay bx by' cx cy : Nat) : Decidable (OnP ax ay bx by' cx cy) := by unfold OnP; exact inferInstance
end

/- The document's side of layer 4: which points may be. -/
section
open Go.RowKit Go.Shelf
attribute [local go_sem] run_store_float
theorem odd_unit {q : Rat} {l m : Int} (h : q = (m : Rat) * p2 l) (hm : m % 2 = 1) : -100 ≤ l ↔ M (U 974) q := by
 have e974 : U 974 = p2 (-100) := rfl
 rw [e974]
 constructor
 · intro hl
   refine ⟨m * ((2 ^ (l + 100).toNat : Nat) : Int), ?_⟩
   rw [h, Rat.intCast_mul, show (((2 ^ (l + 100).toNat : Nat) : Int) : Rat) = ((2 ^ (l + 100).toNat : Nat) : Rat) from rfl, ← p2_nat, Rat.mul_assoc, ← p2_add, show (((l + 100).toNat : Nat) : Int) + -100 = l by omega]
 · rintro ⟨k, hk⟩
   apply Classical.byContradiction
   intro hn
   obtain ⟨j, hj⟩ : ∃ j : Nat, -100 = l + 1 + (j : Int) := ⟨(-101 - l).toNat, by omega⟩
   have e : p2 (-100) = 2 * ((2 ^ j : Nat) : Rat) * p2 l := by
     rw [hj, p2_add, p2_add, p2_nat, p2_one]; grind
   rw [e] at hk
   have h2 : (m : Rat) * p2 l = ((k * (2 * ((2 ^ j : Nat) : Int)) : Int) : Rat) * p2 l := by
     rw [← h, hk, Rat.intCast_mul, Rat.intCast_mul, show (((2 ^ j : Nat) : Int) : Rat) = ((2 ^ j : Nat) : Rat) from rfl, show ((2 : Int) : Rat) = 2 from rfl]
     grind
   have h3 := int_eq (p2_pos l) h2
   have h4 : k * (2 * ((2 ^ j : Nat) : Int)) = 2 * (k * ((2 ^ j : Nat) : Int)) := by
     rw [← Int.mul_assoc, Int.mul_comm k 2, Int.mul_assoc]
   rw [h4] at h3
   omega
theorem crd_top {x : Nat} (hf : Fin64 x) : frung x ≤ 5057542381537067008 ↔ ab (fval x) ≤ U 1174 := by
 constructor
 · exact crd_ab
 · intro h
   rcases Nat.lt_or_ge 5057542381537067008 (frung x) with h1 | h1
   · exfalso
     have f : frung x < 9218868437227405312 := hf
     have := fval_lt h1 f
     rw [top100, ab_fval x hf] at this
     grind
   · exact h1
theorem sgq_nonpos {q : Rat} : sgq q ≤ 0 ↔ q ≤ 0 := by
 unfold sgq
 constructor
 · intro h
   split at h
   · grind
   · split at h
     · grind
     · omega
 · intro h
   split
   · omega
   · split
     · omega
     · grind
set_option maxRecDepth 100000 in
set_option maxHeartbeats 2000000 in
theorem coord_any (x : Nat) (w : World) (hx : x < 18446744073709551616) : Calls Tryz.prog 104 #[.float .f64 x] w fun e w' => (∃ t, e = .returned (.bool t) ∧ (t = true ↔ Crd x)) ∧ Below w.heap.size w w' := by
 rcases Nat.lt_trichotomy (frung x) 9218868437227405312 with hf | hf | hf
 · have fx : Fin64 x := hf
   obtain ⟨z, hz1, hz2⟩ := self_sub fx
   have rs : ∀ w, (binOp .sub 57 (.float .f64 x) (.float .f64 x)).run Tryz.prog w = .ok (.float .f64 z) w := fun w => run_float_arith w .sub _ .f64 _ _ _ hz1
   have q0 := order_nan_self fx
   have q1 := eql_zero2 x
   have HX : Hid (x < 18446744073709551616 ∧ Fin64 x) := ⟨hx, fx⟩
   clear hz1 hx hf fx
   by_cases h0 : frung x = 0
   · rw [decide_eq_true h0] at q1
     have HC : Hid (Crd x) := ⟨by omega, by rw [fval_zero_iff.2 h0]; exact M_zero _⟩
     clear h0
     go_enter Tryz.func104, Tryz.ntmps104
     go_wp2
     go_ret
     exact ⟨⟨true, rfl, fun _ => HC.out, fun _ => rfl⟩, Below.refl _ _⟩
   · rw [decide_eq_false h0] at q1
     have HN0 : Hid (fval x ≠ 0) := fun h => h0 (fval_zero_iff.1 h)
     clear h0
     go_enter Tryz.func104, Tryz.ntmps104
     go_wp2_with fail
     refine (refOf_any x _ HX.out.1).mono ?_
     rintro e w1 ⟨v1, rfl, hr1, hb1⟩
     obtain ⟨S1, a1, n1, c1, E1, rfl⟩ := hr1.agg
     rw [den_fin HX.out.2] at hr1
     have HB1 : Hid (Below w.heap.size w w1) := hb1
     have R1 : Hid (Rf w1 (.agg #[.int .i64 S1, .slice a1 n1 c1, .int .i64 E1]) (fval x)) := hr1
     have HFT : Hid (Fit (fval x)) := by have := den_Fit x; rwa [den_fin HX.out.2] at this
     clear hr1 hb1 rs q0 hz2
     have HAL : Hid (Below w1.heap.size w1 (w1.alloc (.cells #[.int .i64 S1, .slice a1 n1 c1, .int .i64 E1] 138))) := (Below.refl _ w1).alloc (Nat.le_refl _) _
     go_wp2_with fail
     refine (abs_rf _ (fval x) _ (R1.out.later HAL.out)).mono ?_
     rintro e w2 ⟨v2, rfl, hr2, hb2⟩
     have HB2 : Hid (Below w1.heap.size w1 w2) := below_step HAL.out hb2
     have R2 : Hid (Rf w2 v2 (if fval x < 0 then -fval x else fval x)) := hr2
     have X2 : Hid (BoxN w2 w1.heap.size S1 (.slice a1 n1 c1) E1) := (BoxN.new w1 S1 E1 (.slice a1 n1 c1)).later hb2
     clear hr2 hb2
     go_wp2_with fail
     refine (power_walk 1 100 _ (by omega) (by omega) (by omega)).mono ?_
     rintro e w3 ⟨v3, rfl, hr3, hb3⟩
     have R3 : Hid (Rf w3 v3 (((1 : Nat) : Rat) * p2 100) ∧ Rf w3 v2 (if fval x < 0 then -fval x else fval x)) := ⟨hr3, R2.out.later hb3⟩
     have HB3 : Hid (Below w1.heap.size w1 w3) := below_step HB2.out hb3
     have X3 : Hid (BoxN w3 w1.heap.size S1 (.slice a1 n1 c1) E1) := X2.out.later hb3
     clear hr3 hb3 R2 X2
     obtain ⟨A, hA⟩ : ∃ A, Hid (sgq ((if fval x < 0 then -fval x else fval x) - ((1 : Nat) : Rat) * p2 100) = A) := ⟨_, rfl⟩
     have HA : Hid (A ≤ 0 ↔ frung x ≤ 5057542381537067008) := by
       show A ≤ 0 ↔ _
       rw [← hA.out, sgq_nonpos, crd_top HX.out.2, show U 1174 = p2 100 from rfl, show ((1 : Nat) : Rat) = 1 from rfl]
       show ab (fval x) - 1 * p2 100 ≤ 0 ↔ ab (fval x) ≤ p2 100
       constructor <;> intro h <;> grind
     have HF1 : Hid (Fit (if fval x < 0 then -fval x else fval x)) := by
       show Fit _
       split
       · exact HFT.out.neg
       · exact HFT.out
     go_wp2_with fail
     refine (cmp_is _ _ (if fval x < 0 then -fval x else fval x) (((1 : Nat) : Rat) * p2 100) A _ R3.out.2 R3.out.1 HF1.out (pow_fit 1 100 (by omega) (by omega) (by omega)) hA.out).mono ?_
     rintro e w4 ⟨rfl, hb4⟩
     have HB4 : Hid (Below w1.heap.size w1 w4) := below_step HB3.out hb4
     obtain ⟨x0, x1, x2, _, _⟩ := (X3.out.later hb4).cells
     clear hb4 R3 X3
     by_cases hA0 : A ≤ 0
     · go_wp2_with fail
       refine (low_rf _ (fval x) _ (R1.out.later HB4.out) HN0.out HFT.out).mono ?_
       rintro e w5 ⟨⟨l, m, rfl, hl, hm⟩, hb5⟩
       have HB5 : Hid (Below w.heap.size w w5) := below_step (below_step HB1.out HB4.out) hb5
       have HR : Hid (-100 ≤ l ↔ Crd x) := by
         show -100 ≤ l ↔ Crd x
         rw [odd_unit hl hm]
         exact ⟨fun h => ⟨HA.out.1 hA0, h⟩, fun h => h.2⟩
       clear hl hm hb5 x0 x1 x2
       go_wp2
       go_ret
       exact ⟨⟨decide (-100 ≤ l), rfl, by rw [decide_eq_true_iff]; exact HR.out⟩, HB5.out⟩
     · have dA : decide (A ≤ 0) = false := decide_eq_false hA0
       have HR : Hid (¬ Crd x) := fun h => hA0 (HA.out.2 h.1)
       have HB5 : Hid (Below w.heap.size w w4) := below_step HB1.out HB4.out
       clear hA0 x0 x1 x2
       go_wp2
       go_ret
       exact ⟨⟨false, rfl, fun h => Bool.noConfusion h, fun h => absurd h HR.out⟩, HB5.out⟩
 · have HN : Hid (¬ Crd x) := fun h => by have := h.1; omega
   have hx2 : x = 9218868437227405312 ∨ x = 18442240474082181120 := by unfold frung at hf; omega
   have q0 : FloatKind.f64.format.order x x = some .eq := by rcases hx2 with rfl | rfl <;> decide +kernel
   have h2 : floatBits .sub .f64 x x = none := by rcases hx2 with rfl | rfl <;> decide +kernel
   clear hx2
   have rs := run_sub_nan x x h2
   have h3 : ∀ w, FloatKind.f64.format.order (nanW x x w) 0 = none := fun w => nan_order (nanW_nan x x w).1 0
   clear h2 hf hx
   go_enter Tryz.func104, Tryz.ntmps104
   go_wp2
   go_ret
   exact ⟨⟨false, rfl, fun h => Bool.noConfusion h, fun h => absurd h HN.out⟩, (Below.refl _ _).drew⟩
 · have HN : Hid (¬ Crd x) := fun h => by have := h.1; omega
   have q0 : FloatKind.f64.format.order x x = none := order_nan_left hf
   clear hf hx
   go_enter Tryz.func104, Tryz.ntmps104
   go_wp2
   go_ret
   exact ⟨⟨false, rfl, fun h => Bool.noConfusion h, fun h => absurd h HN.out⟩, Below.refl _ _⟩
set_option maxRecDepth 100000 in
set_option maxHeartbeats 1000000 in
theorem may_any (x y : Nat) (w : World) (hw : x < 18446744073709551616 ∧ y < 18446744073709551616) : Calls Tryz.prog 58 #[pv x y] w fun e w' => (∃ t, e = .returned (.bool t) ∧ (t = true ↔ Pt x y)) ∧ Below w.heap.size w w' := by
 have HW : Hid (x < 18446744073709551616 ∧ y < 18446744073709551616) := hw
 have HAL : Hid (Below w.heap.size w (w.alloc (.cells #[.float .f64 x, .float .f64 y] 59))) := (Below.refl _ w).alloc (Nat.le_refl _) _
 clear hw
 go_enter Tryz.func58, Tryz.ntmps58
 go_wp2_with fail
 refine (coord_any x _ HW.out.1).mono ?_
 rintro e w1 ⟨⟨t, rfl, ht⟩, hb1⟩
 have d1 : w1.cell? ⟨w.heap.size, 1, none⟩ = some (.float .f64 y) := box_cell hb1 (by go_simp)
 have HB1 : Hid (Below w.heap.size w w1) := below_step HAL.out hb1
 have HT : Hid (t = true ↔ Crd x) := ht
 clear ht hb1
 cases t
 · go_wp2
   go_ret
   exact ⟨⟨false, rfl, fun h => Bool.noConfusion h, fun h => Bool.noConfusion (HT.out.2 h.1)⟩, HB1.out⟩
 · have HX : Hid (Crd x) := HT.out.1 rfl
   go_wp2_with fail
   refine (coord_any y _ HW.out.2).mono ?_
   rintro e w2 ⟨⟨t, rfl, ht⟩, hb2⟩
   have HB2 : Hid (Below w.heap.size w w2) := below_step HB1.out hb2
   have HR : Hid (t = true ↔ Pt x y) := by
     show t = true ↔ _
     rw [ht]
     exact ⟨fun h => ⟨HX.out, h⟩, fun h => h.2⟩
   clear ht hb2 d1
   go_wp2
   go_ret
   exact ⟨⟨t, rfl, HR.out⟩, HB2.out⟩
end

/- The laws DigitsBack, DigitsTwice, DigitsWhole. (gen_ji.py) -/
section
open Go.RowKit Go.Shelf Go.Lib
theorem ord_eq {a b : Nat} (ha : Fin64 a) (hb : Fin64 b) : (FloatKind.f64.format.order a b == some .eq) = decide (fval a = fval b) := by
 rw [order_val ha hb]
 by_cases h : fval a = fval b
 · rw [decide_eq_true h, h, if_neg Rat.lt_irrefl, if_pos rfl]; rfl
 · rw [decide_eq_false h, if_neg h]; split <;> rfl
theorem ord_is {a b : Nat} (ha : Fin64 a) (hb : Fin64 b) (h : fval a = fval b) : FloatKind.f64.format.order a b = some .eq := by
 rw [order_val ha hb, h, if_neg Rat.lt_irrefl, if_pos rfl]
theorem sub_inf {b : Nat} (h : frung b = 9218868437227405312) : floatBits .sub .f64 b b = none := by
 show ((Ieee.double.read b).sum (Ieee.double.read b).opposite).map Ieee.double.write = none
 rw [read_inf h]
 unfold Ieee.Datum.opposite Ieee.Datum.sum
 cases fneg b <;> rfl
end

/- The document's side of layer 8: Show. -/
section
open Go.RowKit Go.Shelf Go.Lib
theorem cat_minusI (a : List UInt8) : (⟨#[45]⟩ : ByteArray) ++ ⟨a.toArray⟩ = ⟨(45 :: a).toArray⟩ := by
 apply ByteArray.ext
 simp [ByteArray.data_append]
theorem cat_two (a b : List UInt8) : (⟨a.toArray⟩ : ByteArray) ++ ⟨b.toArray⟩ = ⟨(a ++ b).toArray⟩ := by
 apply ByteArray.ext
 simp [ByteArray.data_append]
set_option maxHeartbeats 1000000 in
set_option maxRecDepth 100000 in
theorem refShow_one (u : Nat) (hu : u < 10) (w : World) : Calls Tryz.prog 43 #[.int .i64 (u : Nat)] w fun e w' => e = .returned (sv (decDigits u)) ∧ Below w.heap.size w w' := by
 have h1 : (u : Int) < 10 := by omega
 have hcv : (convert 66 9 (.slice (some ⟨w.heap.size, 0, none⟩) 1 1)).run Tryz.prog (w.alloc (.cells #[.int .u8 (48 + (u : Int))] 5)) = .ok (.string ⟨(decDigits u).toArray⟩) (w.alloc (.cells #[.int .u8 (48 + (u : Int))] 5)) := by
   rw [decDigits_one hu]
   refine run_convert_bytes_back _ _ _ 5 _ 1 [UInt8.ofNat (48 + u)] Tryz.underlying66 Tryz.underlying5 Tryz.underlying9 (fun j hj => ?_)
   obtain rfl : j = 0 := by simpa using hj
   have e : (((UInt8.ofNat (48 + u)).toNat : Nat) : Int) = 48 + (u : Int) := by rw [UInt8.toNat_ofNat']; omega
   show World.cell? _ _ = some (.int .u8 (((UInt8.ofNat (48 + u)).toNat : Nat) : Int))
   rw [e]
   simp [Addr.add, World.cell?_alloc_new]
 generalize decDigits u = l at *
 go_enter Tryz.func43, Tryz.ntmps43
 go_wp2
 go_ret
 exact ⟨rfl, (Below.refl _ _).alloc (Nat.le_refl _) _⟩
set_option maxHeartbeats 1000000 in
set_option maxRecDepth 100000 in
theorem refShow_nat : ∀ (u : Nat), u ≤ 9223372036854775807 → ∀ w, Calls Tryz.prog 43 #[.int .i64 (u : Nat)] w fun e w' => e = .returned (sv (decDigits u)) ∧ Below w.heap.size w w' := by
 intro u
 induction u using Nat.strongRecOn with
 | _ u ih =>
   intro hu w
   by_cases h : u < 10
   · exact refShow_one u h w
   · have HI : Hid (∀ w, Calls Tryz.prog 43 #[.int .i64 ((u : Int).tdiv 10)] w fun e w' => e = .returned (sv (decDigits (u / 10))) ∧ Below w.heap.size w w') := fun w => by
       have := ih (u / 10) (by omega) (by omega) w
       rwa [show ((u : Int).tdiv 10) = ((u / 10 : Nat) : Int) by rw [Int.tdiv_eq_ediv_of_nonneg (by omega)]; omega]
     have HJ : Hid (∀ w, Calls Tryz.prog 43 #[.int .i64 ((u : Int).tmod 10)] w fun e w' => e = .returned (sv [UInt8.ofNat (48 + u % 10)]) ∧ Below w.heap.size w w') := fun w => by
       have := refShow_one (u % 10) (by omega) w
       rw [decDigits_one (by omega)] at this
       rwa [show ((u : Int).tmod 10) = ((u % 10 : Nat) : Int) by rw [Int.tmod_eq_emod_of_nonneg (by omega)]; omega]
     have hl : (decDigits (u / 10)).length ≤ 21 := by
       have := itoa_length_le ((u / 10 : Nat) : Int) (by omega) (by omega)
       rwa [itoa_nonneg] at this
     have hd : decDigits u = decDigits (u / 10) ++ [UInt8.ofNat (48 + u % 10)] := by rw [decDigits, dif_neg h]
     rw [hd]
     clear ih hd
     have h1 : ¬ (u : Int) < 10 := by omega
     have h2 : (u : Int) ≤ 9223372036854775807 := by omega
     generalize decDigits (u / 10) = l at *
     generalize UInt8.ofNat (48 + u % 10) = c at *
     go_enter Tryz.func43, Tryz.ntmps43
     go_wp2_with fail
     refine (HI.out _).mono ?_
     rintro e w1 ⟨rfl, hb1⟩
     have HB1 := Lib.hid hb1
     clear hb1
     go_wp2_with fail
     refine (HJ.out _).mono ?_
     rintro e w2 ⟨rfl, hb2⟩
     have HB2 := Lib.hid hb2
     clear hb2
     go_wp2
     go_ret
     exact ⟨ret_s (cat_two l [c]), HB1.out.trans (HB2.out.mono HB1.out.size)⟩
set_option maxHeartbeats 1000000 in
set_option maxRecDepth 100000 in
theorem refShow_any (n : Int) (hn : InR n) (w : World) : Calls Tryz.prog 43 #[.int .i64 n] w fun e w' => e = .returned (sv (itoa n)) ∧ Below w.heap.size w w' := by
 obtain ⟨n1, n2⟩ := hn
 by_cases h : n < 0
 · by_cases hm : n = -9223372036854775808
   · subst hm
     rw [show itoa (-9223372036854775808) = [45, 57, 50, 50, 51, 51, 55, 50, 48, 51, 54, 56, 53, 52, 55, 55, 53, 56, 48, 56] from (itoa_rd (n := -9223372036854775808) (by decide +kernel)).2]
     go_enter Tryz.func43, Tryz.ntmps43
     go_wp2
     go_ret
     exact ⟨rfl, Below.refl _ _⟩
   · obtain ⟨u, rfl⟩ : ∃ u : Nat, n = -(u : Int) := ⟨n.natAbs, by omega⟩
     rw [itoa_neg u (by omega)]
     have HI : Hid (∀ w, Calls Tryz.prog 43 #[.int .i64 (u : Nat)] w fun e w' => e = .returned (sv (decDigits u)) ∧ Below w.heap.size w w') := fun w => refShow_nat u (by omega) w
     have hl : (decDigits u).length ≤ 21 := by
       have := itoa_length_le (u : Int) (by omega) (by omega)
       rwa [itoa_nonneg] at this
     have hb : (-(u : Int) == -9223372036854775808) = false := by rw [beq_eq_false_iff_ne]; exact hm
     generalize decDigits u = l at *
     go_enter Tryz.func43, Tryz.ntmps43
     go_wp2_with fail
     refine (HI.out _).mono ?_
     rintro e w1 ⟨rfl, hb1⟩
     go_wp2
     go_ret
     exact ⟨ret_s (cat_minusI l), hb1⟩
 · obtain ⟨u, rfl⟩ : ∃ u : Nat, n = (u : Int) := ⟨n.toNat, by omega⟩
   rw [itoa_nonneg]
   exact refShow_nat u (by omega) w
end

/- The document's side of layer 8: Text. -/
section
open Go.RowKit Go.Shelf Go.Lib
theorem itoa_minusI {n : Int} (h : 0 < n) : itoa (-n) = 45 :: itoa n := by
 obtain ⟨u, rfl⟩ : ∃ u : Nat, n = (u : Int) := ⟨n.toNat, by omega⟩
 rw [itoa_neg u (by omega), itoa_nonneg]
theorem eq_flipI {x : Nat} (hx : Fin64 x) (lx : x < 18446744073709551616) : Fin64 (fflip x) ∧ fflip x < 18446744073709551616 ∧ fval (fflip x) = -fval x :=
 ⟨by unfold Fin64; rw [frung_flip lx]; exact hx, flip_lt lx, fval_flip lx hx⟩
theorem whole_digits {S E n : Int} {ds : List Nat} (hc : Canon S ds E) (hs : ∀ d ∈ ds, d < 16777216) (h : (n : Rat) = (S : Rat) * mag ds E) (ho : n % 2 = 1) (hp : 0 < n) (hb : n < 9007199254740992) : S = 1 ∧ E = 0 ∧ ((v24 ds : Nat) : Int) = n ∧ ds.length ≤ 3 := by
 have hn0 : (0 : Rat) < (n : Rat) := Rat.intCast_pos.2 hp
 have hS : S = 1 := by
   rcases canon_sgn hc with ⟨_, h1⟩ | ⟨h1, _⟩ | ⟨_, h1⟩
   · rw [← h] at h1; grind
   · exact h1
   · rw [← h] at h1; grind
 subst hS
 have hne : ds ≠ [] := by
   rintro rfl
   rw [mag_nil] at h
   grind
 have hbd : Bd 53 0 (n : Rat) := by
   have c : p2 53 = ((9007199254740992 : Int) : Rat) := by rw [show (53 : Int) = ((53 : Nat) : Int) from rfl, p2_nat]; rfl
   have b1 : (n : Rat) < ((9007199254740992 : Int) : Rat) := Rat.intCast_lt_intCast.2 hb
   refine ⟨by rw [c]; exact b1, by rw [c]; grind, n, by rw [p2_zero, Rat.mul_one]⟩
 obtain ⟨c1, c2⟩ := canon_place hc hs (by rw [← h]; exact hbd) hne
 have hE : 0 ≤ E := by omega
 have hlen := List.length_pos_iff.2 hne
 obtain ⟨k, rfl⟩ : ∃ k : Nat, E = (k : Int) := ⟨E.toNat, by omega⟩
 have hv : ((v24 ds * 2 ^ (24 * k) : Nat) : Int) = n := by
   apply Rat.intCast_inj.1
   rw [h]
   unfold mag
   show ((v24 ds * 2 ^ (24 * k) : Nat) : Rat) = _
   rw [nat_mul_p2, show ((24 * k : Nat) : Int) = 24 * (k : Int) by omega, show ((1 : Int) : Rat) = 1 from rfl, Rat.one_mul]
 cases k with
 | zero => exact ⟨rfl, rfl, by rw [Nat.mul_zero, Nat.pow_zero, Nat.mul_one] at hv; exact hv, by omega⟩
 | succ k =>
   exfalso
   rw [show 24 * (k + 1) = (24 * k + 23) + 1 by omega, Nat.pow_succ, ← Nat.mul_assoc] at hv
   omega
theorem conv_trunc {x : Nat} (hx : Fin64 x) (h0 : 0 ≤ fval x) (h : fval x < 9007199254740992) : ∃ k : Int, floatToIntVal .f64 x .i64 = some k ∧ 0 ≤ k ∧ k ≤ 9007199254740992 ∧ ((∃ z : Int, fval x = (z : Rat)) → fval x = (k : Rat)) := by
 by_cases hz : ∃ z : Int, fval x = (z : Rat)
 · obtain ⟨z, ez⟩ := hz
   have z0 : 0 ≤ z := Rat.intCast_nonneg.1 (by rw [← ez]; exact h0)
   have z1 : z < 9007199254740992 := Rat.intCast_lt_intCast.1 (by rw [← ez]; exact h)
   exact ⟨z, conv_int hx ez (by omega) (by omega), z0, by omega, fun _ => ez⟩
 · have e : FloatKind.f64.decode x = .number (fneg x) (fmag (frung x)) (fpl (frung x)) := read_fin hx
   obtain ⟨n, hn, h1, h2, h3⟩ := cut_val (fmag (frung x)) (fpl (frung x)) (Nat.le_of_lt (fmag_lt _))
   have hv := fval_eq x
   have hX0 : (0 : Rat) ≤ ((fmag (frung x) : Nat) : Rat) * p2 (fpl (frung x)) := Rat.mul_nonneg Rat.natCast_nonneg (Rat.le_of_lt (p2_pos _))
   have hneg : fneg x = false := by
     cases hf : fneg x
     · rfl
     · exfalso
       rw [hf] at hv
       simp [sgn1] at hv
       exact hz ⟨0, by show fval x = 0; grind⟩
   have hX : fval x = ((fmag (frung x) : Nat) : Rat) * p2 (fpl (frung x)) := by rw [hv, hneg]; simp [sgn1]
   have ht : Ieee.Datum.toInt .zero (FloatKind.f64.decode x) = some (n : Int) := by
     rw [e]
     show some (Ieee.signed (fneg x) (Ieee.Toward.zero.cut (fneg x) (fmag (frung x) <<< (fpl (frung x)).toNat) (-fpl (frung x)).toNat) 0) = _
     rw [cut_shift, hn, hneg]
     unfold Ieee.signed
     rw [Nat.shiftLeft_zero, if_neg (by decide)]
   have hn2 : n ≤ 9007199254740992 := by
     have : ((n : Nat) : Rat) < ((9007199254740992 : Nat) : Rat) := by
       rw [← hX] at h1
       show ((n : Nat) : Rat) < 9007199254740992
       grind
     have := Rat.natCast_lt_natCast.1 this
     omega
   refine ⟨n, ?_, by omega, by omega, fun hc => absurd hc hz⟩
   unfold floatToIntVal
   rw [ht]
   have h3 : IntKind.i64.min = -9223372036854775808 := by decide
   have h4 : IntKind.i64.max = 9223372036854775807 := by decide
   simp only [h3, h4]
   rw [if_pos ⟨by omega, by omega⟩]
theorem v24_drop {ds : List Nat} {i : Nat} (h : i < ds.length) : v24 (ds.drop i) = ds.getD i 0 + 16777216 * v24 (ds.drop (i + 1)) := by
 rw [List.drop_eq_getElem_cons h, v24]
 simp [List.getD, h]
theorem v24_drop_le (ds : List Nat) : ∀ i, v24 (ds.drop i) ≤ v24 ds := by
 induction ds with
 | nil => intro i; simp [v24]
 | cons d r ih =>
   intro i
   cases i with
   | zero => exact Nat.le_refl _
   | succ i => rw [List.drop_succ_cons]; have := ih i; rw [v24]; omega
theorem fit_p2 (k : Int) (h1 : -4000 ≤ k) (h2 : k ≤ 4000) : Fit (p2 k) := by
 refine Bd.mono (h := k + 1) (l := k) ⟨p2_lt (by omega), ?_, 1, by rw [show ((1 : Int) : Rat) = 1 from rfl, Rat.one_mul]⟩ (by omega) (by omega)
 have a := p2_pos k
 have b := p2_pos (k + 1)
 grind
set_option maxHeartbeats 4000000 in
set_option maxRecDepth 100000 in
theorem refText_odd (x q : Nat) (n e : Int) (w : World) (lx : x < 18446744073709551616) (fx : Fin64 x)
   (o1 : FloatKind.f64.format.order x x = some .eq) (rq : ∀ w, (binOp .sub 57 (.float .f64 x) (.float .f64 x)).run Tryz.prog w = .ok (.float .f64 q) w) (s2 : FloatKind.f64.format.order q 0 = some .eq)
   (o2 : FloatKind.f64.format.order x 0 = some .gt)
   (hk : (FloatKind.f64.format.order x 4845873199050653696 == some .lt) = false ∨ (∃ k, (FloatKind.f64.format.order x 4845873199050653696 == some .lt) = true ∧ (∀ w, (convert 57 3 (.float .f64 x)).run Tryz.prog w = .ok (.int .i64 k) w) ∧ (FloatKind.f64.format.order (floatOfInt .f64 k) x == some .eq) = false))
   (ho : n % 2 = 1) (hp : 0 < n) (hb : n < 9007199254740992) (he1 : -3000 ≤ e) (he2 : e ≤ 3000) (hv : fval x = (n : Rat) * p2 e) :
   Calls Tryz.prog 44 #[.float .f64 x] w fun r w' => r = .returned (sv (itoa n ++ 98 :: itoa e)) ∧ Below w.heap.size w w' := by
 have hx0 : fval x ≠ 0 := by
   rw [hv]
   have a : (0 : Rat) < (n : Rat) := Rat.intCast_pos.2 hp
   have := Rat.mul_pos a (p2_pos e)
   grind
 have hden : den x = fval x := by unfold den; exact if_pos (show frung x < 9218868437227405312 from fx)
 have fitx : Fit (fval x) := (fval_bd fx).mono (by omega) (by omega)
 have HO : Hid (∀ w, Calls Tryz.prog 76 #[.float .f64 x] w fun r w' => RfR w w' (fval x) r) := fun w => by
   have := refOf_any x w lx
   rwa [hden] at this
 have HL : Hid (∀ v w, Rf w v (fval x) → Calls Tryz.prog 75 #[v] w fun r w' => r = .returned (.int .i64 e) ∧ Below w.heap.size w w') := fun v w hr => by
   refine (low_rf v (fval x) w hr hx0 fitx).mono ?_
   rintro r w' ⟨⟨l, m, rfl, hq, hm⟩, hb⟩
   rw [hv] at hq
   obtain ⟨_, rfl⟩ := odd_uniq ho hm hq
   exact ⟨rfl, hb⟩
 have HP : Hid (∀ w, Calls Tryz.prog 78 #[.int .u64 1, .int .i64 (-e)] w fun r w' => RfR w w' (p2 (-e)) r) := fun w => by
   have := power_walk 1 (-e) w (by omega) (by omega) (by omega)
   rwa [show ((1 : Nat) : Rat) * p2 (-e) = p2 (-e) by show (1 : Rat) * _ = _; rw [Rat.one_mul]] at this
 have HM : Hid (∀ v1 v2 w, Rf w v1 (fval x) → Rf w v2 (p2 (-e)) → Calls Tryz.prog 77 #[v1, v2] w fun r w' => RfR w w' (n : Rat) r) := fun v1 v2 w h1 h2 => by
   have := mul_rf v1 v2 (fval x) (p2 (-e)) w h1 h2 fitx (fit_p2 (-e) (by omega) (by omega))
   rwa [show fval x * p2 (-e) = (n : Rat) by rw [hv, Rat.mul_assoc, Rat.mul_comm (p2 e), p2_neg, Rat.mul_one]] at this
 have HS1 : Hid (∀ w, Calls Tryz.prog 43 #[.int .i64 n] w fun r w' => r = .returned (sv (itoa n)) ∧ Below w.heap.size w w') := fun w => refShow_any n ⟨by omega, by omega⟩ w
 have HS2 : Hid (∀ w, Calls Tryz.prog 43 #[.int .i64 e] w fun r w' => r = .returned (sv (itoa e)) ∧ Below w.heap.size w w') := fun w => refShow_any e ⟨by omega, by omega⟩ w
 have hl1 : (itoa n).length ≤ 21 := itoa_length_le n (by omega) (by omega)
 have hl2 : (itoa e).length ≤ 21 := itoa_length_le e (by omega) (by omega)
 have HN : Hid (n % 2 = 1 ∧ 0 < n ∧ n < 9007199254740992) := ⟨ho, hp, hb⟩
 clear ho hp hb hv hx0 hden fitx fx lx
 rcases hk with hk | ⟨k, hk, hcv, hk2⟩
 all_goals
   go_enter Tryz.func44, Tryz.ntmps44
   go_wp2_with fail
   refine (HO.out _).mono ?_
   rintro r w1 ⟨v1, rfl, hr1, hb1⟩
   have HB1 := Lib.hid hb1
   have HR1 := Lib.hid hr1
   clear hb1 hr1
   go_wp2_with fail
   refine (HL.out _ _ HR1.out).mono ?_
   rintro r w2 ⟨rfl, hb2⟩
   have HB2 : Hid (Below w.heap.size w w2) := HB1.out.trans (hb2.mono HB1.out.size)
   clear hb2 HR1 HB1
   go_wp2_with fail
   refine (HO.out _).mono ?_
   rintro r w3 ⟨v3, rfl, hr3, hb3⟩
   have HB3 : Hid (Below w.heap.size w w3) := HB2.out.trans (hb3.mono HB2.out.size)
   have HR3 := Lib.hid hr3
   clear hb3 hr3 HB2
   go_wp2_with fail
   refine (HP.out _).mono ?_
   rintro r w4 ⟨v4, rfl, hr4, hb4⟩
   have HB4 : Hid (Below w.heap.size w w4) := HB3.out.trans (hb4.mono HB3.out.size)
   have HR4 := Lib.hid hr4
   have HR3' := Lib.hid (HR3.out.later hb4)
   clear hb4 hr4 HB3 HR3
   go_wp2_with fail
   refine (HM.out _ _ _ HR3'.out HR4.out).mono ?_
   rintro r w5 ⟨v5, rfl, hr5, hb5⟩
   have HB5 : Hid (Below w.heap.size w w5) := HB4.out.trans (hb5.mono HB4.out.size)
   clear HR3' HR4 HB4 hb5
   obtain ⟨S, ds, E, hd, hc, hq⟩ := hr5
   obtain ⟨rfl, rfl, hvv, hlen⟩ := whole_digits hc hd.small hq HN.out.1 HN.out.2.1 HN.out.2.2
   obtain ⟨a, c, rfl, hcap, hcells⟩ := hd.form
   have hne : ds ≠ [] := by
     rintro rfl
     have := HN.out.2.1
     rw [← hvv] at this
     simp [v24] at this
   obtain ⟨g, off, rfl, hcl, _⟩ := hcells.resolve_left hne
   have hsm : (v24 ds : Int) < 9007199254740992 := by rw [hvv]; exact HN.out.2.2
   have hdl : ∀ j, j < ds.length → (((v24 (ds.drop (j + 1)) : Nat) : Int) * 16777216 + ((ds.getD j 0 : Nat) : Int) = ((v24 (ds.drop j) : Nat) : Int)) ∧ ((v24 (ds.drop j) : Nat) : Int) < 9007199254740992 ∧ ((ds.getD j 0 : Nat) : Int) < 16777216 := by
     intro j hj
     have e1 := v24_drop hj
     have e2 := v24_drop_le ds j
     have e3 : ds.getD j 0 < 16777216 := by
       have : ds.getD j 0 = ds[j] := by simp [List.getD, hj]
       rw [this]; exact hd.small _ (List.getElem_mem hj)
     refine ⟨?_, ?_, ?_⟩ <;> omega
   have HDL := Lib.hid hdl
   have hbA : Below w5.heap.size w5 (w5.alloc (.cells #[.int .i64 1, .slice (some ⟨g, off, none⟩) ds.length c, .int .i64 0] 138)) := (Below.refl _ _).alloc (Nat.le_refl _) _
   have HCL := Lib.hid (fun k hk => box_cell hbA (hcl k hk))
   have HB6 := Lib.hid (HB5.out.trans (hbA.mono HB5.out.size))
   have hbx : BoxN (w5.alloc (.cells #[.int .i64 1, .slice (some ⟨g, off, none⟩) ds.length c, .int .i64 0] 138)) w5.heap.size 1 (.slice (some ⟨g, off, none⟩) ds.length c) 0 := heap_alloc_new w5 _
   obtain ⟨_, y1, y2, y4, _⟩ := hbx.cells
   have hln1 : 0 < ds.length := List.length_pos_iff.2 hne
   have hln2 : (ds.length : Int) ≤ 3 := by omega
   have HVV := Lib.hid hvv
   clear hbA hbx hcl hdl hd hq hc hcells HB5 hne hvv hsm
   have HY := Lib.hid (And.intro y1 y2)
   clear y1 y2 y4
   go_wp2_with fail
   generalize w5.alloc (.cells #[.int .i64 1, .slice (some ⟨g, off, none⟩) ds.length c, .int .i64 0] 138) = WX at *
   generalize w5.heap.size = g0 at *
   obtain ⟨y1, y2⟩ := HY.out
   go_loop [5, 6] (fun v i => ∃ k : Nat, k ≤ ds.length ∧ i = .int .i64 ((k : Int) - 1) ∧ v = .int .i64 ((v24 (ds.drop k) : Nat) : Int)) (fun _ i => (RowKit.intOf i + 1).toNat)
   case atStart => exact ⟨ds.length, Nat.le_refl _, rfl, by rw [List.drop_length]; rfl⟩
   case round =>
     obtain ⟨k, hk, rfl, rfl⟩ := hrel
     cases k with
     | zero =>
       rw [List.drop_zero, HVV.out]
       have e0 : ((0 : Nat) : Int) - 1 = -1 := by omega
       rw [e0]
       clear e0
       go_wp2_with fail
       go_loop [5, 7] (fun v i => v = .int .i64 n ∧ i = .int .i64 0) (fun _ _ => 0)
       case atStart => exact ⟨rfl, rfl⟩
       case round =>
         obtain ⟨rfl, rfl⟩ := hrel
         go_wp2_with fail
         refine (HS1.out _).mono ?_
         rintro r w6 ⟨rfl, hb6⟩
         have HB7 := Lib.hid (HB6.out.trans (hb6.mono HB6.out.size))
         clear hb6
         go_wp2_with fail
         refine (HS2.out _).mono ?_
         rintro r w7 ⟨rfl, hb7⟩
         have HB8 := Lib.hid (HB7.out.trans (hb7.mono HB7.out.size))
         clear hb7
         go_wp2
         go_ret
         exact ⟨ret_s (cat_b _ _), HB8.out⟩
     | succ j =>
       obtain ⟨f1, f2, f3⟩ := HDL.out j (by omega)
       have e0 : ((j + 1 : Nat) : Int) - 1 = (j : Int) := by omega
       rw [e0]
       clear e0
       have cj := HCL.out j (by omega)
       have hj1 : (j : Int) < (ds.length : Int) := by omega
       have f4 : (0 : Int) ≤ ((v24 (ds.drop (j + 1)) : Nat) : Int) := by omega
       have f5 : (0 : Int) ≤ ((ds.getD j 0 : Nat) : Int) := by omega
       have HF1 := Lib.hid f1
       have HF2 : Hid (((v24 (ds.drop j) : Nat) : Int) < 9007199254740992) := f2
       have f6 : ((v24 (ds.drop (j + 1)) : Nat) : Int) ≤ 536870912 := by omega
       clear f1 f2
       generalize hA : ((v24 (ds.drop (j + 1)) : Nat) : Int) = A at *
       generalize hD : ((ds.getD j 0 : Nat) : Int) = D at *
       clear hA hD
       go_wp2
       refine ⟨⟨j, by omega, rfl, by rw [HF1.out]⟩, ?_⟩
       show ((j : Int) - 1 + 1).toNat < ((j : Int) + 1).toNat
       omega
theorem lt53p {x : Nat} (hx : Fin64 x) : (FloatKind.f64.format.order x 4845873199050653696 == some .lt) = decide (fval x < 9007199254740992) := by
 show (Ieee.double.order x 4845873199050653696 == some .lt) = _
 rw [order_fin hx (by unfold Fin64 frung; decide), p53_val]
 by_cases h : fval x < 9007199254740992
 · rw [if_pos h, decide_eq_true h]; rfl
 · rw [if_neg h, decide_eq_false h]; split <;> rfl
set_option maxHeartbeats 4000000 in
set_option maxRecDepth 100000 in
theorem refText_pos (x : Nat) (l : List UInt8) (w : World) (fx : Fin64 x) (lx : x < 18446744073709551616) (h0 : 0 < fval x) (hl : TextR x l) :
   Calls Tryz.prog 44 #[.float .f64 x] w fun r w' => r = .returned (sv l) ∧ Below w.heap.size w w' := by
 obtain ⟨q, s1, s2⟩ := self_sub fx
 have rq : ∀ w, (binOp .sub 57 (.float .f64 x) (.float .f64 x)).run Tryz.prog w = .ok (.float .f64 q) w := fun w => run_float_arith w .sub _ .f64 x x _ s1
 clear s1
 have o1 := ord_is fx fx rfl
 have o2 : FloatKind.f64.format.order x 0 = some .gt := by rw [order_val fx fin0, fval0, if_neg (by grind), if_neg (by grind)]
 rcases hl with ⟨h, _⟩ | ⟨_, ⟨k, e, h1, h2, rfl⟩ | ⟨hn, n, e, ho, h1, h2, h3, h4, hv, rfl⟩⟩
 · exact absurd fx h
 · have hcv := conv_run fx e (by omega) (by omega)
   obtain ⟨a1, a2, a3⟩ := fwJ_val (n := k) (by omega) (by omega)
   have o3 : FloatKind.f64.format.order (floatOfInt .f64 k) x = some .eq := ord_is a1 fx (a3.trans e.symm)
   have o4 := lt53p fx
   rw [decide_eq_true (by
     rw [e]
     have := Rat.intCast_lt_intCast.2 h2
     exact this)] at o4
   have HS1 : Hid (∀ w, Calls Tryz.prog 43 #[.int .i64 k] w fun r w' => r = .returned (sv (itoa k)) ∧ Below w.heap.size w w') := fun w => refShow_any k ⟨by omega, by omega⟩ w
   clear a1 a2 a3 e fx lx h0
   go_enter Tryz.func44, Tryz.ntmps44
   go_wp2_with fail
   refine (HS1.out _).mono ?_
   rintro r w6 ⟨rfl, hb6⟩
   go_wp2
   go_ret
   exact ⟨rfl, hb6⟩
 · have hp : 0 < n := by
     apply Rat.intCast_pos.1
     apply Classical.byContradiction
     intro hc
     have hp2 := p2_pos e
     rw [hv] at h0
     have : (n : Rat) * p2 e ≤ 0 * p2 e := Rat.mul_le_mul_of_nonneg_right (by grind) (Rat.le_of_lt hp2)
     grind
   refine refText_odd x q n e w lx fx o1 rq s2 o2 ?_ ho hp h2 h3 h4 hv
   have o4 := lt53p fx
   by_cases hlt : fval x < 9007199254740992
   · right
     rw [decide_eq_true hlt] at o4
     obtain ⟨k, c1, c2, c3, c4⟩ := conv_trunc fx (Rat.le_of_lt h0) hlt
     obtain ⟨a1, a2, a3⟩ := fwJ_val (n := k) (by omega) (by omega)
     refine ⟨k, o4, fun w => run_convert_float_int w _ _ _ _ _ _ (by rw [Tryz.underlying57]; rfl) Tryz.underlying3 c1, ?_⟩
     have hoe : (FloatKind.f64.format.order (floatOfInt .f64 k) x == some .eq) = decide (fval (fwJ k) = fval x) := ord_eq a1 fx
     rw [hoe, a3, decide_eq_false_iff_not]
     intro ek
     have k1 : k < 9007199254740992 := Rat.intCast_lt_intCast.1 (by rw [ek]; exact hlt)
     exact hn ⟨k, ek.symm, by omega, k1⟩
   · left
     rw [decide_eq_false hlt] at o4
     exact o4
theorem TextR.flip {x : Nat} {l : List UInt8} (fx : Fin64 x) (lx : x < 18446744073709551616) (h0 : fval x < 0) (h : TextR x l) : ∃ r, l = 45 :: r ∧ TextR (fflip x) r := by
 obtain ⟨f1, f2, f3⟩ := eq_flipI fx lx
 rcases h with ⟨h, _⟩ | ⟨_, ⟨k, e, h1, h2, rfl⟩ | ⟨hn, n, e, ho, h1, h2, h3, h4, hv, rfl⟩⟩
 · exact absurd fx h
 · have hk : k < 0 := Rat.intCast_lt_intCast.1 (by rw [← e]; exact h0)
   refine ⟨itoa (-k), ?_, Or.inr ⟨f1, Or.inl ⟨-k, by rw [f3, e, Rat.intCast_neg], by omega, by omega, rfl⟩⟩⟩
   have := itoa_minusI (n := -k) (by omega)
   rwa [Int.neg_neg] at this
 · have hp : n < 0 := by
     apply Rat.intCast_lt_intCast.1
     show (n : Rat) < 0
     apply Classical.byContradiction
     intro hc
     have hp2 := p2_pos e
     have : 0 * p2 e ≤ (n : Rat) * p2 e := Rat.mul_le_mul_of_nonneg_right (by grind) (Rat.le_of_lt hp2)
     grind
   refine ⟨itoa (-n) ++ 98 :: itoa e, ?_, Or.inr ⟨f1, Or.inr ⟨?_, -n, e, by omega, by omega, by omega, h3, h4, ?_, rfl⟩⟩⟩
   · have := itoa_minusI (n := -n) (by omega)
     rw [Int.neg_neg] at this
     rw [this]; rfl
   · rintro ⟨k, ek, k1, k2⟩
     exact hn ⟨-k, by rw [Rat.intCast_neg, ← ek, f3]; grind, by omega, by omega⟩
   · rw [f3, hv, Rat.intCast_neg]; grind
set_option maxHeartbeats 4000000 in
set_option maxRecDepth 100000 in
theorem refText_any (x : Nat) (l : List UInt8) (w : World) (lx : x < 18446744073709551616) (hl : TextR x l) (hlen : l.length ≤ 43) :
   Calls Tryz.prog 44 #[.float .f64 x] w fun r w' => r = .returned (sv l) ∧ Below w.heap.size w w' := by
 rcases Nat.lt_trichotomy (frung x) 9218868437227405312 with h | h | h
 · have fx : Fin64 x := h
   by_cases hz : fval x = 0
   · obtain ⟨q, s1, s2⟩ := self_sub fx
     have rq : ∀ w, (binOp .sub 57 (.float .f64 x) (.float .f64 x)).run Tryz.prog w = .ok (.float .f64 q) w := fun w => run_float_arith w .sub _ .f64 x x _ s1
     have o1 := ord_is fx fx rfl
     have o2 : FloatKind.f64.format.order x 0 = some .eq := ord_is fx fin0 (by rw [hz, fval0])
     obtain rfl : l = [48] := by
       rw [hl.whole fx (k := 0) (by rw [hz]; rfl) (by omega) (by omega)]
       exact (itoa_rd (n := 0) (by decide)).2
     clear s1 hl fx h hz lx hlen
     go_enter Tryz.func44, Tryz.ntmps44
     go_wp2
     go_ret
     exact ⟨rfl, Below.refl _ _⟩
   by_cases hp : 0 < fval x
   · exact refText_pos x l w fx lx hp hl
   · have hneg : fval x < 0 := by grind
     obtain ⟨q, s1, s2⟩ := self_sub fx
     have rq : ∀ w, (binOp .sub 57 (.float .f64 x) (.float .f64 x)).run Tryz.prog w = .ok (.float .f64 q) w := fun w => run_float_arith w .sub _ .f64 x x _ s1
     have o1 := ord_is fx fx rfl
     have o2 : FloatKind.f64.format.order x 0 = some .lt := by rw [order_val fx fin0, fval0, if_pos hneg]
     obtain ⟨r, rfl, hr⟩ := hl.flip fx lx hneg
     obtain ⟨f1, f2, f3⟩ := eq_flipI fx lx
     have HR : Hid (∀ w, Calls Tryz.prog 44 #[.float .f64 (fflip x)] w fun r' w' => r' = .returned (sv r) ∧ Below w.heap.size w w') := fun w => refText_pos (fflip x) r w f1 f2 (by rw [f3]; grind) hr
     have rn := run_negF x lx
     have hlr : r.length ≤ 42 := by rw [List.length_cons] at hlen; omega
     clear s1 hl hr fx h hz hp lx hlen f1 f2 f3 hneg
     generalize fflip x = z at *
     go_enter Tryz.func44, Tryz.ntmps44
     go_wp2_with fail
     refine (HR.out _).mono ?_
     rintro r' w6 ⟨rfl, hb6⟩
     go_wp2
     go_ret
     exact ⟨ret_s (cat_minusI r), hb6⟩
 · have o1 : FloatKind.f64.format.order x x = some .eq := by
     have := eql_self x
     rw [decide_eq_true (by omega)] at this
     exact eq_of_beq this
   have rs := run_sub_nan x x (sub_inf h)
   have h3 : ∀ w, FloatKind.f64.format.order (nanW x x w) 0 = none := fun w => nan_order (nanW_nan x x w).1 0
   obtain rfl : l = [] := by
     rcases hl with ⟨_, e⟩ | ⟨fx, _⟩
     · exact e
     · exact absurd fx (by unfold Fin64; omega)
   clear hl h lx hlen
   go_enter Tryz.func44, Tryz.ntmps44
   go_wp2
   go_ret
   exact ⟨rfl, (Below.refl _ _).drew⟩
 · have o1 : FloatKind.f64.format.order x x = none := nan_order h x
   obtain rfl : l = [] := by
     rcases hl with ⟨_, e⟩ | ⟨fx, _⟩
     · exact e
     · exact absurd fx (by unfold Fin64; omega)
   clear hl h lx hlen
   go_enter Tryz.func44, Tryz.ntmps44
   go_wp2
   go_ret
   exact ⟨rfl, Below.refl _ _⟩
theorem TextR.len {x : Nat} {l : List UInt8} (h : TextR x l) : l.length ≤ 43 := by
 by_cases hx : Fin64 x
 · obtain ⟨_, _, _, _, h⟩ := h.tell hx
   exact h
 · rcases h with ⟨_, rfl⟩ | ⟨h, _⟩
   · simp
   · exact absurd h hx
end
end Go.Proofs.YtofklahgpkmfmaaGreatDoor
