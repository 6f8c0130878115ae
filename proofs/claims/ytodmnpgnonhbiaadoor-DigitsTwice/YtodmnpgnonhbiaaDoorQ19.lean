/- Own texts, put together: Jh Ji Jj Jk. -/
import Derived.Test.YtodmnpgnonhbiaaDoorQ16
import Derived.Test.YtodmnpgnonhbiaaDoorQ18
namespace Go.Proofs.YtodmnpgnonhbiaaDoor
/- Package digits: what follows of the contracts, and the statements' helper awake. -/
section
open Go.RowKit Go.Shelf Go.Lib
theorem FloatR.ok {l : List UInt8} {x v : Nat} {er n e : Int} (h : FloatR l x er) (ht : rdTell l = some (n, e)) (fv : Fin64 v) (lv : v < 18446744073709551616) (hv : fval v = (n : Rat) * p2 e) (h0 : n = 0 → v = 0) : x = v ∧ er = 0 := by
 rcases h with ⟨h1, _⟩ | ⟨n', e', ok, h1, h2, h3⟩
 · rw [h1] at ht; cases ht
 rw [h1] at ht
 simp at ht
 obtain ⟨rfl, rfl⟩ := ht
 rcases h2 with ⟨rfl, fx, lx, vx, z⟩ | ⟨rfl, _, hn⟩
 · refine ⟨?_, h3⟩
   by_cases hz : n' = 0
   · rw [z hz, h0 hz]
   · refine fval_inj fx fv lx lv (by rw [vx, hv]) ?_
     rw [vx]
     intro e0
     have hp := p2_pos e'
     have hn0 : (n' : Rat) = 0 := by
       rcases Rat.mul_eq_zero.1 e0 with h | h
       · exact h
       · rw [h] at hp; exact absurd hp Rat.lt_irrefl
     exact hz (Rat.intCast_inj.1 (hn0.trans rfl))
 · exact absurd hv (hn v fv lv)
theorem FloatR.no {l : List UInt8} {x : Nat} {er n e : Int} (h : FloatR l x er) (ht : rdTell l = some (n, e)) (hn : ∀ y, Fin64 y → y < 18446744073709551616 → fval y ≠ (n : Rat) * p2 e) : x = 0 ∧ er = 10 := by
 rcases h with ⟨h1, _⟩ | ⟨n', e', ok, h1, h2, h3⟩
 · rw [h1] at ht; cases ht
 rw [h1] at ht
 simp at ht
 obtain ⟨rfl, rfl⟩ := ht
 rcases h2 with ⟨rfl, fx, lx, vx, z⟩ | ⟨rfl, hx, _⟩
 · exact absurd vx (hn x fx lx)
 · exact ⟨hx, h3⟩
theorem FloatR.form {l : List UInt8} {x : Nat} {er : Int} (h : FloatR l x er) (ht : rdTell l = none) : x = 0 ∧ er = 4 := by
 rcases h with ⟨_, h⟩ | ⟨n', e', ok, h1, _⟩
 · exact h
 · rw [h1] at ht; cases ht
theorem odd_uniq {n n' e e' : Int} (h1 : n % 2 = 1) (h2 : n' % 2 = 1) (h : (n : Rat) * p2 e = (n' : Rat) * p2 e') : n = n' ∧ e = e' := by
 have key : ∀ {n n' e e' : Int}, n % 2 = 1 → n' % 2 = 1 → (n : Rat) * p2 e = (n' : Rat) * p2 e' → e ≤ e' → n = n' ∧ e = e' := by
   intro n n' e e' h1 h2 h hle
   obtain ⟨k, hk⟩ : ∃ k : Nat, e' = (k : Int) + e := ⟨(e' - e).toNat, by omega⟩
   rw [hk, p2_add, ← Rat.mul_assoc, p2_nat] at h
   have h' : (n : Rat) * p2 e = ((n' * ((2 ^ k : Nat) : Int) : Int) : Rat) * p2 e := by rw [h, Rat.intCast_mul]; rfl
   have := int_eq (p2_pos e) h'
   cases k with
   | zero => exact ⟨by rw [this, Nat.pow_zero]; omega, by omega⟩
   | succ k =>
     exfalso
     rw [Nat.pow_succ, Int.natCast_mul, ← Int.mul_assoc] at this
     omega
 rcases Int.le_total e e' with hl | hl
 · exact key h1 h2 h hl
 · have := key h2 h1 h.symm hl
   exact ⟨this.1.symm, this.2.symm⟩
theorem TextR.whole {x : Nat} {l : List UInt8} (h : TextR x l) (hx : Fin64 x) {k : Int} (hk : fval x = (k : Rat)) (h1 : -9007199254740992 < k) (h2 : k < 9007199254740992) : l = itoa k := by
 rcases h with ⟨h, _⟩ | ⟨_, ⟨k', e, _, _, hl⟩ | ⟨h, _⟩⟩
 · exact absurd hx h
 · rw [hl, Rat.intCast_inj.1 (e.symm.trans hk)]
 · exact absurd ⟨k, hk, h1, h2⟩ h
theorem TextR.odd {x : Nat} {l : List UInt8} (h : TextR x l) (hx : Fin64 x) {n e : Int} (ho : n % 2 = 1) (hv : fval x = (n : Rat) * p2 e) (hn : ¬ ∃ k : Int, fval x = (k : Rat) ∧ -9007199254740992 < k ∧ k < 9007199254740992) : l = itoa n ++ 98 :: itoa e := by
 rcases h with ⟨h, _⟩ | ⟨_, ⟨k', e', g1, g2, _⟩ | ⟨_, n', e', ho', _, _, _, _, hv', hl⟩⟩
 · exact absurd hx h
 · exact absurd ⟨k', e', g1, g2⟩ hn
 · obtain ⟨rfl, rfl⟩ := odd_uniq ho ho' (hv.symm.trans hv')
   exact hl
theorem TextR.tell {x : Nat} {l : List UInt8} (h : TextR x l) (hx : Fin64 x) : ∃ n e, rdTell l = some (n, e) ∧ fval x = (n : Rat) * p2 e ∧ l.length ≤ 43 := by
 rcases h with ⟨h, _⟩ | ⟨_, ⟨k, e, h1, h2, rfl⟩ | ⟨_, n, e, _, h1, h2, h3, h4, hv, rfl⟩⟩
 · exact absurd hx h
 · have ht := tell_whole (n := k) ⟨by omega, by omega⟩
   exact ⟨k, 0, ht, by rw [e, p2_zero, Rat.mul_one], tell_length ht⟩
 · have ht := tell_both (n := n) (e := e) ⟨by omega, by omega⟩ ⟨by omega, by omega⟩
   exact ⟨n, e, ht, hv, tell_length ht⟩
theorem TextR.same {x y : Nat} {l r : List UInt8} (hl : TextR x l) (hr : TextR y r) (hx : Fin64 x) : l = r ↔ (Fin64 y ∧ fval x = fval y) := by
 constructor
 · rintro rfl
   obtain ⟨n, e, ht, hv, _⟩ := hl.tell hx
   by_cases hy : Fin64 y
   · obtain ⟨n', e', ht', hv', _⟩ := hr.tell hy
     rw [ht] at ht'
     simp at ht'
     obtain ⟨rfl, rfl⟩ := ht'
     exact ⟨hy, by rw [hv, hv']⟩
   · exfalso
     rcases hr with ⟨_, rfl⟩ | ⟨h, _⟩
     · rw [show rdTell [] = none by decide] at ht; cases ht
     · exact hy h
 · rintro ⟨hy, he⟩
   rcases hr with ⟨h, _⟩ | ⟨_, ⟨k, e, h1, h2, rfl⟩ | ⟨hn, n, e, ho, h1, h2, h3, h4, hv, rfl⟩⟩
   · exact absurd hy h
   · exact hl.whole hx (by rw [he, e]) h1 h2
   · exact hl.odd hx ho (by rw [he, hv]) (by rw [he]; exact hn)
theorem w075 : Fin64 4604930618986332160 ∧ fval 4604930618986332160 = ((3 : Int) : Rat) * p2 (-2) := by
 refine ⟨by unfold Fin64 frung; decide, ?_⟩
 rw [(fval_pos_lt (r := 4604930618986332160) (by omega)).1, show fmag 4604930618986332160 = 3 * 2 ^ 51 by decide, show fpl 4604930618986332160 = -53 by decide, nat_mul_p2, Rat.mul_assoc, ← p2_add]
 rfl
theorem n075 : ¬ ∃ k : Int, fval 4604930618986332160 = (k : Rat) ∧ -9007199254740992 < k ∧ k < 9007199254740992 := by
 rintro ⟨k, e, _, _⟩
 rw [w075.2] at e
 have e2 : ((3 : Int) : Rat) * p2 (-2) = ((4 * k : Int) : Rat) * p2 (-2) := by
   rw [e, Rat.intCast_mul, Rat.mul_comm ((4 : Int) : Rat), Rat.mul_assoc]
   have : ((4 : Int) : Rat) * p2 (-2) = 1 := by
     have h := p2_neg 2
     rw [Rat.mul_comm] at h
     exact h
   rw [this, Rat.mul_one]
 have := int_eq (p2_pos _) e2
 omega
theorem t075 : itoa 3 ++ 98 :: itoa (-2) = [51, 98, 45, 50] := by
 have a : itoa 3 = [51] := (itoa_rd (l := [51]) (n := 3) (by decide)).2
 have b : itoa (-2) = [45, 50] := (itoa_rd (l := [45, 50]) (n := -2) (by decide)).2
 rw [a, b]; rfl
set_option maxHeartbeats 2000000 in
set_option maxRecDepth 100000 in
theorem awake8_any (w : World) (hT : T8 w) : Calls Tryd.prog 9 #[] w fun e w' => e = .returned (.bool true) ∧ Below w.heap.size w w' := by
 obtain ⟨x, er, hR, hC⟩ := float_any ⟨#[51, 98, 45, 50]⟩ (by decide)
 obtain ⟨rfl, rfl⟩ := hR.ok (n := 3) (e := -2) (by decide) w075.1 (by omega) w075.2 (by omega)
 obtain ⟨l, hl, hX⟩ := text_any 4604930618986332160 (by omega)
 obtain rfl := hl.odd w075.1 (n := 3) (e := -2) (by decide) w075.2 n075
 rw [t075] at hX
 have HF : Hid (∀ w, Tab w → Calls Tryd.prog 10 #[.string ⟨#[51, 98, 45, 50]⟩] w fun r w' => r = .returned (.tuple #[.float .f64 4604930618986332160, .int .i64 0]) ∧ Below w.heap.size w w') := hC
 have HX : Hid (∀ w, T8 w → Calls Tryd.prog 15 #[.float .f64 4604930618986332160] w fun r w' => r = .returned (.string ⟨#[51, 98, 45, 50]⟩) ∧ Below w.heap.size w w') := hX
 have HI : Hid (∀ w, Calls Tryd.prog 12 #[.string ⟨#[45, 49, 50]⟩] w fun e w' => e = .returned (.tuple #[.int .i64 (-12), .int .i64 0]) ∧ w' = w) := fun w => by
   have := int_any ⟨#[45, 49, 50]⟩ w (by decide)
   rwa [show rdInt (⟨#[45, 49, 50]⟩ : ByteArray).data.toList = some (-12) by decide] at this
 have HS : Hid (∀ w, T8 w → Calls Tryd.prog 17 #[.int .i64 (-12)] w fun e w' => e = .returned (.string ⟨#[45, 49, 50]⟩) ∧ Below w.heap.size w w') := fun w hT => by
   have := show_any (-12) ⟨by omega, by omega⟩ w hT
   rwa [show itoa (-12) = [45, 49, 50] from (itoa_rd (l := [45, 49, 50]) (n := -12) (by decide)).2] at this
 have HT : Hid (T8 w) := hT
 have HB : Hid (Below w.heap.size w w) := Below.refl _ _
 have o1 : (FloatKind.f64.format.order 4604930618986332160 4604930618986332160 == some .eq) = true := by decide
 clear hT hC hX hR hl
 obtain ⟨w0, hw0⟩ : ∃ w0, w0 = w := ⟨w, rfl⟩
 rw [show Below w.heap.size w = Below w0.heap.size w0 by rw [hw0]] at HB ⊢
 clear hw0
 go_enter Tryd.func9, Tryd.ntmps9
 go_wp2_with (first
   | (go_at_call 10; refine (HF.out _ HT.out.1).mono ?_; rintro e w' ⟨rfl, hb⟩; replace HT := Lib.hid (HT.out.later hb); replace HB := Lib.hid (HB.out.trans (hb.mono HB.out.size)); clear hb)
   | (go_at_call 12; refine (HI.out _).mono ?_; rintro e w' ⟨rfl, rfl⟩)
   | (go_at_call 15; refine (HX.out _ HT.out).mono ?_; rintro e w' ⟨rfl, hb⟩; replace HT := Lib.hid (HT.out.later hb); replace HB := Lib.hid (HB.out.trans (hb.mono HB.out.size)); clear hb)
   | (go_at_call 17; refine (HS.out _ HT.out).mono ?_; rintro e w' ⟨rfl, hb⟩; replace HT := Lib.hid (HT.out.later hb); replace HB := Lib.hid (HB.out.trans (hb.mono HB.out.size)); clear hb))
 go_ret
 exact ⟨rfl, HB.out⟩
end

/- The laws DigitsBack, DigitsTwice, DigitsWhole. (gen_ji.py) -/
section
open Go.RowKit Go.Shelf Go.Lib
theorem float_sv (l : List UInt8) (hl : l.length ≤ 100) : ∃ x er, FloatR l x er ∧ ∀ w, Tab w → Calls Tryd.prog 10 #[sv l] w fun r w' => r = .returned (.tuple #[.float .f64 x, .int .i64 er]) ∧ Below w.heap.size w w' :=
 float_any ⟨l.toArray⟩ (by rw [Lib.size_eq]; show l.length ≤ _; omega)
theorem ord_eq {a b : Nat} (ha : Fin64 a) (hb : Fin64 b) : (FloatKind.f64.format.order a b == some .eq) = decide (fval a = fval b) := by
 rw [order_val ha hb]
 by_cases h : fval a = fval b
 · rw [decide_eq_true h, h, if_neg Rat.lt_irrefl, if_pos rfl]; rfl
 · rw [decide_eq_false h, if_neg h]; split <;> rfl
theorem ord_is {a b : Nat} (ha : Fin64 a) (hb : Fin64 b) (h : fval a = fval b) : FloatKind.f64.format.order a b = some .eq := by
 rw [order_val ha hb, h, if_neg Rat.lt_irrefl, if_pos rfl]
theorem sub_inf {b : Nat} (h : frung b = 9218868437227405312) : floatBits .sub .f64 b b = none := by
 show ((Ieee.double.read b).sum (Ieee.double.read b).opposite).map Ieee.double.write = none
 rw [read_inf h]
 unfold Ieee.Datum.opposite Ieee.Datum.sum
 cases fneg b <;> rfl
theorem ordJ_fin_inf {b c : Nat} (hb : Fin64 b) (hc : frung c = 9218868437227405312) : Ieee.double.order b c = some (if fneg c then .gt else .lt) := by
 unfold Ieee.Format.order
 rw [read_fin hb, read_inf hc]; rfl
theorem sv_eq (l r : List UInt8) : (l == r) = decide (l = r) := by
 by_cases h : l = r
 · rw [decide_eq_true h, h]; simp
 · rw [decide_eq_false h, beq_eq_false_iff_ne]; exact h
set_option maxHeartbeats 4000000 in
set_option maxRecDepth 100000 in
theorem back8 (x y : Nat) (n : Int) (w : World) (hT : T8 w) (lx : x < 18446744073709551616) (ly : y < 18446744073709551616) (hn : InR n) :
   Calls Tryd.prog 6 #[.float .f64 x, .float .f64 y, .int .i64 n] w fun e w' => e = .returned (.bool true) ∧ Below w.heap.size w w' := by
 have HT : Hid (T8 w) := hT
 have HB : Hid (Below w.heap.size w w) := Below.refl _ _
 have HA : Hid (∀ w, T8 w → Calls Tryd.prog 9 #[] w fun e w' => e = .returned (.bool true) ∧ Below w.heap.size w w') := awake8_any
 obtain ⟨w0, hw0⟩ : ∃ w0, w0 = w := ⟨w, rfl⟩
 rw [show Below w.heap.size w = Below w0.heap.size w0 by rw [hw0]] at HB ⊢
 clear hw0 hT
 have HS : Hid (∀ w, T8 w → Calls Tryd.prog 17 #[.int .i64 n] w fun e w' => e = .returned (sv (itoa n)) ∧ Below w.heap.size w w') := fun w hT => show_any n hn w hT
 have HI : Hid (∀ w, Calls Tryd.prog 12 #[sv (itoa n)] w fun e w' => e = .returned (.tuple #[.int .i64 n, .int .i64 0]) ∧ w' = w) := fun w => by
   have := int_sv (itoa n) w (Nat.le_trans (itoa_length_le n hn.1 hn.2) (by omega))
   rwa [rd_itoa hn] at this
 clear hn
 obtain ⟨l, hl, hX⟩ := text_any x lx
 have HX : Hid (∀ w, T8 w → Calls Tryd.prog 15 #[.float .f64 x] w fun r w' => r = .returned (sv l) ∧ Below w.heap.size w w') := hX
 clear hX
 rcases Nat.lt_trichotomy (frung x) 9218868437227405312 with h | h | h
 · have fx : Fin64 x := h
   obtain ⟨q, s1, s2⟩ := self_sub fx
   have rq : ∀ w, (binOp .sub 23 (.float .f64 x) (.float .f64 x)).run Tryd.prog w = .ok (.float .f64 q) w := fun w => run_float_arith w .sub _ .f64 x x _ s1
   clear s1
   have o1 := ord_is fx fx rfl
   obtain ⟨m, e, ht, hv, hlen⟩ := hl.tell fx
   obtain ⟨z, er, hR, hF⟩ := float_sv l (by omega)
   have hz : er = 0 ∧ Fin64 z ∧ z < 18446744073709551616 ∧ fval z = fval x := by
     rcases hR with ⟨h1, _⟩ | ⟨m', e', ok, h1, h2, h3⟩
     · rw [h1] at ht; cases ht
     rw [h1] at ht
     simp at ht
     obtain ⟨rfl, rfl⟩ := ht
     rcases h2 with ⟨rfl, fz, lz, vz, _⟩ | ⟨rfl, _, hno⟩
     · exact ⟨h3, fz, lz, by rw [vz, hv]⟩
     · exact absurd hv (hno x fx lx)
   obtain ⟨rfl, fz, lz, vz⟩ := hz
   have HF : Hid (∀ w, Tab w → Calls Tryd.prog 10 #[sv l] w fun r w' => r = .returned (.tuple #[.float .f64 z, .int .i64 0]) ∧ Below w.heap.size w w') := hF
   have o2 := ord_is fz fx vz
   obtain ⟨r, hr, hY⟩ := text_any y ly
   have HY : Hid (∀ w, T8 w → Calls Tryd.prog 15 #[.float .f64 y] w fun r' w' => r' = .returned (sv r) ∧ Below w.heap.size w w') := hY
   have hsame := hl.same hr fx
   have heq := sv_eq l r
   clear hY hF hR ht hv vz fz lz
   by_cases hy : 9218868437227405312 < frung y
   · have o3 : FloatKind.f64.format.order y y = none := nan_order hy y
     clear hsame heq hl hr hy lx ly fx h hlen
     go_enter Tryd.func6, Tryd.ntmps6
     go_wp2_with fail
     refine (HA.out _ HT.out).mono ?_
     rintro e w' ⟨rfl, hb⟩
     replace HT := Lib.hid (HT.out.later hb)
     replace HB := Lib.hid (HB.out.trans (hb.mono HB.out.size))
     clear hb
     go_wp2_with fail
     refine (HS.out _ HT.out).mono ?_
     rintro e w' ⟨rfl, hb⟩
     replace HT := Lib.hid (HT.out.later hb)
     replace HB := Lib.hid (HB.out.trans (hb.mono HB.out.size))
     clear hb
     go_wp2_with fail
     refine (HI.out _).mono ?_
     rintro e w' ⟨rfl, rfl⟩
     go_wp2_with fail
     refine (HX.out _ HT.out).mono ?_
     rintro e w' ⟨rfl, hb⟩
     replace HT := Lib.hid (HT.out.later hb)
     replace HB := Lib.hid (HB.out.trans (hb.mono HB.out.size))
     clear hb
     go_wp2_with fail
     refine (HF.out _ HT.out.1).mono ?_
     rintro e w' ⟨rfl, hb⟩
     replace HT := Lib.hid (HT.out.later hb)
     replace HB := Lib.hid (HB.out.trans (hb.mono HB.out.size))
     clear hb
     go_wp2
     go_ret
     exact ⟨rfl, HB.out⟩
   · have o3 : FloatKind.f64.format.order y y = some .eq := by
       have := eql_self y
       rw [decide_eq_true (by omega)] at this
       exact eq_of_beq this
     have o4 : (FloatKind.f64.format.order x y == some .eq) = decide (l = r) := by
       by_cases fy : Fin64 y
       · rw [ord_eq fx fy]
         exact decide_eq_decide.2 ⟨fun e => hsame.2 ⟨fy, e⟩, fun e => (hsame.1 e).2⟩
       · have hi : frung y = 9218868437227405312 := by unfold Fin64 at fy; omega
         rw [decide_eq_false (fun e => fy (hsame.1 e).1)]
         show (Ieee.double.order x y == some .eq) = false
         have : Ieee.double.order x y = some (if fneg y then .gt else .lt) := ordJ_fin_inf fx hi
         rw [this]
         cases fneg y <;> rfl
     obtain ⟨t, ht⟩ : ∃ t, decide (l = r) = t := ⟨_, rfl⟩
     rw [ht] at o4 heq
     clear hsame hl hr hy lx ly fx h hlen ht
     go_enter Tryd.func6, Tryd.ntmps6
     go_wp2_with fail
     refine (HA.out _ HT.out).mono ?_
     rintro e w' ⟨rfl, hb⟩
     replace HT := Lib.hid (HT.out.later hb)
     replace HB := Lib.hid (HB.out.trans (hb.mono HB.out.size))
     clear hb
     go_wp2_with fail
     refine (HS.out _ HT.out).mono ?_
     rintro e w' ⟨rfl, hb⟩
     replace HT := Lib.hid (HT.out.later hb)
     replace HB := Lib.hid (HB.out.trans (hb.mono HB.out.size))
     clear hb
     go_wp2_with fail
     refine (HI.out _).mono ?_
     rintro e w' ⟨rfl, rfl⟩
     go_wp2_with fail
     refine (HX.out _ HT.out).mono ?_
     rintro e w' ⟨rfl, hb⟩
     replace HT := Lib.hid (HT.out.later hb)
     replace HB := Lib.hid (HB.out.trans (hb.mono HB.out.size))
     clear hb
     go_wp2_with fail
     refine (HF.out _ HT.out.1).mono ?_
     rintro e w' ⟨rfl, hb⟩
     replace HT := Lib.hid (HT.out.later hb)
     replace HB := Lib.hid (HB.out.trans (hb.mono HB.out.size))
     clear hb
     go_wp2_with fail
     refine (HX.out _ HT.out).mono ?_
     rintro e w' ⟨rfl, hb⟩
     replace HT := Lib.hid (HT.out.later hb)
     replace HB := Lib.hid (HB.out.trans (hb.mono HB.out.size))
     clear hb
     go_wp2_with fail
     refine (HY.out _ HT.out).mono ?_
     rintro e w' ⟨rfl, hb⟩
     replace HT := Lib.hid (HT.out.later hb)
     replace HB := Lib.hid (HB.out.trans (hb.mono HB.out.size))
     clear hb
     go_wp2
     go_ret
     exact ⟨rfl, HB.out⟩
 · have o1 : FloatKind.f64.format.order x x = some .eq := by
     have := eql_self x
     rw [decide_eq_true (by omega)] at this
     exact eq_of_beq this
   have rs := run_sub_nan x x (sub_inf h)
   have h3 : ∀ w, FloatKind.f64.format.order (nanW x x w) 0 = none := fun w => nan_order (nanW_nan x x w).1 0
   obtain rfl : l = [] := by
     rcases hl with ⟨_, e⟩ | ⟨fx, _⟩
     · exact e
     · exact absurd fx (by unfold Fin64; omega)
   clear hl h lx ly
   go_enter Tryd.func6, Tryd.ntmps6
   go_wp2_with fail
   refine (HA.out _ HT.out).mono ?_
   rintro e w' ⟨rfl, hb⟩
   replace HT := Lib.hid (HT.out.later hb)
   replace HB := Lib.hid (HB.out.trans (hb.mono HB.out.size))
   clear hb
   go_wp2_with fail
   refine (HS.out _ HT.out).mono ?_
   rintro e w' ⟨rfl, hb⟩
   replace HT := Lib.hid (HT.out.later hb)
   replace HB := Lib.hid (HB.out.trans (hb.mono HB.out.size))
   clear hb
   go_wp2_with fail
   refine (HI.out _).mono ?_
   rintro e w' ⟨rfl, rfl⟩
   go_wp2_with fail
   refine (HX.out _ (HT.out.later (Below.refl _ w').drew)).mono ?_
   rintro e w2 ⟨rfl, hb⟩
   go_wp2
   go_ret
   exact ⟨rfl, HB.out.drew.trans (hb.mono HB.out.drew.size)⟩
 · have o1 : FloatKind.f64.format.order x x = none := nan_order h x
   obtain rfl : l = [] := by
     rcases hl with ⟨_, e⟩ | ⟨fx, _⟩
     · exact e
     · exact absurd fx (by unfold Fin64; omega)
   clear hl h lx ly
   go_enter Tryd.func6, Tryd.ntmps6
   go_wp2_with fail
   refine (HA.out _ HT.out).mono ?_
   rintro e w' ⟨rfl, hb⟩
   replace HT := Lib.hid (HT.out.later hb)
   replace HB := Lib.hid (HB.out.trans (hb.mono HB.out.size))
   clear hb
   go_wp2_with fail
   refine (HS.out _ HT.out).mono ?_
   rintro e w' ⟨rfl, hb⟩
   replace HT := Lib.hid (HT.out.later hb)
   replace HB := Lib.hid (HB.out.trans (hb.mono HB.out.size))
   clear hb
   go_wp2_with fail
   refine (HI.out _).mono ?_
   rintro e w' ⟨rfl, rfl⟩
   go_wp2_with fail
   refine (HX.out _ HT.out).mono ?_
   rintro e w' ⟨rfl, hb⟩
   replace HT := Lib.hid (HT.out.later hb)
   replace HB := Lib.hid (HB.out.trans (hb.mono HB.out.size))
   clear hb
   go_wp2
   go_ret
   exact ⟨rfl, HB.out⟩
end

/- The laws DigitsTwice, DigitsWhole. (gen_ji.py) -/
section
open Go.RowKit Go.Shelf Go.Lib
theorem float_cat (a b : List UInt8) (hl : (a ++ 98 :: b).length ≤ 100) : ∃ x er, FloatR (a ++ 98 :: b) x er ∧ ∀ w, Tab w → Calls Tryd.prog 10 #[.string ((⟨a.toArray⟩ : ByteArray) ++ ⟨#[98]⟩ ++ ⟨b.toArray⟩)] w fun r w' => r = .returned (.tuple #[.float .f64 x, .int .i64 er]) ∧ Below w.heap.size w w' := by
 obtain ⟨x, er, h1, h2⟩ := float_sv (a ++ 98 :: b) hl
 refine ⟨x, er, h1, fun w hT => ?_⟩
 rw [cat_b]
 exact h2 w hT
theorem cat_minus (a : List UInt8) : (⟨#[45]⟩ : ByteArray) ++ ⟨a.toArray⟩ = ⟨(45 :: a).toArray⟩ := by
 apply ByteArray.ext
 simp [ByteArray.data_append]
theorem itoa_minus {n : Int} (h : 0 < n) : itoa (-n) = 45 :: itoa n := by
 obtain ⟨u, rfl⟩ : ∃ u : Nat, n = (u : Int) := ⟨n.toNat, by omega⟩
 rw [itoa_neg u (by omega), itoa_nonneg]
theorem eq_flip {x : Nat} (hx : Fin64 x) (lx : x < 18446744073709551616) : Fin64 (fflip x) ∧ fflip x < 18446744073709551616 ∧ fval (fflip x) = -fval x :=
 ⟨by unfold Fin64; rw [frung_flip lx]; exact hx, flip_lt lx, fval_flip lx hx⟩
set_option maxHeartbeats 4000000 in
set_option maxRecDepth 100000 in
theorem twice8 (n e : Int) (w : World) (hT : T8 w) (hn : InR n) (he : InR e) :
   Calls Tryd.prog 7 #[.int .i64 n, .int .i64 e] w fun e w' => e = .returned (.bool true) ∧ Below w.heap.size w w' := by
 have HT : Hid (T8 w) := hT
 have HB : Hid (Below w.heap.size w w) := Below.refl _ _
 have HA : Hid (∀ w, T8 w → Calls Tryd.prog 9 #[] w fun e w' => e = .returned (.bool true) ∧ Below w.heap.size w w') := awake8_any
 obtain ⟨w0, hw0⟩ : ∃ w0, w0 = w := ⟨w, rfl⟩
 rw [show Below w.heap.size w = Below w0.heap.size w0 by rw [hw0]] at HB ⊢
 clear hw0 hT
 by_cases h1 : n < 0
 · clear hn he
   go_enter Tryd.func7, Tryd.ntmps7
   go_wp2_with (first | (go_at_call 9; refine (HA.out _ HT.out).mono ?_; rintro e' w' ⟨rfl, hb⟩; replace HT := Lib.hid (HT.out.later hb); replace HB := Lib.hid (HB.out.trans (hb.mono HB.out.size)); clear hb))
   all_goals (go_ret; exact ⟨rfl, HB.out⟩)
 by_cases h2 : n % 2 = 1
 · have hm : n.tmod 2 = 1 := by rw [Int.tmod_eq_emod_of_nonneg (by omega)]; exact h2
   clear hn he h2
   go_enter Tryd.func7, Tryd.ntmps7
   go_wp2_with (first | (go_at_call 9; refine (HA.out _ HT.out).mono ?_; rintro e' w' ⟨rfl, hb⟩; replace HT := Lib.hid (HT.out.later hb); replace HB := Lib.hid (HB.out.trans (hb.mono HB.out.size)); clear hb))
   all_goals (go_ret; exact ⟨rfl, HB.out⟩)
 have hm : n.tmod 2 = 0 := by rw [Int.tmod_eq_emod_of_nonneg (by omega)]; omega
 by_cases h3 : e = -9223372036854775808
 · subst h3
   clear hn he
   go_enter Tryd.func7, Tryd.ntmps7
   go_wp2_with (first | (go_at_call 9; refine (HA.out _ HT.out).mono ?_; rintro e' w' ⟨rfl, hb⟩; replace HT := Lib.hid (HT.out.later hb); replace HB := Lib.hid (HB.out.trans (hb.mono HB.out.size)); clear hb))
   all_goals (go_ret; exact ⟨rfl, HB.out⟩)
 by_cases h4 : e = 9223372036854775807
 · subst h4
   clear hn he
   go_enter Tryd.func7, Tryd.ntmps7
   go_wp2_with (first | (go_at_call 9; refine (HA.out _ HT.out).mono ?_; rintro e' w' ⟨rfl, hb⟩; replace HT := Lib.hid (HT.out.later hb); replace HB := Lib.hid (HB.out.trans (hb.mono HB.out.size)); clear hb))
   all_goals (go_ret; exact ⟨rfl, HB.out⟩)
 by_cases h5 : n = 0
 · subst h5
   clear hn he
   go_enter Tryd.func7, Tryd.ntmps7
   go_wp2_with (first | (go_at_call 9; refine (HA.out _ HT.out).mono ?_; rintro e' w' ⟨rfl, hb⟩; replace HT := Lib.hid (HT.out.later hb); replace HB := Lib.hid (HB.out.trans (hb.mono HB.out.size)); clear hb))
   all_goals (go_ret; exact ⟨rfl, HB.out⟩)
 obtain ⟨n1, n2⟩ := hn
 obtain ⟨e1, e2⟩ := he
 have hp : 0 < n := by omega
 have l1 : (itoa n).length ≤ 21 := itoa_length_le n n1 n2
 have l2 : (itoa e).length ≤ 21 := itoa_length_le e e1 e2
 obtain ⟨k, rfl⟩ : ∃ k, n = 2 * k := ⟨n / 2, by omega⟩
 have hq : (2 * k).tdiv 2 = k := by rw [Int.tdiv_eq_ediv_of_nonneg (by omega)]; omega
 have l3 : (itoa k).length ≤ 21 := itoa_length_le k (by omega) (by omega)
 have l4 : (itoa (e + 1)).length ≤ 21 := itoa_length_le (e + 1) (by omega) (by omega)
 have l5 : (45 :: itoa (2 * k)).length ≤ 22 := by rw [List.length_cons]; omega
 obtain ⟨x, f, hR, hF⟩ := float_cat (itoa (2 * k)) (itoa e) (by simp; omega)
 obtain ⟨y, g, hR2, hF2⟩ := float_cat (itoa k) (itoa (e + 1)) (by simp; omega)
 obtain ⟨z, h, hR3, hF3⟩ := float_cat (45 :: itoa (2 * k)) (itoa e) (by simp; omega)
 have t1 := tell_both (n := 2 * k) (e := e) ⟨n1, n2⟩ ⟨e1, e2⟩
 have t2 := tell_both (n := k) (e := e + 1) ⟨by omega, by omega⟩ ⟨by omega, by omega⟩
 have t3 := tell_both (n := -(2 * k)) (e := e) ⟨by omega, by omega⟩ ⟨e1, e2⟩
 rw [itoa_minus hp] at t3
 have v2 : ((k : Int) : Rat) * p2 (e + 1) = ((2 * k : Int) : Rat) * p2 e := by
   rw [Int.add_comm, p2_add, p2_one, Rat.intCast_mul, show ((2 : Int) : Rat) = 2 from rfl]; grind
 have v3 : ((-(2 * k) : Int) : Rat) * p2 e = -(((2 * k : Int) : Rat) * p2 e) := by rw [Rat.intCast_neg]; grind
 have key : (x = y ∧ z = fflip x ∧ f = 0 ∧ g = 0 ∧ h = 0 ∧ Fin64 x ∧ x < 18446744073709551616) ∨ (x = 0 ∧ y = 0 ∧ z = 0 ∧ f = 10 ∧ g = 10 ∧ h = 10) := by
   rcases hR with ⟨c, _⟩ | ⟨n', e', ok, c, hh, hf⟩
   · rw [t1] at c; cases c
   rw [t1] at c
   simp at c
   obtain ⟨rfl, rfl⟩ := c
   rcases hh with ⟨rfl, fx, lx, vx, _⟩ | ⟨rfl, x0, hno⟩
   · left
     obtain ⟨a1, a2⟩ := hR2.ok t2 fx lx (by rw [vx, v2]) (by omega)
     obtain ⟨f1, f2, f3⟩ := eq_flip fx lx
     obtain ⟨a3, a4⟩ := hR3.ok t3 f1 f2 (by rw [f3, vx, v3]) (by omega)
     exact ⟨a1.symm, a3, hf, a2, a4, fx, lx⟩
   · right
     obtain ⟨a1, a2⟩ := hR2.no t2 (by rw [v2]; exact hno)
     obtain ⟨a3, a4⟩ := hR3.no t3 (by
       intro y' fy ly ey
       obtain ⟨f1, f2, f3⟩ := eq_flip fy ly
       exact hno _ f1 f2 (by rw [f3, ey, v3]; grind))
     exact ⟨x0, a1, a3, hf, a2, a4⟩
 have HS1 : Hid (∀ w, T8 w → Calls Tryd.prog 17 #[.int .i64 (2 * k)] w fun e w' => e = .returned (sv (itoa (2 * k))) ∧ Below w.heap.size w w') := fun w hT => show_any (2 * k) ⟨n1, n2⟩ w hT
 have HS2 : Hid (∀ w, T8 w → Calls Tryd.prog 17 #[.int .i64 e] w fun e' w' => e' = .returned (sv (itoa e)) ∧ Below w.heap.size w w') := fun w hT => show_any e ⟨e1, e2⟩ w hT
 have HS3 : Hid (∀ w, T8 w → Calls Tryd.prog 17 #[.int .i64 k] w fun e w' => e = .returned (sv (itoa k)) ∧ Below w.heap.size w w') := fun w hT => show_any k ⟨by omega, by omega⟩ w hT
 have HS4 : Hid (∀ w, T8 w → Calls Tryd.prog 17 #[.int .i64 (e + 1)] w fun e' w' => e' = .returned (sv (itoa (e + 1))) ∧ Below w.heap.size w w') := fun w hT => show_any (e + 1) ⟨by omega, by omega⟩ w hT
 have HF1 : Hid (∀ w, Tab w → Calls Tryd.prog 10 #[.string ((⟨(itoa (2 * k)).toArray⟩ : ByteArray) ++ ⟨#[98]⟩ ++ ⟨(itoa e).toArray⟩)] w fun r w' => r = .returned (.tuple #[.float .f64 x, .int .i64 f]) ∧ Below w.heap.size w w') := hF
 have HF2 : Hid (∀ w, Tab w → Calls Tryd.prog 10 #[.string ((⟨(itoa k).toArray⟩ : ByteArray) ++ ⟨#[98]⟩ ++ ⟨(itoa (e + 1)).toArray⟩)] w fun r w' => r = .returned (.tuple #[.float .f64 y, .int .i64 g]) ∧ Below w.heap.size w w') := hF2
 have HF3 : Hid (∀ w, Tab w → Calls Tryd.prog 10 #[.string ((⟨#[45]⟩ : ByteArray) ++ ⟨(itoa (2 * k)).toArray⟩ ++ ⟨#[98]⟩ ++ ⟨(itoa e).toArray⟩)] w fun r w' => r = .returned (.tuple #[.float .f64 z, .int .i64 h]) ∧ Below w.heap.size w w') := by
   rw [cat_minus]; exact hF3
 have c1 : (e == -9223372036854775808) = false := by rw [beq_eq_false_iff_ne]; exact h3
 have c2 : (e == 9223372036854775807) = false := by rw [beq_eq_false_iff_ne]; exact h4
 have c3 : (2 * k == 0) = false := by rw [beq_eq_false_iff_ne]; exact h5
 clear hF hF2 hF3 hR hR2 hR3 t1 t2 t3 v2 v3 l5
 rcases key with ⟨rfl, rfl, rfl, rfl, rfl, fx, lx⟩ | ⟨rfl, rfl, rfl, rfl, rfl, rfl⟩
 · have o1 := ord_is fx fx rfl
   have rn := run_negF x lx
   obtain ⟨f1, f2, f3⟩ := eq_flip fx lx
   have o2 := ord_is f1 f1 rfl
   clear f1 f2 f3 fx lx
   generalize fflip x = z at *
   rcases Int.lt_or_le e 0 with he0 | he0
   all_goals
     go_enter Tryd.func7, Tryd.ntmps7
     go_wp2_with fail
     refine (HA.out _ HT.out).mono ?_
     rintro e w' ⟨rfl, hb⟩
     replace HT := Lib.hid (HT.out.later hb)
     replace HB := Lib.hid (HB.out.trans (hb.mono HB.out.size))
     clear hb
     go_wp2_with fail
     refine (HS1.out _ HT.out).mono ?_
     rintro e w' ⟨rfl, hb⟩
     replace HT := Lib.hid (HT.out.later hb)
     replace HB := Lib.hid (HB.out.trans (hb.mono HB.out.size))
     clear hb
     go_wp2_with fail
     refine (HS2.out _ HT.out).mono ?_
     rintro e w' ⟨rfl, hb⟩
     replace HT := Lib.hid (HT.out.later hb)
     replace HB := Lib.hid (HB.out.trans (hb.mono HB.out.size))
     clear hb
     go_wp2_with fail
     refine (HF1.out _ HT.out.1).mono ?_
     rintro e w' ⟨rfl, hb⟩
     replace HT := Lib.hid (HT.out.later hb)
     replace HB := Lib.hid (HB.out.trans (hb.mono HB.out.size))
     clear hb
     go_wp2_with fail
     refine (HS3.out _ HT.out).mono ?_
     rintro e w' ⟨rfl, hb⟩
     replace HT := Lib.hid (HT.out.later hb)
     replace HB := Lib.hid (HB.out.trans (hb.mono HB.out.size))
     clear hb
     go_wp2_with fail
     refine (HS4.out _ HT.out).mono ?_
     rintro e w' ⟨rfl, hb⟩
     replace HT := Lib.hid (HT.out.later hb)
     replace HB := Lib.hid (HB.out.trans (hb.mono HB.out.size))
     clear hb
     go_wp2_with fail
     refine (HF2.out _ HT.out.1).mono ?_
     rintro e w' ⟨rfl, hb⟩
     replace HT := Lib.hid (HT.out.later hb)
     replace HB := Lib.hid (HB.out.trans (hb.mono HB.out.size))
     clear hb
     go_wp2_with fail
     refine (HS1.out _ HT.out).mono ?_
     rintro e w' ⟨rfl, hb⟩
     replace HT := Lib.hid (HT.out.later hb)
     replace HB := Lib.hid (HB.out.trans (hb.mono HB.out.size))
     clear hb
     go_wp2_with fail
     refine (HS2.out _ HT.out).mono ?_
     rintro e w' ⟨rfl, hb⟩
     replace HT := Lib.hid (HT.out.later hb)
     replace HB := Lib.hid (HB.out.trans (hb.mono HB.out.size))
     clear hb
     go_wp2_with fail
     refine (HF3.out _ HT.out.1).mono ?_
     rintro e w' ⟨rfl, hb⟩
     replace HT := Lib.hid (HT.out.later hb)
     replace HB := Lib.hid (HB.out.trans (hb.mono HB.out.size))
     clear hb
     go_wp2
     go_ret
     exact ⟨rfl, HB.out⟩
 · have o1 : FloatKind.f64.format.order 0 0 = some .eq := by decide
   have rn := run_negF 0 (by omega)
   have o2 : FloatKind.f64.format.order 0 (fflip 0) = some .eq := by decide
   generalize fflip 0 = z at *
   rcases Int.lt_or_le e 0 with he0 | he0
   all_goals
     go_enter Tryd.func7, Tryd.ntmps7
     go_wp2_with fail
     refine (HA.out _ HT.out).mono ?_
     rintro e w' ⟨rfl, hb⟩
     replace HT := Lib.hid (HT.out.later hb)
     replace HB := Lib.hid (HB.out.trans (hb.mono HB.out.size))
     clear hb
     go_wp2_with fail
     refine (HS1.out _ HT.out).mono ?_
     rintro e w' ⟨rfl, hb⟩
     replace HT := Lib.hid (HT.out.later hb)
     replace HB := Lib.hid (HB.out.trans (hb.mono HB.out.size))
     clear hb
     go_wp2_with fail
     refine (HS2.out _ HT.out).mono ?_
     rintro e w' ⟨rfl, hb⟩
     replace HT := Lib.hid (HT.out.later hb)
     replace HB := Lib.hid (HB.out.trans (hb.mono HB.out.size))
     clear hb
     go_wp2_with fail
     refine (HF1.out _ HT.out.1).mono ?_
     rintro e w' ⟨rfl, hb⟩
     replace HT := Lib.hid (HT.out.later hb)
     replace HB := Lib.hid (HB.out.trans (hb.mono HB.out.size))
     clear hb
     go_wp2_with fail
     refine (HS3.out _ HT.out).mono ?_
     rintro e w' ⟨rfl, hb⟩
     replace HT := Lib.hid (HT.out.later hb)
     replace HB := Lib.hid (HB.out.trans (hb.mono HB.out.size))
     clear hb
     go_wp2_with fail
     refine (HS4.out _ HT.out).mono ?_
     rintro e w' ⟨rfl, hb⟩
     replace HT := Lib.hid (HT.out.later hb)
     replace HB := Lib.hid (HB.out.trans (hb.mono HB.out.size))
     clear hb
     go_wp2_with fail
     refine (HF2.out _ HT.out.1).mono ?_
     rintro e w' ⟨rfl, hb⟩
     replace HT := Lib.hid (HT.out.later hb)
     replace HB := Lib.hid (HB.out.trans (hb.mono HB.out.size))
     clear hb
     go_wp2_with fail
     refine (HS1.out _ HT.out).mono ?_
     rintro e w' ⟨rfl, hb⟩
     replace HT := Lib.hid (HT.out.later hb)
     replace HB := Lib.hid (HB.out.trans (hb.mono HB.out.size))
     clear hb
     go_wp2_with fail
     refine (HS2.out _ HT.out).mono ?_
     rintro e w' ⟨rfl, hb⟩
     replace HT := Lib.hid (HT.out.later hb)
     replace HB := Lib.hid (HB.out.trans (hb.mono HB.out.size))
     clear hb
     go_wp2_with fail
     refine (HF3.out _ HT.out.1).mono ?_
     rintro e w' ⟨rfl, hb⟩
     replace HT := Lib.hid (HT.out.later hb)
     replace HB := Lib.hid (HB.out.trans (hb.mono HB.out.size))
     clear hb
     go_wp2
     go_ret
     exact ⟨rfl, HB.out⟩
end

/- The law DigitsWhole. (gen_ji.py) -/
section
open Go.RowKit Go.Shelf Go.Lib
theorem wmin : Fin64 14114281232179134464 ∧ fval 14114281232179134464 = ((-9223372036854775808 : Int) : Rat) := by
 refine ⟨by unfold Fin64 frung; decide, ?_⟩
 rw [show (14114281232179134464 : Nat) = 9223372036854775808 + 4890909195324358656 from rfl, fval_word (by omega), (fval_pos_lt (r := 4890909195324358656) (by omega)).1, show fmag 4890909195324358656 = 4503599627370496 by decide, show fpl 4890909195324358656 = ((11 : Nat) : Int) by decide, ← nat_mul_p2]
 rfl
set_option maxHeartbeats 4000000 in
set_option maxRecDepth 100000 in
theorem whole8 (n : Int) (w : World) (hT : T8 w) (hn : InR n) :
   Calls Tryd.prog 8 #[.int .i64 n] w fun e w' => e = .returned (.bool true) ∧ Below w.heap.size w w' := by
 have HT : Hid (T8 w) := hT
 have HB : Hid (Below w.heap.size w w) := Below.refl _ _
 have HA : Hid (∀ w, T8 w → Calls Tryd.prog 9 #[] w fun e w' => e = .returned (.bool true) ∧ Below w.heap.size w w') := awake8_any
 obtain ⟨w0, hw0⟩ : ∃ w0, w0 = w := ⟨w, rfl⟩
 rw [show Below w.heap.size w = Below w0.heap.size w0 by rw [hw0]] at HB ⊢
 clear hw0 hT
 have HS : Hid (∀ w, T8 w → Calls Tryd.prog 17 #[.int .i64 n] w fun e w' => e = .returned (sv (itoa n)) ∧ Below w.heap.size w w') := fun w hT => show_any n hn w hT
 obtain ⟨x, er, hR, hF⟩ := float_sv (itoa n) (Nat.le_trans (itoa_length_le n hn.1 hn.2) (by omega))
 have t1 := tell_whole hn
 have HF : Hid (∀ w, Tab w → Calls Tryd.prog 10 #[sv (itoa n)] w fun r w' => r = .returned (.tuple #[.float .f64 x, .int .i64 er]) ∧ Below w.heap.size w w') := hF
 have v0 : (n : Rat) * p2 0 = (n : Rat) := by rw [p2_zero, Rat.mul_one]
 have key : (er = 0 ∧ Fin64 x ∧ x < 18446744073709551616 ∧ fval x = (n : Rat)) ∨ (x = 0 ∧ er = 10 ∧ (9007199254740992 < n ∨ n < -9007199254740992)) := by
   rcases hR with ⟨c, _⟩ | ⟨n', e', ok, c, hh, hf⟩
   · rw [t1] at c; cases c
   rw [t1] at c
   simp at c
   obtain ⟨rfl, rfl⟩ := c
   rw [TimesR, v0] at hh
   rcases hh with ⟨rfl, fx, lx, vx, _⟩ | ⟨rfl, x0, hno⟩
   · exact Or.inl ⟨hf, fx, lx, vx⟩
   · refine Or.inr ⟨x0, hf, ?_⟩
     apply Classical.byContradiction
     intro hc
     obtain ⟨a1, a2, a3⟩ := fwJ_val (n := n) (by omega) (by omega)
     exact hno _ a1 a2 a3
 clear hF hR t1 v0
 rcases key with ⟨rfl, fx, lx, vx⟩ | ⟨rfl, rfl, hb⟩
 · obtain ⟨l, hl, hX⟩ := text_any x lx
   have HX : Hid (∀ w, T8 w → Calls Tryd.prog 15 #[.float .f64 x] w fun r w' => r = .returned (sv l) ∧ Below w.heap.size w w') := hX
   obtain ⟨n1, n2⟩ := hn
   by_cases hs : -9007199254740992 < n ∧ n < 9007199254740992
   · obtain rfl := hl.whole fx vx hs.1 hs.2
     obtain ⟨s1, s2⟩ := hs
     have hcv := conv_run fx vx (by omega) (by omega)
     have hself : (itoa n == itoa n) = true := by simp
     clear hX hl fx lx vx
     go_enter Tryd.func8, Tryd.ntmps8
     go_wp2_with fail
     refine (HS.out _ HT.out).mono ?_
     rintro e w' ⟨rfl, hb⟩
     replace HT := Lib.hid (HT.out.later hb)
     replace HB := Lib.hid (HB.out.trans (hb.mono HB.out.size))
     clear hb
     go_wp2_with fail
     refine (HF.out _ HT.out.1).mono ?_
     rintro e w' ⟨rfl, hb⟩
     replace HT := Lib.hid (HT.out.later hb)
     replace HB := Lib.hid (HB.out.trans (hb.mono HB.out.size))
     clear hb
     go_wp2_with fail
     refine (HX.out _ HT.out).mono ?_
     rintro e w' ⟨rfl, hb⟩
     replace HT := Lib.hid (HT.out.later hb)
     replace HB := Lib.hid (HB.out.trans (hb.mono HB.out.size))
     clear hb
     go_wp2_with fail
     refine (HS.out _ HT.out).mono ?_
     rintro e w' ⟨rfl, hb⟩
     replace HT := Lib.hid (HT.out.later hb)
     replace HB := Lib.hid (HB.out.trans (hb.mono HB.out.size))
     clear hb
     go_wp2_with fail
     refine (HA.out _ HT.out).mono ?_
     rintro e w' ⟨rfl, hb⟩
     replace HT := Lib.hid (HT.out.later hb)
     replace HB := Lib.hid (HB.out.trans (hb.mono HB.out.size))
     clear hb
     go_wp2
     go_ret
     exact ⟨rfl, HB.out⟩
   · by_cases hm : n = -9223372036854775808
     · subst hm
       obtain rfl : x = 14114281232179134464 := fval_inj fx wmin.1 lx (by omega) (by rw [vx, wmin.2]) (by rw [vx]; decide)
       have o1 : FloatKind.f64.format.order 14114281232179134464 14114281232179134464 = some .eq := by decide
       clear hX hl fx lx vx hs
       go_enter Tryd.func8, Tryd.ntmps8
       go_wp2_with fail
       refine (HS.out _ HT.out).mono ?_
       rintro e w' ⟨rfl, hb⟩
       replace HT := Lib.hid (HT.out.later hb)
       replace HB := Lib.hid (HB.out.trans (hb.mono HB.out.size))
       clear hb
       go_wp2_with fail
       refine (HF.out _ HT.out.1).mono ?_
       rintro e w' ⟨rfl, hb⟩
       replace HT := Lib.hid (HT.out.later hb)
       replace HB := Lib.hid (HB.out.trans (hb.mono HB.out.size))
       clear hb
       go_wp2_with fail
       refine (HA.out _ HT.out).mono ?_
       rintro e w' ⟨rfl, hb⟩
       replace HT := Lib.hid (HT.out.later hb)
       replace HB := Lib.hid (HB.out.trans (hb.mono HB.out.size))
       clear hb
       go_wp2
       go_ret
       exact ⟨rfl, HB.out⟩
     · clear hX hl fx lx vx
       rcases Int.lt_or_le n 9007199254740992 with hc | hc
       · have hc2 : n ≤ -9007199254740992 := by omega
         clear hs
         go_enter Tryd.func8, Tryd.ntmps8
         go_wp2_with fail
         refine (HS.out _ HT.out).mono ?_
         rintro e w' ⟨rfl, hb⟩
         replace HT := Lib.hid (HT.out.later hb)
         replace HB := Lib.hid (HB.out.trans (hb.mono HB.out.size))
         clear hb
         go_wp2_with fail
         refine (HF.out _ HT.out.1).mono ?_
         rintro e w' ⟨rfl, hb⟩
         replace HT := Lib.hid (HT.out.later hb)
         replace HB := Lib.hid (HB.out.trans (hb.mono HB.out.size))
         clear hb
         go_wp2_with fail
         refine (HA.out _ HT.out).mono ?_
         rintro e w' ⟨rfl, hb⟩
         replace HT := Lib.hid (HT.out.later hb)
         replace HB := Lib.hid (HB.out.trans (hb.mono HB.out.size))
         clear hb
         go_wp2
         go_ret
         exact ⟨rfl, HB.out⟩
       · clear hs
         go_enter Tryd.func8, Tryd.ntmps8
         go_wp2_with fail
         refine (HS.out _ HT.out).mono ?_
         rintro e w' ⟨rfl, hb⟩
         replace HT := Lib.hid (HT.out.later hb)
         replace HB := Lib.hid (HB.out.trans (hb.mono HB.out.size))
         clear hb
         go_wp2_with fail
         refine (HF.out _ HT.out.1).mono ?_
         rintro e w' ⟨rfl, hb⟩
         replace HT := Lib.hid (HT.out.later hb)
         replace HB := Lib.hid (HB.out.trans (hb.mono HB.out.size))
         clear hb
         go_wp2_with fail
         refine (HA.out _ HT.out).mono ?_
         rintro e w' ⟨rfl, hb⟩
         replace HT := Lib.hid (HT.out.later hb)
         replace HB := Lib.hid (HB.out.trans (hb.mono HB.out.size))
         clear hb
         go_wp2
         go_ret
         exact ⟨rfl, HB.out⟩
 · clear hn
   rcases hb with hb | hb
   · go_enter Tryd.func8, Tryd.ntmps8
     go_wp2_with fail
     refine (HS.out _ HT.out).mono ?_
     rintro e w' ⟨rfl, hb⟩
     replace HT := Lib.hid (HT.out.later hb)
     replace HB := Lib.hid (HB.out.trans (hb.mono HB.out.size))
     clear hb
     go_wp2_with fail
     refine (HF.out _ HT.out.1).mono ?_
     rintro e w' ⟨rfl, hb⟩
     replace HT := Lib.hid (HT.out.later hb)
     replace HB := Lib.hid (HB.out.trans (hb.mono HB.out.size))
     clear hb
     go_wp2_with fail
     refine (HA.out _ HT.out).mono ?_
     rintro e w' ⟨rfl, hb⟩
     replace HT := Lib.hid (HT.out.later hb)
     replace HB := Lib.hid (HB.out.trans (hb.mono HB.out.size))
     clear hb
     go_wp2
     go_ret
     exact ⟨rfl, HB.out⟩
   · go_enter Tryd.func8, Tryd.ntmps8
     go_wp2_with fail
     refine (HS.out _ HT.out).mono ?_
     rintro e w' ⟨rfl, hb⟩
     replace HT := Lib.hid (HT.out.later hb)
     replace HB := Lib.hid (HB.out.trans (hb.mono HB.out.size))
     clear hb
     go_wp2_with fail
     refine (HF.out _ HT.out.1).mono ?_
     rintro e w' ⟨rfl, hb⟩
     replace HT := Lib.hid (HT.out.later hb)
     replace HB := Lib.hid (HB.out.trans (hb.mono HB.out.size))
     clear hb
     go_wp2_with fail
     refine (HA.out _ HT.out).mono ?_
     rintro e w' ⟨rfl, hb⟩
     replace HT := Lib.hid (HT.out.later hb)
     replace HB := Lib.hid (HB.out.trans (hb.mono HB.out.size))
     clear hb
     go_wp2
     go_ret
     exact ⟨rfl, HB.out⟩
end
end Go.Proofs.YtodmnpgnonhbiaaDoor
