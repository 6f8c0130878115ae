/- Own texts, put together: Ha Hc Xf Xg Xh Xi Hd Ob. -/
import Derived.Test.YtjcdbbdbmcbjpaaQ1
import Derived.Test.YtjcdbbdbmcbjpaaQ12
import Derived.Test.YtjcdbbdbmcbjpaaQ13
import Derived.Test.YtjcdbbdbmcbjpaaQ14
import Derived.Deep.AppendLies
import Derived.OwnWalk
import Derived.Maps.AppendAt
namespace Go.Proofs.Ytjcdbbdbmcbjpaa
/- How many bits a float has; that two numbers are the same. -/
section
open Go.RowKit
attribute [local go_sem ↓] Go.wp_at_zero Go.wp_at_succ
theorem run_store_float (P : Program) (w : World) (a : Addr) (m : Mode) (k : FloatKind) (b : Nat) : (store a (.float k b) m).run P w = stored P w a (.float k b) m := run_store P w a _ m rfl
theorem Rf.agg {w : World} {v : Value} {q : Rat} (h : Rf w v q) : ∃ S a n c E, v = .agg #[.int .i64 S, .slice a n c, .int .i64 E] := by
 obtain ⟨S, a, n, c, E, h, _⟩ := h.sgn
 exact ⟨S, a, n, c, E, h⟩
end

/- A number and the floats about the one nearest to it: plain facts. Nextafter. -/
section
open Go.RowKit
theorem fin_small {r : Nat} (h : r < 9218868437227405312) : Fin64 r := by unfold Fin64 frung; omega
end

/- Which lists of floats may be, as package expand tells it. -/
section
open Go.RowKit
structure Fs (w : World) (s : Value) (bs : List Nat) : Prop where
 form : ∃ a c, s = .slice a bs.length c ∧ bs.length ≤ c ∧ c ≤ 9223372036854775807 ∧ (bs = [] ∨ ∃ g off, a = some ⟨g, off, none⟩ ∧ ∀ k, k < bs.length → w.cell? ⟨g, off + k, none⟩ = some (.float .f64 (bs.getD k 0)))
 word : ∀ b ∈ bs, b < 18446744073709551616
theorem Fs.later {w w' : World} {s : Value} {bs : List Nat} (h : Fs w s bs) (hb : Below w.heap.size w w') : Fs w' s bs := by
 obtain ⟨⟨a, c, hs, hc, hm, hf⟩, h2⟩ := h
 refine ⟨⟨a, c, hs, hc, hm, ?_⟩, h2⟩
 rcases hf with hf | ⟨g, off, ha, hf⟩
 · exact Or.inl hf
 · exact Or.inr ⟨g, off, ha, fun k hk => box_cell hb (hf k hk)⟩
def MayAt (lo hi : Nat) (bs : List Nat) (i : Nat) : Prop := lo ≤ frung (bs.getD i 0) ∧ frung (bs.getD i 0) ≤ hi ∧ frung (bs.getD i 0) ≠ 0 ∧ (0 < i → Lo (fval (bs.getD (i - 1) 0)) (fval (bs.getD i 0)))
def MayP (lo hi : Nat) (bs : List Nat) : Prop := bs.length ≤ 64 ∧ ∀ i, i < bs.length → MayAt lo hi bs i
theorem getD_word {bs : List Nat} (h : ∀ b ∈ bs, b < 18446744073709551616) (i : Nat) : bs.getD i 0 < 18446744073709551616 := by
 by_cases hi : i < bs.length
 · rw [show bs.getD i 0 = bs[i] by simp [List.getD, hi]]; exact h _ (List.getElem_mem hi)
 · simp [List.getD, List.getElem?_eq_none (Nat.le_of_not_lt hi)]
theorem ab_fval (b : Nat) (h : Fin64 b) : fval (frung b) = ab (fval b) := by
 have h1 := fval_nonneg (r := frung b) h
 unfold ab
 rcases fval_abs b with e | e <;> rw [e] <;> split <;> grind
theorem lo_test {p x l : Nat} (hp : Fin64 p) (hl : LB x l) : FloatKind.f64.format.order (frung p) l == some .lt ↔ frung x ≠ 0 ∧ Lo (fval p) (fval x) := by
 have fp : Fin64 (frung p) := fin_small hp
 have fl : Fin64 l := fin_small hl.1
 rw [order_val fp fl, ab_fval p hp]
 have h0 := ab_nonneg (fval p)
 rcases hl.2 with ⟨z, rfl⟩ | ⟨z, L, m, h1, h2, h3⟩
 · rw [fval0, if_neg (by grind)]
   constructor
   · intro h
     split at h <;> cases h
   · intro h; exact absurd z h.1
 · rw [h1]
   by_cases h : ab (fval p) < U L
   · rw [if_pos h]
     exact ⟨fun _ => ⟨z, L, h, m, h2⟩, fun _ => rfl⟩
   · rw [if_neg h]
     constructor
     · intro h
       split at h <;> cases h
     · rintro ⟨_, t, a, n, b⟩
       exfalso
       have ht : t ≤ L := by
         rcases Nat.lt_or_ge L t with hlt | hge
         · exfalso
           obtain ⟨j, rfl⟩ : ∃ j, t = L + 1 + j := ⟨t - L - 1, by omega⟩
           have e : (m : Rat) * U L = ((n * ((2 ^ j : Nat) : Int) * 2 : Int) : Rat) * U L := by
             rw [← h2, b, show L + 1 + j = (L + 1) + j by omega, U_add, U_succ, Rat.intCast_mul, Rat.intCast_mul]
             show _ = (n : Rat) * ((2 ^ j : Nat) : Rat) * 2 * U L
             grind
           have := int_eq (U_pos L) e
           omega
         · exact hge
       have := U_mono ht
       grind
set_option maxRecDepth 100000 in
set_option maxHeartbeats 4000000 in
theorem mayBe_walk (g off c lo hi : Nat) (bs : List Nat) (w : World) (hc : ∀ k, k < bs.length → w.cell? ⟨g, off + k, none⟩ = some (.float .f64 (bs.getD k 0))) (hw : ∀ b ∈ bs, b < 18446744073709551616) (hl : bs.length ≤ 64) (h1 : lo < 9218868437227405312) (h2 : hi < 9218868437227405312) :
   Calls Try.prog 27 #[.slice (some ⟨g, off, none⟩) bs.length c, .float .f64 lo, .float .f64 hi] w fun e w' => (∃ t, e = .returned (.bool t) ∧ (t = true ↔ MayP lo hi bs)) ∧ w' = w := by
 have HC : Hid (∀ k, k < bs.length → w.cell? ⟨g, off + k, none⟩ = some (.float .f64 (bs.getD k 0))) := hc
 have HW : Hid (∀ b ∈ bs, b < 18446744073709551616) := hw
 have l1 : (bs.length : Int) ≤ 64 := by omega
 have HL : Hid (lo < 9218868437227405312 ∧ hi < 9218868437227405312) := ⟨h1, h2⟩
 clear hc hw h1 h2
 go_enter Try.func27, Try.ntmps27
 go_wp2
 go_loop [7, 16] (fun b i => ∃ (k : Nat) (p : Nat), i = .int .i64 (k : Nat) ∧ b = .float .f64 (frung p) ∧ k ≤ bs.length ∧ Hid ((∀ i, i < k → MayAt lo hi bs i) ∧ p = (if k = 0 then 0 else bs.getD (k - 1) 0))) (fun _ i => bs.length - (intOf i).toNat)
 case atStart => exact ⟨0, 0, rfl, rfl, by omega, fun i hi => by omega, rfl⟩
 case round =>
   obtain ⟨k, p, rfl, rfl, hk, hok⟩ := hrel
   by_cases hlt : k < bs.length
   · have hlt' : (k : Int) < (bs.length : Int) := by omega
     have hk0 : (0 : Int) ≤ (k : Int) := by omega
     have hck := HC.out k hlt
     obtain ⟨x, hx⟩ : ∃ x : Nat, Hid (bs.getD k 0 = x) := ⟨_, rfl⟩
     rw [hx.out] at hck
     have hxw : x < 18446744073709551616 := by rw [← hx.out]; exact getD_word HW.out k
     have hfr : frung x < 9223372036854775808 := Nat.mod_lt _ (by omega)
     have HA : Hid (∀ w, Calls Try.prog 42 #[.float .f64 x] w fun e w' => e = .returned (.float .f64 (frung x)) ∧ w' = w) := fun w => abs_any x w hxw
     have q1 := const_leq (r := frung x) (c := lo) hfr HL.out.1
     have q2 := leq_word (r := frung x) (c := hi) hfr HL.out.2
     have HXW : Hid (x < 18446744073709551616) := hxw
     have hno : ¬ MayAt lo hi bs k → ¬ MayP lo hi bs := fun h1 h2 => h1 (h2.2 k hlt)
     have HNO : Hid (¬ MayAt lo hi bs k → ¬ MayP lo hi bs) := hno
     clear hxw hfr hno
     by_cases c1 : lo ≤ frung x ∧ frung x ≤ 9218868437227405312
     · rw [decide_eq_true c1] at q1
       by_cases c2 : frung x ≤ hi
       · rw [decide_eq_true c2] at q2
         have fx : Fin64 x := by unfold Fin64; have := HL.out; omega
         have HB : Hid (∀ w, Calls Try.prog 43 #[.float .f64 x] w fun e w' => (∃ l, e = .returned (.float .f64 l) ∧ LB x l) ∧ w' = w) := fun w => lowestE_any x w HXW.out fx
         have HFX : Hid (Fin64 x ∧ lo ≤ frung x ∧ frung x ≤ hi) := ⟨fx, c1.1, c2⟩
         have fp : Fin64 p := by
           rw [hok.out.2]
           split
           · exact fin0
           · have := (hok.out.1 (k - 1) (by omega)).2.1
             unfold Fin64; have := HL.out; omega
         have HFP : Hid (Fin64 p) := fp
         clear c1 c2 fx fp
         go_wp2_with fail
         refine (HA.out _).mono ?_
         rintro e w1 ⟨rfl, rfl⟩
         go_wp2_with fail
         refine (HB.out _).mono ?_
         rintro e w1 ⟨⟨l, rfl, hlb⟩, rfl⟩
         have htest := lo_test HFP.out hlb
         have HT : Hid (FloatKind.f64.format.order (frung p) l == some .lt ↔ frung x ≠ 0 ∧ Lo (fval p) (fval x)) := htest
         have HLB : Hid (LB x l) := hlb
         clear hlb htest
         by_cases c3 : (FloatKind.f64.format.order (frung p) l == some .lt) = true
         · have HM : Hid (MayAt lo hi bs k) := by
             have h3 := HT.out.1 c3
             refine ⟨by rw [hx.out]; exact HFX.out.2.1, by rw [hx.out]; exact HFX.out.2.2, by rw [hx.out]; exact h3.1, fun hp => ?_⟩
             have := hok.out.2
             rw [if_neg (by omega)] at this
             rw [← this, hx.out]; exact h3.2
           go_wp2
           go_round
           case rel => exact ⟨k + 1, x, by go_num, rfl, by omega, fun i hi => by
             by_cases e : i = k
             · rw [e]; exact HM.out
             · exact hok.out.1 i (by omega), by rw [if_neg (by omega), show k + 1 - 1 = k by omega]; exact hx.out.symm⟩
           case measure => simp [intOf]; omega
         · have HM : Hid (¬ MayAt lo hi bs k) := by
             intro h
             refine c3 (HT.out.2 ⟨by rw [← hx.out]; exact h.2.2.1, ?_⟩)
             rw [hok.out.2]
             by_cases hk0 : k = 0
             · rw [if_pos hk0, fval0]
               have hz := h.2.2.1
               rw [hx.out] at hz
               rcases HLB.out.2 with ⟨z, _⟩ | ⟨z, L, m, _, h2, _⟩
               · exact absurd z hz
               · exact ⟨L, by show ab 0 < U L; rw [show ab 0 = 0 by unfold ab; grind]; exact U_pos L, m, h2⟩
             · rw [if_neg hk0, ← hx.out]
               exact h.2.2.2 (by omega)
           have c3' : (FloatKind.f64.format.order (frung p) l == some .lt) = false := by simpa using c3
           clear c3
           go_wp2
           go_ret
           exact ⟨⟨false, rfl, by simp; exact HNO.out HM.out⟩, rfl⟩
       · rw [decide_eq_false c2] at q2
         have HM : Hid (¬ MayAt lo hi bs k) := fun h => c2 (by rw [← hx.out]; exact h.2.1)
         clear c1 c2
         go_wp2_with fail
         refine (HA.out _).mono ?_
         rintro e w1 ⟨rfl, rfl⟩
         go_wp2
         go_ret
         exact ⟨⟨false, rfl, by simp; exact HNO.out HM.out⟩, rfl⟩
     · rw [decide_eq_false c1] at q1
       have HM : Hid (¬ MayAt lo hi bs k) := fun h => c1 ⟨by rw [← hx.out]; exact h.1, by have := h.2.1; rw [hx.out] at this; have := HL.out; omega⟩
       clear c1 q2
       go_wp2_with fail
       refine (HA.out _).mono ?_
       rintro e w1 ⟨rfl, rfl⟩
       go_wp2
       go_ret
       exact ⟨⟨false, rfl, by simp; exact HNO.out HM.out⟩, rfl⟩
   · obtain rfl : k = bs.length := by omega
     have hltb : decide ((bs.length : Int) < (bs.length : Int)) = false := decide_eq_false (by omega)
     go_wp2
     go_ret
     exact ⟨Or.inr ⟨rfl, hl, hok.out.1⟩, rfl⟩
set_option maxRecDepth 100000 in
set_option maxHeartbeats 1000000 in
theorem mayBe_none (a : Option Addr) (c lo hi : Nat) (w : World) :
   Calls Try.prog 27 #[.slice a 0 c, .float .f64 lo, .float .f64 hi] w fun e w' => e = .returned (.bool true) ∧ w' = w := by
 go_enter Try.func27, Try.ntmps27
 go_wp2
 go_loop [7, 16] (fun b i => ∃ p, i = .int .i64 0 ∧ b = .float .f64 p) (fun _ i => 0)
 case atStart => exact ⟨0, rfl, rfl⟩
 case round =>
   obtain ⟨p, rfl, rfl⟩ := hrel
   go_wp2
   go_ret
   exact ⟨rfl, rfl⟩
set_option maxRecDepth 100000 in
set_option maxHeartbeats 1000000 in
theorem mayBe_long (a : Option Addr) (n c lo hi : Nat) (w : World) (h : 64 < n) :
   Calls Try.prog 27 #[.slice a n c, .float .f64 lo, .float .f64 hi] w fun e w' => e = .returned (.bool false) ∧ w' = w := by
 have h' : decide (64 < (n : Int)) = true := decide_eq_true (by omega)
 clear h
 go_enter Try.func27, Try.ntmps27
 go_wp2
 go_ret
 exact ⟨rfl, rfl⟩
set_option maxRecDepth 100000 in
theorem mayBe_any (lo hi : Nat) (s : Value) (bs : List Nat) (w : World) (h : Fs w s bs) (h1 : lo < 9218868437227405312) (h2 : hi < 9218868437227405312) :
   Calls Try.prog 27 #[s, .float .f64 lo, .float .f64 hi] w fun e w' => (∃ t, e = .returned (.bool t) ∧ (t = true ↔ MayP lo hi bs)) ∧ w' = w := by
 obtain ⟨⟨a, c, rfl, hc, hm, hf⟩, hw⟩ := h
 by_cases hl : bs.length ≤ 64
 · rcases hf with rfl | ⟨g, off, rfl, hf⟩
   · exact (mayBe_none a c lo hi w).mono fun e w' q => ⟨⟨true, q.1, fun _ => ⟨by simp, fun i hi => by simp at hi⟩, fun _ => rfl⟩, q.2⟩
   · exact mayBe_walk g off c lo hi bs w hf hw hl h1 h2
 · exact (mayBe_long a bs.length c lo hi w (by omega)).mono fun e w' q => ⟨⟨false, q.1, ⟨fun h => Bool.noConfusion h, fun h => absurd h.1 hl⟩⟩, q.2⟩
end

/- Package expand: whether a list may be, its last float, its sign, a list that grows. -/
section
open Go.RowKit
set_option maxRecDepth 100000 in
theorem check_any (s : Value) (bs : List Nat) (w : World) (h : Fs w s bs) :
   Calls Try.prog 11 #[s] w fun e w' => (∃ t, e = .returned (.bool t) ∧ (t = true ↔ MayP 0 9065746049896808448 bs)) ∧ w' = w := by
 have HA : Hid (∀ w, Fs w s bs → Calls Try.prog 27 #[s, .float .f64 0, .float .f64 9065746049896808448] w fun e w' => (∃ t, e = .returned (.bool t) ∧ (t = true ↔ MayP 0 9065746049896808448 bs)) ∧ w' = w) := fun w h => mayBe_any _ _ s bs w h (by omega) (by omega)
 have HF : Hid (Fs w s bs) := h
 clear h
 go_enter Try.func11, Try.ntmps11
 go_wp2_with fail
 refine (HA.out _ HF.out).mono ?_
 rintro e w1 ⟨⟨t, rfl, ht⟩, rfl⟩
 have HT : Hid (t = true ↔ MayP 0 9065746049896808448 bs) := ht
 clear ht
 go_wp2_with fail
 go_ret
 exact ⟨⟨t, rfl, HT.out⟩, rfl⟩
set_option maxRecDepth 100000 in
theorem safeE_any (s : Value) (bs : List Nat) (w : World) (h : Fs w s bs) :
   Calls Try.prog 13 #[s] w fun e w' => (∃ t, e = .returned (.bool t) ∧ (t = true ↔ MayP 2580562586483294208 6633802251116740608 bs)) ∧ w' = w := by
 have HA : Hid (∀ w, Fs w s bs → Calls Try.prog 27 #[s, .float .f64 2580562586483294208, .float .f64 6633802251116740608] w fun e w' => (∃ t, e = .returned (.bool t) ∧ (t = true ↔ MayP 2580562586483294208 6633802251116740608 bs)) ∧ w' = w) := fun w h => mayBe_any _ _ s bs w h (by omega) (by omega)
 have HF : Hid (Fs w s bs) := h
 clear h
 go_enter Try.func13, Try.ntmps13
 go_wp2_with fail
 refine (HA.out _ HF.out).mono ?_
 rintro e w1 ⟨⟨t, rfl, ht⟩, rfl⟩
 have HT : Hid (t = true ↔ MayP 2580562586483294208 6633802251116740608 bs) := ht
 clear ht
 go_wp2_with fail
 go_ret
 exact ⟨⟨t, rfl, HT.out⟩, rfl⟩
set_option maxRecDepth 100000 in
theorem addable_any (s : Value) (bs : List Nat) (w : World) (h : Fs w s bs) :
   Calls Try.prog 21 #[s] w fun e w' => (∃ t, e = .returned (.bool t) ∧ (t = true ↔ MayP 0 8660422083433463808 bs)) ∧ w' = w := by
 have HA : Hid (∀ w, Fs w s bs → Calls Try.prog 27 #[s, .float .f64 0, .float .f64 8660422083433463808] w fun e w' => (∃ t, e = .returned (.bool t) ∧ (t = true ↔ MayP 0 8660422083433463808 bs)) ∧ w' = w) := fun w h => mayBe_any _ _ s bs w h (by omega) (by omega)
 have HF : Hid (Fs w s bs) := h
 clear h
 go_enter Try.func21, Try.ntmps21
 go_wp2_with fail
 refine (HA.out _ HF.out).mono ?_
 rintro e w1 ⟨⟨t, rfl, ht⟩, rfl⟩
 have HT : Hid (t = true ↔ MayP 0 8660422083433463808 bs) := ht
 clear ht
 go_wp2_with fail
 go_ret
 exact ⟨⟨t, rfl, HT.out⟩, rfl⟩
def lastW (bs : List Nat) : Nat := bs.getD (bs.length - 1) 0
set_option maxRecDepth 100000 in
theorem lead_walk (g off n c x : Nat) (w : World) (hc : w.cell? ⟨g, off + n, none⟩ = some (.float .f64 x)) (hn : n < 1000000) :
   Calls Try.prog 29 #[.slice (some ⟨g, off, none⟩) (n + 1) c] w fun e w' => e = .returned (.float .f64 x) ∧ w' = w := by
 have e9 : (n : Int) < 1000000 := by omega
 clear hn
 have e0 : ((n : Int) + 1 == 0) = false := by simp; omega
 have e3 : (n : Int) < (n : Int) + 1 := by omega
 have e4 : (0 : Int) ≤ (n : Int) := by omega
 go_enter Try.func29, Try.ntmps29
 go_wp2
 go_ret
 exact ⟨rfl, rfl⟩
set_option maxRecDepth 100000 in
theorem lead_any (s : Value) (bs : List Nat) (w : World) (h : Fs w s bs) (hlen : bs.length ≤ 1000000) :
   Calls Try.prog 29 #[s] w fun e w' => e = .returned (.float .f64 (lastW bs)) ∧ w' = w := by
 obtain ⟨⟨a, c, rfl, hc, hm, hf⟩, hw⟩ := h
 rcases hf with rfl | ⟨g, off, rfl, hf⟩
 · go_enter Try.func29, Try.ntmps29
   go_wp2
   go_ret
   exact ⟨rfl, rfl⟩
 · by_cases h0 : bs.length = 0
   · have : bs = [] := List.eq_nil_of_length_eq_zero h0
     subst this
     clear hf
     go_enter Try.func29, Try.ntmps29
     go_wp2
     go_ret
     exact ⟨rfl, rfl⟩
   · obtain ⟨n, hn⟩ : ∃ n, bs.length = n + 1 := ⟨bs.length - 1, by omega⟩
     rw [show lastW bs = bs.getD n 0 by unfold lastW; rw [hn]; rfl, hn]
     exact lead_walk g off n c _ w (hf n (by omega)) (by omega)
theorem order_nan_self {b : Nat} (h : Fin64 b) : FloatKind.f64.format.order b b = some .eq := by
 rw [order_val h h, if_neg Rat.lt_irrefl, if_pos rfl]
set_option maxRecDepth 100000 in
theorem nan_fin (b : Nat) (w : World) (h : Fin64 b) : Calls Try.prog 50 #[.float .f64 b] w fun e w' => e = .returned (.bool false) ∧ w' = w := by
 have h1 := order_nan_self h
 clear h
 go_enter Try.func50, Try.ntmps50
 go_wp2
 go_ret
 exact ⟨rfl, rfl⟩
set_option maxRecDepth 100000 in
set_option maxHeartbeats 1000000 in
theorem compare_zero (b : Nat) (w : World) (h : Fin64 b) : Calls Try.prog 44 #[.float .f64 b, .float .f64 0] w fun e w' => e = .returned (.int .i64 (sgq (fval b))) ∧ w' = w := by
 have HN : Hid (∀ w, Calls Try.prog 50 #[.float .f64 b] w fun e w' => e = .returned (.bool false) ∧ w' = w) := fun w => nan_fin b w h
 have HZ : Hid (∀ w, Calls Try.prog 50 #[.float .f64 0] w fun e w' => e = .returned (.bool false) ∧ w' = w) := fun w => nan_fin 0 w fin0
 have ho := order_val h fin0
 rw [fval0] at ho
 clear h
 have key : ∀ o, FloatKind.f64.format.order b 0 = some o → Calls Try.prog 44 #[.float .f64 b, .float .f64 0] w fun e w' => e = .returned (.int .i64 (match o with | .lt => -1 | .eq => 0 | .gt => 1)) ∧ w' = w := by
   intro o hb
   clear ho
   cases o <;>
   · go_enter Try.func44, Try.ntmps44
     go_wp2_with fail
     refine (HN.out _).mono ?_
     rintro e w1 ⟨rfl, rfl⟩
     go_wp2_with fail
     refine (HZ.out _).mono ?_
     rintro e w1 ⟨rfl, rfl⟩
     go_wp2
     go_ret
     exact ⟨rfl, rfl⟩
 refine (key _ ho).mono ?_
 rintro e w' ⟨rfl, rfl⟩
 refine ⟨?_, rfl⟩
 unfold sgq
 by_cases h1 : fval b < 0
 · rw [if_pos h1]; simp [h1]
 · by_cases h2 : fval b = 0
   · rw [if_neg h1, if_pos h2, h2]; simp
   · rw [if_neg h1, if_neg h2]
     have h3 : 0 < fval b := by grind
     simp [h1, h2]
set_option maxRecDepth 100000 in
theorem signOf_any (s : Value) (bs : List Nat) (w : World) (h : Fs w s bs) (hf : Fin64 (lastW bs)) (hlen : bs.length ≤ 1000000) :
   Calls Try.prog 28 #[s] w fun e w' => e = .returned (.int .i64 (sgq (fval (lastW bs)))) ∧ w' = w := by
 have HA : Hid (∀ w, Fs w s bs → Calls Try.prog 29 #[s] w fun e w' => e = .returned (.float .f64 (lastW bs)) ∧ w' = w) := fun w h => lead_any s bs w h hlen
 have HF : Hid (Fs w s bs) := h
 have HB : Hid (∀ w, Calls Try.prog 44 #[.float .f64 (lastW bs), .float .f64 0] w fun e w' => e = .returned (.int .i64 (sgq (fval (lastW bs)))) ∧ w' = w) := fun w => compare_zero _ w hf
 clear h hf hlen
 go_enter Try.func28, Try.ntmps28
 go_wp2_with fail
 refine (HA.out _ HF.out).mono ?_
 rintro e w1 ⟨rfl, rfl⟩
 go_wp2_with fail
 refine (HB.out _).mono ?_
 rintro e w1 ⟨rfl, rfl⟩
 go_wp2_with fail
 go_ret
 exact ⟨rfl, rfl⟩
end

/- Package expand: lists of its own; a list that grows; a list turned about. -/
section
open Go.RowKit
def f64s (bs : List Nat) : List Value := bs.map (Value.float .f64)
theorem infoF : (Try.prog.info? 24).map (fun i => (i.zero, i.size, i.bytes)) = some (some (.float .f64 0), 1, 8) := by kernel_rfl
theorem undF : Try.prog.underlying 23 = some (.slice 24) := by kernel_rfl
structure Fr (w : World) (B : Nat) (v : Value) (bs : List Nat) : Prop where
 own : w.ownsRow B 24 1 v bs.length (f64s bs)
 word : ∀ b ∈ bs, b < 18446744073709551616
theorem Fr.fs {w : World} {B : Nat} {v : Value} {bs : List Nat} (h : Fr w B v bs) : Fs w v bs := by
 refine ⟨?_, h.word⟩
 rcases h.own.2 with ⟨h1, h2⟩ | ⟨g, cap, cur, h1, h2, h3, h4, h5, _⟩
 · exact ⟨none, 0, by rw [h1, h2], by omega, by omega, Or.inl (List.eq_nil_of_length_eq_zero h2)⟩
 · refine ⟨_, cap, h1, h4, by unfold maxLen at h5; omega, Or.inr ⟨g, 0, rfl, fun k hk => ?_⟩⟩
   have := h.own.cells (g := g) (by rw [h1]; rfl) k (.float .f64 (bs.getD k 0)) (by simp [f64s, List.getD, hk])
   rwa [show (⟨g, 0, none⟩ : Addr).add k = ⟨g, 0 + k, none⟩ by unfold Addr.add; split <;> simp_all] at this
theorem Fr.mono {w : World} {B B' : Nat} {v : Value} {bs : List Nat} (h : Fr w B v bs) (hB : B' ≤ B) : Fr w B' v bs := by
 refine ⟨⟨h.own.1, ?_⟩, h.word⟩
 rcases h.own.2 with h1 | ⟨g, cap, cur, h1, h2, h3⟩
 · exact Or.inl h1
 · exact Or.inr ⟨g, cap, cur, h1, by omega, h3⟩
theorem Fr.later {w w' : World} {B : Nat} {v : Value} {bs : List Nat} (h : Fr w B v bs) (hb : Below w.heap.size w w') : Fr w' B v bs := by
 refine ⟨⟨h.own.1, ?_⟩, h.word⟩
 rcases h.own.2 with h1 | ⟨g, cap, cur, h1, h2, h3, h4⟩
 · exact Or.inl h1
 · refine Or.inr ⟨g, cap, cur, h1, h2, ?_, h4⟩
   rw [hb.block g (Array.getElem?_eq_some_iff.1 h3).1]; exact h3
theorem Fr.nil (w : World) (B : Nat) : Fr w B (.slice none 0 0) [] := ⟨World.ownsRow_nil w B _ 1, fun b hb => by cases hb⟩
theorem Fr.low {w : World} {B : Nat} {v : Value} {bs : List Nat} (h : Fr w B v bs) {a : Addr} (hb : a.block < B) (x : Value) : Fr (w.setCell a x) B v bs :=
 ⟨ownsRow_setCell_below h.own hb x, h.word⟩
def gw (bs : List Nat) (x : Nat) : List Nat := if frung x = 0 then bs else bs ++ [x]
set_option maxRecDepth 100000 in
set_option maxHeartbeats 1000000 in
theorem grown_any (B : Nat) (v : Value) (bs : List Nat) (x : Nat) (w : World) (h : Fr w B v bs) (hB : B ≤ w.heap.size) (hx : x < 18446744073709551616) (hl : bs.length ≤ 1000000) :
   Calls Try.prog 25 #[v, .float .f64 x] w fun e w' => (∃ v', e = .returned v' ∧ Fr w' B v' (gw bs x)) ∧ Below B w w' := by
 have H : Hid (Fr w B v bs) := h
 have HX : Hid (x < 18446744073709551616) := hx
 have q := eql_zero2 x
 clear h hx
 by_cases h0 : frung x = 0
 · rw [decide_eq_true h0] at q
   have HG : Hid (gw bs x = bs) := by show gw bs x = bs; unfold gw; rw [if_pos h0]
   clear h0
   go_enter Try.func25, Try.ntmps25
   go_wp2
   go_ret
   exact ⟨⟨v, rfl, by rw [HG.out]; exact H.out⟩, Below.refl _ _⟩
 · rw [decide_eq_false h0] at q
   have HG : Hid (gw bs x = bs ++ [x]) := by show gw bs x = _; unfold gw; rw [if_neg h0]
   clear h0
   obtain ⟨i0, hi0, hz0, hz1, hz2⟩ := info_parts infoF
   go_enter Try.func25, Try.ntmps25
   go_wp2_with (at_builtin; refine wpList_append_own _ rfl _ _ _ rfl B 24 i0 _ 1 8 undF hi0 hz0 hz1 hz2 rfl (by omega) v bs.length (f64s bs) rfl (H.out.own.alloc _) ⟨w.heap.size, 0, none⟩ 1 1 [.float .f64 x] rfl rfl (World.news_of_block (cs := #[.float .f64 x]) (t := 24) (fr := (0, 0)) (heap_alloc_new w _)) (by simp [Value.oneCell']) (by unfold maxLen; omega) (by omega) (by simp; omega) ?_; intro v' w1 hown hgrow hnil)
   go_ret
   refine ⟨⟨v', rfl, ?_⟩, ?_⟩
   · rw [HG.out]
     refine ⟨?_, ?_⟩
     · rw [List.length_append]
       simpa [f64s] using hown
     · intro b hb
       rcases List.mem_append.1 hb with hb | hb
       · exact H.out.word b hb
       · rw [List.mem_singleton.1 hb]; exact HX.out
   · exact ((Below.refl B w).alloc hB _).grown hgrow (by simp; omega) (fun k hk => (H.out.own.lt k hk).1)
end

/- Package expand: the next float of two lists. -/
section
open Go.RowKit
attribute [local go_sem ↓] Go.wp_at_zero Go.wp_at_succ
set_option maxRecDepth 100000 in
set_option maxHeartbeats 4000000 in
theorem next_A (be bf ge oe ne ce cf x : Nat) (af ao : Option Addr) (w : World) (ha : (if ce = 1 then some (⟨ge, oe, none⟩ : Addr) else some ⟨ge, oe + 1, none⟩) = ao)
   (h1 : w.cell? ⟨be, 0, none⟩ = some (.slice (some ⟨ge, oe, none⟩) (ne + 1) ce)) (h2 : w.cell? ⟨bf, 0, none⟩ = some (.slice af 0 cf)) (h3 : w.cell? ⟨ge, oe, none⟩ = some (.float .f64 x)) (h4 : w.frozen? ⟨be, 0, none⟩ = false) (h5 : ne + 1 ≤ ce) (h6 : ce ≤ 9223372036854775807) :
   Calls Try.prog 41 #[.pointer (some ⟨bf, 0, none⟩), .pointer (some ⟨be, 0, none⟩)] w fun e w' => e = .returned (.float .f64 x) ∧ w' = (w.setCell ⟨be, 0, none⟩ (.slice ao ne (ce - 1))).drew.drew := by
 have l1 : (ne : Int) + 1 ≤ (ce : Int) := by omega
 have l2 : (ce : Int) ≤ 9223372036854775807 := by omega
 clear h5 h6
 go_enter Try.func41, Try.ntmps41
 go_wp2
 go_region
 go_wp2
 go_region
 clear h1 h2 h3 h4 l1 l2 ha
 go_wp2
 go_ret
 exact ⟨rfl, rfl⟩
set_option maxRecDepth 100000 in
set_option maxHeartbeats 4000000 in
theorem next_B (be bf gf of nf cf ce x : Nat) (ae ao : Option Addr) (w : World) (ha : (if cf = 1 then some (⟨gf, of, none⟩ : Addr) else some ⟨gf, of + 1, none⟩) = ao)
   (h1 : w.cell? ⟨bf, 0, none⟩ = some (.slice (some ⟨gf, of, none⟩) (nf + 1) cf)) (h2 : w.cell? ⟨be, 0, none⟩ = some (.slice ae 0 ce)) (h3 : w.cell? ⟨gf, of, none⟩ = some (.float .f64 x)) (h4 : w.frozen? ⟨bf, 0, none⟩ = false) (h5 : nf + 1 ≤ cf) (h6 : cf ≤ 9223372036854775807) :
   Calls Try.prog 41 #[.pointer (some ⟨bf, 0, none⟩), .pointer (some ⟨be, 0, none⟩)] w fun e w' => e = .returned (.float .f64 x) ∧ w' = (w.setCell ⟨bf, 0, none⟩ (.slice ao nf (cf - 1))).drew.drew := by
 have l1 : (nf : Int) + 1 ≤ (cf : Int) := by omega
 have l2 : (cf : Int) ≤ 9223372036854775807 := by omega
 have e0 : ((nf : Int) + 1 == 0) = false := by simp; omega
 clear h5 h6
 go_enter Try.func41, Try.ntmps41
 go_wp2
 go_region
 go_wp2
 go_region
 clear h1 h2 h3 h4 l1 l2 ha
 go_wp2
 go_ret
 exact ⟨rfl, rfl⟩
set_option maxRecDepth 100000 in
set_option maxHeartbeats 4000000 in
theorem next_C (be bf ge oe ne ce gf of nf cf x y : Nat) (ae af : Option Addr) (w : World) (hae : (if ce = 1 then some (⟨ge, oe, none⟩ : Addr) else some ⟨ge, oe + 1, none⟩) = ae) (haf : (if cf = 1 then some (⟨gf, of, none⟩ : Addr) else some ⟨gf, of + 1, none⟩) = af)
   (h1 : w.cell? ⟨be, 0, none⟩ = some (.slice (some ⟨ge, oe, none⟩) (ne + 1) ce)) (h2 : w.cell? ⟨bf, 0, none⟩ = some (.slice (some ⟨gf, of, none⟩) (nf + 1) cf)) (h3 : w.cell? ⟨ge, oe, none⟩ = some (.float .f64 x)) (h4 : w.cell? ⟨gf, of, none⟩ = some (.float .f64 y)) (f1 : w.frozen? ⟨be, 0, none⟩ = false) (f2 : w.frozen? ⟨bf, 0, none⟩ = false)
   (n1 : ne + 1 ≤ ce) (n2 : ce ≤ 9223372036854775807) (m1 : nf + 1 ≤ cf) (m2 : cf ≤ 9223372036854775807) (hx : x < 18446744073709551616) (hy : y < 18446744073709551616) (fy : Fin64 y) :
   Calls Try.prog 41 #[.pointer (some ⟨bf, 0, none⟩), .pointer (some ⟨be, 0, none⟩)] w fun e w' =>
     (frung x ≤ frung y ∧ e = .returned (.float .f64 x) ∧ w' = (w.setCell ⟨be, 0, none⟩ (.slice ae ne (ce - 1))).drew.drew) ∨ (¬ frung x ≤ frung y ∧ e = .returned (.float .f64 y) ∧ w' = (w.setCell ⟨bf, 0, none⟩ (.slice af nf (cf - 1))).drew.drew) := by
 have l1 : (ne : Int) + 1 ≤ (ce : Int) := by omega
 have l2 : (ce : Int) ≤ 9223372036854775807 := by omega
 have l3 : (nf : Int) + 1 ≤ (cf : Int) := by omega
 have l4 : (cf : Int) ≤ 9223372036854775807 := by omega
 have e0 : ((nf : Int) + 1 == 0) = false := by simp; omega
 have e1 : decide (0 < (ne : Int) + 1) = true := decide_eq_true (by omega)
 have HA : Hid (∀ w, Calls Try.prog 42 #[.float .f64 x] w fun e w' => e = .returned (.float .f64 (frung x)) ∧ w' = w) := fun w => abs_any x w hx
 have HB : Hid (∀ w, Calls Try.prog 42 #[.float .f64 y] w fun e w' => e = .returned (.float .f64 (frung y)) ∧ w' = w) := fun w => abs_any y w hy
 have q := leq_word (r := frung x) (c := frung y) (Nat.mod_lt _ (by omega)) fy
 clear n1 n2 m1 m2 hx hy fy
 by_cases hle : frung x ≤ frung y
 · rw [decide_eq_true hle] at q
   have HL : Hid (frung x ≤ frung y) := hle
   clear hle
   go_enter Try.func41, Try.ntmps41
   go_wp2
   go_region_held3 (fun W => W.cell? ⟨be, 0, none⟩ = some (.slice (some ⟨ge, oe, none⟩) (ne + 1) ce) ∧ W.cell? ⟨bf, 0, none⟩ = some (.slice (some ⟨gf, of, none⟩) (nf + 1) cf) ∧ W.cell? ⟨ge, oe, none⟩ = some (.float .f64 x) ∧ W.cell? ⟨gf, of, none⟩ = some (.float .f64 y))
     (first
       | assumption
       | exact ⟨by go_simp, by go_simp, by go_simp, by go_simp⟩)
     (first
       | (refine (HA.out _).mono ?_; rintro e w3 ⟨rfl, rfl⟩)
       | (refine (HB.out _).mono ?_; rintro e w3 ⟨rfl, rfl⟩))
   go_wp2
   go_region
   clear h1 h2 h3 h4 l1 l2 l3 l4
   go_wp2
   go_ret
   exact Or.inl ⟨HL.out, rfl, rfl⟩
 · rw [decide_eq_false hle] at q
   have HL : Hid (¬ frung x ≤ frung y) := hle
   clear hle
   go_enter Try.func41, Try.ntmps41
   go_wp2
   go_region_held3 (fun W => W.cell? ⟨be, 0, none⟩ = some (.slice (some ⟨ge, oe, none⟩) (ne + 1) ce) ∧ W.cell? ⟨bf, 0, none⟩ = some (.slice (some ⟨gf, of, none⟩) (nf + 1) cf) ∧ W.cell? ⟨ge, oe, none⟩ = some (.float .f64 x) ∧ W.cell? ⟨gf, of, none⟩ = some (.float .f64 y))
     (first
       | assumption
       | exact ⟨by go_simp, by go_simp, by go_simp, by go_simp⟩)
     (first
       | (refine (HA.out _).mono ?_; rintro e w3 ⟨rfl, rfl⟩)
       | (refine (HB.out _).mono ?_; rintro e w3 ⟨rfl, rfl⟩))
   go_wp2
   go_region
   clear h1 h2 h3 h4 l1 l2 l3 l4
   go_wp2
   go_ret
   exact Or.inr ⟨HL.out, rfl, rfl⟩
end

/- The reference's Rounds: is a float the one nearest to a number? -/
section
open Go.RowKit
attribute [local go_sem ↓] Go.wp_at_zero Go.wp_at_succ
end

/- Which coordinates may be: math.Trunc, grid.stands. -/
section
open Go.RowKit
end
end Go.Proofs.Ytjcdbbdbmcbjpaa
