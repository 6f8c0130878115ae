/- Own texts, put together: Xf Xg Xh Xi Xj Xk Xl Xm. -/
import Derived.Test.YtmcllgoeldfgmaaDoorQ7
import Derived.Deep.AppendLies
import Derived.OwnWalk
import Derived.Maps.AppendAt
/- Which lists of floats may be, as package expand tells it. -/
namespace Go.Proofs.YtmcllgoeldfgmaaDoor
open Go.RowKit

/-- A slice of floats: their words. -/
structure Fs (w : World) (s : Value) (bs : List Nat) : Prop where
  form : ∃ a c, s = .slice a bs.length c ∧ bs.length ≤ c ∧ c ≤ 9223372036854775807 ∧ (bs = [] ∨ ∃ g off, a = some ⟨g, off, none⟩ ∧ ∀ k, k < bs.length → w.cell? ⟨g, off + k, none⟩ = some (.float .f64 (bs.getD k 0)))
  word : ∀ b ∈ bs, b < 18446744073709551616
theorem Fs.later {w w' : World} {s : Value} {bs : List Nat} (h : Fs w s bs) (hb : Below w.heap.size w w') : Fs w' s bs := by
  obtain ⟨⟨a, c, hs, hc, hm, hf⟩, h2⟩ := h
  refine ⟨⟨a, c, hs, hc, hm, ?_⟩, h2⟩
  rcases hf with hf | ⟨g, off, ha, hf⟩
  · exact Or.inl hf
  · exact Or.inr ⟨g, off, ha, fun k hk => box_cell hb (hf k hk)⟩

/-- The float at i may stand there. -/
def MayAt (lo hi : Nat) (bs : List Nat) (i : Nat) : Prop := lo ≤ frung (bs.getD i 0) ∧ frung (bs.getD i 0) ≤ hi ∧ frung (bs.getD i 0) ≠ 0 ∧ (0 < i → Lo (fval (bs.getD (i - 1) 0)) (fval (bs.getD i 0)))
/-- The list may be, with magnitudes from lo to hi. -/
def MayP (lo hi : Nat) (bs : List Nat) : Prop := bs.length ≤ 64 ∧ ∀ i, i < bs.length → MayAt lo hi bs i

theorem getD_word {bs : List Nat} (h : ∀ b ∈ bs, b < 18446744073709551616) (i : Nat) : bs.getD i 0 < 18446744073709551616 := by
  by_cases hi : i < bs.length
  · rw [show bs.getD i 0 = bs[i] by simp [List.getD, hi]]; exact h _ (List.getElem_mem hi)
  · simp [List.getD, List.getElem?_eq_none (Nat.le_of_not_lt hi)]
theorem ab_fval (b : Nat) (h : Fin64 b) : fval (frung b) = ab (fval b) := by
  have h1 := fval_nonneg (r := frung b) h
  unfold ab
  rcases fval_abs b with e | e <;> rw [e] <;> split <;> grind

/-- What is held against the lowest bit. -/
theorem lo_test {p x l : Nat} (hp : Fin64 p) (hl : LB x l) : FloatKind.f64.format.order (frung p) l == some .lt ↔ frung x ≠ 0 ∧ Lo (fval p) (fval x) := by
  have fp : Fin64 (frung p) := fin_small hp
  have fl : Fin64 l := fin_small hl.1
  rw [order_val fp fl, ab_fval p hp]
  have h0 := ab_nonneg (fval p)
  rcases hl.2 with ⟨z, rfl⟩ | ⟨z, L, m, h1, h2, h3⟩
  · rw [fval0, if_neg (by grind)]
    constructor
    · intro h
      split at h <;> cases h
    · intro h; exact absurd z h.1
  · rw [h1]
    by_cases h : ab (fval p) < U L
    · rw [if_pos h]
      exact ⟨fun _ => ⟨z, L, h, m, h2⟩, fun _ => rfl⟩
    · rw [if_neg h]
      constructor
      · intro h
        split at h <;> cases h
      · rintro ⟨_, t, a, n, b⟩
        exfalso
        have ht : t ≤ L := by
          rcases Nat.lt_or_ge L t with hlt | hge
          · exfalso
            obtain ⟨j, rfl⟩ : ∃ j, t = L + 1 + j := ⟨t - L - 1, by omega⟩
            have e : (m : Rat) * U L = ((n * ((2 ^ j : Nat) : Int) * 2 : Int) : Rat) * U L := by
              rw [← h2, b, show L + 1 + j = (L + 1) + j by omega, U_add, U_succ, Rat.intCast_mul, Rat.intCast_mul]
              show _ = (n : Rat) * ((2 ^ j : Nat) : Rat) * 2 * U L
              grind
            have := int_eq (U_pos L) e
            omega
          · exact hge
        have := U_mono ht
        grind

set_option maxRecDepth 100000 in
set_option maxHeartbeats 4000000 in
theorem mayBe_walk (g off c lo hi : Nat) (bs : List Nat) (w : World) (hc : ∀ k, k < bs.length → w.cell? ⟨g, off + k, none⟩ = some (.float .f64 (bs.getD k 0))) (hw : ∀ b ∈ bs, b < 18446744073709551616) (hl : bs.length ≤ 64) (h1 : lo < 9218868437227405312) (h2 : hi < 9218868437227405312) :
    Calls Tryd.prog 74 #[.slice (some ⟨g, off, none⟩) bs.length c, .float .f64 lo, .float .f64 hi] w fun e w' => (∃ t, e = .returned (.bool t) ∧ (t = true ↔ MayP lo hi bs)) ∧ w' = w := by
  have HC : Hid (∀ k, k < bs.length → w.cell? ⟨g, off + k, none⟩ = some (.float .f64 (bs.getD k 0))) := hc
  have HW : Hid (∀ b ∈ bs, b < 18446744073709551616) := hw
  have l1 : (bs.length : Int) ≤ 64 := by omega
  have HL : Hid (lo < 9218868437227405312 ∧ hi < 9218868437227405312) := ⟨h1, h2⟩
  clear hc hw h1 h2
  go_enter Tryd.func74, Tryd.ntmps74
  go_wp2
  go_loop [7, 16] (fun b i => ∃ (k : Nat) (p : Nat), i = .int .i64 (k : Nat) ∧ b = .float .f64 (frung p) ∧ k ≤ bs.length ∧ Hid ((∀ i, i < k → MayAt lo hi bs i) ∧ p = (if k = 0 then 0 else bs.getD (k - 1) 0))) (fun _ i => bs.length - (intOf i).toNat)
  case atStart => exact ⟨0, 0, rfl, rfl, by omega, fun i hi => by omega, rfl⟩
  case round =>
    obtain ⟨k, p, rfl, rfl, hk, hok⟩ := hrel
    by_cases hlt : k < bs.length
    · have hlt' : (k : Int) < (bs.length : Int) := by omega
      have hk0 : (0 : Int) ≤ (k : Int) := by omega
      have hck := HC.out k hlt
      obtain ⟨x, hx⟩ : ∃ x : Nat, Hid (bs.getD k 0 = x) := ⟨_, rfl⟩
      rw [hx.out] at hck
      have hxw : x < 18446744073709551616 := by rw [← hx.out]; exact getD_word HW.out k
      have hfr : frung x < 9223372036854775808 := Nat.mod_lt _ (by omega)
      have HA : Hid (∀ w, Calls Tryd.prog 37 #[.float .f64 x] w fun e w' => e = .returned (.float .f64 (frung x)) ∧ w' = w) := fun w => abs_any x w hxw
      have q1 := const_leq (r := frung x) (c := lo) hfr HL.out.1
      have q2 := leq_word (r := frung x) (c := hi) hfr HL.out.2
      have HXW : Hid (x < 18446744073709551616) := hxw
      have hno : ¬ MayAt lo hi bs k → ¬ MayP lo hi bs := fun h1 h2 => h1 (h2.2 k hlt)
      have HNO : Hid (¬ MayAt lo hi bs k → ¬ MayP lo hi bs) := hno
      clear hxw hfr hno
      by_cases c1 : lo ≤ frung x ∧ frung x ≤ 9218868437227405312
      · rw [decide_eq_true c1] at q1
        by_cases c2 : frung x ≤ hi
        · rw [decide_eq_true c2] at q2
          have fx : Fin64 x := by unfold Fin64; have := HL.out; omega
          have HB : Hid (∀ w, Calls Tryd.prog 100 #[.float .f64 x] w fun e w' => (∃ l, e = .returned (.float .f64 l) ∧ LB x l) ∧ w' = w) := fun w => lowestE_any x w HXW.out fx
          have HFX : Hid (Fin64 x ∧ lo ≤ frung x ∧ frung x ≤ hi) := ⟨fx, c1.1, c2⟩
          have fp : Fin64 p := by
            rw [hok.out.2]
            split
            · exact fin0
            · have := (hok.out.1 (k - 1) (by omega)).2.1
              unfold Fin64; have := HL.out; omega
          have HFP : Hid (Fin64 p) := fp
          clear c1 c2 fx fp
          go_wp2_with fail
          refine (HA.out _).mono ?_
          rintro e w1 ⟨rfl, rfl⟩
          go_wp2_with fail
          refine (HB.out _).mono ?_
          rintro e w1 ⟨⟨l, rfl, hlb⟩, rfl⟩
          have htest := lo_test HFP.out hlb
          have HT : Hid (FloatKind.f64.format.order (frung p) l == some .lt ↔ frung x ≠ 0 ∧ Lo (fval p) (fval x)) := htest
          have HLB : Hid (LB x l) := hlb
          clear hlb htest
          by_cases c3 : (FloatKind.f64.format.order (frung p) l == some .lt) = true
          · have HM : Hid (MayAt lo hi bs k) := by
              have h3 := HT.out.1 c3
              refine ⟨by rw [hx.out]; exact HFX.out.2.1, by rw [hx.out]; exact HFX.out.2.2, by rw [hx.out]; exact h3.1, fun hp => ?_⟩
              have := hok.out.2
              rw [if_neg (by omega)] at this
              rw [← this, hx.out]; exact h3.2
            go_wp2
            go_round
            case rel => exact ⟨k + 1, x, by go_num, rfl, by omega, fun i hi => by
              by_cases e : i = k
              · rw [e]; exact HM.out
              · exact hok.out.1 i (by omega), by rw [if_neg (by omega), show k + 1 - 1 = k by omega]; exact hx.out.symm⟩
            case measure => simp [intOf]; omega
          · have HM : Hid (¬ MayAt lo hi bs k) := by
              intro h
              refine c3 (HT.out.2 ⟨by rw [← hx.out]; exact h.2.2.1, ?_⟩)
              rw [hok.out.2]
              by_cases hk0 : k = 0
              · rw [if_pos hk0, fval0]
                have hz := h.2.2.1
                rw [hx.out] at hz
                rcases HLB.out.2 with ⟨z, _⟩ | ⟨z, L, m, _, h2, _⟩
                · exact absurd z hz
                · exact ⟨L, by show ab 0 < U L; rw [show ab 0 = 0 by unfold ab; grind]; exact U_pos L, m, h2⟩
              · rw [if_neg hk0, ← hx.out]
                exact h.2.2.2 (by omega)
            have c3' : (FloatKind.f64.format.order (frung p) l == some .lt) = false := by simpa using c3
            clear c3
            go_wp2
            go_ret
            exact ⟨⟨false, rfl, by simp; exact HNO.out HM.out⟩, rfl⟩
        · rw [decide_eq_false c2] at q2
          have HM : Hid (¬ MayAt lo hi bs k) := fun h => c2 (by rw [← hx.out]; exact h.2.1)
          clear c1 c2
          go_wp2_with fail
          refine (HA.out _).mono ?_
          rintro e w1 ⟨rfl, rfl⟩
          go_wp2
          go_ret
          exact ⟨⟨false, rfl, by simp; exact HNO.out HM.out⟩, rfl⟩
      · rw [decide_eq_false c1] at q1
        have HM : Hid (¬ MayAt lo hi bs k) := fun h => c1 ⟨by rw [← hx.out]; exact h.1, by have := h.2.1; rw [hx.out] at this; have := HL.out; omega⟩
        clear c1 q2
        go_wp2_with fail
        refine (HA.out _).mono ?_
        rintro e w1 ⟨rfl, rfl⟩
        go_wp2
        go_ret
        exact ⟨⟨false, rfl, by simp; exact HNO.out HM.out⟩, rfl⟩
    · obtain rfl : k = bs.length := by omega
      have hltb : decide ((bs.length : Int) < (bs.length : Int)) = false := decide_eq_false (by omega)
      go_wp2
      go_ret
      exact ⟨Or.inr ⟨rfl, hl, hok.out.1⟩, rfl⟩

set_option maxRecDepth 100000 in
set_option maxHeartbeats 1000000 in
theorem mayBe_none (a : Option Addr) (c lo hi : Nat) (w : World) :
    Calls Tryd.prog 74 #[.slice a 0 c, .float .f64 lo, .float .f64 hi] w fun e w' => e = .returned (.bool true) ∧ w' = w := by
  go_enter Tryd.func74, Tryd.ntmps74
  go_wp2
  go_loop [7, 16] (fun b i => ∃ p, i = .int .i64 0 ∧ b = .float .f64 p) (fun _ i => 0)
  case atStart => exact ⟨0, rfl, rfl⟩
  case round =>
    obtain ⟨p, rfl, rfl⟩ := hrel
    go_wp2
    go_ret
    exact ⟨rfl, rfl⟩
set_option maxRecDepth 100000 in
set_option maxHeartbeats 1000000 in
theorem mayBe_long (a : Option Addr) (n c lo hi : Nat) (w : World) (h : 64 < n) :
    Calls Tryd.prog 74 #[.slice a n c, .float .f64 lo, .float .f64 hi] w fun e w' => e = .returned (.bool false) ∧ w' = w := by
  have h' : decide (64 < (n : Int)) = true := decide_eq_true (by omega)
  clear h
  go_enter Tryd.func74, Tryd.ntmps74
  go_wp2
  go_ret
  exact ⟨rfl, rfl⟩

set_option maxRecDepth 100000 in
/-- Which lists may be is what the program tells. -/
theorem mayBe_any (lo hi : Nat) (s : Value) (bs : List Nat) (w : World) (h : Fs w s bs) (h1 : lo < 9218868437227405312) (h2 : hi < 9218868437227405312) :
    Calls Tryd.prog 74 #[s, .float .f64 lo, .float .f64 hi] w fun e w' => (∃ t, e = .returned (.bool t) ∧ (t = true ↔ MayP lo hi bs)) ∧ w' = w := by
  obtain ⟨⟨a, c, rfl, hc, hm, hf⟩, hw⟩ := h
  by_cases hl : bs.length ≤ 64
  · rcases hf with rfl | ⟨g, off, rfl, hf⟩
    · exact (mayBe_none a c lo hi w).mono fun e w' q => ⟨⟨true, q.1, fun _ => ⟨by simp, fun i hi => by simp at hi⟩, fun _ => rfl⟩, q.2⟩
    · exact mayBe_walk g off c lo hi bs w hf hw hl h1 h2
  · exact (mayBe_long a bs.length c lo hi w (by omega)).mono fun e w' q => ⟨⟨false, q.1, ⟨fun h => Bool.noConfusion h, fun h => absurd h.1 hl⟩⟩, q.2⟩

end Go.Proofs.YtmcllgoeldfgmaaDoor

/- Package expand: whether a list may be, its last float, its sign, a list that grows. -/
namespace Go.Proofs.YtmcllgoeldfgmaaDoor
open Go.RowKit

set_option maxRecDepth 100000 in
theorem check_any (s : Value) (bs : List Nat) (w : World) (h : Fs w s bs) :
    Calls Tryd.prog 42 #[s] w fun e w' => (∃ t, e = .returned (.bool t) ∧ (t = true ↔ MayP 0 9065746049896808448 bs)) ∧ w' = w := by
  have HA : Hid (∀ w, Fs w s bs → Calls Tryd.prog 74 #[s, .float .f64 0, .float .f64 9065746049896808448] w fun e w' => (∃ t, e = .returned (.bool t) ∧ (t = true ↔ MayP 0 9065746049896808448 bs)) ∧ w' = w) := fun w h => mayBe_any _ _ s bs w h (by omega) (by omega)
  have HF : Hid (Fs w s bs) := h
  clear h
  go_enter Tryd.func42, Tryd.ntmps42
  go_wp2_with fail
  refine (HA.out _ HF.out).mono ?_
  rintro e w1 ⟨⟨t, rfl, ht⟩, rfl⟩
  have HT : Hid (t = true ↔ MayP 0 9065746049896808448 bs) := ht
  clear ht
  go_wp2_with fail
  go_ret
  exact ⟨⟨t, rfl, HT.out⟩, rfl⟩
set_option maxRecDepth 100000 in
theorem safeE_any (s : Value) (bs : List Nat) (w : World) (h : Fs w s bs) :
    Calls Tryd.prog 70 #[s] w fun e w' => (∃ t, e = .returned (.bool t) ∧ (t = true ↔ MayP 2580562586483294208 6633802251116740608 bs)) ∧ w' = w := by
  have HA : Hid (∀ w, Fs w s bs → Calls Tryd.prog 74 #[s, .float .f64 2580562586483294208, .float .f64 6633802251116740608] w fun e w' => (∃ t, e = .returned (.bool t) ∧ (t = true ↔ MayP 2580562586483294208 6633802251116740608 bs)) ∧ w' = w) := fun w h => mayBe_any _ _ s bs w h (by omega) (by omega)
  have HF : Hid (Fs w s bs) := h
  clear h
  go_enter Tryd.func70, Tryd.ntmps70
  go_wp2_with fail
  refine (HA.out _ HF.out).mono ?_
  rintro e w1 ⟨⟨t, rfl, ht⟩, rfl⟩
  have HT : Hid (t = true ↔ MayP 2580562586483294208 6633802251116740608 bs) := ht
  clear ht
  go_wp2_with fail
  go_ret
  exact ⟨⟨t, rfl, HT.out⟩, rfl⟩
set_option maxRecDepth 100000 in
theorem addable_any (s : Value) (bs : List Nat) (w : World) (h : Fs w s bs) :
    Calls Tryd.prog 92 #[s] w fun e w' => (∃ t, e = .returned (.bool t) ∧ (t = true ↔ MayP 0 8660422083433463808 bs)) ∧ w' = w := by
  have HA : Hid (∀ w, Fs w s bs → Calls Tryd.prog 74 #[s, .float .f64 0, .float .f64 8660422083433463808] w fun e w' => (∃ t, e = .returned (.bool t) ∧ (t = true ↔ MayP 0 8660422083433463808 bs)) ∧ w' = w) := fun w h => mayBe_any _ _ s bs w h (by omega) (by omega)
  have HF : Hid (Fs w s bs) := h
  clear h
  go_enter Tryd.func92, Tryd.ntmps92
  go_wp2_with fail
  refine (HA.out _ HF.out).mono ?_
  rintro e w1 ⟨⟨t, rfl, ht⟩, rfl⟩
  have HT : Hid (t = true ↔ MayP 0 8660422083433463808 bs) := ht
  clear ht
  go_wp2_with fail
  go_ret
  exact ⟨⟨t, rfl, HT.out⟩, rfl⟩

/-- The last word, 0 of none. -/
def lastW (bs : List Nat) : Nat := bs.getD (bs.length - 1) 0
set_option maxRecDepth 100000 in
theorem lead_walk (g off n c x : Nat) (w : World) (hc : w.cell? ⟨g, off + n, none⟩ = some (.float .f64 x)) (hn : n < 1000000) :
    Calls Tryd.prog 94 #[.slice (some ⟨g, off, none⟩) (n + 1) c] w fun e w' => e = .returned (.float .f64 x) ∧ w' = w := by
  have e9 : (n : Int) < 1000000 := by omega
  clear hn
  have e0 : ((n : Int) + 1 == 0) = false := by simp; omega
  have e3 : (n : Int) < (n : Int) + 1 := by omega
  have e4 : (0 : Int) ≤ (n : Int) := by omega
  go_enter Tryd.func94, Tryd.ntmps94
  go_wp2
  go_ret
  exact ⟨rfl, rfl⟩
set_option maxRecDepth 100000 in
theorem lead_any (s : Value) (bs : List Nat) (w : World) (h : Fs w s bs) (hlen : bs.length ≤ 1000000) :
    Calls Tryd.prog 94 #[s] w fun e w' => e = .returned (.float .f64 (lastW bs)) ∧ w' = w := by
  obtain ⟨⟨a, c, rfl, hc, hm, hf⟩, hw⟩ := h
  rcases hf with rfl | ⟨g, off, rfl, hf⟩
  · go_enter Tryd.func94, Tryd.ntmps94
    go_wp2
    go_ret
    exact ⟨rfl, rfl⟩
  · by_cases h0 : bs.length = 0
    · have : bs = [] := List.eq_nil_of_length_eq_zero h0
      subst this
      clear hf
      go_enter Tryd.func94, Tryd.ntmps94
      go_wp2
      go_ret
      exact ⟨rfl, rfl⟩
    · obtain ⟨n, hn⟩ : ∃ n, bs.length = n + 1 := ⟨bs.length - 1, by omega⟩
      rw [show lastW bs = bs.getD n 0 by unfold lastW; rw [hn]; rfl, hn]
      exact lead_walk g off n c _ w (hf n (by omega)) (by omega)

theorem order_nan_self {b : Nat} (h : Fin64 b) : FloatKind.f64.format.order b b = some .eq := by
  rw [order_val h h, if_neg Rat.lt_irrefl, if_pos rfl]
set_option maxRecDepth 100000 in
theorem nan_fin (b : Nat) (w : World) (h : Fin64 b) : Calls Tryd.prog 116 #[.float .f64 b] w fun e w' => e = .returned (.bool false) ∧ w' = w := by
  have h1 := order_nan_self h
  clear h
  go_enter Tryd.func116, Tryd.ntmps116
  go_wp2
  go_ret
  exact ⟨rfl, rfl⟩
set_option maxRecDepth 100000 in
set_option maxHeartbeats 1000000 in
theorem compare_zero (b : Nat) (w : World) (h : Fin64 b) : Calls Tryd.prog 101 #[.float .f64 b, .float .f64 0] w fun e w' => e = .returned (.int .i64 (sgq (fval b))) ∧ w' = w := by
  have HN : Hid (∀ w, Calls Tryd.prog 116 #[.float .f64 b] w fun e w' => e = .returned (.bool false) ∧ w' = w) := fun w => nan_fin b w h
  have HZ : Hid (∀ w, Calls Tryd.prog 116 #[.float .f64 0] w fun e w' => e = .returned (.bool false) ∧ w' = w) := fun w => nan_fin 0 w fin0
  have ho := order_val h fin0
  rw [fval0] at ho
  clear h
  have key : ∀ o, FloatKind.f64.format.order b 0 = some o → Calls Tryd.prog 101 #[.float .f64 b, .float .f64 0] w fun e w' => e = .returned (.int .i64 (match o with | .lt => -1 | .eq => 0 | .gt => 1)) ∧ w' = w := by
    intro o hb
    clear ho
    cases o <;>
    · go_enter Tryd.func101, Tryd.ntmps101
      go_wp2_with fail
      refine (HN.out _).mono ?_
      rintro e w1 ⟨rfl, rfl⟩
      go_wp2_with fail
      refine (HZ.out _).mono ?_
      rintro e w1 ⟨rfl, rfl⟩
      go_wp2
      go_ret
      exact ⟨rfl, rfl⟩
  refine (key _ ho).mono ?_
  rintro e w' ⟨rfl, rfl⟩
  refine ⟨?_, rfl⟩
  unfold sgq
  by_cases h1 : fval b < 0
  · rw [if_pos h1]; simp [h1]
  · by_cases h2 : fval b = 0
    · rw [if_neg h1, if_pos h2, h2]; simp
    · rw [if_neg h1, if_neg h2]
      have h3 : 0 < fval b := by grind
      simp [h1, h2]
set_option maxRecDepth 100000 in
theorem signOf_any (s : Value) (bs : List Nat) (w : World) (h : Fs w s bs) (hf : Fin64 (lastW bs)) (hlen : bs.length ≤ 1000000) :
    Calls Tryd.prog 75 #[s] w fun e w' => e = .returned (.int .i64 (sgq (fval (lastW bs)))) ∧ w' = w := by
  have HA : Hid (∀ w, Fs w s bs → Calls Tryd.prog 94 #[s] w fun e w' => e = .returned (.float .f64 (lastW bs)) ∧ w' = w) := fun w h => lead_any s bs w h hlen
  have HF : Hid (Fs w s bs) := h
  have HB : Hid (∀ w, Calls Tryd.prog 101 #[.float .f64 (lastW bs), .float .f64 0] w fun e w' => e = .returned (.int .i64 (sgq (fval (lastW bs)))) ∧ w' = w) := fun w => compare_zero _ w hf
  clear h hf hlen
  go_enter Tryd.func75, Tryd.ntmps75
  go_wp2_with fail
  refine (HA.out _ HF.out).mono ?_
  rintro e w1 ⟨rfl, rfl⟩
  go_wp2_with fail
  refine (HB.out _).mono ?_
  rintro e w1 ⟨rfl, rfl⟩
  go_wp2_with fail
  go_ret
  exact ⟨rfl, rfl⟩

end Go.Proofs.YtmcllgoeldfgmaaDoor

/- Package expand: lists of its own; a list that grows; a list turned about. -/
namespace Go.Proofs.YtmcllgoeldfgmaaDoor
open Go.RowKit

def f64s (bs : List Nat) : List Value := bs.map (Value.float .f64)
theorem infoF : (Tryd.prog.info? 31).map (fun i => (i.zero, i.size, i.bytes)) = some (some (.float .f64 0), 1, 8) := by kernel_rfl
theorem undF : Tryd.prog.underlying 63 = some (.slice 31) := by kernel_rfl

/-- A list of floats that lies in a row of the call's own. -/
structure Fr (w : World) (B : Nat) (v : Value) (bs : List Nat) : Prop where
  own : w.ownsRow B 31 1 v bs.length (f64s bs)
  word : ∀ b ∈ bs, b < 18446744073709551616
theorem Fr.fs {w : World} {B : Nat} {v : Value} {bs : List Nat} (h : Fr w B v bs) : Fs w v bs := by
  refine ⟨?_, h.word⟩
  rcases h.own.2 with ⟨h1, h2⟩ | ⟨g, cap, cur, h1, h2, h3, h4, h5, _⟩
  · exact ⟨none, 0, by rw [h1, h2], by omega, by omega, Or.inl (List.eq_nil_of_length_eq_zero h2)⟩
  · refine ⟨_, cap, h1, h4, by unfold maxLen at h5; omega, Or.inr ⟨g, 0, rfl, fun k hk => ?_⟩⟩
    have := h.own.cells (g := g) (by rw [h1]; rfl) k (.float .f64 (bs.getD k 0)) (by simp [f64s, List.getD, hk])
    rwa [show (⟨g, 0, none⟩ : Addr).add k = ⟨g, 0 + k, none⟩ by unfold Addr.add; split <;> simp_all] at this
theorem Fr.mono {w : World} {B B' : Nat} {v : Value} {bs : List Nat} (h : Fr w B v bs) (hB : B' ≤ B) : Fr w B' v bs := by
  refine ⟨⟨h.own.1, ?_⟩, h.word⟩
  rcases h.own.2 with h1 | ⟨g, cap, cur, h1, h2, h3⟩
  · exact Or.inl h1
  · exact Or.inr ⟨g, cap, cur, h1, by omega, h3⟩
theorem Fr.later {w w' : World} {B : Nat} {v : Value} {bs : List Nat} (h : Fr w B v bs) (hb : Below w.heap.size w w') : Fr w' B v bs := by
  refine ⟨⟨h.own.1, ?_⟩, h.word⟩
  rcases h.own.2 with h1 | ⟨g, cap, cur, h1, h2, h3, h4⟩
  · exact Or.inl h1
  · refine Or.inr ⟨g, cap, cur, h1, h2, ?_, h4⟩
    rw [hb.block g (Array.getElem?_eq_some_iff.1 h3).1]; exact h3
theorem Fr.nil (w : World) (B : Nat) : Fr w B (.slice none 0 0) [] := ⟨World.ownsRow_nil w B _ 1, fun b hb => by cases hb⟩
theorem Fr.low {w : World} {B : Nat} {v : Value} {bs : List Nat} (h : Fr w B v bs) {a : Addr} (hb : a.block < B) (x : Value) : Fr (w.setCell a x) B v bs :=
  ⟨ownsRow_setCell_below h.own hb x, h.word⟩

/-- The list with x behind its end, unless x is 0. -/
def gw (bs : List Nat) (x : Nat) : List Nat := if frung x = 0 then bs else bs ++ [x]

set_option maxRecDepth 100000 in
set_option maxHeartbeats 1000000 in
theorem grown_any (B : Nat) (v : Value) (bs : List Nat) (x : Nat) (w : World) (h : Fr w B v bs) (hB : B ≤ w.heap.size) (hx : x < 18446744073709551616) (hl : bs.length ≤ 1000000) :
    Calls Tryd.prog 69 #[v, .float .f64 x] w fun e w' => (∃ v', e = .returned v' ∧ Fr w' B v' (gw bs x)) ∧ Below B w w' := by
  have H : Hid (Fr w B v bs) := h
  have HX : Hid (x < 18446744073709551616) := hx
  have q := eql_zero2 x
  clear h hx
  by_cases h0 : frung x = 0
  · rw [decide_eq_true h0] at q
    have HG : Hid (gw bs x = bs) := by show gw bs x = bs; unfold gw; rw [if_pos h0]
    clear h0
    go_enter Tryd.func69, Tryd.ntmps69
    go_wp2
    go_ret
    exact ⟨⟨v, rfl, by rw [HG.out]; exact H.out⟩, Below.refl _ _⟩
  · rw [decide_eq_false h0] at q
    have HG : Hid (gw bs x = bs ++ [x]) := by show gw bs x = _; unfold gw; rw [if_neg h0]
    clear h0
    obtain ⟨i0, hi0, hz0, hz1, hz2⟩ := info_parts infoF
    go_enter Tryd.func69, Tryd.ntmps69
    go_wp2_with (at_builtin; refine wpList_append_own _ rfl _ _ _ rfl B 31 i0 _ 1 8 undF hi0 hz0 hz1 hz2 rfl (by omega) v bs.length (f64s bs) rfl (H.out.own.alloc _) ⟨w.heap.size, 0, none⟩ 1 1 [.float .f64 x] rfl rfl (World.news_of_block (cs := #[.float .f64 x]) (t := 31) (fr := (0, 0)) (heap_alloc_new w _)) (by simp [Value.oneCell']) (by unfold maxLen; omega) (by omega) (by simp; omega) ?_; intro v' w1 hown hgrow hnil)
    go_ret
    refine ⟨⟨v', rfl, ?_⟩, ?_⟩
    · rw [HG.out]
      refine ⟨?_, ?_⟩
      · rw [List.length_append]
        simpa [f64s] using hown
      · intro b hb
        rcases List.mem_append.1 hb with hb | hb
        · exact H.out.word b hb
        · rw [List.mem_singleton.1 hb]; exact HX.out
    · exact ((Below.refl B w).alloc hB _).grown hgrow (by simp; omega) (fun k hk => (H.out.own.lt k hk).1)

end Go.Proofs.YtmcllgoeldfgmaaDoor

/- Package expand: the next float of two lists. -/
namespace Go.Proofs.YtmcllgoeldfgmaaDoor
open Go.RowKit
attribute [local go_sem ↓] Go.wp_at_zero Go.wp_at_succ

set_option maxRecDepth 100000 in
set_option maxHeartbeats 4000000 in
theorem next_A (be bf ge oe ne ce cf x : Nat) (af ao : Option Addr) (w : World) (ha : (if ce = 1 then some (⟨ge, oe, none⟩ : Addr) else some ⟨ge, oe + 1, none⟩) = ao)
    (h1 : w.cell? ⟨be, 0, none⟩ = some (.slice (some ⟨ge, oe, none⟩) (ne + 1) ce)) (h2 : w.cell? ⟨bf, 0, none⟩ = some (.slice af 0 cf)) (h3 : w.cell? ⟨ge, oe, none⟩ = some (.float .f64 x)) (h4 : w.frozen? ⟨be, 0, none⟩ = false) (h5 : ne + 1 ≤ ce) (h6 : ce ≤ 9223372036854775807) :
    Calls Tryd.prog 98 #[.pointer (some ⟨bf, 0, none⟩), .pointer (some ⟨be, 0, none⟩)] w fun e w' => e = .returned (.float .f64 x) ∧ w' = (w.setCell ⟨be, 0, none⟩ (.slice ao ne (ce - 1))).drew.drew := by
  have l1 : (ne : Int) + 1 ≤ (ce : Int) := by omega
  have l2 : (ce : Int) ≤ 9223372036854775807 := by omega
  clear h5 h6
  go_enter Tryd.func98, Tryd.ntmps98
  go_wp2
  go_region
  go_wp2
  go_region
  clear h1 h2 h3 h4 l1 l2 ha
  go_wp2
  go_ret
  exact ⟨rfl, rfl⟩

set_option maxRecDepth 100000 in
set_option maxHeartbeats 4000000 in
theorem next_B (be bf gf of nf cf ce x : Nat) (ae ao : Option Addr) (w : World) (ha : (if cf = 1 then some (⟨gf, of, none⟩ : Addr) else some ⟨gf, of + 1, none⟩) = ao)
    (h1 : w.cell? ⟨bf, 0, none⟩ = some (.slice (some ⟨gf, of, none⟩) (nf + 1) cf)) (h2 : w.cell? ⟨be, 0, none⟩ = some (.slice ae 0 ce)) (h3 : w.cell? ⟨gf, of, none⟩ = some (.float .f64 x)) (h4 : w.frozen? ⟨bf, 0, none⟩ = false) (h5 : nf + 1 ≤ cf) (h6 : cf ≤ 9223372036854775807) :
    Calls Tryd.prog 98 #[.pointer (some ⟨bf, 0, none⟩), .pointer (some ⟨be, 0, none⟩)] w fun e w' => e = .returned (.float .f64 x) ∧ w' = (w.setCell ⟨bf, 0, none⟩ (.slice ao nf (cf - 1))).drew.drew := by
  have l1 : (nf : Int) + 1 ≤ (cf : Int) := by omega
  have l2 : (cf : Int) ≤ 9223372036854775807 := by omega
  have e0 : ((nf : Int) + 1 == 0) = false := by simp; omega
  clear h5 h6
  go_enter Tryd.func98, Tryd.ntmps98
  go_wp2
  go_region
  go_wp2
  go_region
  clear h1 h2 h3 h4 l1 l2 ha
  go_wp2
  go_ret
  exact ⟨rfl, rfl⟩

set_option maxRecDepth 100000 in
set_option maxHeartbeats 4000000 in
theorem next_C (be bf ge oe ne ce gf of nf cf x y : Nat) (ae af : Option Addr) (w : World) (hae : (if ce = 1 then some (⟨ge, oe, none⟩ : Addr) else some ⟨ge, oe + 1, none⟩) = ae) (haf : (if cf = 1 then some (⟨gf, of, none⟩ : Addr) else some ⟨gf, of + 1, none⟩) = af)
    (h1 : w.cell? ⟨be, 0, none⟩ = some (.slice (some ⟨ge, oe, none⟩) (ne + 1) ce)) (h2 : w.cell? ⟨bf, 0, none⟩ = some (.slice (some ⟨gf, of, none⟩) (nf + 1) cf)) (h3 : w.cell? ⟨ge, oe, none⟩ = some (.float .f64 x)) (h4 : w.cell? ⟨gf, of, none⟩ = some (.float .f64 y)) (f1 : w.frozen? ⟨be, 0, none⟩ = false) (f2 : w.frozen? ⟨bf, 0, none⟩ = false)
    (n1 : ne + 1 ≤ ce) (n2 : ce ≤ 9223372036854775807) (m1 : nf + 1 ≤ cf) (m2 : cf ≤ 9223372036854775807) (hx : x < 18446744073709551616) (hy : y < 18446744073709551616) (fy : Fin64 y) :
    Calls Tryd.prog 98 #[.pointer (some ⟨bf, 0, none⟩), .pointer (some ⟨be, 0, none⟩)] w fun e w' =>
      (frung x ≤ frung y ∧ e = .returned (.float .f64 x) ∧ w' = (w.setCell ⟨be, 0, none⟩ (.slice ae ne (ce - 1))).drew.drew) ∨ (¬ frung x ≤ frung y ∧ e = .returned (.float .f64 y) ∧ w' = (w.setCell ⟨bf, 0, none⟩ (.slice af nf (cf - 1))).drew.drew) := by
  have l1 : (ne : Int) + 1 ≤ (ce : Int) := by omega
  have l2 : (ce : Int) ≤ 9223372036854775807 := by omega
  have l3 : (nf : Int) + 1 ≤ (cf : Int) := by omega
  have l4 : (cf : Int) ≤ 9223372036854775807 := by omega
  have e0 : ((nf : Int) + 1 == 0) = false := by simp; omega
  have e1 : decide (0 < (ne : Int) + 1) = true := decide_eq_true (by omega)
  have HA : Hid (∀ w, Calls Tryd.prog 37 #[.float .f64 x] w fun e w' => e = .returned (.float .f64 (frung x)) ∧ w' = w) := fun w => abs_any x w hx
  have HB : Hid (∀ w, Calls Tryd.prog 37 #[.float .f64 y] w fun e w' => e = .returned (.float .f64 (frung y)) ∧ w' = w) := fun w => abs_any y w hy
  have q := leq_word (r := frung x) (c := frung y) (Nat.mod_lt _ (by omega)) fy
  clear n1 n2 m1 m2 hx hy fy
  by_cases hle : frung x ≤ frung y
  · rw [decide_eq_true hle] at q
    have HL : Hid (frung x ≤ frung y) := hle
    clear hle
    go_enter Tryd.func98, Tryd.ntmps98
    go_wp2
    go_region_held3 (fun W => W.cell? ⟨be, 0, none⟩ = some (.slice (some ⟨ge, oe, none⟩) (ne + 1) ce) ∧ W.cell? ⟨bf, 0, none⟩ = some (.slice (some ⟨gf, of, none⟩) (nf + 1) cf) ∧ W.cell? ⟨ge, oe, none⟩ = some (.float .f64 x) ∧ W.cell? ⟨gf, of, none⟩ = some (.float .f64 y))
      (first
        | assumption
        | exact ⟨by go_simp, by go_simp, by go_simp, by go_simp⟩)
      (first
        | (refine (HA.out _).mono ?_; rintro e w3 ⟨rfl, rfl⟩)
        | (refine (HB.out _).mono ?_; rintro e w3 ⟨rfl, rfl⟩))
    go_wp2
    go_region
    clear h1 h2 h3 h4 l1 l2 l3 l4
    go_wp2
    go_ret
    exact Or.inl ⟨HL.out, rfl, rfl⟩
  · rw [decide_eq_false hle] at q
    have HL : Hid (¬ frung x ≤ frung y) := hle
    clear hle
    go_enter Tryd.func98, Tryd.ntmps98
    go_wp2
    go_region_held3 (fun W => W.cell? ⟨be, 0, none⟩ = some (.slice (some ⟨ge, oe, none⟩) (ne + 1) ce) ∧ W.cell? ⟨bf, 0, none⟩ = some (.slice (some ⟨gf, of, none⟩) (nf + 1) cf) ∧ W.cell? ⟨ge, oe, none⟩ = some (.float .f64 x) ∧ W.cell? ⟨gf, of, none⟩ = some (.float .f64 y))
      (first
        | assumption
        | exact ⟨by go_simp, by go_simp, by go_simp, by go_simp⟩)
      (first
        | (refine (HA.out _).mono ?_; rintro e w3 ⟨rfl, rfl⟩)
        | (refine (HB.out _).mono ?_; rintro e w3 ⟨rfl, rfl⟩))
    go_wp2
    go_region
    clear h1 h2 h3 h4 l1 l2 l3 l4
    go_wp2
    go_ret
    exact Or.inr ⟨HL.out, rfl, rfl⟩

end Go.Proofs.YtmcllgoeldfgmaaDoor

/- Package expand: the next float of two lists, whatever they are; what rises. -/
namespace Go.Proofs.YtmcllgoeldfgmaaDoor
open Go.RowKit

/-- A box that holds one value. -/
def Box1 (w : World) (b : Nat) (v : Value) : Prop := w.heap[b]? = some (.cells #[v] 63 (0, 0))
theorem Box1.cell {w : World} {b : Nat} {v : Value} (h : Box1 w b v) : w.cell? ⟨b, 0, none⟩ = some v := by
  unfold Box1 at h
  simp [World.cell?, h]
theorem Box1.frozen {w : World} {b : Nat} {v : Value} (h : Box1 w b v) : w.frozen? ⟨b, 0, none⟩ = false := by
  unfold Box1 at h
  simp [World.frozen?, h]
theorem Box1.set {w : World} {b : Nat} {v : Value} (h : Box1 w b v) (u : Value) : Box1 (w.setCell ⟨b, 0, none⟩ u) b u := by
  unfold Box1 at *
  simp [World.setCell, Array.getElem?_modify, h]
theorem Box1.other {w : World} {b : Nat} {v : Value} (h : Box1 w b v) {a : Addr} (hne : b ≠ a.block) (u : Value) : Box1 (w.setCell a u) b v := by
  unfold Box1 at *
  rw [Below.heap_setCell w a u b hne]; exact h
theorem Box1.later {B : Nat} {w w' : World} {b : Nat} {v : Value} (h : Box1 w b v) (hb : Below B w w') (hl : b < B) : Box1 w' b v := by
  unfold Box1 at *
  rw [hb.block b hl]; exact h
theorem Box1.lt {w : World} {b : Nat} {v : Value} (h : Box1 w b v) : b < w.heap.size := (Array.getElem?_eq_some_iff.1 h).1

theorem Fs.tail {w : World} {g off n c x : Nat} {re : List Nat} {ao : Option Addr} (h : Fs w (.slice (some ⟨g, off, none⟩) (n + 1) c) (x :: re)) (ha : (if c = 1 then some (⟨g, off, none⟩ : Addr) else some ⟨g, off + 1, none⟩) = ao) : Fs w (.slice ao n (c - 1)) re := by
  obtain ⟨⟨a, c', e, hc, hm, hf⟩, hw⟩ := h
  cases e
  refine ⟨⟨ao, c - 1, rfl, by simp at hc; omega, by omega, ?_⟩, fun b hb => hw b (by simp [hb])⟩
  rcases hf with hf | ⟨g', off', e, hf⟩
  · cases hf
  · cases e
    by_cases h0 : re = []
    · exact Or.inl h0
    · right
      have : 0 < re.length := List.length_pos_iff.2 h0
      simp at hc
      rw [if_neg (by omega)] at ha
      refine ⟨g, off + 1, ha.symm, fun k hk => ?_⟩
      have := hf (k + 1) (by simp; omega)
      rw [show off + 1 + k = off + (k + 1) by omega, this]
      simp [List.getD]

/-- The head of a list that lies in memory. -/
theorem Fs.head {w : World} {s : Value} {x : Nat} {re : List Nat} (h : Fs w s (x :: re)) : ∃ g off c, s = .slice (some ⟨g, off, none⟩) (re.length + 1) c ∧ re.length + 1 ≤ c ∧ c ≤ 9223372036854775807 ∧ w.cell? ⟨g, off, none⟩ = some (.float .f64 x) := by
  obtain ⟨⟨a, c', e, hc, hm, hf⟩, hw⟩ := h
  rcases hf with hf | ⟨g, off, e2, hf⟩
  · cases hf
  · subst e2
    refine ⟨g, off, c', e, by simpa using hc, hm, ?_⟩
    have := hf 0 (by simp)
    simpa [List.getD] using this
theorem Fs.none {w : World} {s : Value} (h : Fs w s []) : ∃ a c, s = .slice a 0 c := by
  obtain ⟨⟨a, c', e, _⟩, _⟩ := h
  exact ⟨a, c', e⟩

/-- What the closure hands on. -/
theorem next_any (w0 w : World) (be bf : Nat) (se sf : Value) (re rf : List Nat) (hb : Below w0.heap.size w0 w) (b1 : Box1 w be se) (b2 : Box1 w bf sf) (f1 : Fs w0 se re) (f2 : Fs w0 sf rf) (fin : ∀ y ∈ rf, Fin64 y) (hne : re ≠ [] ∨ rf ≠ []) :
    Calls Tryd.prog 98 #[.pointer (some ⟨bf, 0, none⟩), .pointer (some ⟨be, 0, none⟩)] w fun e w' => ∃ x, e = .returned (.float .f64 x) ∧
      ((∃ re' s, re = x :: re' ∧ (∀ y, rf.head? = some y → frung x ≤ frung y) ∧ Fs w0 s re' ∧ w' = (w.setCell ⟨be, 0, none⟩ s).drew.drew) ∨
       (∃ rf' s, rf = x :: rf' ∧ (∀ y, re.head? = some y → frung x ≤ frung y) ∧ Fs w0 s rf' ∧ w' = (w.setCell ⟨bf, 0, none⟩ s).drew.drew)) := by
  cases re with
  | nil =>
    cases rf with
    | nil => rcases hne with h | h <;> exact absurd rfl h
    | cons y rf =>
      obtain ⟨ae, ce, rfl⟩ := f1.none
      obtain ⟨g, off, c, rfl, h1, h2, h3⟩ := (f2.later hb).head
      refine (next_B be bf g off rf.length c ce y ae _ w rfl b2.cell b1.cell h3 b2.frozen h1 h2).mono ?_
      rintro e w' ⟨rfl, rfl⟩
      exact ⟨y, rfl, Or.inr ⟨rf, _, rfl, by simp, f2.tail rfl, rfl⟩⟩
  | cons x re =>
    obtain ⟨g, off, c, rfl, h1, h2, h3⟩ := (f1.later hb).head
    cases rf with
    | nil =>
      obtain ⟨af, cf, rfl⟩ := f2.none
      refine (next_A be bf g off re.length c cf x af _ w rfl b1.cell b2.cell h3 b1.frozen h1 h2).mono ?_
      rintro e w' ⟨rfl, rfl⟩
      exact ⟨x, rfl, Or.inl ⟨re, _, rfl, by simp, f1.tail rfl, rfl⟩⟩
    | cons y rf =>
      obtain ⟨g', off', c', rfl, k1, k2, k3⟩ := (f2.later hb).head
      refine (next_C be bf g off re.length c g' off' rf.length c' x y _ _ w rfl rfl b1.cell b2.cell h3 k3 b1.frozen b2.frozen h1 h2 k1 k2 (f1.word x (by simp)) (f2.word y (by simp)) (fin y (by simp))).mono ?_
      rintro e w' (⟨hle, rfl, rfl⟩ | ⟨hle, rfl, rfl⟩)
      · exact ⟨x, rfl, Or.inl ⟨re, _, rfl, by simpa using hle, f1.tail rfl, rfl⟩⟩
      · exact ⟨y, rfl, Or.inr ⟨rf, _, rfl, by simp; omega, f2.tail rfl, rfl⟩⟩

def vals (bs : List Nat) : List Rat := bs.map fval
/-- A list whose floats rise and do not overlap, each less than 2^(N - 1074). -/
structure Up (N : Nat) (bs : List Nat) : Prop where
  ex : Ex (vals bs)
  fin : ∀ b ∈ bs, Fin64 b
  lim : ∀ b ∈ bs, ab (fval b) < U N

theorem F_fval {b : Nat} (h : Fin64 b) : F (fval b) := by
  obtain ⟨S, m, c⟩ := fc_word h
  exact c.f

theorem vals_gw (bs : List Nat) (x : Nat) : vals (gw bs x) = grownR (vals bs) (fval x) := by
  have hz : fval x = 0 ↔ frung x = 0 := fval_zero_iff
  unfold gw grownR
  by_cases h : frung x = 0
  · rw [if_pos h, if_pos (hz.2 h)]
  · rw [if_neg h, if_neg (fun e => h (hz.1 e))]; simp [vals]
theorem ab_rung {x y : Nat} (hx : Fin64 x) (hy : Fin64 y) (h : frung x ≤ frung y) : ab (fval x) ≤ ab (fval y) := by
  rw [← ab_fval x hx, ← ab_fval y hy]
  rcases Nat.lt_or_ge (frung x) (frung y) with h1 | h1
  · exact Rat.le_of_lt (fval_lt h1 hy)
  · rw [show frung x = frung y by omega]; exact Rat.le_refl
theorem tame_of {a : Nat} (h : Fin64 a) (hl : ab (fval a) ≤ U 2074) : frung a ≤ 9110782046170513408 := by
  rcases Nat.lt_or_ge 9110782046170513408 (frung a) with h1 | h1
  · exfalso
    have := fval_lt h1 h
    rw [tame_top, ab_fval a h] at this
    rw [show U 2074 = p2 1000 from rfl] at hl
    grind
  · exact h1

end Go.Proofs.YtmcllgoeldfgmaaDoor

/- Package expand: two lists joined. -/
namespace Go.Proofs.YtmcllgoeldfgmaaDoor
open Go.RowKit

theorem JInv.bounds {N : Nat} {de re df rf outs : List Rat} {Q q : Rat} (I : JInv N de re df rf outs Q q) : ab Q ≤ U (N + 2) ∧ ab q ≤ 3 * U N := by
  obtain ⟨T, k, R⟩ := I.rq
  have h1 := I.size
  have h2 := U_succ N
  have h3 := U_succ (N + 1)
  have h4 := U_pos N
  refine ⟨R.le_pow' (by rw [show N + 2 = N + 1 + 1 by omega]; grind), ?_⟩
  have := R.rest_le
  rw [show Q + q - Q = q by grind] at this
  grind

theorem Fr.drew {w : World} {B : Nat} {v : Value} {bs : List Nat} (h : Fr w B v bs) : Fr w.drew B v bs := ⟨h.own.drew, h.word⟩
/-- What lies in memory between two rounds. -/
structure JW (w : World) (es fs de re df rf outs : List Nat) (v : Value) (wr : World) : Prop where
  box : ∃ se sf, Box1 wr w.heap.size se ∧ Box1 wr (w.heap.size + 1) sf ∧ Fs w se re ∧ Fs w sf rf
  e1 : es = de ++ re
  e2 : fs = df ++ rf
  row : Fr wr (w.heap.size + 2) v outs
  bel : Below w.heap.size w wr
  siz : w.heap.size + 2 ≤ wr.heap.size

theorem JW.done {w : World} {es fs de re df rf outs : List Nat} {v : Value} {wr wr' : World} (h : JW w es fs de re df rf outs v wr) (hb : Below wr.heap.size wr wr') : JW w es fs de re df rf outs v wr' := by
  obtain ⟨se, sf, b1, b2, f1, f2⟩ := h.box
  exact ⟨⟨se, sf, b1.later hb b1.lt, b2.later hb b2.lt, f1, f2⟩, h.e1, h.e2, h.row.later hb, h.bel.trans (hb.mono h.bel.size), Nat.le_trans h.siz hb.size⟩
theorem JW.grown {w : World} {es fs de re df rf outs outs' : List Nat} {v v' : Value} {wr wr' : World} (h : JW w es fs de re df rf outs v wr) (hr : Fr wr' (w.heap.size + 2) v' outs') (hb : Below (w.heap.size + 2) wr wr') : JW w es fs de re df rf outs' v' wr' := by
  obtain ⟨se, sf, b1, b2, f1, f2⟩ := h.box
  exact ⟨⟨se, sf, b1.later hb (by omega), b2.later hb (by omega), f1, f2⟩, h.e1, h.e2, hr, h.bel.trans (hb.mono (by omega)), Nat.le_trans h.siz hb.size⟩
theorem JW.left {w : World} {es fs de re df rf outs : List Nat} {x : Nat} {v s : Value} {wr : World} (h : JW w es fs de (x :: re) df rf outs v wr) (hs : Fs w s re) : JW w es fs (de ++ [x]) re df rf outs v (wr.setCell ⟨w.heap.size, 0, none⟩ s).drew.drew := by
  obtain ⟨se, sf, b1, b2, f1, f2⟩ := h.box
  exact ⟨⟨s, sf, b1.set s, b2.other (by simp) s, hs, f2⟩, by rw [h.e1]; simp, h.e2, (h.row.low (a := ⟨_, 0, none⟩) (by simp) s).drew.drew, (h.bel.setCell (by simp) s).drew.drew, by have := h.siz; simpa [World.setCell] using this⟩
theorem JW.right {w : World} {es fs de re df rf outs : List Nat} {x : Nat} {v s : Value} {wr : World} (h : JW w es fs de re df (x :: rf) outs v wr) (hs : Fs w s rf) : JW w es fs de re (df ++ [x]) rf outs v (wr.setCell ⟨w.heap.size + 1, 0, none⟩ s).drew.drew := by
  obtain ⟨se, sf, b1, b2, f1, f2⟩ := h.box
  exact ⟨⟨se, s, b1.other (by simp) s, b2.set s, f1, hs⟩, h.e1, by rw [h.e2]; simp, (h.row.low (a := ⟨_, 0, none⟩) (by simp) s).drew.drew, (h.bel.setCell (by simp) s).drew.drew, by have := h.siz; simpa [World.setCell] using this⟩

/-- 1, unless a float is 0. -/
def nzw (x : Nat) : Nat := if frung x = 0 then 0 else 1
theorem nzw_le (x : Nat) : nzw x ≤ 1 := by unfold nzw; split <;> omega
theorem nzw_zero {x : Nat} (h : fval x = 0) : nzw x = 0 := by unfold nzw; rw [if_pos (fval_zero_iff.1 h)]
theorem val_nzw {x : Nat} (h : nzw x = 0) : fval x = 0 := by
  unfold nzw at h
  split at h
  · exact fval_zero_iff.2 (by assumption)
  · omega
theorem gw_len (bs : List Nat) (x : Nat) : (gw bs x).length = bs.length + nzw x := by unfold gw nzw; split <;> simp
/-- What is reckoned between two rounds. -/
structure JS (N : Nat) (de re df rf outs : List Nat) (Q q : Nat) : Prop where
  inv : JInv N (vals de) (vals re) (vals df) (vals rf) (vals outs) (fval Q) (fval q)
  fin : Fin64 Q ∧ Fin64 q ∧ Q < 18446744073709551616 ∧ q < 18446744073709551616
  fo : ∀ b ∈ outs, Fin64 b
  fe : ∀ b ∈ re, Fin64 b
  ff : ∀ b ∈ rf, Fin64 b
  cnt : outs.length + nzw q + nzw Q ≤ de.length + df.length

theorem head_min {g : Nat} {l : List Nat} (hf : ∀ b ∈ l, Fin64 b) (hg : Fin64 g) (hx : Ex (vals l)) (h : ∀ y, l.head? = some y → frung g ≤ frung y) : ∀ y ∈ vals l, ab (fval g) ≤ ab y := by
  intro y hy
  cases l with
  | nil => simp [vals] at hy
  | cons a l =>
    have h1 := ab_rung hg (hf a (by simp)) (h a rfl)
    simp only [vals, List.map_cons, List.mem_cons] at hy
    rcases hy with rfl | hy
    · exact h1
    · have h2 := (List.pairwise_cons.1 hx.1).1 y hy
      have h3 := h2.lt (hx.2 y (by simp [vals]; exact Or.inr (by simpa using hy)))
      grind

theorem rv_rnd {q x : Rat} (h : RV q x) : ∃ T k, Rnd q x T k := h.rn

/-- One round, by what is reckoned: the next float is the first list's. -/
theorem JS.step {N : Nat} {de re df rf outs : List Nat} {Q q g R h Q' q' : Nat} (hN : N ≤ 2070) (I : JS N de (g :: re) df rf outs Q q) (hm : ∀ y, rf.head? = some y → frung g ≤ frung y)
    (p1 : Pair (TameW g q) (fval g + fval q) R h) (p2 : Pair (TameW Q R) (fval Q + fval R) Q' q') : JS N (de ++ [g]) re df rf (gw outs h) Q' q' := by
  obtain ⟨iQ, iq⟩ := I.inv.bounds
  have hg := I.fe g (by simp)
  have bg : ab (fval g) < U N := (I.inv.b1 (fval g) (by simp [vals])).2
  have u1 := U_succ N
  have u2 := U_succ (N + 1)
  have u3 : U (N + 2) ≤ U 2074 := U_mono (by omega)
  have u0 := U_pos N
  have eN : U (N + 2) = U (N + 1 + 1) := rfl
  have t1 : TameW g q := ⟨tame_of hg (by grind), tame_of I.fin.2.1 (by grind)⟩
  obtain ⟨fR, fh, lR, lh, ⟨_, r1, e1⟩ | ⟨c, _⟩⟩ := p1
  · obtain ⟨T1, k1, R1⟩ := rv_rnd r1
    have bR : ab (fval R) ≤ U (N + 2) := R1.le_pow' (by have := ab_add (fval g) (fval q); grind)
    have t2 : TameW Q R := ⟨tame_of I.fin.1 (by grind), tame_of fR (by grind)⟩
    obtain ⟨fQ', fq', lQ', lq', ⟨_, r2, e2⟩ | ⟨c, _⟩⟩ := p2
    · obtain ⟨T2, k2, R2⟩ := rv_rnd r2
      have hmin := head_min I.ff hg I.inv.e2.right hm
      have J := I.inv.step (g := fval g) (re := vals re) hmin R1 e1 (F_fval fh) R2 e2 (F_fval fq')
      refine ⟨?_, ⟨fQ', fq', lQ', lq'⟩, ?_, fun b hb => I.fe b (by simp [hb]), I.ff, ?_⟩
      · rw [vals_gw, show vals (de ++ [g]) = vals de ++ [fval g] by simp [vals]]; exact J
      · intro b hb
        unfold gw at hb
        split at hb
        · exact I.fo b hb
        · rcases List.mem_append.1 hb with hb | hb
          · exact I.fo b hb
          · rw [List.mem_singleton.1 hb]; exact fh
      · have c0 := I.cnt
        have a1 : nzw q = 0 → nzw h = 0 := fun hq => by
          have z := val_nzw hq
          have x := r1.rn.exact (by rw [z, show fval g + 0 = fval g by grind]; exact F_fval hg)
          exact nzw_zero (by grind)
        have a2 : nzw Q = 0 → nzw q' = 0 := fun hq => by
          have z := val_nzw hq
          have x := r2.rn.exact (by rw [z, show 0 + fval R = fval R by grind]; exact F_fval fR)
          exact nzw_zero (by grind)
        have b1 := nzw_le h
        have b2 := nzw_le q'
        have b3 := nzw_le Q'
        rw [gw_len, List.length_append, List.length_singleton]
        omega
    · exact absurd t2 c
  · exact absurd t1 c
theorem JS.turn {N : Nat} {de re df rf outs : List Nat} {Q q : Nat} (I : JS N de re df rf outs Q q) : JS N df rf de re outs Q q :=
  ⟨I.inv.turn, I.fin, I.fo, I.ff, I.fe, by have := I.cnt; omega⟩
theorem JS.start {N : Nat} {es fs : List Nat} (h1 : Up N es) (h2 : Up N fs) : JS N [] es [] fs [] 0 0 :=
  ⟨by
    rw [fval0]
    exact JInv.start h1.ex h2.ex (fun x hx => by obtain ⟨b, hb, rfl⟩ := List.mem_map.1 hx; exact ⟨F_fval (h1.fin b hb), h1.lim b hb⟩) (fun x hx => by obtain ⟨b, hb, rfl⟩ := List.mem_map.1 hx; exact ⟨F_fval (h2.fin b hb), h2.lim b hb⟩),
   ⟨fin0, fin0, by omega, by omega⟩, by simp, h1.fin, h2.fin, by decide⟩
theorem gw_mem {bs : List Nat} {x b : Nat} (h : b ∈ gw bs x) : b ∈ bs ∨ b = x := by
  unfold gw at h
  split at h
  · exact Or.inl h
  · rcases List.mem_append.1 h with h | h
    · exact Or.inl h
    · exact Or.inr (List.mem_singleton.1 h)
theorem gw_length (bs : List Nat) (x : Nat) : (gw bs x).length ≤ bs.length + 1 := by unfold gw; split <;> simp
theorem JS.done {N : Nat} {de df outs : List Nat} {Q q : Nat} (I : JS N de [] df [] outs Q q) : Up (N + 3) (gw (gw outs q) Q) ∧ (vals (gw (gw outs q) Q)).sum = (vals de).sum + (vals df).sum ∧ (gw (gw outs q) Q).length ≤ de.length + df.length := by
  obtain ⟨h1, h2, h3⟩ := JInv.done I.inv
  obtain ⟨iQ, iq⟩ := I.inv.bounds
  have u1 := U_succ N
  have u2 := U_succ (N + 1)
  have u3 := U_succ (N + 2)
  have u0 := U_pos N
  have eN : U (N + 2) = U (N + 1 + 1) := rfl
  have eM : U (N + 3) = U (N + 2 + 1) := rfl
  rw [← vals_gw, ← vals_gw] at h1 h2
  refine ⟨⟨h1, fun b hb => ?_, fun b hb => ?_⟩, h2, ?_⟩
  · rcases gw_mem hb with hb | rfl
    · rcases gw_mem hb with hb | rfl
      · exact I.fo b hb
      · exact I.fin.2.1
    · exact I.fin.1
  · rcases gw_mem hb with hb | rfl
    · rcases gw_mem hb with hb | rfl
      · have := (I.inv.b3 (fval b) (by simp [vals]; exact ⟨b, hb, rfl⟩)).2
        grind
      · grind
    · grind
  · have := I.cnt
    rw [gw_len, gw_len]
    omega

end Go.Proofs.YtmcllgoeldfgmaaDoor

/- Package expand: the walk of joined. -/
namespace Go.Proofs.YtmcllgoeldfgmaaDoor
open Go.RowKit

theorem below_step {w a b : World} (h : Below w.heap.size w a) (h2 : Below a.heap.size a b) : Below w.heap.size w b := h.trans (h2.mono h.size)

theorem jw_start {w w1 : World} {es fs : List Nat} {x y : Value} {c : Nat} (h1 : Fs w x es) (h2 : Fs w y fs) (hown : w1.ownsRow (w.heap.size + 2) 31 1 (.slice (some ⟨((w.alloc (.cells #[x] 63)).alloc (.cells #[y] 63)).heap.size, 0, none⟩) 0 c) 0 []) (hg : ((w.alloc (.cells #[x] 63)).alloc (.cells #[y] 63)).grownBy w1 none) : JW w es fs [] es [] fs [] (.slice (some ⟨w.heap.size + 1 + 1, 0, none⟩) 0 c) w1 := by
  refine ⟨⟨x, y, ?_, ?_, h1, h2⟩, rfl, rfl, ⟨by simpa [f64s] using hown, by simp⟩, ?_, by have := hg.size; simp at this; omega⟩
  · unfold Box1
    rw [hg.block _ (by simp; omega) (by simp), Below.heap_alloc _ _ _ (by simp)]
    exact heap_alloc_new w _
  · unfold Box1
    rw [hg.block _ (by simp) (by simp)]
    have := heap_alloc_new (w.alloc (.cells #[x] 63)) (.cells #[y] 63)
    simpa using this
  · exact (((Below.refl w.heap.size w).alloc (Nat.le_refl _) _).alloc (by simp) _).grown hg (by simp; omega) (by simp)

/-- The closure, as joined uses it. -/
theorem next_use {N : Nat} {w wr : World} {es fs de re df rf outs : List Nat} {v : Value} {Q q : Nat} (hN : N ≤ 2070) (S : JS N de re df rf outs Q q) (W : JW w es fs de re df rf outs v wr) (hne : de.length + df.length < es.length + fs.length) :
    Calls Tryd.prog 98 #[.pointer (some ⟨w.heap.size + 1, 0, none⟩), .pointer (some ⟨w.heap.size, 0, none⟩)] wr fun e w' => ∃ x, e = .returned (.float .f64 x) ∧ x < 18446744073709551616 ∧ ∃ de' re' df' rf', JW w es fs de' re' df' rf' outs v w' ∧ de'.length + df'.length = de.length + df.length + 1 ∧
      ∀ R h Q' q', Pair (TameW x q) (fval x + fval q) R h → Pair (TameW Q R) (fval Q + fval R) Q' q' → JS N de' re' df' rf' (gw outs h) Q' q' := by
  obtain ⟨se, sf, b1, b2, f1, f2⟩ := W.box
  have h0 : re ≠ [] ∨ rf ≠ [] := by
    rw [W.e1, W.e2, List.length_append, List.length_append] at hne
    by_cases h : re = []
    · right
      intro h'
      rw [h, h'] at hne
      simp at hne
    · exact Or.inl h
  refine (next_any w wr w.heap.size (w.heap.size + 1) se sf re rf W.bel b1 b2 f1 f2 S.ff h0).mono ?_
  rintro e w' ⟨x, rfl, ⟨re', s, rfl, hm, hs, rfl⟩ | ⟨rf', s, rfl, hm, hs, rfl⟩⟩
  · exact ⟨x, rfl, f1.word x (by simp), _, _, _, _, W.left hs, by simp; omega, fun R h Q' q' p1 p2 => S.step hN hm p1 p2⟩
  · exact ⟨x, rfl, f2.word x (by simp), _, _, _, _, W.right hs, by simp; omega, fun R h Q' q' p1 p2 => (S.turn.step hN hm p1 p2).turn⟩

set_option maxRecDepth 100000 in
set_option maxHeartbeats 8000000 in
theorem joinedE_walk (N n m ce cf : Nat) (ae af : Option Addr) (es fs : List Nat) (w : World) (hN : N ≤ 2070) (f1 : Fs w (.slice ae n ce) es) (f2 : Fs w (.slice af m cf) fs) (u1 : Up N es) (u2 : Up N fs) (hn : es.length = n) (hm : fs.length = m) (ln : n ≤ 1000) (lm : m ≤ 1000) :
    Calls Tryd.prog 72 #[.slice ae n ce, .slice af m cf] w fun e w' => (∃ v bs, e = .returned v ∧ Fr w' w.heap.size v bs ∧ Up (N + 3) bs ∧ (vals bs).sum = (vals es).sum + (vals fs).sum ∧ bs.length ≤ n + m) ∧ Below w.heap.size w w' := by
  have H1 : Hid (Fs w (.slice ae n ce) es) := f1
  have H2 : Hid (Fs w (.slice af m cf) fs) := f2
  have HU : Hid (Up N es ∧ Up N fs ∧ N ≤ 2070) := ⟨u1, u2, hN⟩
  have HL : Hid (es.length = n ∧ fs.length = m) := ⟨hn, hm⟩
  have l1 : (n : Int) ≤ 1000 := by omega
  have l2 : (m : Int) ≤ 1000 := by omega
  obtain ⟨i0, hi0, hz0, hz1, hz2⟩ := info_parts infoF
  clear f1 f2 u1 u2 hN hn hm ln lm
  go_enter Tryd.func72, Tryd.ntmps72
  go_wp2_with (at_make; refine wpList_make_own _ rfl _ _ _ rfl (w.heap.size + 2) 31 i0 _ 1 undF hi0 hz0 hz1 .i64 .i64 _ (n + m) rfl rfl (by omega) (by rw [hz2]; omega) (by unfold maxLen; omega) (by simp) ?_; intro w1 hown hgrow; have HJ : Hid (JW w es fs [] es [] fs [] (.slice (some ⟨w.heap.size + 1 + 1, 0, none⟩) 0 (n + m)) w1) := jw_start H1.out H2.out hown hgrow; have c1 : w1.cell? ⟨w.heap.size, 0, none⟩ = some (.slice ae n ce) := (hgrow.cell (a := ⟨w.heap.size, 0, none⟩) (by go_simp) (by simp)); have c2 : w1.cell? ⟨w.heap.size + 1, 0, none⟩ = some (.slice af m cf) := (hgrow.cell (a := ⟨w.heap.size + 1, 0, none⟩) (by go_simp) (by simp)); clear hown hgrow)
  clear c1 c2
  go_loopw [22, 6, 7, 8, 9] (fun i v Q q l wr => ∃ (de re df rf outs : List Nat) (Q' q' l' : Nat), i = .int .i64 ((de.length + df.length : Nat) : Int) ∧ Q = .float .f64 Q' ∧ q = .float .f64 q' ∧ l = .float .f64 l' ∧ Hid (JS N de re df rf outs Q' q') ∧ Hid (JW w es fs de re df rf outs v wr)) (fun i _ _ _ _ _ => n + m - (intOf i).toNat)
  case atStart => exact ⟨[], es, [], fs, [], 0, 0, 0, rfl, rfl, rfl, rfl, JS.start HU.out.1 HU.out.2.1, HJ.out⟩
  case round =>
    clear HJ
    obtain ⟨de, re, df, rf, outs, Q, q, l, rfl, rfl, rfl, rfl, hS, hW⟩ := hrel
    have HK : Hid (de.length + df.length + re.length + rf.length = n + m) := by
      have h1 := HL.out.1
      have h2 := HL.out.2
      rw [hW.out.e1, List.length_append] at h1
      rw [hW.out.e2, List.length_append] at h2
      show _ = _
      omega
    by_cases hlt : de.length + df.length < n + m
    · have hlt' : ((de.length + df.length : Nat) : Int) < (n : Int) + (m : Int) := by omega
      obtain ⟨k, hk⟩ : ∃ k, de.length + df.length = k := ⟨_, rfl⟩
      have HKK : Hid (de.length + df.length = k) := hk
      rw [hk] at hlt hlt' ⊢
      have HNX : Hid (Calls Tryd.prog 98 #[.pointer (some ⟨w.heap.size + 1, 0, none⟩), .pointer (some ⟨w.heap.size, 0, none⟩)] wr fun e w' => ∃ x, e = .returned (.float .f64 x) ∧ x < 18446744073709551616 ∧ ∃ de' re' df' rf', JW w es fs de' re' df' rf' outs u6 w' ∧ de'.length + df'.length = de.length + df.length + 1 ∧
        ∀ R h Q' q', Pair (TameW x q) (fval x + fval q) R h → Pair (TameW Q R) (fval Q + fval R) Q' q' → JS N de' re' df' rf' (gw outs h) Q' q') := next_use HU.out.2.2 hS.out hW.out (by rw [HL.out.1, HL.out.2, hk]; exact hlt)
      have HO : Hid (outs.length ≤ 1000000) := by have := hS.out.cnt; show _ ≤ _; omega
      clear hk
      go_wp2_with fail
      refine HNX.out.mono ?_
      rintro e w2 ⟨x, rfl, hx, de', re', df', rf', hJ, hc, hst⟩
      have HX : Hid (x < 18446744073709551616) := hx
      have HJ2 : Hid (JW w es fs de' re' df' rf' outs u6 w2) := hJ
      have HC : Hid (de'.length + df'.length = de.length + df.length + 1) := hc
      have HST : Hid (∀ R h Q' q', Pair (TameW x q) (fval x + fval q) R h → Pair (TameW Q R) (fval Q + fval R) Q' q' → JS N de' re' df' rf' (gw outs h) Q' q') := hst
      clear hx hJ hc hst HNX
      go_wp2_with fail
      refine (sum_pair x q _ HX.out hS.out.fin.2.2.2).mono ?_
      rintro e w3 ⟨⟨R, h, rfl, p1⟩, hb3⟩
      have HP1 : Hid (Pair (TameW x q) (fval x + fval q) R h) := p1
      have HJ3 : Hid (JW w es fs de' re' df' rf' outs u6 w3) := HJ2.out.done hb3
      clear p1 hb3
      go_wp2_with fail
      refine (grown_any (w.heap.size + 2) u6 outs h _ HJ3.out.row HJ3.out.siz HP1.out.2.2.2.1 HO.out).mono ?_
      rintro e w4 ⟨⟨v', rfl, hr4⟩, hb4⟩
      have HJ4 : Hid (JW w es fs de' re' df' rf' (gw outs h) v' w4) := HJ3.out.grown hr4 hb4
      clear hr4 hb4
      go_wp2_with fail
      refine (sum_pair Q R _ hS.out.fin.2.2.1 HP1.out.2.2.1).mono ?_
      rintro e w5 ⟨⟨Q', q', rfl, p2⟩, hb5⟩
      have HS5 : Hid (JS N de' re' df' rf' (gw outs h) Q' q') := HST.out R h Q' q' HP1.out p2
      have HJ5 : Hid (JW w es fs de' re' df' rf' (gw outs h) v' w5) := HJ4.out.done hb5
      clear p2 hb5
      go_wp2
      have hc := HC.out
      rw [HKK.out] at hc
      exact ⟨⟨de', re', df', rf', gw outs h, Q', q', h, by rw [hc]; go_num, rfl, rfl, rfl, HS5, HJ5⟩, by simp [intOf]; omega⟩
    · obtain ⟨k, hk⟩ : ∃ k, de.length + df.length = k := ⟨_, rfl⟩
      rw [hk] at hlt ⊢
      have hre : re = [] := List.eq_nil_of_length_eq_zero (by have := HK.out; omega)
      have hrf : rf = [] := List.eq_nil_of_length_eq_zero (by have := HK.out; omega)
      subst hre hrf
      have hkk : k = n + m := by have := HK.out; simp at this; omega
      have hltb : decide (((n + m : Nat) : Int) < (n : Int) + (m : Int)) = false := decide_eq_false (by omega)
      have HD := hS.out.done
      have HO : Hid (outs.length ≤ 1000000) := by have := hS.out.cnt; show _ ≤ _; omega
      have HDD : Hid (Up (N + 3) (gw (gw outs q) Q) ∧ (vals (gw (gw outs q) Q)).sum = (vals es).sum + (vals fs).sum ∧ (gw (gw outs q) Q).length ≤ n + m) := by
        have e1 := hW.out.e1
        have e2 := hW.out.e2
        rw [List.append_nil] at e1 e2
        rw [e1, e2]
        exact ⟨HD.1, HD.2.1, by have := HD.2.2; omega⟩
      subst hkk
      clear HD hlt hk
      go_wp2_with fail
      refine (grown_any (w.heap.size + 2) u6 outs q _ hW.out.row hW.out.siz hS.out.fin.2.2.2 HO.out).mono ?_
      rintro e w4 ⟨⟨v', rfl, hr4⟩, hb4⟩
      have HJ4 : Hid (JW w es fs de [] df [] (gw outs q) v' w4) := hW.out.grown hr4 hb4
      clear hr4 hb4
      go_wp2_with fail
      refine (grown_any (w.heap.size + 2) v' (gw outs q) Q _ HJ4.out.row HJ4.out.siz hS.out.fin.2.2.1 (by have := gw_length outs q; have := hS.out.cnt; have := HK.out; simp at this; omega)).mono ?_
      rintro e w5 ⟨⟨v5, rfl, hr5⟩, hb5⟩
      have HJ5 : Hid (JW w es fs de [] df [] (gw (gw outs q) Q) v5 w5) := HJ4.out.grown hr5 hb5
      clear hr5 hb5
      go_wp2
      go_ret
      exact ⟨⟨v5, _, rfl, HJ5.out.row.mono (by omega), HDD.out.1, HDD.out.2.1, HDD.out.2.2⟩, HJ5.out.bel⟩

/-- Two lists, joined. -/
theorem joinedE_any (N : Nat) (se sf : Value) (es fs : List Nat) (w : World) (hN : N ≤ 2070) (f1 : Fs w se es) (f2 : Fs w sf fs) (u1 : Up N es) (u2 : Up N fs) (hl : es.length ≤ 1000 ∧ fs.length ≤ 1000) :
    Calls Tryd.prog 72 #[se, sf] w fun e w' => (∃ v bs, e = .returned v ∧ Fr w' w.heap.size v bs ∧ Up (N + 3) bs ∧ (vals bs).sum = (vals es).sum + (vals fs).sum ∧ bs.length ≤ es.length + fs.length) ∧ Below w.heap.size w w' := by
  obtain ⟨⟨ae, ce, rfl, _⟩, _⟩ := id f1
  obtain ⟨⟨af, cf, rfl, _⟩, _⟩ := id f2
  exact joinedE_walk N es.length fs.length ce cf ae af es fs w hN f1 f2 u1 u2 rfl rfl hl.1 hl.2

end Go.Proofs.YtmcllgoeldfgmaaDoor

/- Package expand: a list times a float. -/
namespace Go.Proofs.YtmcllgoeldfgmaaDoor
open Go.RowKit

/-- A float that is safe. -/
def SafeB (b : Nat) : Prop := 2580562586483294208 ≤ frung b ∧ frung b ≤ 6633802251116740608
theorem safe_low : fval 2580562586483294208 = U 624 := by
  rw [(fval_pos_lt (by omega)).1, show fmag 2580562586483294208 = 4503599627370496 by decide, show fpl 2580562586483294208 = -502 by decide]
  unfold U
  rw [show ((624 : Nat) : Int) - 1074 = -502 + ((52 : Nat) : Int) by omega, p2_add, p2_nat, Rat.mul_comm]
theorem SafeB.fin {b : Nat} (h : SafeB b) : Fin64 b := by unfold Fin64; have := h.2; omega
theorem SafeB.ab {b : Nat} (h : SafeB b) : U 624 ≤ ab (fval b) ∧ Go.Proofs.YtmcllgoeldfgmaaDoor.ab (fval b) ≤ U 1524 := by
  rw [← ab_fval b h.fin, ← safe_low, show U 1524 = p2 450 from rfl, ← safe_top]
  have f := h.fin
  unfold Fin64 at f
  constructor
  · rcases Nat.lt_or_ge 2580562586483294208 (frung b) with e | e
    · exact Rat.le_of_lt (fval_lt e f)
    · rw [show frung b = 2580562586483294208 by have := h.1; omega]; exact Rat.le_refl
  · rcases Nat.lt_or_ge (frung b) 6633802251116740608 with e | e
    · exact Rat.le_of_lt (fval_lt e (by omega))
    · rw [show frung b = 6633802251116740608 by have := h.2; omega]; exact Rat.le_refl
theorem SafeB.unit {b : Nat} (h : SafeB b) : ∃ B, 572 ≤ B ∧ B ≤ 1472 ∧ M (U B) (fval b) ∧ Go.Proofs.YtmcllgoeldfgmaaDoor.ab (fval b) < U (B + 53) := by
  obtain ⟨a1, a2⟩ := h.ab
  have f := F_fval h.fin
  have hb0 : fval b ≠ 0 := by
    intro e
    rw [e] at a1
    have := U_pos 624
    rw [show Go.Proofs.YtmcllgoeldfgmaaDoor.ab 0 = 0 by unfold Go.Proofs.YtmcllgoeldfgmaaDoor.ab; grind] at a1
    grind
  obtain ⟨K, _, k1, k2⟩ := binade (F.mult0 f) hb0
  have h1 : 624 ≤ K := by
    have : U 624 < U (K + 1) := by grind
    have := U_lt_iff.1 this
    omega
  have h2 : K ≤ 1524 := by
    have : U K ≤ U 1524 := by grind
    exact U_le_iff.1 this
  exact ⟨K - 52, by omega, by omega, f.mult k1, by rw [show K - 52 + 53 = K + 1 by omega]; exact k2⟩

structure SS (b B : Nat) (de re outs : List Nat) (Q : Nat) : Prop where
  inv : SInv (fval b) B (vals de) (vals re) (vals outs) (fval Q)
  fin : Fin64 Q ∧ Q < 18446744073709551616
  fo : ∀ x ∈ outs, Fin64 x
  sd : ∀ x ∈ de, SafeB x
  sr : ∀ x ∈ re, SafeB x
  cnt : outs.length ≤ 2 * de.length

theorem SS.start {b B : Nat} {es : List Nat} (h : Ex (vals es)) (hs : ∀ x ∈ es, SafeB x) : SS b B [] es [] 0 :=
  ⟨by rw [fval0]; exact SInv.start h (fun x hx => by obtain ⟨y, hy, rfl⟩ := List.mem_map.1 hx; exact ⟨F_fval (hs y hy).fin, (hs y hy).ab.1⟩), ⟨fin0, by omega⟩, by simp, by simp, hs, by simp⟩
theorem SS.lim {b B : Nat} {de re outs : List Nat} {Q : Nat} (I : SS b B de re outs Q) (hB : 572 ≤ B ∧ B ≤ 1472) : ab (fval Q) ≤ U 1976 ∧ ∀ x ∈ outs, ab (fval x) < U 1976 := by
  have hd : ∀ d ∈ vals de, ab d < U 1525 := fun d hd => by
    obtain ⟨y, hy, rfl⟩ := List.mem_map.1 hd
    have := (I.sd y hy).ab.2
    have := U_lt_iff.2 (show 1524 < 1525 by omega)
    grind
  constructor
  · have h1 := I.inv.qb 1525 hd (by omega)
    rw [U_mulX' (r := B + 504) (by omega)] at h1
    have := U_mono (show B + 504 ≤ 1976 by omega)
    grind
  · intro x hx
    have h1 := I.inv.hb 1525 hd (by omega) (fval x) (by simp [vals]; exact ⟨x, hx, rfl⟩)
    rw [U_mulX' (r := B + 451) (by omega)] at h1
    have := U_mono (show B + 451 ≤ 1976 by omega)
    grind
theorem SS.step {b B : Nat} {de re outs : List Nat} {Q x T t Q1 h1 Q2 h2 : Nat} (I : SS b B de (x :: re) outs Q) (hb : SafeB b) (hB : 572 ≤ B ∧ B ≤ 1472) (mb : M (U B) (fval b)) (bb : ab (fval b) < U (B + 53))
    (p0 : Pair (SafeP x b) (fval x * fval b) T t) (p1 : Pair (TameW Q t) (fval Q + fval t) Q1 h1) (p2 : Pair (TameW T Q1) (fval T + fval Q1) Q2 h2) : SS b B (de ++ [x]) re (gw (gw outs h1) h2) Q2 := by
  have sx := I.sr x (by simp)
  have lQ := (I.lim hB).1
  have m1 := U_lt_iff.2 (show 1974 < 1975 by omega)
  have u5 := U_succ 1975
  have u6 := U_succ 1976
  have u7 := U_succ 1977
  have u4 := U_succ 1974
  have up := U_pos 1974
  have lt : U 1978 ≤ U 2074 := U_mono (by omega)
  have lxb : ab (fval x * fval b) ≤ U 1974 := by
    rw [ab_mul, ← U_mulX' (s := 1524) (t := 1524) (r := 1974) (by omega)]
    have g1 := Rat.mul_le_mul_of_nonneg_right sx.ab.2 (ab_nonneg (fval b))
    have g2 := Rat.mul_le_mul_of_nonneg_left hb.ab.2 (Rat.le_of_lt (U_pos 1524))
    grind
  obtain ⟨fT, ft, lT, l_t, ⟨_, r0, e0⟩ | ⟨c, _⟩⟩ := p0
  · obtain ⟨T0, k0, R0⟩ := rv_rnd r0
    have bT : ab (fval T) ≤ U 1974 := R0.le_pow' lxb
    have bt : ab (fval t) ≤ U 1974 := by
      have := R0.rest_le
      rw [show fval x * fval b - fval T = fval t by grind] at this
      grind
    have t1 : TameW Q t := ⟨tame_of I.fin.1 (by grind), tame_of ft (by grind)⟩
    obtain ⟨fQ1, fh1, lQ1, lh1, ⟨_, r1, e1⟩ | ⟨c, _⟩⟩ := p1
    · obtain ⟨T1, k1, R1⟩ := rv_rnd r1
      have bQ1 : ab (fval Q1) ≤ U 1977 := R1.le_pow' (by have := ab_add (fval Q) (fval t); grind)
      have t2 : TameW T Q1 := ⟨tame_of fT (by grind), tame_of fQ1 (by grind)⟩
      obtain ⟨fQ2, fh2, lQ2, lh2, ⟨_, r2, e2⟩ | ⟨c, _⟩⟩ := p2
      · obtain ⟨T2, k2, R2⟩ := rv_rnd r2
        have J := I.inv.step (x := fval x) (re := vals re) hB.1 mb bb R0 e0 (F_fval ft) R1 e1 (F_fval fh1) R2 e2 (F_fval fh2)
        refine ⟨?_, ⟨fQ2, lQ2⟩, ?_, ?_, fun y hy => I.sr y (by simp [hy]), ?_⟩
        · rw [vals_gw, vals_gw, show vals (de ++ [x]) = vals de ++ [fval x] by simp [vals]]; exact J
        · intro y hy
          rcases gw_mem hy with hy | rfl
          · rcases gw_mem hy with hy | rfl
            · exact I.fo y hy
            · exact fh1
          · exact fh2
        · intro y hy
          rcases List.mem_append.1 hy with hy | hy
          · exact I.sd y hy
          · rw [List.mem_singleton.1 hy]; exact sx
        · have g1 := gw_length (gw outs h1) h2
          have g2 := gw_length outs h1
          have := I.cnt
          simp
          omega
      · exact absurd t2 c
    · exact absurd t1 c
  · exact absurd ⟨Or.inr sx, Or.inr hb⟩ c
theorem SS.done {b B : Nat} {de outs : List Nat} {Q : Nat} (I : SS b B de [] outs Q) (hB : 572 ≤ B ∧ B ≤ 1472) : Up 1977 (gw outs Q) ∧ (vals (gw outs Q)).sum = (vals de).sum * fval b ∧ (gw outs Q).length ≤ 2 * de.length + 1 := by
  obtain ⟨h1, h2, h3⟩ := SInv.done I.inv
  rw [← vals_gw] at h1 h2
  obtain ⟨l1, l2⟩ := I.lim hB
  have m1 := U_lt_iff.2 (show 1976 < 1977 by omega)
  refine ⟨⟨h1, fun y hy => ?_, fun y hy => ?_⟩, h2, ?_⟩
  · rcases gw_mem hy with hy | rfl
    · exact I.fo y hy
    · exact I.fin.1
  · rcases gw_mem hy with hy | rfl
    · have := l2 y hy
      grind
    · grind
  · have g2 := gw_length outs Q
    have := I.cnt
    omega

/-- What lies in memory between two rounds. -/
structure SW (w : World) (es de re outs : List Nat) (v : Value) (wr : World) : Prop where
  e1 : es = de ++ re
  row : Fr wr w.heap.size v outs
  bel : Below w.heap.size w wr
theorem SW.done {w wr wr' : World} {es de re outs : List Nat} {v : Value} (h : SW w es de re outs v wr) (hb : Below wr.heap.size wr wr') : SW w es de re outs v wr' := ⟨h.e1, h.row.later hb, h.bel.trans (hb.mono h.bel.size)⟩
theorem SW.grown {w wr wr' : World} {es de re outs outs' : List Nat} {v v' : Value} (h : SW w es de re outs v wr) (hr : Fr wr' w.heap.size v' outs') (hb : Below w.heap.size wr wr') : SW w es de re outs' v' wr' := ⟨h.e1, hr, h.bel.trans hb⟩

set_option maxRecDepth 100000 in
set_option maxHeartbeats 8000000 in
theorem scaled_walk (n c b : Nat) (a : Option Addr) (es : List Nat) (w : World) (f1 : Fs w (.slice a n c) es) (u1 : Ex (vals es)) (hs : ∀ x ∈ es, SafeB x) (hb : SafeB b) (hbw : b < 18446744073709551616) (hn : es.length = n) (ln : n ≤ 1000) :
    Calls Tryd.prog 73 #[.slice a n c, .float .f64 b] w fun e w' => (∃ v bs, e = .returned v ∧ Fr w' w.heap.size v bs ∧ Up 1977 bs ∧ (vals bs).sum = (vals es).sum * fval b ∧ bs.length ≤ 2 * n + 1) ∧ Below w.heap.size w w' := by
  obtain ⟨B, B1, B2, mb, bb⟩ := hb.unit
  have H1 : Hid (Fs w (.slice a n c) es) := f1
  have HU : Hid (Ex (vals es) ∧ (∀ x ∈ es, SafeB x) ∧ SafeB b ∧ b < 18446744073709551616) := ⟨u1, hs, hb, hbw⟩
  have HB : Hid ((572 ≤ B ∧ B ≤ 1472) ∧ M (U B) (fval b) ∧ ab (fval b) < U (B + 53)) := ⟨⟨B1, B2⟩, mb, bb⟩
  have HL : Hid (es.length = n) := hn
  have l1 : (n : Int) ≤ 1000 := by omega
  obtain ⟨i0, hi0, hz0, hz1, hz2⟩ := info_parts infoF
  clear f1 u1 hs hb hbw hn ln B1 B2 mb bb
  go_enter Tryd.func73, Tryd.ntmps73
  go_wp2_with (at_make; refine wpList_make_own _ rfl _ _ _ rfl w.heap.size 31 i0 _ 1 undF hi0 hz0 hz1 .i64 .i64 _ (2 * n) rfl rfl (by omega) (by rw [hz2]; omega) (by unfold maxLen; omega) (by simp) ?_; intro w1 hown hgrow; have HJ : Hid (SW w es [] es [] (.slice (some ⟨w.heap.size, 0, none⟩) 0 (2 * n)) w1) := ⟨rfl, ⟨by simpa [f64s] using hown, by simp⟩, (Below.refl _ _).grown hgrow (Nat.le_refl _) (by simp)⟩; clear hown hgrow)
  go_loopw [18, 5, 6] (fun i v Q wr => ∃ (de re outs : List Nat) (Q' : Nat), i = .int .i64 ((de.length : Nat) : Int) ∧ Q = .float .f64 Q' ∧ Hid (SS b B de re outs Q') ∧ Hid (SW w es de re outs v wr)) (fun i _ _ _ => n - (intOf i).toNat)
  case atStart => exact ⟨[], es, [], 0, rfl, rfl, SS.start HU.out.1 HU.out.2.1, HJ.out⟩
  case round =>
    clear HJ
    obtain ⟨de, re, outs, Q, rfl, rfl, hS, hW⟩ := hrel
    have HK : Hid (de.length + re.length = n) := by
      have h1 := HL.out
      rw [hW.out.e1, List.length_append] at h1
      exact h1
    cases re with
    | cons x re =>
      have hlt : de.length < n := by have := HK.out; simp at this; omega
      obtain ⟨k, hk⟩ : ∃ k, de.length = k := ⟨_, rfl⟩
      have HKK : Hid (de.length = k) := hk
      rw [hk] at hlt ⊢
      have hlt' : (k : Int) < (n : Int) := by omega
      have hk0 : (0 : Int) ≤ (k : Int) := by omega
      have hge : es.getD k 0 = x := by
        rw [hW.out.e1, ← hk]
        simp [List.getD]
      obtain ⟨⟨a', c', e', _, _, hf⟩, hw⟩ := H1.out
      cases e'
      rcases hf with hf | ⟨g, off, rfl, hf⟩
      · exfalso
        rw [hf] at hlt
        simp at hlt
      have hcell := box_cell hW.out.bel (hf k (by rw [HL.out]; exact hlt))
      rw [hge] at hcell
      have HX : Hid (x < 18446744073709551616) := hw x (by rw [hW.out.e1]; simp)
      have HO : Hid (outs.length ≤ 1000000) := by have := hS.out.cnt; show _ ≤ _; omega
      clear hk hge hf hw
      go_wp2_with fail
      refine (prod_pair x b _ HX.out HU.out.2.2.2).mono ?_
      rintro e w2 ⟨⟨T, t, rfl, p0⟩, hb2⟩
      have HP0 : Hid (Pair (SafeP x b) (fval x * fval b) T t) := p0
      have HW2 : Hid (SW w es de (x :: re) outs u5 w2) := hW.out.done hb2
      clear p0 hb2 hcell
      go_wp2_with fail
      refine (sum_pair Q t _ hS.out.fin.2 HP0.out.2.2.2.1).mono ?_
      rintro e w3 ⟨⟨Q1, h1, rfl, p1⟩, hb3⟩
      have HP1 : Hid (Pair (TameW Q t) (fval Q + fval t) Q1 h1) := p1
      have HW3 : Hid (SW w es de (x :: re) outs u5 w3) := HW2.out.done hb3
      clear p1 hb3
      go_wp2_with fail
      refine (grown_any w.heap.size u5 outs h1 _ HW3.out.row HW3.out.bel.size HP1.out.2.2.2.1 HO.out).mono ?_
      rintro e w4 ⟨⟨v4, rfl, hr4⟩, hb4⟩
      have HW4 : Hid (SW w es de (x :: re) (gw outs h1) v4 w4) := HW3.out.grown hr4 hb4
      clear hr4 hb4
      go_wp2_with fail
      refine (sum_pair T Q1 _ HP0.out.2.2.1 HP1.out.2.2.1).mono ?_
      rintro e w5 ⟨⟨Q2, h2, rfl, p2⟩, hb5⟩
      have HP2 : Hid (Pair (TameW T Q1) (fval T + fval Q1) Q2 h2) := p2
      have HW5 : Hid (SW w es de (x :: re) (gw outs h1) v4 w5) := HW4.out.done hb5
      clear p2 hb5
      go_wp2_with fail
      refine (grown_any w.heap.size v4 (gw outs h1) h2 _ HW5.out.row HW5.out.bel.size HP2.out.2.2.2.1 (by have := gw_length outs h1; have := hS.out.cnt; have := HKK.out; omega)).mono ?_
      rintro e w6 ⟨⟨v6, rfl, hr6⟩, hb6⟩
      have HW6 : Hid (SW w es (de ++ [x]) re (gw (gw outs h1) h2) v6 w6) := ⟨by rw [HW5.out.e1]; simp, hr6, HW5.out.bel.trans hb6⟩
      have HS6 : Hid (SS b B (de ++ [x]) re (gw (gw outs h1) h2) Q2) := hS.out.step HU.out.2.2.1 HB.out.1 HB.out.2.1 HB.out.2.2 HP0.out HP1.out HP2.out
      clear hr6 hb6
      go_wp2
      exact ⟨⟨de ++ [x], re, gw (gw outs h1) h2, Q2, by rw [List.length_append, HKK.out]; go_num, rfl, HS6, HW6⟩, by simp [intOf]; omega⟩
    | nil =>
      have hk : de.length = n := by have := HK.out; simpa using this
      rw [hk]
      have hltb : decide ((n : Int) < (n : Int)) = false := decide_eq_false (by omega)
      have HD : Hid (Up 1977 (gw outs Q) ∧ (vals (gw outs Q)).sum = (vals es).sum * fval b ∧ (gw outs Q).length ≤ 2 * n + 1) := by
        have e1 := hW.out.e1
        rw [List.append_nil] at e1
        have := hS.out.done HB.out.1
        rw [hk, ← e1] at this
        exact this
      have HO : Hid (outs.length ≤ 1000000) := by have := hS.out.cnt; show _ ≤ _; omega
      clear hk
      go_wp2_with fail
      refine (grown_any w.heap.size u5 outs Q _ hW.out.row hW.out.bel.size hS.out.fin.2 HO.out).mono ?_
      rintro e w4 ⟨⟨v4, rfl, hr4⟩, hb4⟩
      have HW4 : Hid (SW w es de [] (gw outs Q) v4 w4) := hW.out.grown hr4 hb4
      clear hr4 hb4
      go_wp2
      go_ret
      exact ⟨⟨v4, _, rfl, HW4.out.row, HD.out.1, HD.out.2.1, HD.out.2.2⟩, HW4.out.bel⟩

end Go.Proofs.YtmcllgoeldfgmaaDoor
