/- Own texts, put together: Pd Pe Pf Pg. -/
import Derived.Test.YtglcngjllfgdpaaQ11
/- Package expand: joined, with whatever is so from round to round (for lists that are written out). -/
namespace Go.Proofs.Ytglcngjllfgdpaa
open Go.RowKit

/-- A round that takes from the first list keeps P. -/
def LeftP (P : List Nat → List Nat → List Nat → List Nat → List Nat → Nat → Nat → Prop) : Prop :=
  ∀ de g re df rf outs Q q R h Q' q', P de (g :: re) df rf outs Q q → (∀ y, rf.head? = some y → frung g ≤ frung y) → Pair (TameW g q) (fval g + fval q) R h → Pair (TameW Q R) (fval Q + fval R) Q' q' → P (de ++ [g]) re df rf (gw outs h) Q' q'
/-- A round that takes from the second list keeps P. -/
def RightP (P : List Nat → List Nat → List Nat → List Nat → List Nat → Nat → Nat → Prop) : Prop :=
  ∀ df g rf de re outs Q q R h Q' q', P de re df (g :: rf) outs Q q → (∀ y, re.head? = some y → frung g ≤ frung y) → Pair (TameW g q) (fval g + fval q) R h → Pair (TameW Q R) (fval Q + fval R) Q' q' → P de re (df ++ [g]) rf (gw outs h) Q' q'
/-- What is so at the end. -/
def EndP (P : List Nat → List Nat → List Nat → List Nat → List Nat → Nat → Nat → Prop) (es fs bs : List Nat) : Prop :=
  ∃ de df outs Q q, P de [] df [] outs Q q ∧ es = de ++ [] ∧ fs = df ++ [] ∧ bs = gw (gw outs q) Q

/-- The closure, as joined uses it. -/
theorem nextP_use (P : List Nat → List Nat → List Nat → List Nat → List Nat → Nat → Nat → Prop) (hL : LeftP P) (hR : RightP P) {N : Nat} {w wr : World} {es fs de re df rf outs : List Nat} {v : Value} {Q q : Nat} (hN : N ≤ 2070) (S : JS N de re df rf outs Q q) (S' : P de re df rf outs Q q) (W : JW w es fs de re df rf outs v wr) (hne : de.length + df.length < es.length + fs.length) :
    Calls Try.prog 94 #[.pointer (some ⟨w.heap.size + 1, 0, none⟩), .pointer (some ⟨w.heap.size, 0, none⟩)] wr fun e w' => ∃ x, e = .returned (.float .f64 x) ∧ x < 18446744073709551616 ∧ ∃ de' re' df' rf', JW w es fs de' re' df' rf' outs v w' ∧ de'.length + df'.length = de.length + df.length + 1 ∧
      ∀ R h Q' q', Pair (TameW x q) (fval x + fval q) R h → Pair (TameW Q R) (fval Q + fval R) Q' q' → JS N de' re' df' rf' (gw outs h) Q' q' ∧ P de' re' df' rf' (gw outs h) Q' q' := by
  obtain ⟨se, sf, b1, b2, f1, f2⟩ := W.box
  have h0 : re ≠ [] ∨ rf ≠ [] := by
    rw [W.e1, W.e2, List.length_append, List.length_append] at hne
    by_cases h : re = []
    · right
      intro h'
      rw [h, h'] at hne
      simp at hne
    · exact Or.inl h
  refine (next_any w wr w.heap.size (w.heap.size + 1) se sf re rf W.bel b1 b2 f1 f2 S.ff h0).mono ?_
  rintro e w' ⟨x, rfl, ⟨re', s, rfl, hm, hs, rfl⟩ | ⟨rf', s, rfl, hm, hs, rfl⟩⟩
  · exact ⟨x, rfl, f1.word x (by simp), _, _, _, _, W.left hs, by simp; omega, fun R h Q' q' p1 p2 => ⟨S.step hN hm p1 p2, hL _ _ _ _ _ _ _ _ _ _ _ _ S' hm p1 p2⟩⟩
  · exact ⟨x, rfl, f2.word x (by simp), _, _, _, _, W.right hs, by simp; omega, fun R h Q' q' p1 p2 => ⟨(S.turn.step hN hm p1 p2).turn, hR _ _ _ _ _ _ _ _ _ _ _ _ S' hm p1 p2⟩⟩

set_option maxRecDepth 100000 in
set_option maxHeartbeats 8000000 in
theorem joinedP_walk (P : List Nat → List Nat → List Nat → List Nat → List Nat → Nat → Nat → Prop) (hL : LeftP P) (hR : RightP P) (N n m ce cf : Nat) (ae af : Option Addr) (es fs : List Nat) (w : World) (hN : N ≤ 2070) (f1 : Fs w (.slice ae n ce) es) (f2 : Fs w (.slice af m cf) fs) (u1 : Up N es) (u2 : Up N fs) (hn : es.length = n) (hm : fs.length = m) (ln : n ≤ 1000) (lm : m ≤ 1000) (h0 : P [] es [] fs [] 0 0) :
    Calls Try.prog 70 #[.slice ae n ce, .slice af m cf] w fun e w' => (∃ v bs, e = .returned v ∧ Fr w' w.heap.size v bs ∧ Up (N + 3) bs ∧ (vals bs).sum = (vals es).sum + (vals fs).sum ∧ bs.length ≤ n + m + 2 ∧ EndP P es fs bs) ∧ Below w.heap.size w w' := by
  have H1 : Hid (Fs w (.slice ae n ce) es) := f1
  have H2 : Hid (Fs w (.slice af m cf) fs) := f2
  have HU : Hid (Up N es ∧ Up N fs ∧ N ≤ 2070) := ⟨u1, u2, hN⟩
  have HL : Hid (es.length = n ∧ fs.length = m) := ⟨hn, hm⟩
  have l1 : (n : Int) ≤ 1000 := by omega
  have l2 : (m : Int) ≤ 1000 := by omega
  obtain ⟨i0, hi0, hz0, hz1, hz2⟩ := info_parts infoF
  have HP0 : Hid (P [] es [] fs [] 0 0) := h0
  have HPL : Hid (LeftP P ∧ RightP P) := ⟨hL, hR⟩
  clear f1 f2 u1 u2 hN hn hm ln lm h0 hL hR
  go_enter Try.func70, Try.ntmps70
  go_wp2_with (at_make; refine wpList_make_own _ rfl _ _ _ rfl (w.heap.size + 2) 22 i0 _ 1 undF hi0 hz0 hz1 .i64 .i64 _ (n + m) rfl rfl (by omega) (by rw [hz2]; omega) (by unfold maxLen; omega) (by simp) ?_; intro w1 hown hgrow; have HJ : Hid (JW w es fs [] es [] fs [] (.slice (some ⟨w.heap.size + 1 + 1, 0, none⟩) 0 (n + m)) w1) := jw_start H1.out H2.out hown hgrow; have c1 : w1.cell? ⟨w.heap.size, 0, none⟩ = some (.slice ae n ce) := (hgrow.cell (a := ⟨w.heap.size, 0, none⟩) (by go_simp) (by simp)); have c2 : w1.cell? ⟨w.heap.size + 1, 0, none⟩ = some (.slice af m cf) := (hgrow.cell (a := ⟨w.heap.size + 1, 0, none⟩) (by go_simp) (by simp)); clear hown hgrow)
  clear c1 c2
  go_loopw [22, 6, 7, 8, 9] (fun i v Q q l wr => ∃ (de re df rf outs : List Nat) (Q' q' l' : Nat), i = .int .i64 ((de.length + df.length : Nat) : Int) ∧ Q = .float .f64 Q' ∧ q = .float .f64 q' ∧ l = .float .f64 l' ∧ Hid (JS N de re df rf outs Q' q' ∧ P de re df rf outs Q' q') ∧ Hid (JW w es fs de re df rf outs v wr)) (fun i _ _ _ _ _ => n + m - (intOf i).toNat)
  case atStart => exact ⟨[], es, [], fs, [], 0, 0, 0, rfl, rfl, rfl, rfl, ⟨JS.start HU.out.1 HU.out.2.1, HP0.out⟩, HJ.out⟩
  case round =>
    clear HJ
    obtain ⟨de, re, df, rf, outs, Q, q, l, rfl, rfl, rfl, rfl, hS, hW⟩ := hrel
    have HK : Hid (de.length + df.length + re.length + rf.length = n + m) := by
      have h1 := HL.out.1
      have h2 := HL.out.2
      rw [hW.out.e1, List.length_append] at h1
      rw [hW.out.e2, List.length_append] at h2
      show _ = _
      omega
    by_cases hlt : de.length + df.length < n + m
    · have hlt' : ((de.length + df.length : Nat) : Int) < (n : Int) + (m : Int) := by omega
      obtain ⟨k, hk⟩ : ∃ k, de.length + df.length = k := ⟨_, rfl⟩
      have HKK : Hid (de.length + df.length = k) := hk
      rw [hk] at hlt hlt' ⊢
      have HNX : Hid (Calls Try.prog 94 #[.pointer (some ⟨w.heap.size + 1, 0, none⟩), .pointer (some ⟨w.heap.size, 0, none⟩)] wr fun e w' => ∃ x, e = .returned (.float .f64 x) ∧ x < 18446744073709551616 ∧ ∃ de' re' df' rf', JW w es fs de' re' df' rf' outs u6 w' ∧ de'.length + df'.length = de.length + df.length + 1 ∧
        ∀ R h Q' q', Pair (TameW x q) (fval x + fval q) R h → Pair (TameW Q R) (fval Q + fval R) Q' q' → JS N de' re' df' rf' (gw outs h) Q' q' ∧ P de' re' df' rf' (gw outs h) Q' q') := nextP_use P HPL.out.1 HPL.out.2 HU.out.2.2 hS.out.1 hS.out.2 hW.out (by rw [HL.out.1, HL.out.2, hk]; exact hlt)
      have HO : Hid (outs.length ≤ 1000000) := by have := hS.out.1.cnt; show _ ≤ _; omega
      clear hk
      go_wp2_with fail
      refine HNX.out.mono ?_
      rintro e w2 ⟨x, rfl, hx, de', re', df', rf', hJ, hc, hst⟩
      have HX : Hid (x < 18446744073709551616) := hx
      have HJ2 : Hid (JW w es fs de' re' df' rf' outs u6 w2) := hJ
      have HC : Hid (de'.length + df'.length = de.length + df.length + 1) := hc
      have HST : Hid (∀ R h Q' q', Pair (TameW x q) (fval x + fval q) R h → Pair (TameW Q R) (fval Q + fval R) Q' q' → JS N de' re' df' rf' (gw outs h) Q' q' ∧ P de' re' df' rf' (gw outs h) Q' q') := hst
      clear hx hJ hc hst HNX
      go_wp2_with fail
      refine (sum_pair x q _ HX.out hS.out.1.fin.2.2.2).mono ?_
      rintro e w3 ⟨⟨R, h, rfl, p1⟩, hb3⟩
      have HP1 : Hid (Pair (TameW x q) (fval x + fval q) R h) := p1
      have HJ3 : Hid (JW w es fs de' re' df' rf' outs u6 w3) := HJ2.out.done hb3
      clear p1 hb3
      go_wp2_with fail
      refine (grown_any (w.heap.size + 2) u6 outs h _ HJ3.out.row HJ3.out.siz HP1.out.2.2.2.1 HO.out).mono ?_
      rintro e w4 ⟨⟨v', rfl, hr4⟩, hb4⟩
      have HJ4 : Hid (JW w es fs de' re' df' rf' (gw outs h) v' w4) := HJ3.out.grown hr4 hb4
      clear hr4 hb4
      go_wp2_with fail
      refine (sum_pair Q R _ hS.out.1.fin.2.2.1 HP1.out.2.2.1).mono ?_
      rintro e w5 ⟨⟨Q', q', rfl, p2⟩, hb5⟩
      have HS5 : Hid (JS N de' re' df' rf' (gw outs h) Q' q' ∧ P de' re' df' rf' (gw outs h) Q' q') := HST.out R h Q' q' HP1.out p2
      have HJ5 : Hid (JW w es fs de' re' df' rf' (gw outs h) v' w5) := HJ4.out.done hb5
      clear p2 hb5
      go_wp2
      have hc := HC.out
      rw [HKK.out] at hc
      exact ⟨⟨de', re', df', rf', gw outs h, Q', q', h, by rw [hc]; go_num, rfl, rfl, rfl, HS5, HJ5⟩, by simp [intOf]; omega⟩
    · obtain ⟨k, hk⟩ : ∃ k, de.length + df.length = k := ⟨_, rfl⟩
      rw [hk] at hlt ⊢
      have hre : re = [] := List.eq_nil_of_length_eq_zero (by have := HK.out; omega)
      have hrf : rf = [] := List.eq_nil_of_length_eq_zero (by have := HK.out; omega)
      subst hre hrf
      have hkk : k = n + m := by have := HK.out; simp at this; omega
      have hltb : decide (((n + m : Nat) : Int) < (n : Int) + (m : Int)) = false := decide_eq_false (by omega)
      have HD := hS.out.1.done
      have HO : Hid (outs.length ≤ 1000000) := by have := hS.out.1.cnt; show _ ≤ _; omega
      have HDD : Hid (Up (N + 3) (gw (gw outs q) Q) ∧ (vals (gw (gw outs q) Q)).sum = (vals es).sum + (vals fs).sum ∧ (gw (gw outs q) Q).length ≤ n + m + 2) := by
        have e1 := hW.out.e1
        have e2 := hW.out.e2
        rw [List.append_nil] at e1 e2
        rw [e1, e2]
        exact ⟨HD.1, HD.2.1, by have := HD.2.2; omega⟩
      subst hkk
      have HE : Hid (es = de ++ [] ∧ fs = df ++ []) := ⟨hW.out.e1, hW.out.e2⟩
      clear HD hlt hk
      go_wp2_with fail
      refine (grown_any (w.heap.size + 2) u6 outs q _ hW.out.row hW.out.siz hS.out.1.fin.2.2.2 HO.out).mono ?_
      rintro e w4 ⟨⟨v', rfl, hr4⟩, hb4⟩
      have HJ4 : Hid (JW w es fs de [] df [] (gw outs q) v' w4) := hW.out.grown hr4 hb4
      clear hr4 hb4
      go_wp2_with fail
      refine (grown_any (w.heap.size + 2) v' (gw outs q) Q _ HJ4.out.row HJ4.out.siz hS.out.1.fin.2.2.1 (by have := gw_length outs q; have := hS.out.1.cnt; have := HK.out; simp at this; omega)).mono ?_
      rintro e w5 ⟨⟨v5, rfl, hr5⟩, hb5⟩
      have HJ5 : Hid (JW w es fs de [] df [] (gw (gw outs q) Q) v5 w5) := HJ4.out.grown hr5 hb5
      clear hr5 hb5
      go_wp2
      go_ret
      exact ⟨⟨v5, _, rfl, HJ5.out.row.mono (by omega), HDD.out.1, HDD.out.2.1, HDD.out.2.2, de, df, outs, Q, q, hS.out.2, HE.out.1, HE.out.2, rfl⟩, HJ5.out.bel⟩

/-- Two lists, joined: what is so after each round is so at the end. -/
theorem joinedP_any (P : List Nat → List Nat → List Nat → List Nat → List Nat → Nat → Nat → Prop) (hL : LeftP P) (hR : RightP P) (N : Nat) (se sf : Value) (es fs : List Nat) (w : World) (hN : N ≤ 2070) (f1 : Fs w se es) (f2 : Fs w sf fs) (u1 : Up N es) (u2 : Up N fs) (hl : es.length ≤ 1000 ∧ fs.length ≤ 1000) (h0 : P [] es [] fs [] 0 0) :
    Calls Try.prog 70 #[se, sf] w fun e w' => (∃ v bs, e = .returned v ∧ Fr w' w.heap.size v bs ∧ Up (N + 3) bs ∧ (vals bs).sum = (vals es).sum + (vals fs).sum ∧ bs.length ≤ es.length + fs.length + 2 ∧ EndP P es fs bs) ∧ Below w.heap.size w w' := by
  obtain ⟨⟨ae, ce, rfl, _⟩, _⟩ := id f1
  obtain ⟨⟨af, cf, rfl, _⟩, _⟩ := id f2
  exact joinedP_walk P hL hR N es.length fs.length ce cf ae af es fs w hN f1 f2 u1 u2 rfl rfl hl.1 hl.2 h0

end Go.Proofs.Ytglcngjllfgdpaa

/- Package expand: squeezed, with whatever is so from round to round (for lists that are written out). -/
namespace Go.Proofs.Ytglcngjllfgdpaa
open Go.RowKit Go.Shelf

attribute [local go_sem] Oper.semAt_some
attribute [local go_sem] run_store_float

/-- A round keeps P. -/
def StepP (P : Nat → List Nat → Nat → Prop) (ds : List Nat) : Prop :=
  ∀ k bs cc s r, k < ds.length → P k bs cc → Pair (TameW cc (ds.getD (ds.length - 1 - k) 0)) (fval cc + fval (ds.getD (ds.length - 1 - k) 0)) s r → (frung r = 0 → P (k + 1) bs s) ∧ (frung r ≠ 0 → P (k + 1) (bs ++ [s]) r)
/-- What is so between two rounds. -/
def ZIP (P : Nat → List Nat → Nat → Prop) (top : Nat) (S : Rat) (ds : List Nat) (f : Nat → Nat × Wd) (w : World) (pre : List (Nat × Wd)) (W : World) : Prop :=
  ∃ v bs c r, Zw w W v bs c r ∧ bs.length ≤ pre.length ∧ (pre = upf f pre.length → ZS top S ds pre.length bs c ∧ P pre.length bs c)

theorem ziP_step (P : Nat → List Nat → Nat → Prop) (ds0 : List Nat) (hP : StepP P ds0) {top n : Nat} {S : Rat} {ds bs : List Nat} {c cc s r : Nat} {zs : Nat → Wd} {pre : List (Nat × Wd)} {x : Nat × Wd} (hu : Up top (ds ++ [c])) (ht : top ≤ 2074) (hn : ds.length = n) (hz : ∀ j, (zs j).1 = (ds ++ [c]).getD j 0)
    (hlt : pre.length < n) (hds : ds0 = ds) (hst : pre = upf (fun j => (n - 1 - j, zs (n - 1 - j))) pre.length → ZS top S ds pre.length bs cc ∧ P pre.length bs cc) (hp : Pair (TameW cc x.2.1) (fval cc + fval x.2.1) s r) (he : pre ++ [x] = upf (fun j => (n - 1 - j, zs (n - 1 - j))) (pre ++ [x]).length) :
    (frung r = 0 → ZS top S ds (pre ++ [x]).length bs s ∧ P (pre ++ [x]).length bs s) ∧ (frung r ≠ 0 → ZS top S ds (pre ++ [x]).length (bs ++ [s]) r ∧ P (pre ++ [x]).length (bs ++ [s]) r) := by
  obtain ⟨e1, e2⟩ := upf_take he
  obtain ⟨I, I2⟩ := hst e1
  rw [hds] at hP
  have ex : x.2.1 = ds.getD (ds.length - 1 - pre.length) 0 := by
    rw [e2, hz, hn]
    have : n - 1 - pre.length < ds.length := by omega
    simp [List.getD, List.getElem?_append_left this]
  rw [ex] at hp
  rw [List.length_append, List.length_singleton]
  have r1 := I.step ht (by omega) (fun b hb => hu.fin b (by simp [hb])) hp
  have r2 := hP pre.length bs cc s r (by omega) I2 hp
  exact ⟨fun h => ⟨r1.1 h, r2.1 h⟩, fun h => ⟨r1.2 h, r2.2 h⟩⟩

set_option maxRecDepth 100000 in
set_option maxHeartbeats 8000000 in
theorem squeezedP_walk (P : Nat → List Nat → Nat → Prop) (top n c cap : Nat) (g off : Nat) (ds : List Nat) (w : World) (ht : top ≤ 2074) (hs : Fs w (.slice (some ⟨g, off, none⟩) (n + 1) cap) (ds ++ [c])) (hu : Up top (ds ++ [c])) (hn : ds.length = n) (ln : n ≤ 1000) (hgw : g < w.heap.size) (hcell : ∀ j, j < n + 1 → w.cell? ⟨g, off + j, none⟩ = some (.float .f64 ((ds ++ [c]).getD j 0))) (hP : StepP P ds) (h0 : P 0 [] c) :
    Calls Try.prog 69 #[.slice (some ⟨g, off, none⟩) (n + 1) cap] w fun e w' => (∃ v bs, e = .returned v ∧ Fr w' w.heap.size v bs ∧ Sq top ((vals (ds ++ [c])).sum) bs ∧ ∃ gs cc, P n gs cc ∧ bs = (gs ++ [cc]).reverse) ∧ Below w.heap.size w w' := by
  have H : Hid (Fs w (.slice (some ⟨g, off, none⟩) (n + 1) cap) (ds ++ [c])) := hs
  have HU : Hid (Up top (ds ++ [c]) ∧ top ≤ 2074 ∧ ds.length = n) := ⟨hu, ht, hn⟩
  have HC : Hid (∀ j, j < n + 1 → w.cell? ⟨g, off + j, none⟩ = some (.float .f64 ((ds ++ [c]).getD j 0))) := hcell
  have l1 : (n : Int) ≤ 1000 := by omega
  have e0 : ((n : Int) + 1 == 0) = false := by simp; omega
  have HA : Hid (∀ w', Below w.heap.size w w' → Calls Try.prog 75 #[.slice (some ⟨g, off, none⟩) (n + 1) cap] w' fun e w'' => e = .returned (.float .f64 c) ∧ w'' = w') := fun w' hb => by
    have := lead_any _ _ w' (hs.later hb) (by simp; omega)
    rwa [show lastW (ds ++ [c]) = c by simp [lastW, List.getD]] at this
  obtain ⟨⟨a', c', e', hc1, hc2, _⟩, _⟩ := id hs
  obtain ⟨q1, q2, rfl⟩ : some (⟨g, off, none⟩ : Addr) = a' ∧ n + 1 = (ds ++ [c]).length ∧ cap = c' := by simpa using e'
  have l2 : (n : Int) + 1 ≤ (cap : Int) := by simp at hc1; omega
  have l3 : (cap : Int) ≤ 9223372036854775807 := by omega
  obtain ⟨i0, hi0, hz0, hz1, hz2⟩ := info_parts infoF
  have hwz : ∀ j, (ds ++ [c]).getD j 0 < 18446744073709551616 := fun j => getD_word hs.word j
  obtain ⟨zs, hzs⟩ : ∃ zs : Nat → Wd, ∀ j, (zs j).1 = (ds ++ [c]).getD j 0 := ⟨fun j => ⟨(ds ++ [c]).getD j 0, hwz j⟩, fun _ => rfl⟩
  have HZ : Hid (∀ j, (zs j).1 = (ds ++ [c]).getD j 0) := hzs
  have HW : Hid (c < 18446744073709551616) := hs.word c (by simp)
  have HPP : Hid (StepP P ds ∧ P 0 [] c) := ⟨hP, h0⟩
  clear hs hu ht hn hc1 hc2 e' q1 q2 hwz hzs hcell hP h0
  refine (callsIn_wide (n := 5)).1 ?_
  refine callsIn_of_wp_marks Try.func69 rfl trivial ?_ rfl
  simp only [Try.ntmps69, List.size_toArray, List.length_cons, List.length_nil, Nat.reduceAdd, Nat.reduceSub, Array.replicate_succ, Array.replicate_zero, List.push_toArray, List.append_toArray, List.nil_append, List.cons_append]
  gi_wp2_with (first
    | (refine ⟨trivial, ?_⟩; gi_at_call 75; refine (callsIn_wide.2 (HA.out _ ((Below.refl _ w).alloc (Nat.le_refl _) _))).mono ?_; rintro e w' ⟨rfl, rfl⟩)
    | (refine ⟨trivial, ?_⟩; gi_at_call 92; refine (back_in _ _ _ _ _).mono ?_; rintro e w' ⟨rfl, rfl⟩))
  obtain ⟨z0, b6⟩ := zw_start w c (.slice (some ⟨g, off, none⟩) n cap) HW.out
  have HZ0 := z0
  obtain ⟨W0, hW0⟩ : ∃ W0, ((((w.alloc (.cells #[.slice none 0 0] 39)).alloc (.cells #[.float .f64 c] 22)).alloc (.cells #[.float .f64 0] 22)).alloc (.cells #[.slice (some ⟨g, off, none⟩) n cap] 39)) = W0 := ⟨_, rfl⟩
  have hs0 : W0.heap.size = w.heap.size + 4 := by rw [← hW0]; simp
  rw [hW0] at z0 b6 HZ0 ⊢
  refine wpIn_rangeFunc_ownG rfl (by omega) (gf := 100) (lb := #[.pointer (some ⟨w.heap.size + 1 + 1 + 1, 0, none⟩)]) rfl trivial (enters_of Try.func100 (by kernel_rfl) rfl)
    (back_stops _ (by omega) (w.heap.size + 1 + 1 + 1) w.heap.size n cap (some ⟨g, off, none⟩) zs (by omega) W0 b6 z0.bel.size (Or.inr ⟨g, off, rfl, hgw, fun j hj => by rw [HZ.out]; exact (z0.bel.cell (p := ⟨g, off + j, none⟩) hgw).trans (HC.out j (by omega))⟩))
    (fun h k => ⟨h.1.trans k.1, k.2.trans h.2⟩)
    (fun W l o o' hl ho hc hw => ⟨belowK_b (w := W0) z0.bel.size W l o o' hl ho hc hw, World.putObj_heap_other (by omega)⟩)
    (Below.refl _ _) (fun _ => rfl)
    (ZIP P top ((vals (ds ++ [c])).sum) ds (fun j => (n - 1 - j, zs (n - 1 - j))) w)
    (fun _ _ _ => False)
    (fun s A B row hs hg hr => by obtain ⟨v, bs, c, r, h1, h2⟩ := hs; exact ⟨v, bs, c, r, h1.own z0.bel.size hg hr, h2⟩)
    (fun _ _ _ _ _ hs _ _ => hs)
    ⟨_, [], c, 0, z0, Nat.le_refl _, fun _ => ⟨ZS.start HU.out.1, HPP.out.2⟩⟩
    (fun x => { tmps := #[.slice (some ⟨g, off, none⟩) (n + 1) cap, undef, .slice none 0 0, .pointer (some ⟨w.heap.size, 0, none⟩), .pointer (some ⟨w.heap.size + 1, 0, none⟩), .pointer (some ⟨w.heap.size + 1 + 1, 0, none⟩), undef, .float .f64 x.2.1, .slice (some ⟨g, off, none⟩) (n + 1) cap, .int .i64 ((n : Int) + 1), .bool false, .slice (some ⟨g, off, none⟩) (n + 1) cap, .float .f64 c, .slice (some ⟨g, off, none⟩) (n + 1) cap, .slice (some ⟨g, off, none⟩) (n + 1) cap, .int .i64 ((n : Int) + 1), .int .i64 (n : Int), .slice (some ⟨g, off, none⟩) n cap, .func (.func 100) #[] #[.pointer (some ⟨w.heap.size + 1 + 1 + 1, 0, none⟩)], .int .i64 (x.1 : Int), .float .f64 x.2.1, undef, undef, undef, undef, undef, undef, undef, undef, undef, undef, undef, undef, undef, undef, undef, undef, undef, undef, undef, undef], defers := [] }) ?assign ?body ?done ?stop
  case assign =>
    intro l x W K hK
    gi_wp2
    exact hK
  case body =>
    rintro l pre x W ⟨v, bs, cc, r, hZ, hlen, hst⟩ hlt
    have HZW : Hid (Zw w W v bs cc r) := hZ
    have HST : Hid (bs.length ≤ pre.length ∧ pre.length < n ∧ (pre = upf (fun j => (n - 1 - j, zs (n - 1 - j))) pre.length → ZS top ((vals (ds ++ [c])).sum) ds pre.length bs cc ∧ P pre.length bs cc)) := ⟨hlen, hlt, hst⟩
    have k4 := hZ.b4.cell
    have LN : Hid (n ≤ 1000) := ln
    clear hZ hlen hst hlt z0 b6 HZ0 hW0 hs0 ln
    gi_wp2_with (first
      | (refine ⟨trivial, ?_⟩; gi_at_call 9; refine (CallsIn.inRound l (callsIn_wide.2 (sum_pair cc x.2.1 _ HZW.out.wc x.2.2))).mono ?_; rintro e W1 ⟨⟨s, r', rfl, hp⟩, hb1⟩; have HP : Hid (Pair (TameW cc x.2.1) (fval cc + fval x.2.1) s r') := hp; have HB1 : Hid (Below W.heap.size W W1) := hb1; have HZ1 : Hid (Zw w W1 v bs cc r) := HZW.out.later hb1; have m4 := HZ1.out.b4.cell; have m5 := HZ1.out.b5.cell; have m3 := HZ1.out.b3.cell; have t4 := HZ1.out.b4.frozen; have t5 := HZ1.out.b5.frozen; have HZ3 : Hid (Zw w ((W1.setCell ⟨w.heap.size + 1, 0, none⟩ (.float .f64 s)).setCell ⟨w.heap.size + 1 + 1, 0, none⟩ (.float .f64 r')) v bs s r') := (HZ1.out.set4 hp.2.2.1).set5 hp.2.2.2.1; have hq0 := eql_zero2 r'; clear hp hb1)
      | (gi_at_builtin; refine wpListIn_append_own _ rfl _ _ 39 rfl (w.heap.size + 4) 22 i0 (.float .f64 0) 1 8 undF hi0 hz0 hz1 hz2 rfl (by decide) v bs.length (f64s bs) rfl (HZ3.out.row.own.alloc _) ⟨W1.heap.size, 0, none⟩ 1 1 [.float .f64 s] rfl rfl (fun j u hj => by have := cell_one_new ((W1.setCell ⟨w.heap.size + 1, 0, none⟩ (.float .f64 s)).setCell ⟨w.heap.size + 1 + 1, 0, none⟩ (.float .f64 r')) (.float .f64 s) 22 j u hj; simpa using this) (by simp [Value.oneCell']) (by unfold maxLen; have := HST.out; have := LN.out; omega) (by have := HST.out; have := LN.out; omega) (by have := HZ1.out.siz; simp; omega) ?_; intro v' W4 hown hgrow _; obtain ⟨g', cap', rfl⟩ := ownsRow_succ hown; obtain ⟨y3, y4, y5, hz5, hk5⟩ := HZ3.out.grew HZ3.out.wc hown hgrow; have n3 := y3.cell; have n4 := y4.cell; have n5 := y5.cell; have u3 := y3.frozen; have u4 := y4.frozen; have HZ5 : Hid (Zw w (W4.setCell ⟨w.heap.size, 0, none⟩ (.slice (some ⟨g', 0, none⟩) (bs.length + 1) cap')) (.slice (some ⟨g', 0, none⟩) (bs.length + 1) cap') (bs ++ [s]) s r' ∧ K4 w ((W1.setCell ⟨w.heap.size + 1, 0, none⟩ (.float .f64 s)).setCell ⟨w.heap.size + 1 + 1, 0, none⟩ (.float .f64 r')) W4) := ⟨hz5, hk5⟩; clear y3 y4 y5 hz5 hk5 hown hgrow))
    · have hne := rest_ne (by assumption : (FloatKind.f64.format.order r' 0 != some .eq) = true)
      have hk : K4 w W ((W4.setCell ⟨w.heap.size, 0, none⟩ (.slice (some ⟨g', 0, none⟩) (bs.length + 1) cap')).setCell ⟨w.heap.size + 1, 0, none⟩ (.float .f64 r')) := ((((K4.below HB1.out HZW.out.siz).trans (K4.set (a := ⟨w.heap.size + 1, 0, none⟩) (by show w.heap.size ≤ w.heap.size + 1; omega) (by show w.heap.size + 1 ≠ _; omega) _)).trans (K4.set (a := ⟨w.heap.size + 1 + 1, 0, none⟩) (by show w.heap.size ≤ w.heap.size + 1 + 1; omega) (by show w.heap.size + 1 + 1 ≠ _; omega) _)).trans HZ5.out.2).trans ((K4.set (a := ⟨w.heap.size, 0, none⟩) (Nat.le_refl _) (by show w.heap.size ≠ _; omega) _).trans (K4.set (a := ⟨w.heap.size + 1, 0, none⟩) (by show w.heap.size ≤ w.heap.size + 1; omega) (by show w.heap.size + 1 ≠ _; omega) _))
      exact ⟨hk.oth.from _, ⟨hk.bel, hk.box⟩, _, bs ++ [s], r', r', HZ5.out.1.set4 HZ3.out.wr, by have := HST.out.1; simp; omega, fun he => (ziP_step P ds HPP.out.1 HU.out.1 HU.out.2.1 HU.out.2.2 HZ.out HST.out.2.1 rfl HST.out.2.2 HP.out he).2 hne⟩
    · have hze := rest_eq (by assumption : (FloatKind.f64.format.order r' 0 != some .eq) = false)
      have hk : K4 w W ((W1.setCell ⟨w.heap.size + 1, 0, none⟩ (.float .f64 s)).setCell ⟨w.heap.size + 1 + 1, 0, none⟩ (.float .f64 r')) := ((K4.below HB1.out HZW.out.siz).trans (K4.set (a := ⟨w.heap.size + 1, 0, none⟩) (by show w.heap.size ≤ w.heap.size + 1; omega) (by show w.heap.size + 1 ≠ _; omega) _)).trans (K4.set (a := ⟨w.heap.size + 1 + 1, 0, none⟩) (by show w.heap.size ≤ w.heap.size + 1 + 1; omega) (by show w.heap.size + 1 + 1 ≠ _; omega) _)
      exact ⟨hk.oth.from _, ⟨hk.bel, hk.box⟩, v, bs, s, r', HZ3.out, by have := HST.out.1; simp; omega, fun he => (ziP_step P ds HPP.out.1 HU.out.1 HU.out.2.1 HU.out.2.2 HZ.out HST.out.2.1 rfl HST.out.2.2 HP.out he).1 hze⟩
  case done =>
    rintro D ys W hD hys ⟨v, bs, cc, r, hZ, hlen, hst⟩ hK
    have hyl : ys.length = n := by rw [hys]; exact upf_length _ _
    rw [hyl] at hlen hst
    have HZW : Hid (Zw w W v bs cc r) := hZ
    have HST : Hid (bs.length ≤ n ∧ ZS top ((vals (ds ++ [c])).sum) ds n bs cc ∧ P n bs cc) := ⟨hlen, hst hys⟩
    have HK : Hid (W.heap[D]? = some (.deferred (some []))) := hK
    have HD : Hid (w.heap.size + 4 ≤ D) := by show _ ≤ _; omega
    have m3 := hZ.b3.cell
    have m4 := hZ.b4.cell
    have LN : Hid (n ≤ 1000) := ln
    clear hZ hlen hst hK hD hys hyl z0 b6 HZ0 hW0 hs0 ln
    gi_wp2_with (first
      | (gi_at_builtin; refine wpListIn_append_own _ rfl _ _ 39 rfl (w.heap.size + 4) 22 i0 (.float .f64 0) 1 8 undF hi0 hz0 hz1 hz2 rfl (by decide) v bs.length (f64s bs) rfl (HZW.out.row.own.alloc _) ⟨W.heap.size, 0, none⟩ 1 1 [.float .f64 cc] rfl rfl (cell_one_new _ _ _) (by simp [Value.oneCell']) (by unfold maxLen; have := HST.out; have := LN.out; omega) (by have := HST.out; have := LN.out; omega) (by have := HZW.out.siz; simp; omega) ?_; intro v' W4 hown hgrow _; obtain ⟨g', cap', rfl⟩ := ownsRow_succ hown; obtain ⟨y3, y4, y5, hz5, hk5⟩ := HZW.out.grew HZW.out.wc hown hgrow; have n3 := y3.cell; have u3 := y3.frozen; have HZ5 : Hid (Zw w (W4.setCell ⟨w.heap.size, 0, none⟩ (.slice (some ⟨g', 0, none⟩) (bs.length + 1) cap')) (.slice (some ⟨g', 0, none⟩) (bs.length + 1) cap') (bs ++ [cc]) cc r ∧ K4 w W W4) := ⟨hz5, hk5⟩; clear y3 y4 y5 hz5 hk5 hown hgrow)
      | (refine ⟨trivial, ?_⟩; gi_at_call 93; refine (callsIn_wide.2 (reverse_walk (w.heap.size + 4) g' cap' (bs.length + 1) (bs ++ [cc]) _ HZ5.out.1.row (by simp) (by have := HST.out; have := LN.out; omega))).mono ?_; rintro e W6 ⟨⟨v6, rfl⟩, hF6, hb6, hk6⟩; have p3 := (boxed_belowK HZ5.out.1.b3 hb6 (by omega)).cell; have H6 : Hid (Fr W6 (w.heap.size + 4) (.slice (some ⟨g', 0, none⟩) (bs.length + 1) cap') (bs ++ [cc]).reverse ∧ Below (w.heap.size + 4) (W4.setCell ⟨w.heap.size, 0, none⟩ (.slice (some ⟨g', 0, none⟩) (bs.length + 1) cap')) W6 ∧ KeepsOthers (W4.setCell ⟨w.heap.size, 0, none⟩ (.slice (some ⟨g', 0, none⟩) (bs.length + 1) cap')) W6) := ⟨hF6, hb6, hk6⟩; clear hF6 hb6 hk6))
    have hK6 : W6.heap[D]? = some (.deferred (some [])) := H6.out.2.2.same D _ ((KeepsOthers.setCell _ _ _).same D _ (HZ5.out.2.oth.same D _ HK.out rfl) rfl) rfl
    refine ⟨by simp, .inl ⟨_, _, rfl, run_takeDeferred hK6, ?_⟩⟩
    have hb6 : Below w.heap.size w W6 := HZ5.out.1.bel.trans (H6.out.2.1.mono (by omega))
    exact ⟨_, results_tmp rfl _ _ _, ⟨_, (bs ++ [cc]).reverse, rfl, Fr.mono (B := w.heap.size + 4) ⟨ownsRow_putObj H6.out.1.own _ hK6 rfl, H6.out.1.word⟩ (by omega), HST.out.2.1.done HU.out.2.2.symm, bs, cc, HST.out.2.2, rfl⟩, hb6.trans (belowK_b (w := w) (Nat.le_refl _) W6 D _ _ (by have := HD.out; omega) hK6 rfl rfl)⟩
  case stop =>
    rintro D c pre W _ _ h _
    exact h.elim

end Go.Proofs.Ytglcngjllfgdpaa

/- A copy of a list: append to a list of none. -/
namespace Go.Proofs.Ytglcngjllfgdpaa
open Go.RowKit Go.Shelf

/-- `append([]float64{}, e...)`, whatever e is. -/
theorem wpList_copy (w : World) {ops : Array Oper} {rest : List Oper} {o : Oper} {a : Act} {Q : Exit → Act → World → Prop} (hg : o.guard = none) (s x : Operand)
    (hop : o.op = Op.call { callee := Callee.builtin Builtin.append, args := #[s, x], argTypes := #[39, 39] })
    (B g : Nat) (hs : a.eval s = .slice (some ⟨g, 0, none⟩) 0 0) (hown : w.ownsRow B 22 1 (.slice (some ⟨g, 0, none⟩) 0 0) 0 []) (v : Value) (bs : List Nat) (hx : a.eval x = v) (hf : Fs w v bs) (hnil : ∀ n c, v = .slice none n c → n = 0 ∧ c = 0) (hl : bs.length ≤ 1000) (hB : B ≤ w.heap.size)
    (hK : ∀ v' w', Fr w' B v' bs → Below B w w' → wpList Try.prog ops Q rest (a.put o.dst v') w') : wpList Try.prog ops Q (o :: rest) a w := by
  obtain ⟨i0, hi0, hz0, hz1, hz2⟩ := info_parts infoF
  obtain ⟨⟨ao, c, rfl, hc, hm, hf'⟩, hw⟩ := hf
  have hBg : B ≤ g := (hown.lt g rfl).1
  have h1c : ∀ u ∈ f64s bs, u.oneCell' = true := fun u hu => by obtain ⟨b, _, rfl⟩ := List.mem_map.1 hu; rfl
  by_cases h0 : bs = []
  · subst h0
    refine wpList_append_fits_any w hg s x 39 hop B 22 i0 1 undF hi0 hz1 g 0 0 [] hs hown ao 0 c [] hx rfl (fun e => by subst e; exact hnil _ _ rfl) (fun ad _ j u hj => by simp at hj) (by simp) (by omega) ?_
    intro w' h1 h2
    exact hK _ _ ⟨by simpa [f64s] using h1, by simp⟩ ((Below.refl _ w).grown h2 hB (fun k hk => by cases hk; exact hBg))
  · rcases hf' with hf' | ⟨g', off, rfl, hf'⟩
    · exact absurd hf' h0
    · refine wpList_append_own w hg s x 39 hop B 22 i0 (.float .f64 0) 1 8 undF hi0 hz0 hz1 hz2 rfl (by omega) _ 0 [] hs hown ⟨g', off, none⟩ bs.length c (f64s bs) hx (by simp [f64s]) (fun j u hj => ?_) h1c (by unfold maxLen; omega) (by omega) hB ?_
      · have hj' : j < bs.length := by
          have := (List.getElem?_eq_some_iff.1 hj).1
          simpa [f64s] using this
        have e : u = .float .f64 (bs.getD j 0) := by
          simp [f64s, hj'] at hj
          rw [← hj]
          simp [List.getD, hj']
        rw [e, Addr.add_lit]
        exact hf' j hj'
      · intro v' w' h1 h2 _
        exact hK v' w' ⟨by simpa [f64s] using h1, hw⟩ ((Below.refl _ w).grown h2 hB (fun k hk => (hown.lt k hk).1))

end Go.Proofs.Ytglcngjllfgdpaa

/- ExpandAdds: the law's walk. -/
namespace Go.Proofs.Ytglcngjllfgdpaa
open Go.RowKit Go.Shelf
attribute [local go_sem ↓] Go.wp_at_zero Go.wp_at_succ
attribute [local go_sem] run_store_float

/-- What a round has at hand: the two copies. -/
structure TwoP (w W : World) (vp vq : Value) (es fs : List Nat) : Prop where
  p : Fr W w.heap.size vp es
  q : Fr W w.heap.size vq fs
  bel : Below w.heap.size w W
theorem TwoP.later {w W W' : World} {vp vq : Value} {es fs : List Nat} (h : TwoP w W vp vq es fs) (hb : Below W.heap.size W W') : TwoP w W' vp vq es fs := ⟨h.p.later hb, h.q.later hb, below_step h.bel hb⟩
/-- An answer that is written over. -/
structure Over (W0 W : World) (B g c n : Nat) (ds : List Nat) : Prop where
  row : Fr W B (.slice (some ⟨g, 0, none⟩) n c) ds
  len : ds.length = n
  bel : Below W0.heap.size W0 W
  base : W0.heap.size ≤ B
theorem Over.set {W0 W : World} {B g c n k : Nat} {ds : List Nat} (h : Over W0 W B g c n ds) : Over W0 (W.setCell ⟨g, k, none⟩ (.float .f64 4619567317775286272)) B g c n (ds.set k 4619567317775286272) := by
  have h1 := h.row
  rw [← h.len] at h1
  have h2 := h1.set (k := k) (d := 4619567317775286272) (by omega)
  rw [List.length_set, h.len] at h2
  exact ⟨h2, by rw [List.length_set]; exact h.len, h.bel.setCell (by have := h1.base; have := h.base; show W0.heap.size ≤ g; omega) _, h.base⟩

theorem sum3_any (ap aq : Option Addr) (cp cq : Nat) (es fs : List Nat) (W : World) (hp : Fs W (.slice ap es.length cp) es) (hq : Fs W (.slice aq fs.length cq) fs) :
    Calls Try.prog 25 #[.slice (some ⟨W.heap.size, 0, none⟩) 3 3] (W.alloc (.cells #[.slice ap es.length cp, .slice aq fs.length cq, .slice ap es.length cp] 39)) fun e w' => (∃ v bs t, e = .returned (.tuple #[v, .bool t]) ∧ Fr w' (W.heap.size + 1) v bs ∧ (t = true ↔ MayA es ∧ MayA fs) ∧ (t = true → SumS ((vals es).sum + (vals fs).sum + (vals es).sum) bs) ∧ (t = false → bs = [])) ∧ Below W.heap.size W w' := by
  have hb : Below W.heap.size W (W.alloc (.cells #[.slice ap es.length cp, .slice aq fs.length cq, .slice ap es.length cp] 39)) := (Below.refl _ W).alloc (Nat.le_refl _) _
  refine (sumE_any 3 W.heap.size 0 3 (fun i => if i = 1 then .slice aq fs.length cq else .slice ap es.length cp) (fun i => if i = 1 then fs else es) _ (by omega) (fun i hi => ?_) (fun i hi => ?_)).mono ?_
  · have : i = 0 ∨ i = 1 ∨ i = 2 := by omega
    rcases this with rfl | rfl | rfl <;> go_simp
  · have : i = 0 ∨ i = 1 ∨ i = 2 := by omega
    rcases this with rfl | rfl | rfl
    · exact hp.later hb
    · exact hq.later hb
    · exact hp.later hb
  · rintro e w' ⟨⟨v, bs, t, rfl, hF, h1, h2, h3⟩, hb'⟩
    refine ⟨⟨v, bs, t, rfl, by simpa using hF, ?_, ?_, h3⟩, hb.trans (hb'.mono (by simp))⟩
    · rw [h1]
      exact ⟨fun h => ⟨h 0 (by omega), h 1 (by omega)⟩, fun h j hj => by
        have : j = 0 ∨ j = 1 ∨ j = 2 := by omega
        rcases this with rfl | rfl | rfl
        · exact h.1
        · exact h.2
        · exact h.1⟩
    · intro ht
      have := h2 ht
      rwa [show sumL (fun i => if i = 1 then fs else es) 3 = (vals es).sum + (vals fs).sum + (vals es).sum by show 0 + (vals es).sum + (vals fs).sum + (vals es).sum = _; grind] at this
theorem fr_addr {W : World} {B n c : Nat} {a : Option Addr} {ds : List Nat} (h : Fr W B (.slice a n c) ds) (hn : 0 < n) : ∃ g, a = some ⟨g, 0, none⟩ := by
  rcases h.own.2 with ⟨h1, _⟩ | ⟨g, cap, cur, h1, _⟩
  · cases h1; omega
  · cases h1; exact ⟨g, rfl⟩
theorem sums_fit {es fs : List Nat} (h1 : MayA es) (h2 : MayA fs) : Fit (vals es).sum ∧ Fit (vals fs).sum ∧ Fit ((vals es).sum + (vals fs).sum) := by
  have a := vals_bd h1.1 (add_up h1).fin
  have b := vals_bd h2.1 (add_up h2).fin
  exact ⟨a.mono (by omega) (by omega), b.mono (by omega) (by omega), (a.add b).mono (by omega) (by omega)⟩

end Go.Proofs.Ytglcngjllfgdpaa
