/- Own texts, put together: Xv Xw Xx Pj Pk Yb Lk Fd Wa. -/
import Derived.Test.YtmcllgoeldfgmaaDoorQ9
import Derived.Deep.RegionHeld3
import Derived.Test.YtmcllgoeldfgmaaDoorProg
import Derived.WalkKit
import Derived.WalkSpells
import Derived.WalkLawsBesides
/- Package expand: Sum, Add. -/
namespace Go.Proofs.YtmcllgoeldfgmaaDoor
open Go.RowKit Go.Shelf

set_option maxRecDepth 100000 in
theorem refusedE_any (s : Value) (es : List Nat) (w : World) (hs : Fs w s es) : Calls Tryd.prog 91 #[s] w fun e w' => (∃ t, e = .returned (.bool t) ∧ (t = false ↔ MayA es)) ∧ w' = w := by
  have H : Hid (Fs w s es) := hs
  clear hs
  go_enter Tryd.func91, Tryd.ntmps91
  go_wp2_with fail
  refine (addable_any s es _ H.out).mono ?_
  rintro e w1 ⟨⟨t, rfl, ht⟩, hw1⟩
  obtain rfl := hw1.symm
  have HT : Hid (t = true ↔ MayA es) := ht
  clear ht
  go_wp2
  go_ret
  exact ⟨⟨!t, rfl, by cases t <;> simpa using HT.out⟩, rfl⟩

set_option maxRecDepth 100000 in
set_option maxHeartbeats 2000000 in
theorem indexE_any (k g off cap : Nat) (sv : Nat → Value) (ef : Nat → List Nat) (w : World) (hk : k ≤ 64) (hc : ∀ i, i < k → w.cell? ⟨g, off + i, none⟩ = some (sv i)) (hf : ∀ i, i < k → Fs w (sv i) (ef i)) :
    Calls Tryd.prog 109 #[.slice (some ⟨g, off, none⟩) k cap, .func (Fn.func 91) #[] #[]] w fun e w' => (∃ i : Int, e = .returned (.int .i64 i) ∧ ((i = -1 ∧ ∀ j, j < k → MayA (ef j)) ∨ (0 ≤ i ∧ ¬ ∀ j, j < k → MayA (ef j)))) ∧ w' = w := by
  have HC : Hid (∀ i, i < k → w.cell? ⟨g, off + i, none⟩ = some (sv i)) := hc
  have HF : Hid (∀ i, i < k → Fs w (sv i) (ef i)) := hf
  have l1 : (k : Int) ≤ 64 := by omega
  clear hc hf hk
  go_enter Tryd.func109, Tryd.ntmps109
  go_wp2
  go_loop [8] (fun i => ∃ j : Nat, j ≤ k ∧ i = .int .i64 j ∧ Hid (∀ p, p < j → MayA (ef p))) (fun i => k - (intOf i).toNat)
  case atStart => exact ⟨0, Nat.zero_le _, rfl, fun p hp => by omega⟩
  case round =>
    obtain ⟨j, hj, rfl, hz⟩ := hrel
    by_cases hlt : j < k
    · have hl : (j : Int) < (k : Int) := by omega
      have hl0 : (0 : Int) ≤ (j : Int) := by omega
      have hcj := HC.out j hlt
      obtain ⟨⟨a1, c1, e1, _⟩, _⟩ := id (HF.out j hlt)
      have HFj : Hid (Fs w (.slice a1 (ef j).length c1) (ef j)) := by show Fs _ _ _; rw [← e1]; exact HF.out j hlt
      rw [e1] at hcj
      clear e1
      go_wp2_with fail
      refine (refusedE_any _ (ef j) _ HFj.out).mono ?_
      rintro e w1 ⟨⟨t, rfl, ht⟩, hw1⟩
      obtain rfl := hw1.symm
      have HT : Hid (t = false ↔ MayA (ef j)) := ht
      clear ht
      cases t
      · go_wp2
        go_round
        case rel => exact ⟨j + 1, by omega, by go_num, fun p hp => by
          by_cases q : p = j
          · rw [q]; exact HT.out.1 (by simp)
          · exact hz.out p (by omega)⟩
        case measure => simp [intOf]; omega
      · go_wp2
        go_ret
        exact ⟨⟨_, rfl, Or.inr ⟨by omega, fun h => absurd (HT.out.2 (h j hlt)) (by simp)⟩⟩, rfl⟩
    · obtain rfl : j = k := by omega
      have hltb : decide ((j : Int) < (j : Int)) = false := decide_eq_false (by omega)
      go_wp2
      go_ret
      exact ⟨⟨-1, rfl, Or.inl ⟨rfl, hz.out⟩⟩, rfl⟩

set_option maxRecDepth 100000 in
set_option maxHeartbeats 1000000 in
theorem containsE_any (k g off cap : Nat) (sv : Nat → Value) (ef : Nat → List Nat) (w : World) (hk : k ≤ 64) (hc : ∀ i, i < k → w.cell? ⟨g, off + i, none⟩ = some (sv i)) (hf : ∀ i, i < k → Fs w (sv i) (ef i)) :
    Calls Tryd.prog 93 #[.slice (some ⟨g, off, none⟩) k cap, .func (Fn.func 91) #[] #[]] w fun e w' => (∃ t, e = .returned (.bool t) ∧ (t = false ↔ ∀ j, j < k → MayA (ef j))) ∧ w' = w := by
  have HI : Hid (Calls Tryd.prog 109 #[.slice (some ⟨g, off, none⟩) k cap, .func (Fn.func 91) #[] #[]] w fun e w' => (∃ i : Int, e = .returned (.int .i64 i) ∧ ((i = -1 ∧ ∀ j, j < k → MayA (ef j)) ∨ (0 ≤ i ∧ ¬ ∀ j, j < k → MayA (ef j)))) ∧ w' = w) := indexE_any k g off cap sv ef w hk hc hf
  clear hc hf hk
  go_enter Tryd.func93, Tryd.ntmps93
  go_wp2_with fail
  refine HI.out.mono ?_
  rintro e w1 ⟨⟨i, rfl, hi⟩, hw1⟩
  obtain rfl := hw1.symm
  rcases hi with ⟨rfl, hi⟩ | ⟨h0, hi⟩
  · have HH : Hid (∀ j, j < k → MayA (ef j)) := hi
    clear hi
    go_wp2
    go_ret
    exact ⟨⟨false, rfl, fun _ => HH.out, fun _ => rfl⟩, rfl⟩
  · have HH : Hid (¬ ∀ j, j < k → MayA (ef j)) := hi
    clear hi
    go_wp2
    go_ret
    exact ⟨⟨true, by simp, fun h => Bool.noConfusion h, fun h => absurd h HH.out⟩, rfl⟩

/-- The sum of the first k. -/
def sumL (ef : Nat → List Nat) : Nat → Rat
  | 0 => 0
  | k + 1 => sumL ef k + (vals (ef k)).sum
theorem sumL_lim {ef : Nat → List Nat} {k : Nat} (h : ∀ j, j < k → MayA (ef j)) : ab (sumL ef k) ≤ (k : Rat) * U 1975 := by
  induction k with
  | zero => show ab 0 ≤ ((0 : Nat) : Rat) * U 1975; rw [show ((0 : Nat) : Rat) = 0 from rfl, show ab 0 = 0 by unfold ab; grind]; grind
  | succ k ih =>
    have h1 := ih (fun j hj => h j (by omega))
    have h2 := up_sum (add_up (h k (by omega)))
    have h3 := ab_add (sumL ef k) (vals (ef k)).sum
    rw [show ((k + 1 : Nat) : Rat) = (k : Rat) + 1 by rw [Rat.natCast_add]; rfl]
    show ab (sumL ef k + (vals (ef k)).sum) ≤ _
    grind
theorem sumL_lt {ef : Nat → List Nat} {k : Nat} (hk : k ≤ 64) (h : ∀ j, j < k → MayA (ef j)) : ab (sumL ef k) < U 1982 := by
  have h1 := sumL_lim h
  have h2 : (k : Rat) ≤ 64 := by
    have := Rat.natCast_le_natCast.2 hk
    rwa [show ((64 : Nat) : Rat) = 64 from rfl] at this
  have h3 := Rat.mul_le_mul_of_nonneg_right h2 (Rat.le_of_lt (U_pos 1975))
  have u1 := U_succ 1975
  have u2 := U_succ 1976
  have u3 := U_succ 1977
  have u4 := U_succ 1978
  have u5 := U_succ 1979
  have u6 := U_succ 1980
  have u7 := U_succ 1981
  have u0 := U_pos 1975
  grind

/-- What is so when j of them are added. -/
structure SumS (S : Rat) (bs : List Nat) : Prop where
  sum : (vals bs).sum = S
  up : Up 1984 bs
  cnt : bs.length ≤ 64
  may : MayC bs
  sq : ∃ top, Sq top S bs
theorem SumS.nil : SumS 0 [] := ⟨rfl, up_nil _, by simp, ⟨by simp, fun i hi => by simp at hi⟩, ⟨0, Sq.nil 0⟩⟩
theorem SumS.of {S : Rat} {bs : List Nat} {top : Nat} (h : Sq top S bs) (ht : top ≤ 2000) (hS : ab S < U 1983) : SumS S bs :=
  ⟨h.sum, h.up hS, by have := h.cnt; omega, h.may hS (by omega) (by omega), ⟨top, h⟩⟩

/-- How many floats there are in the first lists. -/
def lenL (ef : Nat → List Nat) : Nat → Nat
  | 0 => 0
  | k + 1 => lenL ef k + (ef k).length
set_option maxRecDepth 100000 in
set_option maxHeartbeats 2000000 in
theorem sumEL_any (k g off cap : Nat) (sv : Nat → Value) (ef : Nat → List Nat) (w : World) (hk : k ≤ 64) (hc : ∀ i, i < k → w.cell? ⟨g, off + i, none⟩ = some (sv i)) (hf : ∀ i, i < k → Fs w (sv i) (ef i)) :
    Calls Tryd.prog 68 #[.slice (some ⟨g, off, none⟩) k cap] w fun e w' => (∃ v bs t, e = .returned (.tuple #[v, .bool t]) ∧ Fr w' w.heap.size v bs ∧ (t = true ↔ ∀ j, j < k → MayA (ef j)) ∧ (t = true → SumS (sumL ef k) bs ∧ bs.length ≤ lenL ef k) ∧ (t = false → bs = [])) ∧ Below w.heap.size w w' := by
  have HC : Hid (∀ i, i < k → w.cell? ⟨g, off + i, none⟩ = some (sv i)) := hc
  have HF : Hid (∀ i, i < k → Fs w (sv i) (ef i)) := hf
  have HK : Hid (k ≤ 64) := hk
  have HI : Hid (Calls Tryd.prog 93 #[.slice (some ⟨g, off, none⟩) k cap, .func (Fn.func 91) #[] #[]] w fun e w' => (∃ t, e = .returned (.bool t) ∧ (t = false ↔ ∀ j, j < k → MayA (ef j))) ∧ w' = w) := containsE_any k g off cap sv ef w hk hc hf
  have l1 : (k : Int) ≤ 64 := by omega
  have l2 : decide (64 < (k : Int)) = false := decide_eq_false (by omega)
  clear hc hf hk
  go_enter Tryd.func68, Tryd.ntmps68
  go_wp2_with fail
  refine HI.out.mono ?_
  rintro e w1 ⟨⟨t, rfl, ht⟩, hw1⟩
  obtain rfl := hw1.symm
  have HT : Hid (t = false ↔ ∀ j, j < k → MayA (ef j)) := ht
  clear ht HI
  cases t
  · have HA : Hid (∀ j, j < k → MayA (ef j)) := HT.out.1 rfl
    clear HT
    go_wp2
    go_loopw [18, 5] (fun i s wr => ∃ (j : Nat) (bs : List Nat), j ≤ k ∧ i = .int .i64 j ∧ Hid (Fr wr w.heap.size s bs ∧ (SumS (sumL ef j) bs ∧ bs.length ≤ lenL ef j) ∧ Below w.heap.size w wr)) (fun i _ _ => k - (intOf i).toNat)
    case atStart => exact ⟨0, [], Nat.zero_le _, rfl, Fr.nil _ _, ⟨SumS.nil, by simp⟩, Below.refl _ _⟩
    case round =>
      obtain ⟨j, bs, hj, rfl, hz⟩ := hrel
      by_cases hlt : j < k
      · have hl : (j : Int) < (k : Int) := by omega
        have hl0 : (0 : Int) ≤ (j : Int) := by omega
        have hcj := box_cell hz.out.2.2 (HC.out j hlt)
        obtain ⟨⟨a1, c1, e1, _⟩, _⟩ := id (HF.out j hlt)
        have HFj : Hid (Fs w (.slice a1 (ef j).length c1) (ef j)) := by show Fs _ _ _; rw [← e1]; exact HF.out j hlt
        rw [e1] at hcj
        have HAj : Hid (MayA (ef j)) := HA.out j hlt
        have HS : Hid (ab (sumL ef (j + 1)) < U 1983) := by
          have h1 := sumL_lt (k := j + 1) (ef := ef) (by have := HK.out; omega) (fun p hp => HA.out p (by omega))
          have h2 := U_lt_iff.2 (show 1982 < 1983 by omega)
          show _ < _
          grind
        clear e1
        go_wp2_with fail
        refine (joinedE_any 1984 _ _ bs (ef j) _ (by omega) hz.out.1.fs (HFj.out.later hz.out.2.2) hz.out.2.1.1.up ((add_up HAj.out).mono (by omega)) (by have := hz.out.2.1.1.cnt; have := HAj.out.1; omega)).mono ?_
        rintro e w2 ⟨⟨v2, cs, rfl, hF2, hu2, hs2, hl2⟩, hb2⟩
        have H2 : Hid (Fr w2 wr.heap.size v2 cs ∧ Up 1987 cs ∧ (vals cs).sum = sumL ef (j + 1) ∧ (cs.length ≤ 1000 ∧ cs.length ≤ lenL ef (j + 1)) ∧ Below w.heap.size w w2) :=
          ⟨hF2, hu2, by rw [hs2, hz.out.2.1.1.sum]; rfl, ⟨by have := hz.out.2.1.1.cnt; have := HAj.out.1; omega, by have := hz.out.2.1.2; show _ ≤ lenL ef j + (ef j).length; omega⟩, hz.out.2.2.trans (hb2.mono hz.out.2.2.size)⟩
        clear hF2 hu2 hs2 hl2 hb2 hcj
        go_wp2_with fail
        refine (squeezedL_any 1987 v2 cs _ (by omega) H2.out.1.fs H2.out.2.1 H2.out.2.2.2.1.1).mono ?_
        rintro e w3 ⟨⟨v3, ds, rfl, hF3, hS3⟩, hb3⟩
        have H3 : Hid (Fr w3 w.heap.size v3 ds ∧ (SumS (sumL ef (j + 1)) ds ∧ ds.length ≤ lenL ef (j + 1)) ∧ Below w.heap.size w w3) := by
          rw [H2.out.2.2.1] at hS3
          exact ⟨hF3.mono H2.out.2.2.2.2.size, ⟨SumS.of hS3.1 (by omega) HS.out, Nat.le_trans hS3.2 H2.out.2.2.2.1.2⟩, H2.out.2.2.2.2.trans (hb3.mono H2.out.2.2.2.2.size)⟩
        clear hF3 hS3 hb3
        go_wp2
        exact ⟨⟨j + 1, ds, by omega, by go_num, H3⟩, by simp [intOf]; omega⟩
      · obtain rfl : j = k := by omega
        have hltb : decide ((j : Int) < (j : Int)) = false := decide_eq_false (by omega)
        go_wp2
        go_ret2
        exact ⟨⟨_, bs, true, rfl, hz.out.1, ⟨fun _ => HA.out, fun _ => rfl⟩, fun _ => hz.out.2.1, fun h => Bool.noConfusion h⟩, hz.out.2.2⟩
  · have HA : Hid (¬ ∀ j, j < k → MayA (ef j)) := fun h => Bool.noConfusion (HT.out.2 h)
    clear HT
    go_wp2
    go_ret2
    exact ⟨⟨_, [], false, rfl, Fr.nil _ _, ⟨fun h => Bool.noConfusion h, fun h => absurd h HA.out⟩, fun h => Bool.noConfusion h, fun _ => rfl⟩, Below.refl _ _⟩

set_option maxRecDepth 100000 in
set_option maxHeartbeats 2000000 in
theorem sumE_any (k g off cap : Nat) (sv : Nat → Value) (ef : Nat → List Nat) (w : World) (hk : k ≤ 64) (hc : ∀ i, i < k → w.cell? ⟨g, off + i, none⟩ = some (sv i)) (hf : ∀ i, i < k → Fs w (sv i) (ef i)) :
    Calls Tryd.prog 68 #[.slice (some ⟨g, off, none⟩) k cap] w fun e w' => (∃ v bs t, e = .returned (.tuple #[v, .bool t]) ∧ Fr w' w.heap.size v bs ∧ (t = true ↔ ∀ j, j < k → MayA (ef j)) ∧ (t = true → SumS (sumL ef k) bs) ∧ (t = false → bs = [])) ∧ Below w.heap.size w w' := by
  refine (sumEL_any k g off cap sv ef w hk hc hf).mono ?_
  rintro e w' ⟨⟨v, bs, t, h1, h2, h3, h4, h5⟩, h6⟩
  exact ⟨⟨v, bs, t, h1, h2, h3, fun h => (h4 h).1, h5⟩, h6⟩

end Go.Proofs.YtmcllgoeldfgmaaDoor

/- Package expand: Add, Mul, Scale. -/
namespace Go.Proofs.YtmcllgoeldfgmaaDoor
open Go.RowKit Go.Shelf

/-- What an answer that is done, or not, says. -/
def Ans (w w' : World) (e : Ending) (ok : Prop) (S : Rat) : Prop := (∃ v bs t, e = .returned (.tuple #[v, .bool t]) ∧ Fr w' w.heap.size v bs ∧ (t = true ↔ ok) ∧ (t = true → SumS S bs) ∧ (t = false → bs = [])) ∧ Below w.heap.size w w'

set_option maxRecDepth 100000 in
set_option maxHeartbeats 1000000 in
theorem addEL_any (s s2 : Value) (es fs : List Nat) (w : World) (hs : Fs w s es) (hs2 : Fs w s2 fs) :
    Calls Tryd.prog 39 #[s, s2] w fun e w' => (∃ v bs t, e = .returned (.tuple #[v, .bool t]) ∧ Fr w' w.heap.size v bs ∧ (t = true ↔ MayA es ∧ MayA fs) ∧ (t = true → SumS ((vals es).sum + (vals fs).sum) bs ∧ bs.length ≤ es.length + fs.length) ∧ (t = false → bs = [])) ∧ Below w.heap.size w w' := by
  obtain ⟨⟨a1, c1, rfl, _⟩, _⟩ := id hs
  obtain ⟨⟨a2, c2, rfl, _⟩, _⟩ := id hs2
  have H : Hid (Fs w (.slice a1 es.length c1) es) := hs
  have H2 : Hid (Fs w (.slice a2 fs.length c2) fs) := hs2
  have hb : Below w.heap.size w (w.alloc (.cells #[.slice a1 es.length c1, .slice a2 fs.length c2] 63)) := (Below.refl _ w).alloc (Nat.le_refl _) _
  have HS : Hid (Calls Tryd.prog 68 #[.slice (some ⟨w.heap.size, 0, none⟩) 2 2] (w.alloc (.cells #[.slice a1 es.length c1, .slice a2 fs.length c2] 63)) fun e w' => (∃ v bs t, e = .returned (.tuple #[v, .bool t]) ∧ Fr w' w.heap.size v bs ∧ (t = true ↔ MayA es ∧ MayA fs) ∧ (t = true → SumS ((vals es).sum + (vals fs).sum) bs ∧ bs.length ≤ es.length + fs.length) ∧ (t = false → bs = [])) ∧ Below w.heap.size w w') := by
    refine (sumEL_any 2 w.heap.size 0 2 (fun i => if i = 0 then .slice a1 es.length c1 else .slice a2 fs.length c2) (fun i => if i = 0 then es else fs) _ (by omega) (fun i hi => ?_) (fun i hi => ?_)).mono ?_
    · have : i = 0 ∨ i = 1 := by omega
      rcases this with rfl | rfl <;> go_simp
    · have : i = 0 ∨ i = 1 := by omega
      rcases this with rfl | rfl
      · exact hs.later hb
      · exact hs2.later hb
    · rintro e w' ⟨⟨v, bs, t, rfl, hF, h1, h2, h3⟩, hb'⟩
      refine ⟨⟨v, bs, t, rfl, hF.mono (by simp), ?_, ?_, h3⟩, hb.trans (hb'.mono (by simp))⟩
      · rw [h1]
        exact ⟨fun h => ⟨h 0 (by omega), h 1 (by omega)⟩, fun h j hj => by
          have : j = 0 ∨ j = 1 := by omega
          rcases this with rfl | rfl
          · exact h.1
          · exact h.2⟩
      · intro ht
        have := h2 ht
        have hl : bs.length ≤ 0 + es.length + fs.length := this.2
        refine ⟨?_, by omega⟩
        have this := this.1
        rwa [show sumL (fun i => if i = 0 then es else fs) 2 = (vals es).sum + (vals fs).sum by show 0 + (vals es).sum + (vals fs).sum = _; grind] at this
  clear hs hs2 hb
  go_enter Tryd.func39, Tryd.ntmps39
  go_wp2_with fail
  refine HS.out.mono ?_
  rintro e w' ⟨⟨v, bs, t, rfl, hF, h1, h2, h3⟩, hb'⟩
  have HR : Hid (Fr w' w.heap.size v bs ∧ (t = true ↔ MayA es ∧ MayA fs) ∧ (t = true → SumS ((vals es).sum + (vals fs).sum) bs ∧ bs.length ≤ es.length + fs.length) ∧ (t = false → bs = []) ∧ Below w.heap.size w w') := ⟨hF, h1, h2, h3, hb'⟩
  clear hF h1 h2 h3 hb' HS
  go_wp2
  go_ret2
  exact ⟨⟨v, bs, t, rfl, HR.out.1, HR.out.2.1, HR.out.2.2.1, HR.out.2.2.2.1⟩, HR.out.2.2.2.2⟩

set_option maxRecDepth 100000 in
set_option maxHeartbeats 1000000 in
theorem addE_any (s s2 : Value) (es fs : List Nat) (w : World) (hs : Fs w s es) (hs2 : Fs w s2 fs) :
    Calls Tryd.prog 39 #[s, s2] w fun e w' => Ans w w' e (MayA es ∧ MayA fs) ((vals es).sum + (vals fs).sum) := by
  refine (addEL_any s s2 es fs w hs hs2).mono ?_
  rintro e w' ⟨⟨v, bs, t, h1, h2, h3, h4, h5⟩, h6⟩
  exact ⟨⟨v, bs, t, h1, h2, h3, fun h => (h4 h).1, h5⟩, h6⟩

theorem scaled_any (s : Value) (es : List Nat) (b : Nat) (w : World) (hs : Fs w s es) (hm : MayS es) (hb : SafeB b) (hbw : b < 18446744073709551616) :
    Calls Tryd.prog 73 #[s, .float .f64 b] w fun e w' => (∃ v bs, e = .returned v ∧ Fr w' w.heap.size v bs ∧ Up 1977 bs ∧ (vals bs).sum = (vals es).sum * fval b ∧ bs.length ≤ 2 * es.length + 1) ∧ Below w.heap.size w w' := by
  obtain ⟨⟨a1, c1, rfl, _⟩, _⟩ := id hs
  exact scaled_walk es.length c1 b a1 es w hs (may_ex hm) (safe_safe hm) hb hbw rfl (by have := hm.1; omega)

theorem safe_up {bs : List Nat} (h : MayS bs) : Up 1525 bs := may_up h (by omega) (by rw [safe_top, show p2 450 = U 1524 from rfl]; exact U_lt_iff.2 (by omega))
theorem take_up {N : Nat} {bs : List Nat} (h : Up N bs) (j : Nat) : Up N (bs.take j) := by
  have hv : vals (bs.take j) = (vals bs).take j := by simp [vals, List.map_take]
  refine ⟨?_, fun b hb => h.fin b (List.mem_of_mem_take hb), fun b hb => h.lim b (List.mem_of_mem_take hb)⟩
  rw [hv]
  exact ⟨h.ex.1.sublist (List.take_sublist _ _), fun x hx => h.ex.2 x (List.mem_of_mem_take hx)⟩
theorem mul_lim {es fs : List Nat} (h1 : MayS es) (h2 : MayS fs) (j : Nat) : ab ((vals es).sum * (vals (fs.take j)).sum) < U 1983 := by
  have a := up_sum (safe_up h1)
  have b := up_sum (take_up (safe_up h2) j)
  have p := U_mulX' (s := 1525) (t := 1525) (r := 1976) (by omega)
  have q := U_lt_iff.2 (show 1976 < 1983 by omega)
  rw [ab_mul]
  have c1 := Rat.mul_le_mul_of_nonneg_right (Rat.le_of_lt a) (ab_nonneg (vals (fs.take j)).sum)
  have c2 := Rat.mul_le_mul_of_nonneg_left (Rat.le_of_lt b) (Rat.le_of_lt (U_pos 1525))
  grind
theorem take_step {fs : List Nat} {j : Nat} (h : j < fs.length) (E : Rat) : E * (vals (fs.take (j + 1))).sum = E * (vals (fs.take j)).sum + E * fval (fs.getD j 0) := by
  have e : fs.take (j + 1) = fs.take j ++ [fs.getD j 0] := by rw [List.take_add_one]; simp [List.getD, h]
  rw [e]
  simp only [vals, List.map_append, List.map_cons, List.map_nil, List.sum_append, List.sum_cons, List.sum_nil]
  grind

set_option maxRecDepth 100000 in
set_option maxHeartbeats 4000000 in
theorem mulE_walk (n m c1 c2 : Nat) (a1 a2 : Option Addr) (es fs : List Nat) (w : World) (hs : Fs w (.slice a1 n c1) es) (hs2 : Fs w (.slice a2 m c2) fs) (hn : es.length = n) (hm : fs.length = m) :
    Calls Tryd.prog 41 #[.slice a1 n c1, .slice a2 m c2] w fun e w' => Ans w w' e (MayS es ∧ MayS fs) ((vals es).sum * (vals fs).sum) := by
  have H : Hid (Fs w (.slice a1 n c1) es ∧ es.length = n) := ⟨hs, hn⟩
  have H2 : Hid (Fs w (.slice a2 m c2) fs ∧ fs.length = m) := ⟨hs2, hm⟩
  clear hs hs2 hn hm
  go_enter Tryd.func41, Tryd.ntmps41
  go_wp2_with fail
  refine (safeE_any _ es _ H.out.1).mono ?_
  rintro e w1 ⟨⟨t, rfl, ht⟩, hw1⟩
  obtain rfl := hw1.symm
  have HT : Hid (t = true ↔ MayS es) := ht
  clear ht
  cases t
  · have HN : Hid (¬ MayS es) := fun h => Bool.noConfusion (HT.out.2 h)
    clear HT
    go_wp2
    go_ret2
    exact ⟨⟨_, [], false, rfl, Fr.nil _ _, ⟨fun h => Bool.noConfusion h, fun h => absurd h.1 HN.out⟩, fun h => Bool.noConfusion h, fun _ => rfl⟩, Below.refl _ _⟩
  · have HM : Hid (MayS es) := HT.out.1 rfl
    clear HT
    go_wp2_with fail
    refine (safeE_any _ fs _ H2.out.1).mono ?_
    rintro e w1 ⟨⟨t, rfl, ht⟩, hw1⟩
    obtain rfl := hw1.symm
    have HT : Hid (t = true ↔ MayS fs) := ht
    clear ht
    cases t
    · have HN : Hid (¬ MayS fs) := fun h => Bool.noConfusion (HT.out.2 h)
      clear HT
      go_wp2
      go_ret2
      exact ⟨⟨_, [], false, rfl, Fr.nil _ _, ⟨fun h => Bool.noConfusion h, fun h => absurd h.2 HN.out⟩, fun h => Bool.noConfusion h, fun _ => rfl⟩, Below.refl _ _⟩
    · have HM2 : Hid (MayS fs) := HT.out.1 rfl
      clear HT
      have ln : (n : Int) ≤ 64 := by have := HM.out.1; have := H.out.2; omega
      have lm : (m : Int) ≤ 64 := by have := HM2.out.1; have := H2.out.2; omega
      by_cases hdec : n < m
      · go_wp2
        clear hdec
        go_loopw [26, 6] (fun i s wr => ∃ (j : Nat) (bs : List Nat), j ≤ n ∧ i = .int .i64 j ∧ Hid (Fr wr w.heap.size s bs ∧ SumS ((vals fs).sum * (vals (es.take j)).sum) bs ∧ Below w.heap.size w wr)) (fun i _ _ => n - (intOf i).toNat)
        case atStart => exact ⟨0, [], Nat.zero_le _, rfl, Fr.nil _ _, by rw [show (vals fs).sum * (vals (es.take 0)).sum = 0 by simp [vals]]; exact SumS.nil, Below.refl _ _⟩
        case round =>
          obtain ⟨j, bs, hj, rfl, hz⟩ := hrel
          by_cases hlt : j < n
          · have hl : (j : Int) < (n : Int) := by omega
            have hl0 : (0 : Int) ≤ (j : Int) := by omega
            obtain ⟨b, hbv⟩ : ∃ b : Nat, Hid (es.getD j 0 = b) := ⟨_, rfl⟩
            have hjf : j < es.length := by rw [H.out.2]; exact hlt
            obtain ⟨gg, off, ea, hcell⟩ : ∃ gg off, a1 = some ⟨gg, off, none⟩ ∧ wr.cell? ⟨gg, off + j, none⟩ = some (.float .f64 b) := by
              obtain ⟨⟨a', c', e', _, _, hf⟩, hw⟩ := id H.out.1
              rcases hf with hf | ⟨gg, off, ea, hf⟩
              · rw [hf] at hjf; simp at hjf
              · refine ⟨gg, off, ?_, by rw [← hbv.out]; exact box_cell hz.out.2.2 (hf j hjf)⟩
                rw [← ea]
                simpa using (Value.slice.inj e').1
            have HBS : Hid (SafeB b ∧ b < 18446744073709551616) := by
              have hmem : b ∈ es := by rw [← hbv.out, show es.getD j 0 = es[j] by simp [List.getD, hjf]]; exact List.getElem_mem hjf
              exact ⟨safe_safe HM.out b hmem, H.out.1.word b hmem⟩
            have HS : Hid (ab ((vals fs).sum * (vals (es.take (j + 1))).sum) < U 1983) := mul_lim HM2.out HM.out (j + 1)
            have HST : Hid ((vals fs).sum * (vals (es.take (j + 1))).sum = (vals fs).sum * (vals (es.take j)).sum + (vals fs).sum * fval b) := by rw [← hbv.out]; exact take_step hjf _
            subst ea
            clear hjf
            go_wp2_with fail
            refine (scaled_any _ fs b _ (H2.out.1.later hz.out.2.2) HM2.out HBS.out.1 HBS.out.2).mono ?_
            rintro e w2 ⟨⟨v2, cs, rfl, hF2, hu2, hs2, hl2⟩, hb2⟩
            have G2 : Hid (Fr w2 wr.heap.size v2 cs ∧ Up 1984 cs ∧ (vals cs).sum = (vals fs).sum * fval b ∧ cs.length ≤ 500 ∧ Below wr.heap.size wr w2) :=
              ⟨hF2, hu2.mono (by omega), hs2, by have := HM2.out.1; omega, hb2⟩
            clear hF2 hu2 hs2 hl2 hb2 hcell
            go_wp2_with fail
            refine (joinedE_any 1984 _ v2 bs cs _ (by omega) (hz.out.1.fs.later G2.out.2.2.2.2) G2.out.1.fs hz.out.2.1.up G2.out.2.1 (by have := hz.out.2.1.cnt; have := G2.out.2.2.2.1; omega)).mono ?_
            rintro e w3 ⟨⟨v3, ds, rfl, hF3, hu3, hs3, hl3⟩, hb3⟩
            have hbl : Below w.heap.size w w2 := hz.out.2.2.trans (G2.out.2.2.2.2.mono hz.out.2.2.size)
            have G3 : Hid (Fr w3 w2.heap.size v3 ds ∧ Up 1987 ds ∧ (vals ds).sum = (vals fs).sum * (vals (es.take (j + 1))).sum ∧ ds.length ≤ 1000 ∧ Below w.heap.size w w3) :=
              ⟨hF3, hu3, by rw [hs3, hz.out.2.1.sum, G2.out.2.2.1, HST.out], by have := hz.out.2.1.cnt; have := G2.out.2.2.2.1; omega, hbl.trans (hb3.mono hbl.size)⟩
            clear hF3 hu3 hs3 hl3 hb3 hbl
            go_wp2_with fail
            refine (squeezed_any 1987 v3 ds _ (by omega) G3.out.1.fs G3.out.2.1 G3.out.2.2.2.1).mono ?_
            rintro e w4 ⟨⟨v4, gs, rfl, hF4, hS4⟩, hb4⟩
            have G4 : Hid (Fr w4 w.heap.size v4 gs ∧ SumS ((vals fs).sum * (vals (es.take (j + 1))).sum) gs ∧ Below w.heap.size w w4) := by
              rw [G3.out.2.2.1] at hS4
              exact ⟨hF4.mono G3.out.2.2.2.2.size, SumS.of hS4 (by omega) HS.out, G3.out.2.2.2.2.trans (hb4.mono G3.out.2.2.2.2.size)⟩
            clear hF4 hS4 hb4
            go_wp2
            exact ⟨⟨j + 1, gs, by omega, by go_num, G4⟩, by simp [intOf]; omega⟩
          · obtain rfl : j = n := by omega
            have hltb : decide ((j : Int) < (j : Int)) = false := decide_eq_false (by omega)
            go_wp2
            go_ret2
            have hS := hz.out.2.1
            rw [← H.out.2, List.take_length] at hS
            exact ⟨⟨_, bs, true, rfl, hz.out.1, ⟨fun _ => ⟨HM.out, HM2.out⟩, fun _ => rfl⟩, fun _ => by rw [Rat.mul_comm]; exact hS, fun h => Bool.noConfusion h⟩, hz.out.2.2⟩
      · go_wp2
        clear hdec
        go_loopw [26, 6] (fun i s wr => ∃ (j : Nat) (bs : List Nat), j ≤ m ∧ i = .int .i64 j ∧ Hid (Fr wr w.heap.size s bs ∧ SumS ((vals es).sum * (vals (fs.take j)).sum) bs ∧ Below w.heap.size w wr)) (fun i _ _ => m - (intOf i).toNat)
        case atStart => exact ⟨0, [], Nat.zero_le _, rfl, Fr.nil _ _, by rw [show (vals es).sum * (vals (fs.take 0)).sum = 0 by simp [vals]]; exact SumS.nil, Below.refl _ _⟩
        case round =>
          obtain ⟨j, bs, hj, rfl, hz⟩ := hrel
          by_cases hlt : j < m
          · have hl : (j : Int) < (m : Int) := by omega
            have hl0 : (0 : Int) ≤ (j : Int) := by omega
            obtain ⟨b, hbv⟩ : ∃ b : Nat, Hid (fs.getD j 0 = b) := ⟨_, rfl⟩
            have hjf : j < fs.length := by rw [H2.out.2]; exact hlt
            obtain ⟨gg, off, ea, hcell⟩ : ∃ gg off, a2 = some ⟨gg, off, none⟩ ∧ wr.cell? ⟨gg, off + j, none⟩ = some (.float .f64 b) := by
              obtain ⟨⟨a', c', e', _, _, hf⟩, hw⟩ := id H2.out.1
              rcases hf with hf | ⟨gg, off, ea, hf⟩
              · rw [hf] at hjf; simp at hjf
              · refine ⟨gg, off, ?_, by rw [← hbv.out]; exact box_cell hz.out.2.2 (hf j hjf)⟩
                rw [← ea]
                simpa using (Value.slice.inj e').1
            have HBS : Hid (SafeB b ∧ b < 18446744073709551616) := by
              have hmem : b ∈ fs := by rw [← hbv.out, show fs.getD j 0 = fs[j] by simp [List.getD, hjf]]; exact List.getElem_mem hjf
              exact ⟨safe_safe HM2.out b hmem, H2.out.1.word b hmem⟩
            have HS : Hid (ab ((vals es).sum * (vals (fs.take (j + 1))).sum) < U 1983) := mul_lim HM.out HM2.out (j + 1)
            have HST : Hid ((vals es).sum * (vals (fs.take (j + 1))).sum = (vals es).sum * (vals (fs.take j)).sum + (vals es).sum * fval b) := by rw [← hbv.out]; exact take_step hjf _
            subst ea
            clear hjf
            go_wp2_with fail
            refine (scaled_any _ es b _ (H.out.1.later hz.out.2.2) HM.out HBS.out.1 HBS.out.2).mono ?_
            rintro e w2 ⟨⟨v2, cs, rfl, hF2, hu2, hs2, hl2⟩, hb2⟩
            have G2 : Hid (Fr w2 wr.heap.size v2 cs ∧ Up 1984 cs ∧ (vals cs).sum = (vals es).sum * fval b ∧ cs.length ≤ 500 ∧ Below wr.heap.size wr w2) :=
              ⟨hF2, hu2.mono (by omega), hs2, by have := HM.out.1; omega, hb2⟩
            clear hF2 hu2 hs2 hl2 hb2 hcell
            go_wp2_with fail
            refine (joinedE_any 1984 _ v2 bs cs _ (by omega) (hz.out.1.fs.later G2.out.2.2.2.2) G2.out.1.fs hz.out.2.1.up G2.out.2.1 (by have := hz.out.2.1.cnt; have := G2.out.2.2.2.1; omega)).mono ?_
            rintro e w3 ⟨⟨v3, ds, rfl, hF3, hu3, hs3, hl3⟩, hb3⟩
            have hbl : Below w.heap.size w w2 := hz.out.2.2.trans (G2.out.2.2.2.2.mono hz.out.2.2.size)
            have G3 : Hid (Fr w3 w2.heap.size v3 ds ∧ Up 1987 ds ∧ (vals ds).sum = (vals es).sum * (vals (fs.take (j + 1))).sum ∧ ds.length ≤ 1000 ∧ Below w.heap.size w w3) :=
              ⟨hF3, hu3, by rw [hs3, hz.out.2.1.sum, G2.out.2.2.1, HST.out], by have := hz.out.2.1.cnt; have := G2.out.2.2.2.1; omega, hbl.trans (hb3.mono hbl.size)⟩
            clear hF3 hu3 hs3 hl3 hb3 hbl
            go_wp2_with fail
            refine (squeezed_any 1987 v3 ds _ (by omega) G3.out.1.fs G3.out.2.1 G3.out.2.2.2.1).mono ?_
            rintro e w4 ⟨⟨v4, gs, rfl, hF4, hS4⟩, hb4⟩
            have G4 : Hid (Fr w4 w.heap.size v4 gs ∧ SumS ((vals es).sum * (vals (fs.take (j + 1))).sum) gs ∧ Below w.heap.size w w4) := by
              rw [G3.out.2.2.1] at hS4
              exact ⟨hF4.mono G3.out.2.2.2.2.size, SumS.of hS4 (by omega) HS.out, G3.out.2.2.2.2.trans (hb4.mono G3.out.2.2.2.2.size)⟩
            clear hF4 hS4 hb4
            go_wp2
            exact ⟨⟨j + 1, gs, by omega, by go_num, G4⟩, by simp [intOf]; omega⟩
          · obtain rfl : j = m := by omega
            have hltb : decide ((j : Int) < (j : Int)) = false := decide_eq_false (by omega)
            go_wp2
            go_ret2
            have hS := hz.out.2.1
            rw [← H2.out.2, List.take_length] at hS
            exact ⟨⟨_, bs, true, rfl, hz.out.1, ⟨fun _ => ⟨HM.out, HM2.out⟩, fun _ => rfl⟩, fun _ => by exact hS, fun h => Bool.noConfusion h⟩, hz.out.2.2⟩

theorem mulE_any (s s2 : Value) (es fs : List Nat) (w : World) (hs : Fs w s es) (hs2 : Fs w s2 fs) :
    Calls Tryd.prog 41 #[s, s2] w fun e w' => Ans w w' e (MayS es ∧ MayS fs) ((vals es).sum * (vals fs).sum) := by
  obtain ⟨⟨a1, c1, rfl, _⟩, _⟩ := id hs
  obtain ⟨⟨a2, c2, rfl, _⟩, _⟩ := id hs2
  exact mulE_walk es.length fs.length c1 c2 a1 a2 es fs w hs hs2 rfl rfl

end Go.Proofs.YtmcllgoeldfgmaaDoor

/- The document's side of package expand: magnitude, Number; Scale. -/
namespace Go.Proofs.YtmcllgoeldfgmaaDoor
open Go.RowKit Go.Shelf
attribute [local go_sem ↓] Go.wp_at_zero Go.wp_at_succ
attribute [local go_sem] run_store_float

end Go.Proofs.YtmcllgoeldfgmaaDoor

/- works: what each statement of package expand asks first. -/
namespace Go.Proofs.YtmcllgoeldfgmaaDoor
open Go.RowKit Go.Shelf

theorem v_tiny : fval 3706462493325918208 = U 874 := by
  have := fval_rung 822 4503599627370496 (by omega) (Or.inr (by omega)) (by omega)
  have h := U_52 822
  rw [show (3706462493325918208 : Nat) = 822 * 4503599627370496 + 4503599627370496 from rfl, this]
  exact h.symm
theorem v_one : fval 4607182418800017408 = U 1074 := by
  have := fval_rung 1022 4503599627370496 (by omega) (Or.inr (by omega)) (by omega)
  have h := U_52 1022
  rw [show (4607182418800017408 : Nat) = 1022 * 4503599627370496 + 4503599627370496 from rfl, this]
  exact h.symm
theorem v_less : fval 13830554455654793216 = -U 1074 := by
  rw [show (13830554455654793216 : Nat) = 9223372036854775808 + 4607182418800017408 from rfl, fval_word (by omega), v_one]
theorem v_mtiny : fval 12929834530180694016 = -U 874 := by
  rw [show (12929834530180694016 : Nat) = 9223372036854775808 + 3706462493325918208 from rfl, fval_word (by omega), v_tiny]
theorem U_one : U 1074 = 1 := by unfold U; exact p2_zero

/-- A float that is near to 1 is 1. -/
theorem near_one {y : Rat} (hf : F y) (h : ab (y - 1) < U 1021) : y = 1 := by
  obtain ⟨S, m, e, m1, m2⟩ := hf
  rcases Nat.lt_or_ge S 1021 with hS | hS
  · exfalso
    have h1 := F.abs e m1 m2
    have h2 : 9007199254740992 * U S = U (S + 53) := by rw [U_add]; rfl
    have h3 := U_mono (show S + 53 ≤ 1073 by omega)
    have h4 : U 1074 = 2 * U 1073 := U_succ 1073
    have h5 := U_mono (show 1021 ≤ 1072 by omega)
    have h6 : U 1073 = 2 * U 1072 := U_succ 1072
    rw [U_one] at h4
    have := (ab_lt.1 h)
    grind
  · have my : M (U 1021) y := M.down hS ⟨m, e⟩
    have m1' : M (U 1021) (1 : Rat) := by
      have : M (U 1074) (1 : Rat) := ⟨1, by rw [U_one, show ((1 : Int) : Rat) = 1 from rfl]; grind⟩
      exact this.down (by omega)
    have hd := my.sub m1'
    apply Classical.byContradiction
    intro hn
    have := hd.ge (U_pos _) (by grind)
    grind
theorem not_both {z : Rat} (hf : F z) (h : z = U 1074 + U 874) : False := by
  obtain ⟨S, m, e, m1, m2⟩ := hf
  rcases Nat.lt_or_ge S 875 with hS | hS
  · have h1 := F.abs e m1 m2
    have h2 : 9007199254740992 * U S = U (S + 53) := by rw [U_add]; rfl
    have h3 := U_mono (show S + 53 ≤ 1000 by omega)
    have h4 := U_lt_iff.2 (show 1000 < 1074 by omega)
    have h5 := U_pos 874
    grind
  · have mz : M (U 875) z := M.down hS ⟨m, e⟩
    have m1' : M (U 875) (U 1074) := by
      have : M (U 1074) (U 1074) := ⟨1, by rw [show ((1 : Int) : Rat) = 1 from rfl]; grind⟩
      exact this.down (by omega)
    have hd := mz.sub m1'
    rw [h, show U 1074 + U 874 - U 1074 = U 874 by grind] at hd
    have h1 := hd.ge (U_pos _) (by have := U_pos 874; grind)
    have h2 := U_succ 874
    have h3 := U_pos 874
    rw [ab, if_neg (by grind)] at h1
    grind

/-- The one list of at most two floats. -/
theorem two_floats {bs : List Nat} (h : SumS (U 1074 + U 874) bs) (hl : bs.length ≤ 2) : ∃ x y, bs = [x, y] ∧ fval x = U 874 ∧ fval y = 1 := by
  have hs := h.sum
  have hu := h.up
  have u8 := U_pos 874
  have u1 := U_pos 1074
  match bs, hl with
  | [], _ => simp [vals] at hs; grind
  | [b], _ =>
    have h0 : fval b + 0 = U 1074 + U 874 := by simpa [vals] using hs
    have : fval b = U 1074 + U 874 := by grind
    exact (not_both (F_fval (hu.fin b (by simp))) this).elim
  | [x, y], _ =>
    have h0 : fval x + (fval y + 0) = U 1074 + U 874 := by simpa [vals] using hs
    have he : fval x + fval y = U 1074 + U 874 := by grind
    have hx := F_fval (hu.fin x (by simp))
    have hy := F_fval (hu.fin y (by simp))
    have hlo : Lo (fval x) (fval y) := by have := hu.ex.1; simp [vals] at this; exact this
    obtain ⟨t, t1, t2⟩ := hlo
    have key : fval y = 1 := by
      rcases Nat.lt_or_ge t 875 with ht | ht
      · apply near_one hy
        have a := U_mono (show t ≤ 874 by omega)
        have b := U_succ 874
        have c := U_lt_iff.2 (show 875 < 1021 by omega)
        rw [U_one] at he
        rw [show fval y - 1 = U 874 - fval x by grind]
        have d := ab_lt.1 t1
        exact ab_lt.2 ⟨by grind, by grind⟩
      · have my : M (U 875) (fval y) := t2.down ht
        have m1' : M (U 875) (U 1074) := by
          have : M (U 1074) (U 1074) := ⟨1, by rw [show ((1 : Int) : Rat) = 1 from rfl]; grind⟩
          exact this.down (by omega)
        obtain ⟨S, m, e, m1, m2⟩ := hx
        rcases Nat.lt_or_ge S 875 with hS | hS
        · apply near_one hy
          have h1 := F.abs e m1 m2
          have h2 : 9007199254740992 * U S = U (S + 53) := by rw [U_add]; rfl
          have h3 := U_mono (show S + 53 ≤ 927 by omega)
          have h4 := U_mono (show 874 ≤ 927 by omega)
          have h5 : U 928 = 2 * U 927 := U_succ 927
          have h6 := U_lt_iff.2 (show 928 < 1021 by omega)
          have h7 := U_pos 927
          rw [U_one] at he
          rw [show fval y - 1 = U 874 - fval x by grind]
          exact ab_lt.2 ⟨by grind, by grind⟩
        · exfalso
          have mx : M (U 875) (fval x) := M.down hS ⟨m, e⟩
          have hd := (mx.add my).sub m1'
          rw [show fval x + fval y - U 1074 = U 874 by grind] at hd
          have h1 := hd.ge (U_pos _) (by grind)
          have h2 := U_succ 874
          rw [ab, if_neg (by grind)] at h1
          grind
    refine ⟨x, y, rfl, ?_, key⟩
    rw [key, U_one] at he
    grind

/-- A list whose number is 0 has no float. -/
theorem none_floats {bs : List Nat} (h : SumS 0 bs) : bs = [] := by
  apply Classical.byContradiction
  intro hne
  obtain ⟨ds, hd⟩ := vals_last hne
  have e2 : vals bs = vals ds ++ [fval (lastW bs)] := by
    conv => lhs; rw [hd]
    simp [vals]
  have h1 := sgq_last h.up.ex
  rw [h.sum] at h1
  have h2 := h.up.ex.2 (fval (lastW bs)) (by rw [e2]; simp)
  have h3 : sgq (fval (lastW bs)) = 0 := h1
  unfold sgq at h3
  rw [if_neg h2] at h3
  split at h3 <;> omega

theorem may_tiny_one : MayP 2580562586483294208 6633802251116740608 [3706462493325918208, 4607182418800017408] ∧ MayP 2580562586483294208 6633802251116740608 [3706462493325918208, 13830554455654793216] ∧ MayP 0 9065746049896808448 [12929834530180694016, 4607182418800017408] ∧ MayP 0 8660422083433463808 [4607182418800017408] ∧ MayP 0 8660422083433463808 [3706462493325918208] := by
  have u8 := U_pos 874
  have u1 := U_pos 1074
  have hlt := U_lt_iff.2 (show 874 < 1074 by omega)
  have m1 : M (U 1074) (U 1074) := ⟨1, by rw [show ((1 : Int) : Rat) = 1 from rfl]; grind⟩
  have a8 : ab (U 874) = U 874 := by rw [ab, if_neg (by grind)]
  refine ⟨up_may ⟨?_, ?_⟩ (by simp) ?_, up_may ⟨?_, ?_⟩ (by simp) ?_, up_may ⟨?_, ?_⟩ (by simp) ?_, up_may ⟨?_, ?_⟩ (by simp) ?_, up_may ⟨?_, ?_⟩ (by simp) ?_⟩
  · simp [vals, v_tiny, v_one]; exact ⟨1074, by rw [a8]; exact hlt, m1⟩
  · simp [vals, v_tiny, v_one]; exact ⟨by grind, by grind⟩
  · simp [frung]
  · simp [vals, v_tiny, v_less]; exact ⟨1074, by rw [a8]; exact hlt, m1.neg⟩
  · simp [vals, v_tiny, v_less]; exact ⟨by grind, by grind⟩
  · simp [frung]
  · simp [vals, v_mtiny, v_one]; exact ⟨1074, by rw [ab_neg, a8]; exact hlt, m1⟩
  · simp [vals, v_mtiny, v_one]; exact ⟨by grind, by grind⟩
  · simp [frung]
  · simp [vals]
  · simp [vals, v_one]; grind
  · simp [frung]
  · simp [vals]
  · simp [vals, v_tiny]; grind
  · simp [frung]

end Go.Proofs.YtmcllgoeldfgmaaDoor

/- works: the walk. -/
namespace Go.Proofs.YtmcllgoeldfgmaaDoor
open Go.RowKit Go.Shelf
attribute [local go_sem] run_store_float

theorem fs1 (w : World) (b : Nat) (hb : b < 18446744073709551616) : Fs (w.alloc (.cells #[.float .f64 b] 31)) (.slice (some ⟨w.heap.size, 0, none⟩) 1 1) [b] := by
  refine ⟨⟨_, 1, rfl, by simp, by omega, Or.inr ⟨w.heap.size, 0, rfl, fun k hk => ?_⟩⟩, by simpa using hb⟩
  obtain rfl : k = 0 := by simpa using hk
  go_simp
theorem fs2 (w : World) (b c : Nat) (hb : b < 18446744073709551616) (hc : c < 18446744073709551616) : Fs (w.alloc (.cells #[.float .f64 b, .float .f64 c] 31)) (.slice (some ⟨w.heap.size, 0, none⟩) 2 2) [b, c] := by
  refine ⟨⟨_, 2, rfl, by simp, by omega, Or.inr ⟨w.heap.size, 0, rfl, fun k hk => ?_⟩⟩, by simp; exact ⟨hb, hc⟩⟩
  have : k = 0 ∨ k = 1 := by simp at hk; omega
  rcases this with rfl | rfl <;> go_simp
theorem new_below (w : World) (o : Obj) : Below w.heap.size w (w.alloc o) := (Below.refl _ w).alloc (Nat.le_refl _) _
theorem sum_mayA {S : Rat} {bs : List Nat} (h : SumS S bs) {N : Nat} (hS : ab S < U N) (hN : N ≤ 1900) : MayA bs := by
  obtain ⟨top, hq⟩ := h.sq
  have hu := hq.up hS
  refine up_may hu.ex h.cnt (fun b hb => ⟨Nat.zero_le _, ?_⟩)
  rcases Nat.lt_or_ge 8660422083433463808 (frung b) with e | e
  · exfalso
    have h1 := fval_lt e (hu.fin b hb)
    rw [top900, ab_fval b (hu.fin b hb)] at h1
    have h2 := hu.lim b hb
    have h3 := U_mono (show N + 1 ≤ 1974 by omega)
    grind
  · exact e
theorem safe_may {bs : List Nat} (h : MayS bs) : MayC bs := ⟨h.1, fun i hi => ⟨Nat.zero_le _, by have := (h.2 i hi).2.1; omega, (h.2 i hi).2.2⟩⟩
theorem add_may {bs : List Nat} (h : MayA bs) : MayC bs := ⟨h.1, fun i hi => ⟨Nat.zero_le _, by have := (h.2 i hi).2.1; omega, (h.2 i hi).2.2⟩⟩
theorem may_small : MayA [12029114604706594816] := by
  have v : fval 12029114604706594816 = -U 674 := by
    have := fval_rung 622 4503599627370496 (by omega) (Or.inr (by omega)) (by omega)
    have h := U_52 622
    rw [show (12029114604706594816 : Nat) = 9223372036854775808 + (622 * 4503599627370496 + 4503599627370496) from rfl, fval_word (by omega), this]
    rw [show ((4503599627370496 : Nat) : Rat) = 4503599627370496 from rfl, ← h]
  have u := U_pos 674
  refine up_may ⟨?_, ?_⟩ (by simp) ?_
  · simp [vals]
  · simp [vals, v]; grind
  · simp [frung]
theorem v_small : fval 12029114604706594816 = -(U 874 * U 874) := by
  have := fval_rung 622 4503599627370496 (by omega) (Or.inr (by omega)) (by omega)
  have h := U_52 622
  rw [show (12029114604706594816 : Nat) = 9223372036854775808 + (622 * 4503599627370496 + 4503599627370496) from rfl, fval_word (by omega), this]
  rw [show ((4503599627370496 : Nat) : Rat) = 4503599627370496 from rfl, ← h, U_mulX' (s := 874) (t := 874) (r := 674) (by omega)]

set_option maxRecDepth 100000 in
set_option maxHeartbeats 8000000 in
theorem worksE_any (w : World) : Calls Tryd.prog 36 #[] w fun e w' => e = .returned (.bool true) ∧ Below w.heap.size w w' := by
  have rn := run_negF 3706462493325918208 (by omega)
  rw [show fflip 3706462493325918208 = 12929834530180694016 from by decide +kernel] at rn
  have rm : ∀ w, (binOp .mul 31 (.float .f64 12929834530180694016) (.float .f64 3706462493325918208)).run Tryd.prog w = .ok (.float .f64 12029114604706594816) w := fun w => run_float_arith w .mul _ .f64 _ _ _ (by decide +kernel)
  have u8 := U_pos 874
  obtain ⟨ms1, ms2, mc1, ma1, ma2⟩ := may_tiny_one
  have HMY : Hid (MayS [3706462493325918208, 4607182418800017408] ∧ MayS [3706462493325918208, 13830554455654793216] ∧ MayC [12929834530180694016, 4607182418800017408] ∧ MayA [4607182418800017408] ∧ MayA [3706462493325918208]) := ⟨ms1, ms2, mc1, ma1, ma2⟩
  clear u8 ms1 ms2 mc1 ma1 ma2
  go_enter Tryd.func36, Tryd.ntmps36
  go_wp2_with fail
  have hf1 := fs1 w 4607182418800017408 (by omega)
  have hf2 := fs1 (w.alloc (.cells #[.float .f64 4607182418800017408] 31)) 3706462493325918208 (by omega)
  rw [show (w.alloc (.cells #[.float .f64 4607182418800017408] 31)).heap.size = w.heap.size + 1 by simp] at hf2
  refine (addEL_any _ _ [4607182418800017408] [3706462493325918208] _ (hf1.later (new_below _ _)) hf2).mono ?_
  rintro e w1 ⟨⟨v1, b1, t1, rfl, hF1, g1, g2, _⟩, hb1⟩
  obtain rfl := g1.2 ⟨HMY.out.2.2.2.1, HMY.out.2.2.2.2⟩
  have hsum : (vals [4607182418800017408]).sum + (vals [3706462493325918208]).sum = U 1074 + U 874 := by
    simp only [vals, List.map_cons, List.map_nil, List.sum_cons, List.sum_nil, v_one, v_tiny]; grind
  have hS1 := g2 rfl
  rw [hsum] at hS1
  obtain ⟨x, y, rfl, vx, vy⟩ := two_floats hS1.1 hS1.2
  have fx : Fin64 x := hS1.1.up.fin x (by simp)
  have fy : Fin64 y := hS1.1.up.fin y (by simp)
  have qx : FloatKind.f64.format.order x 3706462493325918208 = some .eq := by
    rw [order_val fx (by unfold Fin64 frung; omega), vx, v_tiny, if_neg Rat.lt_irrefl, if_pos rfl]
  have qy : FloatKind.f64.format.order y 4607182418800017408 = some .eq := by
    rw [order_val fy (by unfold Fin64 frung; omega), vy, v_one, U_one, if_neg Rat.lt_irrefl, if_pos rfl]
  have HB1 : Hid (Below w.heap.size w w1) := below_step (below_step (new_below _ _) (new_below _ _)) hb1
  obtain ⟨⟨a1, d1, ev1, _, _, fc⟩, _⟩ := hF1.fs
  have hne : ¬ [x, y] = [] := by simp
  obtain ⟨ga, oa, rfl, fc2⟩ : ∃ g off, a1 = some ⟨g, off, none⟩ ∧ ∀ k, k < 2 → w1.cell? ⟨g, off + k, none⟩ = some (.float .f64 ([x, y].getD k 0)) := by
    rcases fc with h | ⟨g, o, h1, h2⟩
    · exact absurd h hne
    · exact ⟨g, o, h1, h2⟩
  have ev1' : v1 = .slice (some ⟨ga, oa, none⟩) 2 d1 := ev1
  subst ev1'
  have HA : Hid (w1.cell? ⟨ga, oa, none⟩ = some (.float .f64 x) ∧ w1.cell? ⟨ga, oa + 1, none⟩ = some (.float .f64 y)) := ⟨fc2 0 (by omega), fc2 1 (by omega)⟩
  clear hf1 hf2 hF1 g1 g2 hsum hS1 vx vy fx fy ev1 hne fc2 hb1
  go_wp2_with fail
  have hf1 := fs2 w1 3706462493325918208 4607182418800017408 (by omega) (by omega)
  have hf2 := fs2 (w1.alloc (.cells #[.float .f64 3706462493325918208, .float .f64 4607182418800017408] 31)) 3706462493325918208 13830554455654793216 (by omega) (by omega)
  rw [show (w1.alloc (.cells #[.float .f64 3706462493325918208, .float .f64 4607182418800017408] 31)).heap.size = w1.heap.size + 1 by simp] at hf2
  refine (mulE_any _ _ [3706462493325918208, 4607182418800017408] [3706462493325918208, 13830554455654793216] _ (hf1.later (new_below _ _)) hf2).mono ?_
  rintro e w2 ⟨⟨v2, b2, t2, rfl, hF2, g1, g2, _⟩, hb2⟩
  obtain rfl := g1.2 ⟨HMY.out.1, HMY.out.2.1⟩
  have hsum : (vals [3706462493325918208, 4607182418800017408]).sum * (vals [3706462493325918208, 13830554455654793216]).sum = U 874 * U 874 - 1 := by
    simp only [vals, List.map_cons, List.map_nil, List.sum_cons, List.sum_nil, v_one, v_tiny, v_less, U_one]; grind
  have hS2 := g2 rfl
  rw [hsum] at hS2
  have HB2 : Hid (Below w1.heap.size w1 w2 ∧ Below w.heap.size w w2) := ⟨below_step (below_step (new_below _ _) (new_below _ _)) hb2, below_step HB1.out (below_step (below_step (new_below _ _) (new_below _ _)) hb2)⟩
  have hp : U 874 * U 874 < 1 := by
    rw [U_mulX' (s := 874) (t := 874) (r := 674) (by omega), ← U_one]; exact U_lt_iff.2 (by omega)
  have hp0 : 0 < U 874 * U 874 := Rat.mul_pos (U_pos _) (U_pos _)
  have HS2 : Hid (SumS (U 874 * U 874 - 1) b2 ∧ MayA b2 ∧ sgq (U 874 * U 874 - 1) = -1) := by
    refine ⟨hS2, sum_mayA hS2 (N := 1075) (ab_lt.2 ?_) (by omega), ?_⟩
    · have h1 : U 1075 = 2 * U 1074 := U_succ 1074
      rw [U_one] at h1
      rw [h1]
      exact ⟨by grind, by grind⟩
    · unfold sgq; rw [if_pos (by grind)]
  obtain ⟨⟨a2, d2, ev2, _⟩, _⟩ := id hF2.fs
  subst ev2
  have HF2 : Hid (Fs w2 (.slice a2 b2.length d2) b2) := hF2.fs
  clear hf1 hf2 hF2 g1 g2 hsum hS2 hb2 hp hp0
  go_wp2_with fail
  have hf1 := fs1 w2 4607182418800017408 (by omega)
  have hf2 := fs1 (w2.alloc (.cells #[.float .f64 4607182418800017408] 31)) 12029114604706594816 (by omega)
  rw [show (w2.alloc (.cells #[.float .f64 4607182418800017408] 31)).heap.size = w2.heap.size + 1 by simp] at hf2
  have hA1 : Below w2.heap.size w2 (w2.alloc (.cells #[.float .f64 4607182418800017408] 31)) := new_below _ _
  have hA2 : Below (w2.alloc (.cells #[.float .f64 4607182418800017408] 31)).heap.size (w2.alloc (.cells #[.float .f64 4607182418800017408] 31)) ((w2.alloc (.cells #[.float .f64 4607182418800017408] 31)).alloc (.cells #[.float .f64 12029114604706594816] 31)) := new_below _ _
  obtain ⟨W3, hW3⟩ : ∃ W3, W3 = (w2.alloc (.cells #[.float .f64 4607182418800017408] 31)).alloc (.cells #[.float .f64 12029114604706594816] 31) := ⟨_, rfl⟩
  have hsz : W3.heap.size = w2.heap.size + 1 + 1 := by rw [hW3]; simp
  rw [← hW3] at hf2 hA2
  have hA3 : Below W3.heap.size W3 (W3.alloc (.cells #[.slice a2 b2.length d2, .slice (some ⟨w2.heap.size, 0, none⟩) 1 1, .slice (some ⟨w2.heap.size + 1, 0, none⟩) 1 1] 63)) := new_below _ _
  have hS3 := sumE_any 3 W3.heap.size 0 3 (fun i => if i = 0 then .slice a2 b2.length d2 else if i = 1 then .slice (some ⟨w2.heap.size, 0, none⟩) 1 1 else .slice (some ⟨w2.heap.size + 1, 0, none⟩) 1 1) (fun i => if i = 0 then b2 else if i = 1 then [4607182418800017408] else [12029114604706594816]) (W3.alloc (.cells #[.slice a2 b2.length d2, .slice (some ⟨w2.heap.size, 0, none⟩) 1 1, .slice (some ⟨w2.heap.size + 1, 0, none⟩) 1 1] 63)) (by omega) (fun i hi => by
      have : i = 0 ∨ i = 1 ∨ i = 2 := by omega
      rcases this with rfl | rfl | rfl <;> go_simp) (fun i hi => by
      have : i = 0 ∨ i = 1 ∨ i = 2 := by omega
      rcases this with rfl | rfl | rfl
      · exact HF2.out.later (below_step (below_step hA1 hA2) hA3)
      · exact hf1.later (below_step hA2 hA3)
      · exact hf2.later hA3)
  rw [hsz] at hS3
  rw [← hW3]
  refine hS3.mono ?_
  rintro e w3 ⟨⟨v3, b3, t3, rfl, hF3, g1, g2, _⟩, hb3⟩
  obtain rfl := g1.2 (fun j hj => by
    have : j = 0 ∨ j = 1 ∨ j = 2 := by omega
    rcases this with rfl | rfl | rfl
    · exact HS2.out.2.1
    · exact HMY.out.2.2.2.1
    · exact may_small)
  have hz : SumS 0 b3 := by
    have := g2 rfl
    rwa [show sumL (fun i => if i = 0 then b2 else if i = 1 then [4607182418800017408] else [12029114604706594816]) 3 = 0 by
      show 0 + (vals b2).sum + (vals [4607182418800017408]).sum + (vals [12029114604706594816]).sum = 0
      rw [HS2.out.1.sum]
      simp only [vals, List.map_cons, List.map_nil, List.sum_cons, List.sum_nil, v_one, v_small, U_one]; grind] at this
  obtain rfl := none_floats hz
  obtain ⟨a3, d3, rfl⟩ := hF3.fs.none
  have HB3 : Hid (Below w2.heap.size w2 w3 ∧ Below w.heap.size w w3) := ⟨below_step (below_step (below_step hA1 hA2) hA3) hb3, below_step HB2.out.2 (below_step (below_step (below_step hA1 hA2) hA3) hb3)⟩
  have HF3 : Hid (Fs w3 (.slice a2 b2.length d2) b2) := HF2.out.later HB3.out.1
  have k0 := box_cell (below_step HB2.out.1 HB3.out.1) HA.out.1
  have k1 := box_cell (below_step HB2.out.1 HB3.out.1) HA.out.2
  clear hf1 hf2 hA1 hA2 hA3 hW3 hsz hS3 hF3 g1 g2 hz hb3
  go_wp2_with fail
  refine (signE_any _ b2 _ HF3.out).mono ?_
  rintro e w4 ⟨⟨z, rfl, hz1, _⟩, hw4⟩
  obtain rfl := hw4.symm
  obtain rfl : z = -1 := by rw [hz1 HS2.out.1.may, HS2.out.1.sum]; exact HS2.out.2.2
  clear hz1
  go_wp2_with fail
  have hf1 := fs2 w3 12929834530180694016 4607182418800017408 (by omega) (by omega)
  refine (signE_any _ [12929834530180694016, 4607182418800017408] _ hf1).mono ?_
  rintro e w4 ⟨⟨z, rfl, hz1, _⟩, rfl⟩
  have u8 := U_pos 874
  have u9 : U 874 < 1 := by rw [← U_one]; exact U_lt_iff.2 (by omega)
  obtain rfl : z = 1 := by
    rw [hz1 HMY.out.2.2.1]
    simp only [vals, List.map_cons, List.map_nil, List.sum_cons, List.sum_nil, v_one, v_mtiny, U_one]
    unfold sgq
    rw [if_neg (by grind), if_neg (by grind)]
  have HB4 : Hid (Below w.heap.size w (w3.alloc (.cells #[.float .f64 12929834530180694016, .float .f64 4607182418800017408] 31))) := below_step HB3.out.2 (new_below _ _)
  obtain ⟨W4, hW4⟩ : ∃ W4, W4 = w3.alloc (.cells #[.float .f64 12929834530180694016, .float .f64 4607182418800017408] 31) := ⟨_, rfl⟩
  rw [← hW4] at HB4 ⊢
  clear hz1 hf1 hW4 k0 k1
  have HU : Hid (0 < U 874) := u8
  clear u8 u9
  go_wp2_with fail
  have hf1 := fs2 W4 3706462493325918208 4607182418800017408 (by omega) (by omega)
  have hf2 := fs1 (W4.alloc (.cells #[.float .f64 3706462493325918208, .float .f64 4607182418800017408] 31)) 4607182418800017408 (by omega)
  rw [show (W4.alloc (.cells #[.float .f64 3706462493325918208, .float .f64 4607182418800017408] 31)).heap.size = W4.heap.size + 1 by simp] at hf2
  refine (cmpE_any _ _ [3706462493325918208, 4607182418800017408] [4607182418800017408] _ (hf1.later (new_below _ _)) hf2).mono ?_
  rintro e w5 ⟨⟨z, rfl, hz1, _⟩, hb5⟩
  obtain rfl : z = 1 := by
    rw [hz1 (safe_may HMY.out.1) (add_may HMY.out.2.2.2.1)]
    simp only [vals, List.map_cons, List.map_nil, List.sum_cons, List.sum_nil, v_one, v_tiny, U_one]
    have := HU.out
    unfold sgq
    rw [if_neg (by grind), if_neg (by grind)]
  have HB5 : Hid (Below w.heap.size w w5) := below_step HB4.out (below_step (below_step (new_below _ _) (new_below _ _)) hb5)
  clear hf1 hf2 hz1 hb5
  go_wp2
  go_ret
  exact ⟨rfl, HB5.out⟩

end Go.Proofs.YtmcllgoeldfgmaaDoor

/- The lowest bit, and sums of lists: plain facts. -/
namespace Go.Proofs.YtmcllgoeldfgmaaDoor
open Go.RowKit Go.Shelf

/-- Lo, by the lowest bit. -/
theorem lo_low {p x : Rat} {l m : Int} (hx : x = (m : Rat) * p2 l) (hm : m % 2 = 1) (hl : -1074 ≤ l) : Lo p x ↔ ab p < p2 l := by
  obtain ⟨L, hL⟩ : ∃ L : Nat, l = (L : Int) - 1074 := ⟨(l + 1074).toNat, by omega⟩
  subst hL
  have hu : p2 ((L : Int) - 1074) = U L := rfl
  rw [hu] at hx ⊢
  constructor
  · rintro ⟨t, a, n, b⟩
    have ht : t ≤ L := by
      rcases Nat.lt_or_ge L t with hlt | hge
      · exfalso
        obtain ⟨j, rfl⟩ : ∃ j, t = L + 1 + j := ⟨t - L - 1, by omega⟩
        have e : (m : Rat) * U L = ((n * ((2 ^ j : Nat) : Int) * 2 : Int) : Rat) * U L := by
          rw [← hx, b, show L + 1 + j = (L + 1) + j by omega, U_add, U_succ, Rat.intCast_mul, Rat.intCast_mul]
          show _ = (n : Rat) * ((2 ^ j : Nat) : Rat) * 2 * U L
          grind
        have := int_eq (U_pos L) e
        omega
      · exact hge
    have := U_mono ht
    grind
  · intro h
    exact ⟨L, h, m, hx⟩

theorem low_bounds {x : Nat} {l m : Int} (h : den x = (m : Rat) * p2 l) (hm : m % 2 = 1) : -1074 ≤ l ∧ l ≤ 1024 := by
  obtain ⟨bd1, bd2, n', bd3⟩ := den_fit x
  refine ⟨low_ge h hm bd3, ?_⟩
  have h0 : den x ≠ 0 := by
    intro e
    have e2 : (m : Rat) * p2 l = ((0 : Int) : Rat) * p2 l := by rw [← h, e, show ((0 : Int) : Rat) = 0 from rfl]; grind
    have := int_eq (p2_pos l) e2
    omega
  have h1 := M.ge (p2_pos l) ⟨m, h⟩ h0
  have h2 : p2 l < p2 1024 := by
    unfold ab at h1
    split at h1 <;> grind
  have := p2_lt_iff.1 h2
  omega
/-- The sum of the first k. -/
def denL (bs : List Nat) (k : Nat) : Rat := ((bs.take k).map den).sum
theorem denL_succ {bs : List Nat} {k : Nat} (h : k < bs.length) : denL bs (k + 1) = denL bs k + den (bs.getD k 0) := by
  unfold denL
  have e : bs.take (k + 1) = bs.take k ++ [bs.getD k 0] := by rw [List.take_add_one]; simp [List.getD, h]
  rw [e]
  simp only [List.map_append, List.map_cons, List.map_nil, List.sum_append, List.sum_cons, List.sum_nil]
  grind
theorem denL_bd (bs : List Nat) (k : Nat) (hk : k ≤ bs.length) : Bd (1024 + (k : Int)) (-1074) (denL bs k) := by
  induction k with
  | zero => exact bd_zero _ _
  | succ k ih =>
    rw [denL_succ (by omega)]
    have h1 := ih (by omega)
    have h2 := (den_fit (bs.getD k 0)).mono (show (1024 : Int) ≤ 1024 + (k : Int) by omega) (Int.le_refl _)
    exact (h1.add h2).mono (by omega) (Int.le_refl _)
theorem den_sum {bs : List Nat} (h : ∀ b ∈ bs, Fin64 b) : (bs.map den).sum = (vals bs).sum := by
  unfold vals
  congr 1
  apply List.map_congr_left
  intro b hb
  exact den_fin (h b hb)

end Go.Proofs.YtmcllgoeldfgmaaDoor

/- A drawn region, operation by operation, where some are not wanted. -/
namespace Go.Proofs.YtmcllgoeldfgmaaDoor
open Go

section
variable {P : Program} {ops : Array Oper} {Q : Exit → Act → World → Prop} {md : Region.Mode} {S : World → Prop}

theorem take_at {i : Nat} {d : Option Tmp} {v : Value} {fuel : Nat} {listed : Array Bool} {a : Act} {w : World} (hd : (ops[i]?).map (·.dst) = some d)
    (hs : Region.noSelect ops = true) (hf : Region.free md ops listed i = true) (hr : (Region.ready md ops listed).contains i = true)
    (hQ : ∀ c a w, Q (.panic c) (a.put d v) w → Q (.panic c) a w) (hy : ∀ oi, ops[i]? = some oi → YieldsIf P ops S oi v a) (hS : S w)
    (h : wpAnyH P md ops Q S fuel (listed.setIfInBounds i true) (a.put d v) w) : wpAnyH P md ops Q S (fuel + 1) listed a w := by
  cases ho : ops[i]? with
  | none => rw [ho] at hd; cases hd
  | some oi =>
    rw [ho] at hd
    have e : oi.dst = d := Option.some.inj hd
    subst e
    exact wpAnyH_take ho hs hf hr hQ (hy oi ho) hS h

/-- What is not wanted is passed by. -/
theorem skip_at (i : Nat) {d : Option Tmp} {fuel : Nat} {listed : Array Bool} {a : Act} {w : World} (hd : (ops[i]?).map (·.dst) = some d)
    (hs : Region.noSelect ops = true) (hf : Region.free md ops listed i = true) (hr : (Region.ready md ops listed).contains i = true)
    (hQ : ∀ c a w, Q (.panic c) (a.put d undef) w → Q (.panic c) a w) (hw : (ops[i]?).map (fun o => Region.wanted o (yielded ops a.tmps)) = some false) (hS : S w)
    (h : wpAnyH P md ops Q S fuel (listed.setIfInBounds i true) (a.put d undef) w) : wpAnyH P md ops Q S (fuel + 1) listed a w :=
  take_at hd hs hf hr hQ (fun oi ho => Or.inr ⟨by rw [ho] at hw; exact Option.some.inj hw, rfl⟩) hS h

theorem call_at (i : Nat) {fuel : Nat} {listed : Array Bool} {a : Act} {w : World} (hr : Region.ready md ops listed = [i])
    (hi : (ops[i]?).isSome = true)
    (h : ∀ o, ops[i]? = some o → ∀ K' : Act → World → Prop, Shut (∀ a w, S w → (S w → wpAnyH P md ops Q S fuel (listed.setIfInBounds i true) a w) → K' a w) → if Region.wanted o (yielded ops a.tmps) = true then Oper.wp P o a w K' Q else K' (a.put o.dst undef) w) :
    wpAnyH P md ops Q S (fuel + 1) listed a w := by
  obtain ⟨o, ho⟩ := Option.isSome_iff_exists.1 hi
  exact wpAnyH_ready hr (by simp) (AllReadyH.cons ho (h o ho) AllReadyH.nil)
end

end Go.Proofs.YtmcllgoeldfgmaaDoor

/- Floats: Ldexp, on floats that are not below the normal ones. -/
namespace Go.Proofs.YtmcllgoeldfgmaaDoor
open Go.RowKit

set_option maxHeartbeats 1000000 in
theorem inf_pos (w : World) : Calls Tryd.prog 19 #[.int .i64 1] w fun e w' => e = .returned (.float .f64 9218868437227405312) ∧ w' = w := by
  have b2 := run_frombits 9218868437227405312
  have b2' : ∀ w, (callFunc 58 #[.int .u64 9218868437227405312]).run Tryd.prog w = .ok (.value (.float .f64 9218868437227405312)) w := b2
  go_enter Tryd.func19, Tryd.ntmps19
  go_wp2
  go_ret
  exact ⟨rfl, rfl⟩

set_option maxHeartbeats 2000000 in
theorem ldexp_norm (E u T x y z9 : Nat) (k : Int) (w : World) (hx : E * 4503599627370496 + u = x) (hy : T * 4503599627370496 + u = y) (hz : T * 4503599627370496 = z9) (hE1 : 1 ≤ E) (hE2 : E ≤ 2046) (hu : u < 4503599627370496) (hT : k + (E : Int) = (T : Int)) (hT1 : 1 ≤ T) (hT2 : T ≤ 2046) :
    Calls Tryd.prog 88 #[.float .f64 x, .int .i64 k] w fun e w' => e = .returned (.float .f64 y) ∧ w' = w := by
  have z := zero_order x (by omega) (by omega)
  obtain ⟨f1, f2⟩ := fin_flags x (by omega)
  have b1 := run_bits x
  have HI : Hid (∀ w, Calls Tryd.prog 21 #[.float .f64 x, .int .i64 0] w fun e w' => e = .returned (.bool false) ∧ w' = w) := fun w => by have := isInf0_any x w (by omega); rwa [f1] at this
  have HN : Hid (∀ w, Calls Tryd.prog 55 #[.float .f64 x] w fun e w' => e = .returned (.bool false) ∧ w' = w) := fun w => by have := isNaN_any x w; rwa [f2] at this
  have HM : Hid (∀ w, Calls Tryd.prog 108 #[.float .f64 x] w fun e w' => e = .returned (.tuple #[.float .f64 x, .int .i64 0]) ∧ w' = w) := fun w => normalize_big _ w (by omega) (by omega)
  have c1 : ((x : Nat) : Int) / 4503599627370496 = (E : Int) := by omega
  have c2 := and_exp_i E (by omega)
  have c3 := andNot_exp x (by omega)
  rw [show x % 4503599627370496 = u by omega] at c3
  have c4 : bits .or .u64 (u : Int) (z9 : Int) = (y : Int) := by have := or_exp T u (by omega) hu; rw [hy, hz] at this; exact this
  have b2 := run_frombits y
  have c5 : IntKind.u64.wrap ((T : Int) * 4503599627370496) = (z9 : Int) := by rw [IntKind.wrap_u64]; omega
  have c6 : ∀ w, (binOp .mul 31 (.float .f64 4607182418800017408) (.float .f64 y)).run Tryd.prog w = .ok (.float .f64 y) w := fun w => run_float_arith w .mul _ .f64 _ _ _ (by have := mul_one T u hT1 hT2 hu; rw [hy] at this; exact this)
  have g1 : ¬ (k + ((E : Int) - 1023) < -1075) := by omega
  have g2 : ¬ (1023 < k + ((E : Int) - 1023)) := by omega
  have g3 : ¬ (k + ((E : Int) - 1023) < -1022) := by omega
  have g4 : k + ((E : Int) - 1023) + 1023 = (T : Int) := by omega
  have g5 : -5000 ≤ k := by omega
  have g6 : k ≤ 5000 := by omega
  have g7 : (E : Int) ≤ 2046 := by omega
  have g8 : (T : Int) ≤ 2046 := by omega
  have HX : Hid (E * 4503599627370496 + u = x) := hx
  clear hx f1 f2
  have HY : Hid (T * 4503599627370496 + u = y) := hy
  have HZ : Hid (T * 4503599627370496 = z9) := hz
  have HT : Hid (k + (E : Int) = (T : Int)) := hT
  clear hy hz hT
  go_enter Tryd.func88, Tryd.ntmps88
  go_wp2_with (first
    | (go_at_call 21; refine (HI.out _).mono ?_; rintro e w' ⟨rfl, rfl⟩)
    | (go_at_call 55; refine (HN.out _).mono ?_; rintro e w' ⟨rfl, rfl⟩)
    | (go_at_call 108; refine (HM.out _).mono ?_; rintro e w' ⟨rfl, rfl⟩))
  go_ret
  exact ⟨rfl, rfl⟩

set_option maxHeartbeats 2000000 in
theorem ldexp_den (E u T x y z9 r : Nat) (k : Int) (w : World) (hx : E * 4503599627370496 + u = x) (hy : T * 4503599627370496 + u = y) (hz : T * 4503599627370496 = z9) (hE1 : 1 ≤ E) (hE2 : E ≤ 2046) (hu : u < 4503599627370496) (hT : k + (E : Int) + 53 = (T : Int)) (hT1 : 1 ≤ T) (hT2 : T ≤ 53) (hmul : Ieee.double.mul 4368491638549381120 y = some r) :
    Calls Tryd.prog 88 #[.float .f64 x, .int .i64 k] w fun e w' => e = .returned (.float .f64 r) ∧ w' = w := by
  have z := zero_order x (by omega) (by omega)
  obtain ⟨f1, f2⟩ := fin_flags x (by omega)
  have b1 := run_bits x
  have HI : Hid (∀ w, Calls Tryd.prog 21 #[.float .f64 x, .int .i64 0] w fun e w' => e = .returned (.bool false) ∧ w' = w) := fun w => by have := isInf0_any x w (by omega); rwa [f1] at this
  have HN : Hid (∀ w, Calls Tryd.prog 55 #[.float .f64 x] w fun e w' => e = .returned (.bool false) ∧ w' = w) := fun w => by have := isNaN_any x w; rwa [f2] at this
  have HM : Hid (∀ w, Calls Tryd.prog 108 #[.float .f64 x] w fun e w' => e = .returned (.tuple #[.float .f64 x, .int .i64 0]) ∧ w' = w) := fun w => normalize_big _ w (by omega) (by omega)
  have c1 : ((x : Nat) : Int) / 4503599627370496 = (E : Int) := by omega
  have c2 := and_exp_i E (by omega)
  have c3 := andNot_exp x (by omega)
  rw [show x % 4503599627370496 = u by omega] at c3
  have c4 : bits .or .u64 (u : Int) (z9 : Int) = (y : Int) := by have := or_exp T u (by omega) hu; rw [hy, hz] at this; exact this
  have b2 := run_frombits y
  have c5 : IntKind.u64.wrap ((T : Int) * 4503599627370496) = (z9 : Int) := by rw [IntKind.wrap_u64]; omega
  have c6 : ∀ w, (binOp .mul 31 (.float .f64 4368491638549381120) (.float .f64 y)).run Tryd.prog w = .ok (.float .f64 r) w := fun w => run_float_arith w .mul _ .f64 _ _ _ hmul
  have g1 : ¬ (k + ((E : Int) - 1023) < -1075) := by omega
  have g2 : ¬ (1023 < k + ((E : Int) - 1023)) := by omega
  have g3 : k + ((E : Int) - 1023) < -1022 := by omega
  have g4 : k + ((E : Int) - 1023) + 53 + 1023 = (T : Int) := by omega
  have g5 : -5000 ≤ k := by omega
  have g6 : k ≤ 5000 := by omega
  have g7 : (E : Int) ≤ 2046 := by omega
  have g8 : (T : Int) ≤ 2046 := by omega
  have HX : Hid (E * 4503599627370496 + u = x) := hx
  clear hx f1 f2
  have HY : Hid (T * 4503599627370496 + u = y) := hy
  have HZ : Hid (T * 4503599627370496 = z9) := hz
  have HT : Hid (k + (E : Int) + 53 = (T : Int)) := hT
  clear hy hz hT hmul
  go_enter Tryd.func88, Tryd.ntmps88
  go_wp2_with (first
    | (go_at_call 21; refine (HI.out _).mono ?_; rintro e w' ⟨rfl, rfl⟩)
    | (go_at_call 55; refine (HN.out _).mono ?_; rintro e w' ⟨rfl, rfl⟩)
    | (go_at_call 108; refine (HM.out _).mono ?_; rintro e w' ⟨rfl, rfl⟩))
  go_ret
  exact ⟨rfl, rfl⟩

set_option maxHeartbeats 2000000 in
theorem ldexp_inf (E u x : Nat) (k : Int) (w : World) (hx : E * 4503599627370496 + u = x) (hE1 : 1 ≤ E) (hE2 : E ≤ 2046) (hu : u < 4503599627370496) (hT : 2046 < k + (E : Int)) (hk : k ≤ 1000000) :
    Calls Tryd.prog 88 #[.float .f64 x, .int .i64 k] w fun e w' => e = .returned (.float .f64 9218868437227405312) ∧ w' = w := by
  have z := zero_order x (by omega) (by omega)
  obtain ⟨f1, f2⟩ := fin_flags x (by omega)
  have b1 := run_bits x
  have HI : Hid (∀ w, Calls Tryd.prog 21 #[.float .f64 x, .int .i64 0] w fun e w' => e = .returned (.bool false) ∧ w' = w) := fun w => by have := isInf0_any x w (by omega); rwa [f1] at this
  have HN : Hid (∀ w, Calls Tryd.prog 55 #[.float .f64 x] w fun e w' => e = .returned (.bool false) ∧ w' = w) := fun w => by have := isNaN_any x w; rwa [f2] at this
  have HM : Hid (∀ w, Calls Tryd.prog 108 #[.float .f64 x] w fun e w' => e = .returned (.tuple #[.float .f64 x, .int .i64 0]) ∧ w' = w) := fun w => normalize_big _ w (by omega) (by omega)
  have c1 : ((x : Nat) : Int) / 4503599627370496 = (E : Int) := by omega
  have c2 := and_exp_i E (by omega)
  have c3 := andNot_exp x (by omega)
  rw [show x % 4503599627370496 = u by omega] at c3
  have g0 : (FloatKind.f64.format.order x 0 == some .lt) = false := by
    show (Ieee.double.order x 0 == some .lt) = false
    rw [order_fin (by unfold Fin64 frung; omega) (by unfold Fin64 frung; decide), fval_zero_iff.2 (by rfl : frung 0 = 0), if_neg (by have := fval_nonneg (r := x) (by omega); grind)]
    split <;> rfl
  have g1 : ¬ (k + ((E : Int) - 1023) < -1075) := by omega
  have g2 : 1023 < k + ((E : Int) - 1023) := by omega
  have g5 : -5000 ≤ k := by omega
  have g7 : (E : Int) ≤ 2046 := by omega
  have HX : Hid (E * 4503599627370496 + u = x) := hx
  clear hx f1 f2
  have HT : Hid (2046 < k + (E : Int)) := hT
  clear hT
  go_enter Tryd.func88, Tryd.ntmps88
  go_wp2_with (first
    | (go_at_call 21; refine (HI.out _).mono ?_; rintro e w' ⟨rfl, rfl⟩)
    | (go_at_call 55; refine (HN.out _).mono ?_; rintro e w' ⟨rfl, rfl⟩)
    | (go_at_call 108; refine (HM.out _).mono ?_; rintro e w' ⟨rfl, rfl⟩)
    | (go_at_call 19; refine (inf_pos _).mono ?_; rintro e w' ⟨rfl, rfl⟩))
  go_ret
  exact ⟨rfl, rfl⟩

set_option maxHeartbeats 1000000 in
theorem ldexp_zero (k : Int) (w : World) : Calls Tryd.prog 88 #[.float .f64 0, .int .i64 k] w fun e w' => e = .returned (.float .f64 0) ∧ w' = w := by
  have z : (FloatKind.f64.format.order 0 0 == some .eq) = true := by decide
  go_enter Tryd.func88, Tryd.ntmps88
  go_wp2
  go_ret
  exact ⟨rfl, rfl⟩

set_option maxHeartbeats 1000000 in
theorem Ldexp_of (a b : Nat) (k : Int) (w : World) (hf : ∀ w, Calls Tryd.prog 88 #[.float .f64 a, .int .i64 k] w fun e w' => e = .returned (.float .f64 b) ∧ w' = w) :
    Calls Tryd.prog 57 #[.float .f64 a, .int .i64 k] w fun e w' => e = .returned (.float .f64 b) ∧ w' = w := by
  have HF : Hid _ := hf
  clear hf
  go_enter Tryd.func57, Tryd.ntmps57
  go_wp2_with (first | (go_at_call 88; refine (HF.out _).mono ?_; rintro e w' ⟨rfl, rfl⟩))
  go_ret
  exact ⟨rfl, rfl⟩

end Go.Proofs.YtmcllgoeldfgmaaDoor

/- Walks of the small functions of package whole: what each of them answers, for every magnitude. -/
namespace Go.Proofs.YtmcllgoeldfgmaaDoor
open Go.RowKit

/-- A slice value whose cells hold the words ns. -/
structure Ws (w : World) (s : Value) (ns : List Nat) : Prop where
  shape : ∃ a cap, s = .slice a ns.length cap ∧ ns.length ≤ cap ∧ (ns = [] ∨ ∃ b off, a = some ⟨b, off, none⟩ ∧ b < w.heap.size ∧ ∀ j, j < ns.length → w.cell? ⟨b, off + j, none⟩ = some (.int .u64 (ns.getD j 0 : Nat)))
  small : ∀ n, n ∈ ns → n < 18446744073709551616
  short : ns.length ≤ 1000000

theorem Ws.later {w w' : World} {s : Value} {ns : List Nat} {B : Nat} (h : Ws w s ns) (hb : Below B w w') (hB : w.heap.size ≤ B) : Ws w' s ns := by
  obtain ⟨⟨a, cap, hs, hcap, hc⟩, h2, h3⟩ := h
  refine ⟨⟨a, cap, hs, hcap, ?_⟩, h2, h3⟩
  rcases hc with hc | ⟨b, off, ha, hbs, hc⟩
  · exact Or.inl hc
  · exact Or.inr ⟨b, off, ha, Nat.lt_of_lt_of_le hbs hb.size, fun j hj => (hb.cell (by exact Nat.lt_of_lt_of_le hbs hB)).trans (hc j hj)⟩

set_option maxHeartbeats 400000 in
theorem isZero_any (a : Option Addr) (len cap : Nat) (low : Int) (w : World) :
    Calls Tryd.prog 48 #[.agg #[.slice a len cap, .int .i64 low]] w fun e w' => e = .returned (.bool ((len : Int) == 0)) ∧ Below w.heap.size w w' := by
  go_enter Tryd.func48, Tryd.ntmps48
  go_wp2
  go_ret
  exact ⟨rfl, (Below.refl _ _).alloc (Nat.le_refl _) _⟩

set_option maxHeartbeats 400000 in
theorem lowest_any (a : Option Addr) (len cap : Nat) (low : Int) (w : World) :
    Calls Tryd.prog 60 #[.agg #[.slice a len cap, .int .i64 low]] w fun e w' => e = .returned (.int .i64 low) ∧ Below w.heap.size w w' := by
  go_enter Tryd.func60, Tryd.ntmps60
  go_wp2
  go_ret
  exact ⟨rfl, (Below.refl _ _).alloc (Nat.le_refl _) _⟩

set_option maxHeartbeats 400000 in
theorem word_out (a : Option Addr) (len cap : Nat) (low : Int) (i : Nat) (w : World) (hi : len ≤ i) :
    Calls Tryd.prog 102 #[.agg #[.slice a len cap, .int .i64 low], .int .i64 i] w fun e w' => e = .returned (.int .u64 0) ∧ Below w.heap.size w w' := by
  go_enter Tryd.func102, Tryd.ntmps102
  go_wp2
  go_ret
  exact ⟨rfl, (Below.refl _ _).alloc (Nat.le_refl _) _⟩

set_option maxHeartbeats 400000 in
theorem word_in (b off len cap : Nat) (low : Int) (i : Nat) (n : Int) (w : World) (hi : i < len) (hb : b < w.heap.size) (hc : w.cell? ⟨b, off + i, none⟩ = some (.int .u64 n)) :
    Calls Tryd.prog 102 #[.agg #[.slice (some ⟨b, off, none⟩) len cap, .int .i64 low], .int .i64 i] w fun e w' => e = .returned (.int .u64 n) ∧ Below w.heap.size w w' := by
  go_enter Tryd.func102, Tryd.ntmps102
  go_wp2
  go_ret
  exact ⟨rfl, (Below.refl _ _).alloc (Nat.le_refl _) _⟩

theorem word_any (s : Value) (ns : List Nat) (low i : Int) (w : World) (h : Ws w s ns) (hi : 0 ≤ i) :
    Calls Tryd.prog 102 #[.agg #[s, .int .i64 low], .int .i64 i] w fun e w' => e = .returned (.int .u64 (ns.getD i.toNat 0 : Nat)) ∧ Below w.heap.size w w' := by
  obtain ⟨n, rfl⟩ := Int.eq_ofNat_of_zero_le hi
  obtain ⟨⟨a, cap, rfl, _, hc⟩, h2, h3⟩ := h
  rw [Int.toNat_natCast]
  by_cases hlt : n < ns.length
  · rcases hc with rfl | ⟨b, off, rfl, hb, hc⟩
    · simp at hlt
    · exact word_in b off _ cap low n _ w hlt hb (hc n hlt)
  · have : ns.getD n 0 = 0 := by simp [List.getD, List.getElem?_eq_none (Nat.le_of_not_lt hlt)]
    rw [this]
    exact word_out a _ cap low n w (by omega)

end Go.Proofs.YtmcllgoeldfgmaaDoor
