/- Own texts, put together: Xv Xw Xx Pj Xy Xz. -/
import Derived.Test.YtjcdbbdbmcbjpaaQ15
import Derived.Test.YtjcdbbdbmcbjpaaQ18
namespace Go.Proofs.Ytjcdbbdbmcbjpaa
/- Package expand: Sum, Add. -/
section
open Go.RowKit Go.Shelf
set_option maxRecDepth 100000 in
theorem refusedE_any (s : Value) (es : List Nat) (w : World) (hs : Fs w s es) : Calls Try.prog 20 #[s] w fun e w' => (∃ t, e = .returned (.bool t) ∧ (t = false ↔ MayA es)) ∧ w' = w := by
 have H : Hid (Fs w s es) := hs
 clear hs
 go_enter Try.func20, Try.ntmps20
 go_wp2_with fail
 refine (addable_any s es _ H.out).mono ?_
 rintro e w1 ⟨⟨t, rfl, ht⟩, hw1⟩
 obtain rfl := hw1.symm
 have HT : Hid (t = true ↔ MayA es) := ht
 clear ht
 go_wp2
 go_ret
 exact ⟨⟨!t, rfl, by cases t <;> simpa using HT.out⟩, rfl⟩
set_option maxRecDepth 100000 in
set_option maxHeartbeats 2000000 in
theorem indexE_any (k g off cap : Nat) (sv : Nat → Value) (ef : Nat → List Nat) (w : World) (hk : k ≤ 64) (hc : ∀ i, i < k → w.cell? ⟨g, off + i, none⟩ = some (sv i)) (hf : ∀ i, i < k → Fs w (sv i) (ef i)) :
   Calls Try.prog 37 #[.slice (some ⟨g, off, none⟩) k cap, .func (Fn.func 20) #[] #[]] w fun e w' => (∃ i : Int, e = .returned (.int .i64 i) ∧ ((i = -1 ∧ ∀ j, j < k → MayA (ef j)) ∨ (0 ≤ i ∧ ¬ ∀ j, j < k → MayA (ef j)))) ∧ w' = w := by
 have HC : Hid (∀ i, i < k → w.cell? ⟨g, off + i, none⟩ = some (sv i)) := hc
 have HF : Hid (∀ i, i < k → Fs w (sv i) (ef i)) := hf
 have l1 : (k : Int) ≤ 64 := by omega
 clear hc hf hk
 go_enter Try.func37, Try.ntmps37
 go_wp2
 go_loop [8] (fun i => ∃ j : Nat, j ≤ k ∧ i = .int .i64 j ∧ Hid (∀ p, p < j → MayA (ef p))) (fun i => k - (intOf i).toNat)
 case atStart => exact ⟨0, Nat.zero_le _, rfl, fun p hp => by omega⟩
 case round =>
   obtain ⟨j, hj, rfl, hz⟩ := hrel
   by_cases hlt : j < k
   · have hl : (j : Int) < (k : Int) := by omega
     have hl0 : (0 : Int) ≤ (j : Int) := by omega
     have hcj := HC.out j hlt
     obtain ⟨⟨a1, c1, e1, _⟩, _⟩ := id (HF.out j hlt)
     have HFj : Hid (Fs w (.slice a1 (ef j).length c1) (ef j)) := by show Fs _ _ _; rw [← e1]; exact HF.out j hlt
     rw [e1] at hcj
     clear e1
     go_wp2_with fail
     refine (refusedE_any _ (ef j) _ HFj.out).mono ?_
     rintro e w1 ⟨⟨t, rfl, ht⟩, hw1⟩
     obtain rfl := hw1.symm
     have HT : Hid (t = false ↔ MayA (ef j)) := ht
     clear ht
     cases t
     · go_wp2
       go_round
       case rel => exact ⟨j + 1, by omega, by go_num, fun p hp => by
         by_cases q : p = j
         · rw [q]; exact HT.out.1 (by simp)
         · exact hz.out p (by omega)⟩
       case measure => simp [intOf]; omega
     · go_wp2
       go_ret
       exact ⟨⟨_, rfl, Or.inr ⟨by omega, fun h => absurd (HT.out.2 (h j hlt)) (by simp)⟩⟩, rfl⟩
   · obtain rfl : j = k := by omega
     have hltb : decide ((j : Int) < (j : Int)) = false := decide_eq_false (by omega)
     go_wp2
     go_ret
     exact ⟨⟨-1, rfl, Or.inl ⟨rfl, hz.out⟩⟩, rfl⟩
set_option maxRecDepth 100000 in
set_option maxHeartbeats 1000000 in
theorem containsE_any (k g off cap : Nat) (sv : Nat → Value) (ef : Nat → List Nat) (w : World) (hk : k ≤ 64) (hc : ∀ i, i < k → w.cell? ⟨g, off + i, none⟩ = some (sv i)) (hf : ∀ i, i < k → Fs w (sv i) (ef i)) :
   Calls Try.prog 22 #[.slice (some ⟨g, off, none⟩) k cap, .func (Fn.func 20) #[] #[]] w fun e w' => (∃ t, e = .returned (.bool t) ∧ (t = false ↔ ∀ j, j < k → MayA (ef j))) ∧ w' = w := by
 have HI : Hid (Calls Try.prog 37 #[.slice (some ⟨g, off, none⟩) k cap, .func (Fn.func 20) #[] #[]] w fun e w' => (∃ i : Int, e = .returned (.int .i64 i) ∧ ((i = -1 ∧ ∀ j, j < k → MayA (ef j)) ∨ (0 ≤ i ∧ ¬ ∀ j, j < k → MayA (ef j)))) ∧ w' = w) := indexE_any k g off cap sv ef w hk hc hf
 clear hc hf hk
 go_enter Try.func22, Try.ntmps22
 go_wp2_with fail
 refine HI.out.mono ?_
 rintro e w1 ⟨⟨i, rfl, hi⟩, hw1⟩
 obtain rfl := hw1.symm
 rcases hi with ⟨rfl, hi⟩ | ⟨h0, hi⟩
 · have HH : Hid (∀ j, j < k → MayA (ef j)) := hi
   clear hi
   go_wp2
   go_ret
   exact ⟨⟨false, rfl, fun _ => HH.out, fun _ => rfl⟩, rfl⟩
 · have HH : Hid (¬ ∀ j, j < k → MayA (ef j)) := hi
   clear hi
   go_wp2
   go_ret
   exact ⟨⟨true, by simp, fun h => Bool.noConfusion h, fun h => absurd h HH.out⟩, rfl⟩
def sumL (ef : Nat → List Nat) : Nat → Rat
 | 0 => 0
 | k + 1 => sumL ef k + (vals (ef k)).sum
theorem sumL_lim {ef : Nat → List Nat} {k : Nat} (h : ∀ j, j < k → MayA (ef j)) : ab (sumL ef k) ≤ (k : Rat) * U 1975 := by
 induction k with
 | zero => show ab 0 ≤ ((0 : Nat) : Rat) * U 1975; rw [show ((0 : Nat) : Rat) = 0 from rfl, show ab 0 = 0 by unfold ab; grind]; grind
 | succ k ih =>
   have h1 := ih (fun j hj => h j (by omega))
   have h2 := up_sum (add_up (h k (by omega)))
   have h3 := ab_add (sumL ef k) (vals (ef k)).sum
   rw [show ((k + 1 : Nat) : Rat) = (k : Rat) + 1 by rw [Rat.natCast_add]; rfl]
   show ab (sumL ef k + (vals (ef k)).sum) ≤ _
   grind
theorem sumL_lt {ef : Nat → List Nat} {k : Nat} (hk : k ≤ 64) (h : ∀ j, j < k → MayA (ef j)) : ab (sumL ef k) < U 1982 := by
 have h1 := sumL_lim h
 have h2 : (k : Rat) ≤ 64 := by
   have := Rat.natCast_le_natCast.2 hk
   rwa [show ((64 : Nat) : Rat) = 64 from rfl] at this
 have h3 := Rat.mul_le_mul_of_nonneg_right h2 (Rat.le_of_lt (U_pos 1975))
 have u1 := U_succ 1975
 have u2 := U_succ 1976
 have u3 := U_succ 1977
 have u4 := U_succ 1978
 have u5 := U_succ 1979
 have u6 := U_succ 1980
 have u7 := U_succ 1981
 have u0 := U_pos 1975
 grind
structure SumS (S : Rat) (bs : List Nat) : Prop where
 sum : (vals bs).sum = S
 up : Up 1984 bs
 cnt : bs.length ≤ 64
 may : MayC bs
 sq : ∃ top, Sq top S bs
theorem SumS.nil : SumS 0 [] := ⟨rfl, up_nil _, by simp, ⟨by simp, fun i hi => by simp at hi⟩, ⟨0, Sq.nil 0⟩⟩
theorem SumS.of {S : Rat} {bs : List Nat} {top : Nat} (h : Sq top S bs) (ht : top ≤ 2000) (hS : ab S < U 1983) : SumS S bs :=
 ⟨h.sum, h.up hS, by have := h.cnt; omega, h.may hS (by omega) (by omega), ⟨top, h⟩⟩
def lenL (ef : Nat → List Nat) : Nat → Nat
 | 0 => 0
 | k + 1 => lenL ef k + (ef k).length
set_option maxRecDepth 100000 in
set_option maxHeartbeats 2000000 in
theorem sumEL_any (k g off cap : Nat) (sv : Nat → Value) (ef : Nat → List Nat) (w : World) (hk : k ≤ 64) (hc : ∀ i, i < k → w.cell? ⟨g, off + i, none⟩ = some (sv i)) (hf : ∀ i, i < k → Fs w (sv i) (ef i)) :
   Calls Try.prog 6 #[.slice (some ⟨g, off, none⟩) k cap] w fun e w' => (∃ v bs t, e = .returned (.tuple #[v, .bool t]) ∧ Fr w' w.heap.size v bs ∧ (t = true ↔ ∀ j, j < k → MayA (ef j)) ∧ (t = true → SumS (sumL ef k) bs ∧ bs.length ≤ lenL ef k) ∧ (t = false → bs = [])) ∧ Below w.heap.size w w' := by
 have HC : Hid (∀ i, i < k → w.cell? ⟨g, off + i, none⟩ = some (sv i)) := hc
 have HF : Hid (∀ i, i < k → Fs w (sv i) (ef i)) := hf
 have HK : Hid (k ≤ 64) := hk
 have HI : Hid (Calls Try.prog 22 #[.slice (some ⟨g, off, none⟩) k cap, .func (Fn.func 20) #[] #[]] w fun e w' => (∃ t, e = .returned (.bool t) ∧ (t = false ↔ ∀ j, j < k → MayA (ef j))) ∧ w' = w) := containsE_any k g off cap sv ef w hk hc hf
 have l1 : (k : Int) ≤ 64 := by omega
 have l2 : decide (64 < (k : Int)) = false := decide_eq_false (by omega)
 clear hc hf hk
 go_enter Try.func6, Try.ntmps6
 go_wp2_with fail
 refine HI.out.mono ?_
 rintro e w1 ⟨⟨t, rfl, ht⟩, hw1⟩
 obtain rfl := hw1.symm
 have HT : Hid (t = false ↔ ∀ j, j < k → MayA (ef j)) := ht
 clear ht HI
 cases t
 · have HA : Hid (∀ j, j < k → MayA (ef j)) := HT.out.1 rfl
   clear HT
   go_wp2
   go_loopw [18, 5] (fun i s wr => ∃ (j : Nat) (bs : List Nat), j ≤ k ∧ i = .int .i64 j ∧ Hid (Fr wr w.heap.size s bs ∧ (SumS (sumL ef j) bs ∧ bs.length ≤ lenL ef j) ∧ Below w.heap.size w wr)) (fun i _ _ => k - (intOf i).toNat)
   case atStart => exact ⟨0, [], Nat.zero_le _, rfl, Fr.nil _ _, ⟨SumS.nil, by simp⟩, Below.refl _ _⟩
   case round =>
     obtain ⟨j, bs, hj, rfl, hz⟩ := hrel
     by_cases hlt : j < k
     · have hl : (j : Int) < (k : Int) := by omega
       have hl0 : (0 : Int) ≤ (j : Int) := by omega
       have hcj := box_cell hz.out.2.2 (HC.out j hlt)
       obtain ⟨⟨a1, c1, e1, _⟩, _⟩ := id (HF.out j hlt)
       have HFj : Hid (Fs w (.slice a1 (ef j).length c1) (ef j)) := by show Fs _ _ _; rw [← e1]; exact HF.out j hlt
       rw [e1] at hcj
       have HAj : Hid (MayA (ef j)) := HA.out j hlt
       have HS : Hid (ab (sumL ef (j + 1)) < U 1983) := by
         have h1 := sumL_lt (k := j + 1) (ef := ef) (by have := HK.out; omega) (fun p hp => HA.out p (by omega))
         have h2 := U_lt_iff.2 (show 1982 < 1983 by omega)
         show _ < _
         grind
       clear e1
       go_wp2_with fail
       refine (joinedE_any 1984 _ _ bs (ef j) _ (by omega) hz.out.1.fs (HFj.out.later hz.out.2.2) hz.out.2.1.1.up ((add_up HAj.out).mono (by omega)) (by have := hz.out.2.1.1.cnt; have := HAj.out.1; omega)).mono ?_
       rintro e w2 ⟨⟨v2, cs, rfl, hF2, hu2, hs2, hl2⟩, hb2⟩
       have H2 : Hid (Fr w2 wr.heap.size v2 cs ∧ Up 1987 cs ∧ (vals cs).sum = sumL ef (j + 1) ∧ (cs.length ≤ 1000 ∧ cs.length ≤ lenL ef (j + 1)) ∧ Below w.heap.size w w2) :=
         ⟨hF2, hu2, by rw [hs2, hz.out.2.1.1.sum]; rfl, ⟨by have := hz.out.2.1.1.cnt; have := HAj.out.1; omega, by have := hz.out.2.1.2; show _ ≤ lenL ef j + (ef j).length; omega⟩, hz.out.2.2.trans (hb2.mono hz.out.2.2.size)⟩
       clear hF2 hu2 hs2 hl2 hb2 hcj
       go_wp2_with fail
       refine (squeezedL_any 1987 v2 cs _ (by omega) H2.out.1.fs H2.out.2.1 H2.out.2.2.2.1.1).mono ?_
       rintro e w3 ⟨⟨v3, ds, rfl, hF3, hS3⟩, hb3⟩
       have H3 : Hid (Fr w3 w.heap.size v3 ds ∧ (SumS (sumL ef (j + 1)) ds ∧ ds.length ≤ lenL ef (j + 1)) ∧ Below w.heap.size w w3) := by
         rw [H2.out.2.2.1] at hS3
         exact ⟨hF3.mono H2.out.2.2.2.2.size, ⟨SumS.of hS3.1 (by omega) HS.out, Nat.le_trans hS3.2 H2.out.2.2.2.1.2⟩, H2.out.2.2.2.2.trans (hb3.mono H2.out.2.2.2.2.size)⟩
       clear hF3 hS3 hb3
       go_wp2
       exact ⟨⟨j + 1, ds, by omega, by go_num, H3⟩, by simp [intOf]; omega⟩
     · obtain rfl : j = k := by omega
       have hltb : decide ((j : Int) < (j : Int)) = false := decide_eq_false (by omega)
       go_wp2
       go_ret2
       exact ⟨⟨_, bs, true, rfl, hz.out.1, ⟨fun _ => HA.out, fun _ => rfl⟩, fun _ => hz.out.2.1, fun h => Bool.noConfusion h⟩, hz.out.2.2⟩
 · have HA : Hid (¬ ∀ j, j < k → MayA (ef j)) := fun h => Bool.noConfusion (HT.out.2 h)
   clear HT
   go_wp2
   go_ret2
   exact ⟨⟨_, [], false, rfl, Fr.nil _ _, ⟨fun h => Bool.noConfusion h, fun h => absurd h HA.out⟩, fun h => Bool.noConfusion h, fun _ => rfl⟩, Below.refl _ _⟩
set_option maxRecDepth 100000 in
set_option maxHeartbeats 2000000 in
theorem sumE_any (k g off cap : Nat) (sv : Nat → Value) (ef : Nat → List Nat) (w : World) (hk : k ≤ 64) (hc : ∀ i, i < k → w.cell? ⟨g, off + i, none⟩ = some (sv i)) (hf : ∀ i, i < k → Fs w (sv i) (ef i)) :
   Calls Try.prog 6 #[.slice (some ⟨g, off, none⟩) k cap] w fun e w' => (∃ v bs t, e = .returned (.tuple #[v, .bool t]) ∧ Fr w' w.heap.size v bs ∧ (t = true ↔ ∀ j, j < k → MayA (ef j)) ∧ (t = true → SumS (sumL ef k) bs) ∧ (t = false → bs = [])) ∧ Below w.heap.size w w' := by
 refine (sumEL_any k g off cap sv ef w hk hc hf).mono ?_
 rintro e w' ⟨⟨v, bs, t, h1, h2, h3, h4, h5⟩, h6⟩
 exact ⟨⟨v, bs, t, h1, h2, h3, fun h => (h4 h).1, h5⟩, h6⟩
end

/- Package expand: Add, Mul, Scale. -/
section
open Go.RowKit Go.Shelf
def Ans (w w' : World) (e : Ending) (ok : Prop) (S : Rat) : Prop := (∃ v bs t, e = .returned (.tuple #[v, .bool t]) ∧ Fr w' w.heap.size v bs ∧ (t = true ↔ ok) ∧ (t = true → SumS S bs) ∧ (t = false → bs = [])) ∧ Below w.heap.size w w'
set_option maxRecDepth 100000 in
set_option maxHeartbeats 1000000 in
theorem addEL_any (s s2 : Value) (es fs : List Nat) (w : World) (hs : Fs w s es) (hs2 : Fs w s2 fs) :
   Calls Try.prog 9 #[s, s2] w fun e w' => (∃ v bs t, e = .returned (.tuple #[v, .bool t]) ∧ Fr w' w.heap.size v bs ∧ (t = true ↔ MayA es ∧ MayA fs) ∧ (t = true → SumS ((vals es).sum + (vals fs).sum) bs ∧ bs.length ≤ es.length + fs.length) ∧ (t = false → bs = [])) ∧ Below w.heap.size w w' := by
 obtain ⟨⟨a1, c1, rfl, _⟩, _⟩ := id hs
 obtain ⟨⟨a2, c2, rfl, _⟩, _⟩ := id hs2
 have H : Hid (Fs w (.slice a1 es.length c1) es) := hs
 have H2 : Hid (Fs w (.slice a2 fs.length c2) fs) := hs2
 have hb : Below w.heap.size w (w.alloc (.cells #[.slice a1 es.length c1, .slice a2 fs.length c2] 23)) := (Below.refl _ w).alloc (Nat.le_refl _) _
 have HS : Hid (Calls Try.prog 6 #[.slice (some ⟨w.heap.size, 0, none⟩) 2 2] (w.alloc (.cells #[.slice a1 es.length c1, .slice a2 fs.length c2] 23)) fun e w' => (∃ v bs t, e = .returned (.tuple #[v, .bool t]) ∧ Fr w' w.heap.size v bs ∧ (t = true ↔ MayA es ∧ MayA fs) ∧ (t = true → SumS ((vals es).sum + (vals fs).sum) bs ∧ bs.length ≤ es.length + fs.length) ∧ (t = false → bs = [])) ∧ Below w.heap.size w w') := by
   refine (sumEL_any 2 w.heap.size 0 2 (fun i => if i = 0 then .slice a1 es.length c1 else .slice a2 fs.length c2) (fun i => if i = 0 then es else fs) _ (by omega) (fun i hi => ?_) (fun i hi => ?_)).mono ?_
   · have : i = 0 ∨ i = 1 := by omega
     rcases this with rfl | rfl <;> go_simp
   · have : i = 0 ∨ i = 1 := by omega
     rcases this with rfl | rfl
     · exact hs.later hb
     · exact hs2.later hb
   · rintro e w' ⟨⟨v, bs, t, rfl, hF, h1, h2, h3⟩, hb'⟩
     refine ⟨⟨v, bs, t, rfl, hF.mono (by simp), ?_, ?_, h3⟩, hb.trans (hb'.mono (by simp))⟩
     · rw [h1]
       exact ⟨fun h => ⟨h 0 (by omega), h 1 (by omega)⟩, fun h j hj => by
         have : j = 0 ∨ j = 1 := by omega
         rcases this with rfl | rfl
         · exact h.1
         · exact h.2⟩
     · intro ht
       have := h2 ht
       have hl : bs.length ≤ 0 + es.length + fs.length := this.2
       refine ⟨?_, by omega⟩
       have this := this.1
       rwa [show sumL (fun i => if i = 0 then es else fs) 2 = (vals es).sum + (vals fs).sum by show 0 + (vals es).sum + (vals fs).sum = _; grind] at this
 clear hs hs2 hb
 go_enter Try.func9, Try.ntmps9
 go_wp2_with fail
 refine HS.out.mono ?_
 rintro e w' ⟨⟨v, bs, t, rfl, hF, h1, h2, h3⟩, hb'⟩
 have HR : Hid (Fr w' w.heap.size v bs ∧ (t = true ↔ MayA es ∧ MayA fs) ∧ (t = true → SumS ((vals es).sum + (vals fs).sum) bs ∧ bs.length ≤ es.length + fs.length) ∧ (t = false → bs = []) ∧ Below w.heap.size w w') := ⟨hF, h1, h2, h3, hb'⟩
 clear hF h1 h2 h3 hb' HS
 go_wp2
 go_ret2
 exact ⟨⟨v, bs, t, rfl, HR.out.1, HR.out.2.1, HR.out.2.2.1, HR.out.2.2.2.1⟩, HR.out.2.2.2.2⟩
set_option maxRecDepth 100000 in
set_option maxHeartbeats 1000000 in
theorem addE_any (s s2 : Value) (es fs : List Nat) (w : World) (hs : Fs w s es) (hs2 : Fs w s2 fs) :
   Calls Try.prog 9 #[s, s2] w fun e w' => Ans w w' e (MayA es ∧ MayA fs) ((vals es).sum + (vals fs).sum) := by
 refine (addEL_any s s2 es fs w hs hs2).mono ?_
 rintro e w' ⟨⟨v, bs, t, h1, h2, h3, h4, h5⟩, h6⟩
 exact ⟨⟨v, bs, t, h1, h2, h3, fun h => (h4 h).1, h5⟩, h6⟩
theorem scaled_any (s : Value) (es : List Nat) (b : Nat) (w : World) (hs : Fs w s es) (hm : MayS es) (hb : SafeB b) (hbw : b < 18446744073709551616) :
   Calls Try.prog 30 #[s, .float .f64 b] w fun e w' => (∃ v bs, e = .returned v ∧ Fr w' w.heap.size v bs ∧ Up 1977 bs ∧ (vals bs).sum = (vals es).sum * fval b ∧ bs.length ≤ 2 * es.length + 1) ∧ Below w.heap.size w w' := by
 obtain ⟨⟨a1, c1, rfl, _⟩, _⟩ := id hs
 exact scaled_walk es.length c1 b a1 es w hs (may_ex hm) (safe_safe hm) hb hbw rfl (by have := hm.1; omega)
theorem safe_up {bs : List Nat} (h : MayS bs) : Up 1525 bs := may_up h (by omega) (by rw [safe_top, show p2 450 = U 1524 from rfl]; exact U_lt_iff.2 (by omega))
theorem take_up {N : Nat} {bs : List Nat} (h : Up N bs) (j : Nat) : Up N (bs.take j) := by
 have hv : vals (bs.take j) = (vals bs).take j := by simp [vals, List.map_take]
 refine ⟨?_, fun b hb => h.fin b (List.mem_of_mem_take hb), fun b hb => h.lim b (List.mem_of_mem_take hb)⟩
 rw [hv]
 exact ⟨h.ex.1.sublist (List.take_sublist _ _), fun x hx => h.ex.2 x (List.mem_of_mem_take hx)⟩
theorem mul_lim {es fs : List Nat} (h1 : MayS es) (h2 : MayS fs) (j : Nat) : ab ((vals es).sum * (vals (fs.take j)).sum) < U 1983 := by
 have a := up_sum (safe_up h1)
 have b := up_sum (take_up (safe_up h2) j)
 have p := U_mulX' (s := 1525) (t := 1525) (r := 1976) (by omega)
 have q := U_lt_iff.2 (show 1976 < 1983 by omega)
 rw [ab_mul]
 have c1 := Rat.mul_le_mul_of_nonneg_right (Rat.le_of_lt a) (ab_nonneg (vals (fs.take j)).sum)
 have c2 := Rat.mul_le_mul_of_nonneg_left (Rat.le_of_lt b) (Rat.le_of_lt (U_pos 1525))
 grind
theorem take_step {fs : List Nat} {j : Nat} (h : j < fs.length) (E : Rat) : E * (vals (fs.take (j + 1))).sum = E * (vals (fs.take j)).sum + E * fval (fs.getD j 0) := by
 have e : fs.take (j + 1) = fs.take j ++ [fs.getD j 0] := by rw [List.take_add_one]; simp [List.getD, h]
 rw [e]
 simp only [vals, List.map_append, List.map_cons, List.map_nil, List.sum_append, List.sum_cons, List.sum_nil]
 grind
set_option maxRecDepth 100000 in
set_option maxHeartbeats 4000000 in
theorem mulE_walk (n m c1 c2 : Nat) (a1 a2 : Option Addr) (es fs : List Nat) (w : World) (hs : Fs w (.slice a1 n c1) es) (hs2 : Fs w (.slice a2 m c2) fs) (hn : es.length = n) (hm : fs.length = m) :
   Calls Try.prog 16 #[.slice a1 n c1, .slice a2 m c2] w fun e w' => Ans w w' e (MayS es ∧ MayS fs) ((vals es).sum * (vals fs).sum) := by
 have H : Hid (Fs w (.slice a1 n c1) es ∧ es.length = n) := ⟨hs, hn⟩
 have H2 : Hid (Fs w (.slice a2 m c2) fs ∧ fs.length = m) := ⟨hs2, hm⟩
 clear hs hs2 hn hm
 go_enter Try.func16, Try.ntmps16
 go_wp2_with fail
 refine (safeE_any _ es _ H.out.1).mono ?_
 rintro e w1 ⟨⟨t, rfl, ht⟩, hw1⟩
 obtain rfl := hw1.symm
 have HT : Hid (t = true ↔ MayS es) := ht
 clear ht
 cases t
 · have HN : Hid (¬ MayS es) := fun h => Bool.noConfusion (HT.out.2 h)
   clear HT
   go_wp2
   go_ret2
   exact ⟨⟨_, [], false, rfl, Fr.nil _ _, ⟨fun h => Bool.noConfusion h, fun h => absurd h.1 HN.out⟩, fun h => Bool.noConfusion h, fun _ => rfl⟩, Below.refl _ _⟩
 · have HM : Hid (MayS es) := HT.out.1 rfl
   clear HT
   go_wp2_with fail
   refine (safeE_any _ fs _ H2.out.1).mono ?_
   rintro e w1 ⟨⟨t, rfl, ht⟩, hw1⟩
   obtain rfl := hw1.symm
   have HT : Hid (t = true ↔ MayS fs) := ht
   clear ht
   cases t
   · have HN : Hid (¬ MayS fs) := fun h => Bool.noConfusion (HT.out.2 h)
     clear HT
     go_wp2
     go_ret2
     exact ⟨⟨_, [], false, rfl, Fr.nil _ _, ⟨fun h => Bool.noConfusion h, fun h => absurd h.2 HN.out⟩, fun h => Bool.noConfusion h, fun _ => rfl⟩, Below.refl _ _⟩
   · have HM2 : Hid (MayS fs) := HT.out.1 rfl
     clear HT
     have ln : (n : Int) ≤ 64 := by have := HM.out.1; have := H.out.2; omega
     have lm : (m : Int) ≤ 64 := by have := HM2.out.1; have := H2.out.2; omega
     by_cases hdec : n < m
     · go_wp2
       clear hdec
       go_loopw [26, 6] (fun i s wr => ∃ (j : Nat) (bs : List Nat), j ≤ n ∧ i = .int .i64 j ∧ Hid (Fr wr w.heap.size s bs ∧ SumS ((vals fs).sum * (vals (es.take j)).sum) bs ∧ Below w.heap.size w wr)) (fun i _ _ => n - (intOf i).toNat)
       case atStart => exact ⟨0, [], Nat.zero_le _, rfl, Fr.nil _ _, by rw [show (vals fs).sum * (vals (es.take 0)).sum = 0 by simp [vals]]; exact SumS.nil, Below.refl _ _⟩
       case round =>
         obtain ⟨j, bs, hj, rfl, hz⟩ := hrel
         by_cases hlt : j < n
         · have hl : (j : Int) < (n : Int) := by omega
           have hl0 : (0 : Int) ≤ (j : Int) := by omega
           obtain ⟨b, hbv⟩ : ∃ b : Nat, Hid (es.getD j 0 = b) := ⟨_, rfl⟩
           have hjf : j < es.length := by rw [H.out.2]; exact hlt
           obtain ⟨gg, off, ea, hcell⟩ : ∃ gg off, a1 = some ⟨gg, off, none⟩ ∧ wr.cell? ⟨gg, off + j, none⟩ = some (.float .f64 b) := by
             obtain ⟨⟨a', c', e', _, _, hf⟩, hw⟩ := id H.out.1
             rcases hf with hf | ⟨gg, off, ea, hf⟩
             · rw [hf] at hjf; simp at hjf
             · refine ⟨gg, off, ?_, by rw [← hbv.out]; exact box_cell hz.out.2.2 (hf j hjf)⟩
               rw [← ea]
               simpa using (Value.slice.inj e').1
           have HBS : Hid (SafeB b ∧ b < 18446744073709551616) := by
             have hmem : b ∈ es := by rw [← hbv.out, show es.getD j 0 = es[j] by simp [List.getD, hjf]]; exact List.getElem_mem hjf
             exact ⟨safe_safe HM.out b hmem, H.out.1.word b hmem⟩
           have HS : Hid (ab ((vals fs).sum * (vals (es.take (j + 1))).sum) < U 1983) := mul_lim HM2.out HM.out (j + 1)
           have HST : Hid ((vals fs).sum * (vals (es.take (j + 1))).sum = (vals fs).sum * (vals (es.take j)).sum + (vals fs).sum * fval b) := by rw [← hbv.out]; exact take_step hjf _
           subst ea
           clear hjf
           go_wp2_with fail
           refine (scaled_any _ fs b _ (H2.out.1.later hz.out.2.2) HM2.out HBS.out.1 HBS.out.2).mono ?_
           rintro e w2 ⟨⟨v2, cs, rfl, hF2, hu2, hs2, hl2⟩, hb2⟩
           have G2 : Hid (Fr w2 wr.heap.size v2 cs ∧ Up 1984 cs ∧ (vals cs).sum = (vals fs).sum * fval b ∧ cs.length ≤ 500 ∧ Below wr.heap.size wr w2) :=
             ⟨hF2, hu2.mono (by omega), hs2, by have := HM2.out.1; omega, hb2⟩
           clear hF2 hu2 hs2 hl2 hb2 hcell
           go_wp2_with fail
           refine (joinedE_any 1984 _ v2 bs cs _ (by omega) (hz.out.1.fs.later G2.out.2.2.2.2) G2.out.1.fs hz.out.2.1.up G2.out.2.1 (by have := hz.out.2.1.cnt; have := G2.out.2.2.2.1; omega)).mono ?_
           rintro e w3 ⟨⟨v3, ds, rfl, hF3, hu3, hs3, hl3⟩, hb3⟩
           have hbl : Below w.heap.size w w2 := hz.out.2.2.trans (G2.out.2.2.2.2.mono hz.out.2.2.size)
           have G3 : Hid (Fr w3 w2.heap.size v3 ds ∧ Up 1987 ds ∧ (vals ds).sum = (vals fs).sum * (vals (es.take (j + 1))).sum ∧ ds.length ≤ 1000 ∧ Below w.heap.size w w3) :=
             ⟨hF3, hu3, by rw [hs3, hz.out.2.1.sum, G2.out.2.2.1, HST.out], by have := hz.out.2.1.cnt; have := G2.out.2.2.2.1; omega, hbl.trans (hb3.mono hbl.size)⟩
           clear hF3 hu3 hs3 hl3 hb3 hbl
           go_wp2_with fail
           refine (squeezed_any 1987 v3 ds _ (by omega) G3.out.1.fs G3.out.2.1 G3.out.2.2.2.1).mono ?_
           rintro e w4 ⟨⟨v4, gs, rfl, hF4, hS4⟩, hb4⟩
           have G4 : Hid (Fr w4 w.heap.size v4 gs ∧ SumS ((vals fs).sum * (vals (es.take (j + 1))).sum) gs ∧ Below w.heap.size w w4) := by
             rw [G3.out.2.2.1] at hS4
             exact ⟨hF4.mono G3.out.2.2.2.2.size, SumS.of hS4 (by omega) HS.out, G3.out.2.2.2.2.trans (hb4.mono G3.out.2.2.2.2.size)⟩
           clear hF4 hS4 hb4
           go_wp2
           exact ⟨⟨j + 1, gs, by omega, by go_num, G4⟩, by simp [intOf]; omega⟩
         · obtain rfl : j = n := by omega
           have hltb : decide ((j : Int) < (j : Int)) = false := decide_eq_false (by omega)
           go_wp2
           go_ret2
           have hS := hz.out.2.1
           rw [← H.out.2, List.take_length] at hS
           exact ⟨⟨_, bs, true, rfl, hz.out.1, ⟨fun _ => ⟨HM.out, HM2.out⟩, fun _ => rfl⟩, fun _ => by rw [Rat.mul_comm]; exact hS, fun h => Bool.noConfusion h⟩, hz.out.2.2⟩
     · go_wp2
       clear hdec
       go_loopw [26, 6] (fun i s wr => ∃ (j : Nat) (bs : List Nat), j ≤ m ∧ i = .int .i64 j ∧ Hid (Fr wr w.heap.size s bs ∧ SumS ((vals es).sum * (vals (fs.take j)).sum) bs ∧ Below w.heap.size w wr)) (fun i _ _ => m - (intOf i).toNat)
       case atStart => exact ⟨0, [], Nat.zero_le _, rfl, Fr.nil _ _, by rw [show (vals es).sum * (vals (fs.take 0)).sum = 0 by simp [vals]]; exact SumS.nil, Below.refl _ _⟩
       case round =>
         obtain ⟨j, bs, hj, rfl, hz⟩ := hrel
         by_cases hlt : j < m
         · have hl : (j : Int) < (m : Int) := by omega
           have hl0 : (0 : Int) ≤ (j : Int) := by omega
           obtain ⟨b, hbv⟩ : ∃ b : Nat, Hid (fs.getD j 0 = b) := ⟨_, rfl⟩
           have hjf : j < fs.length := by rw [H2.out.2]; exact hlt
           obtain ⟨gg, off, ea, hcell⟩ : ∃ gg off, a2 = some ⟨gg, off, none⟩ ∧ wr.cell? ⟨gg, off + j, none⟩ = some (.float .f64 b) := by
             obtain ⟨⟨a', c', e', _, _, hf⟩, hw⟩ := id H2.out.1
             rcases hf with hf | ⟨gg, off, ea, hf⟩
             · rw [hf] at hjf; simp at hjf
             · refine ⟨gg, off, ?_, by rw [← hbv.out]; exact box_cell hz.out.2.2 (hf j hjf)⟩
               rw [← ea]
               simpa using (Value.slice.inj e').1
           have HBS : Hid (SafeB b ∧ b < 18446744073709551616) := by
             have hmem : b ∈ fs := by rw [← hbv.out, show fs.getD j 0 = fs[j] by simp [List.getD, hjf]]; exact List.getElem_mem hjf
             exact ⟨safe_safe HM2.out b hmem, H2.out.1.word b hmem⟩
           have HS : Hid (ab ((vals es).sum * (vals (fs.take (j + 1))).sum) < U 1983) := mul_lim HM.out HM2.out (j + 1)
           have HST : Hid ((vals es).sum * (vals (fs.take (j + 1))).sum = (vals es).sum * (vals (fs.take j)).sum + (vals es).sum * fval b) := by rw [← hbv.out]; exact take_step hjf _
           subst ea
           clear hjf
           go_wp2_with fail
           refine (scaled_any _ es b _ (H.out.1.later hz.out.2.2) HM.out HBS.out.1 HBS.out.2).mono ?_
           rintro e w2 ⟨⟨v2, cs, rfl, hF2, hu2, hs2, hl2⟩, hb2⟩
           have G2 : Hid (Fr w2 wr.heap.size v2 cs ∧ Up 1984 cs ∧ (vals cs).sum = (vals es).sum * fval b ∧ cs.length ≤ 500 ∧ Below wr.heap.size wr w2) :=
             ⟨hF2, hu2.mono (by omega), hs2, by have := HM.out.1; omega, hb2⟩
           clear hF2 hu2 hs2 hl2 hb2 hcell
           go_wp2_with fail
           refine (joinedE_any 1984 _ v2 bs cs _ (by omega) (hz.out.1.fs.later G2.out.2.2.2.2) G2.out.1.fs hz.out.2.1.up G2.out.2.1 (by have := hz.out.2.1.cnt; have := G2.out.2.2.2.1; omega)).mono ?_
           rintro e w3 ⟨⟨v3, ds, rfl, hF3, hu3, hs3, hl3⟩, hb3⟩
           have hbl : Below w.heap.size w w2 := hz.out.2.2.trans (G2.out.2.2.2.2.mono hz.out.2.2.size)
           have G3 : Hid (Fr w3 w2.heap.size v3 ds ∧ Up 1987 ds ∧ (vals ds).sum = (vals es).sum * (vals (fs.take (j + 1))).sum ∧ ds.length ≤ 1000 ∧ Below w.heap.size w w3) :=
             ⟨hF3, hu3, by rw [hs3, hz.out.2.1.sum, G2.out.2.2.1, HST.out], by have := hz.out.2.1.cnt; have := G2.out.2.2.2.1; omega, hbl.trans (hb3.mono hbl.size)⟩
           clear hF3 hu3 hs3 hl3 hb3 hbl
           go_wp2_with fail
           refine (squeezed_any 1987 v3 ds _ (by omega) G3.out.1.fs G3.out.2.1 G3.out.2.2.2.1).mono ?_
           rintro e w4 ⟨⟨v4, gs, rfl, hF4, hS4⟩, hb4⟩
           have G4 : Hid (Fr w4 w.heap.size v4 gs ∧ SumS ((vals es).sum * (vals (fs.take (j + 1))).sum) gs ∧ Below w.heap.size w w4) := by
             rw [G3.out.2.2.1] at hS4
             exact ⟨hF4.mono G3.out.2.2.2.2.size, SumS.of hS4 (by omega) HS.out, G3.out.2.2.2.2.trans (hb4.mono G3.out.2.2.2.2.size)⟩
           clear hF4 hS4 hb4
           go_wp2
           exact ⟨⟨j + 1, gs, by omega, by go_num, G4⟩, by simp [intOf]; omega⟩
         · obtain rfl : j = m := by omega
           have hltb : decide ((j : Int) < (j : Int)) = false := decide_eq_false (by omega)
           go_wp2
           go_ret2
           have hS := hz.out.2.1
           rw [← H2.out.2, List.take_length] at hS
           exact ⟨⟨_, bs, true, rfl, hz.out.1, ⟨fun _ => ⟨HM.out, HM2.out⟩, fun _ => rfl⟩, fun _ => by exact hS, fun h => Bool.noConfusion h⟩, hz.out.2.2⟩
theorem mulE_any (s s2 : Value) (es fs : List Nat) (w : World) (hs : Fs w s es) (hs2 : Fs w s2 fs) :
   Calls Try.prog 16 #[s, s2] w fun e w' => Ans w w' e (MayS es ∧ MayS fs) ((vals es).sum * (vals fs).sum) := by
 obtain ⟨⟨a1, c1, rfl, _⟩, _⟩ := id hs
 obtain ⟨⟨a2, c2, rfl, _⟩, _⟩ := id hs2
 exact mulE_walk es.length fs.length c1 c2 a1 a2 es fs w hs hs2 rfl rfl
end

/- The document's side of package expand: magnitude, Number; Scale. -/
section
open Go.RowKit Go.Shelf
attribute [local go_sem ↓] Go.wp_at_zero Go.wp_at_succ
attribute [local go_sem] run_store_float
set_option maxRecDepth 100000 in
set_option maxHeartbeats 1000000 in
theorem scaleE_any (s : Value) (es : List Nat) (b : Nat) (w : World) (hs : Fs w s es) (hb : b < 18446744073709551616) :
   Calls Try.prog 8 #[s, .float .f64 b] w fun e w' => Ans w w' e (MayC (gw [] b) ∧ MayS es ∧ MayS (gw [] b)) ((vals es).sum * (vals (gw [] b)).sum) := by
 have H : Hid (Fs w s es) := hs
 have HB : Hid (b < 18446744073709551616) := hb
 clear hs hb
 go_enter Try.func8, Try.ntmps8
 go_wp2_with fail
 refine (ofE_any b _ HB.out).mono ?_
 rintro e w1 ⟨⟨v, bs, t, rfl, hF, h1, h2, h3⟩, hb1⟩
 have HF : Hid (Fr w1 w.heap.size v bs ∧ (t = true ↔ MayC (gw [] b)) ∧ (t = true → bs = gw [] b) ∧ Below w.heap.size w w1) := ⟨hF, h1, h2, hb1⟩
 clear hF h1 h2 h3 hb1
 cases t
 · have HN : Hid (¬ MayC (gw [] b)) := fun h => Bool.noConfusion (HF.out.2.1.2 h)
   have HBB : Hid (Below w.heap.size w w1) := HF.out.2.2.2
   clear HF
   go_wp2
   go_ret2
   exact ⟨⟨_, [], false, rfl, Fr.nil _ _, ⟨fun h => Bool.noConfusion h, fun h => absurd h.1 HN.out⟩, fun h => Bool.noConfusion h, fun _ => rfl⟩, HBB.out⟩
 · have e1 := HF.out.2.2.1 rfl
   subst e1
   have HM : Hid (MayC (gw [] b)) := HF.out.2.1.1 rfl
   have HG : Hid (Fr w1 w.heap.size v (gw [] b) ∧ Below w.heap.size w w1) := ⟨HF.out.1, HF.out.2.2.2⟩
   clear HF
   go_wp2_with fail
   refine (mulE_any s v es (gw [] b) _ (H.out.later HG.out.2) HG.out.1.fs).mono ?_
   rintro e w2 ⟨⟨v2, cs, t2, rfl, hF2, k1, k2, k3⟩, hb2⟩
   have H2 : Hid (Fr w2 w.heap.size v2 cs ∧ (t2 = true ↔ MayS es ∧ MayS (gw [] b)) ∧ (t2 = true → SumS ((vals es).sum * (vals (gw [] b)).sum) cs) ∧ (t2 = false → cs = []) ∧ Below w.heap.size w w2) := ⟨hF2.mono HG.out.2.size, k1, k2, k3, HG.out.2.trans (hb2.mono HG.out.2.size)⟩
   clear hF2 k1 k2 k3 hb2
   go_wp2
   go_ret2
   exact ⟨⟨v2, cs, t2, rfl, H2.out.1, ⟨fun h => ⟨HM.out, H2.out.2.1.1 h⟩, fun h => H2.out.2.1.2 h.2⟩, H2.out.2.2.1, H2.out.2.2.2.1⟩, H2.out.2.2.2.2⟩
end

/- works: what each statement of package expand asks first. -/
section
open Go.RowKit Go.Shelf
theorem v_tiny : fval 3706462493325918208 = U 874 := by
 have := fval_rung 822 4503599627370496 (by omega) (Or.inr (by omega)) (by omega)
 have h := U_52 822
 rw [show (3706462493325918208 : Nat) = 822 * 4503599627370496 + 4503599627370496 from rfl, this]
 exact h.symm
theorem v_one : fval 4607182418800017408 = U 1074 := by
 have := fval_rung 1022 4503599627370496 (by omega) (Or.inr (by omega)) (by omega)
 have h := U_52 1022
 rw [show (4607182418800017408 : Nat) = 1022 * 4503599627370496 + 4503599627370496 from rfl, this]
 exact h.symm
theorem v_less : fval 13830554455654793216 = -U 1074 := by
 rw [show (13830554455654793216 : Nat) = 9223372036854775808 + 4607182418800017408 from rfl, fval_word (by omega), v_one]
theorem v_mtiny : fval 12929834530180694016 = -U 874 := by
 rw [show (12929834530180694016 : Nat) = 9223372036854775808 + 3706462493325918208 from rfl, fval_word (by omega), v_tiny]
theorem U_one : U 1074 = 1 := by unfold U; exact p2_zero
theorem near_one {y : Rat} (hf : F y) (h : ab (y - 1) < U 1021) : y = 1 := by
 obtain ⟨S, m, e, m1, m2⟩ := hf
 rcases Nat.lt_or_ge S 1021 with hS | hS
 · exfalso
   have h1 := F.abs e m1 m2
   have h2 : 9007199254740992 * U S = U (S + 53) := by rw [U_add]; rfl
   have h3 := U_mono (show S + 53 ≤ 1073 by omega)
   have h4 : U 1074 = 2 * U 1073 := U_succ 1073
   have h5 := U_mono (show 1021 ≤ 1072 by omega)
   have h6 : U 1073 = 2 * U 1072 := U_succ 1072
   rw [U_one] at h4
   have := (ab_lt.1 h)
   grind
 · have my : M (U 1021) y := M.down hS ⟨m, e⟩
   have m1' : M (U 1021) (1 : Rat) := by
     have : M (U 1074) (1 : Rat) := ⟨1, by rw [U_one, show ((1 : Int) : Rat) = 1 from rfl]; grind⟩
     exact this.down (by omega)
   have hd := my.sub m1'
   apply Classical.byContradiction
   intro hn
   have := hd.ge (U_pos _) (by grind)
   grind
theorem not_both {z : Rat} (hf : F z) (h : z = U 1074 + U 874) : False := by
 obtain ⟨S, m, e, m1, m2⟩ := hf
 rcases Nat.lt_or_ge S 875 with hS | hS
 · have h1 := F.abs e m1 m2
   have h2 : 9007199254740992 * U S = U (S + 53) := by rw [U_add]; rfl
   have h3 := U_mono (show S + 53 ≤ 1000 by omega)
   have h4 := U_lt_iff.2 (show 1000 < 1074 by omega)
   have h5 := U_pos 874
   grind
 · have mz : M (U 875) z := M.down hS ⟨m, e⟩
   have m1' : M (U 875) (U 1074) := by
     have : M (U 1074) (U 1074) := ⟨1, by rw [show ((1 : Int) : Rat) = 1 from rfl]; grind⟩
     exact this.down (by omega)
   have hd := mz.sub m1'
   rw [h, show U 1074 + U 874 - U 1074 = U 874 by grind] at hd
   have h1 := hd.ge (U_pos _) (by have := U_pos 874; grind)
   have h2 := U_succ 874
   have h3 := U_pos 874
   rw [ab, if_neg (by grind)] at h1
   grind
theorem two_floats {bs : List Nat} (h : SumS (U 1074 + U 874) bs) (hl : bs.length ≤ 2) : ∃ x y, bs = [x, y] ∧ fval x = U 874 ∧ fval y = 1 := by
 have hs := h.sum
 have hu := h.up
 have u8 := U_pos 874
 have u1 := U_pos 1074
 match bs, hl with
 | [], _ => simp [vals] at hs; grind
 | [b], _ =>
   have h0 : fval b + 0 = U 1074 + U 874 := by simpa [vals] using hs
   have : fval b = U 1074 + U 874 := by grind
   exact (not_both (F_fval (hu.fin b (by simp))) this).elim
 | [x, y], _ =>
   have h0 : fval x + (fval y + 0) = U 1074 + U 874 := by simpa [vals] using hs
   have he : fval x + fval y = U 1074 + U 874 := by grind
   have hx := F_fval (hu.fin x (by simp))
   have hy := F_fval (hu.fin y (by simp))
   have hlo : Lo (fval x) (fval y) := by have := hu.ex.1; simp [vals] at this; exact this
   obtain ⟨t, t1, t2⟩ := hlo
   have key : fval y = 1 := by
     rcases Nat.lt_or_ge t 875 with ht | ht
     · apply near_one hy
       have a := U_mono (show t ≤ 874 by omega)
       have b := U_succ 874
       have c := U_lt_iff.2 (show 875 < 1021 by omega)
       rw [U_one] at he
       rw [show fval y - 1 = U 874 - fval x by grind]
       have d := ab_lt.1 t1
       exact ab_lt.2 ⟨by grind, by grind⟩
     · have my : M (U 875) (fval y) := t2.down ht
       have m1' : M (U 875) (U 1074) := by
         have : M (U 1074) (U 1074) := ⟨1, by rw [show ((1 : Int) : Rat) = 1 from rfl]; grind⟩
         exact this.down (by omega)
       obtain ⟨S, m, e, m1, m2⟩ := hx
       rcases Nat.lt_or_ge S 875 with hS | hS
       · apply near_one hy
         have h1 := F.abs e m1 m2
         have h2 : 9007199254740992 * U S = U (S + 53) := by rw [U_add]; rfl
         have h3 := U_mono (show S + 53 ≤ 927 by omega)
         have h4 := U_mono (show 874 ≤ 927 by omega)
         have h5 : U 928 = 2 * U 927 := U_succ 927
         have h6 := U_lt_iff.2 (show 928 < 1021 by omega)
         have h7 := U_pos 927
         rw [U_one] at he
         rw [show fval y - 1 = U 874 - fval x by grind]
         exact ab_lt.2 ⟨by grind, by grind⟩
       · exfalso
         have mx : M (U 875) (fval x) := M.down hS ⟨m, e⟩
         have hd := (mx.add my).sub m1'
         rw [show fval x + fval y - U 1074 = U 874 by grind] at hd
         have h1 := hd.ge (U_pos _) (by grind)
         have h2 := U_succ 874
         rw [ab, if_neg (by grind)] at h1
         grind
   refine ⟨x, y, rfl, ?_, key⟩
   rw [key, U_one] at he
   grind
theorem none_floats {bs : List Nat} (h : SumS 0 bs) : bs = [] := by
 apply Classical.byContradiction
 intro hne
 obtain ⟨ds, hd⟩ := vals_last hne
 have e2 : vals bs = vals ds ++ [fval (lastW bs)] := by
   conv => lhs; rw [hd]
   simp [vals]
 have h1 := sgq_last h.up.ex
 rw [h.sum] at h1
 have h2 := h.up.ex.2 (fval (lastW bs)) (by rw [e2]; simp)
 have h3 : sgq (fval (lastW bs)) = 0 := h1
 unfold sgq at h3
 rw [if_neg h2] at h3
 split at h3 <;> omega
theorem may_tiny_one : MayP 2580562586483294208 6633802251116740608 [3706462493325918208, 4607182418800017408] ∧ MayP 2580562586483294208 6633802251116740608 [3706462493325918208, 13830554455654793216] ∧ MayP 0 9065746049896808448 [12929834530180694016, 4607182418800017408] ∧ MayP 0 8660422083433463808 [4607182418800017408] ∧ MayP 0 8660422083433463808 [3706462493325918208] := by
 have u8 := U_pos 874
 have u1 := U_pos 1074
 have hlt := U_lt_iff.2 (show 874 < 1074 by omega)
 have m1 : M (U 1074) (U 1074) := ⟨1, by rw [show ((1 : Int) : Rat) = 1 from rfl]; grind⟩
 have a8 : ab (U 874) = U 874 := by rw [ab, if_neg (by grind)]
 refine ⟨up_may ⟨?_, ?_⟩ (by simp) ?_, up_may ⟨?_, ?_⟩ (by simp) ?_, up_may ⟨?_, ?_⟩ (by simp) ?_, up_may ⟨?_, ?_⟩ (by simp) ?_, up_may ⟨?_, ?_⟩ (by simp) ?_⟩
 · simp [vals, v_tiny, v_one]; exact ⟨1074, by rw [a8]; exact hlt, m1⟩
 · simp [vals, v_tiny, v_one]; exact ⟨by grind, by grind⟩
 · simp [frung]
 · simp [vals, v_tiny, v_less]; exact ⟨1074, by rw [a8]; exact hlt, m1.neg⟩
 · simp [vals, v_tiny, v_less]; exact ⟨by grind, by grind⟩
 · simp [frung]
 · simp [vals, v_mtiny, v_one]; exact ⟨1074, by rw [ab_neg, a8]; exact hlt, m1⟩
 · simp [vals, v_mtiny, v_one]; exact ⟨by grind, by grind⟩
 · simp [frung]
 · simp [vals]
 · simp [vals, v_one]; grind
 · simp [frung]
 · simp [vals]
 · simp [vals, v_tiny]; grind
 · simp [frung]
end

/- The document's side of package expand: which lists may be. -/
section
open Go.RowKit Go.Shelf
attribute [local go_sem ↓] Go.wp_at_zero Go.wp_at_succ
attribute [local go_sem] run_store_float
end

/- The document's side of package expand: Check, Safe, Addable, Number. -/
section
open Go.RowKit Go.Shelf
attribute [local go_sem ↓] Go.wp_at_zero Go.wp_at_succ
end
end Go.Proofs.Ytjcdbbdbmcbjpaa
