/- Own texts, put together: Lk Pi. -/
import Derived.Test.YtglcngjllfgdpaaQ13
import Derived.Deep.RegionHeld3
import Derived.Deep.DeepCutAuto
/- A drawn region, operation by operation, where some are not wanted. -/
namespace Go.Proofs.Ytglcngjllfgdpaa
open Go

section
variable {P : Program} {ops : Array Oper} {Q : Exit → Act → World → Prop} {md : Region.Mode} {S : World → Prop}

theorem take_at {i : Nat} {d : Option Tmp} {v : Value} {fuel : Nat} {listed : Array Bool} {a : Act} {w : World} (hd : (ops[i]?).map (·.dst) = some d)
    (hs : Region.noSelect ops = true) (hf : Region.free md ops listed i = true) (hr : (Region.ready md ops listed).contains i = true)
    (hQ : ∀ c a w, Q (.panic c) (a.put d v) w → Q (.panic c) a w) (hy : ∀ oi, ops[i]? = some oi → YieldsIf P ops S oi v a) (hS : S w)
    (h : wpAnyH P md ops Q S fuel (listed.setIfInBounds i true) (a.put d v) w) : wpAnyH P md ops Q S (fuel + 1) listed a w := by
  cases ho : ops[i]? with
  | none => rw [ho] at hd; cases hd
  | some oi =>
    rw [ho] at hd
    have e : oi.dst = d := Option.some.inj hd
    subst e
    exact wpAnyH_take ho hs hf hr hQ (hy oi ho) hS h

/-- What is not wanted is passed by. -/
theorem skip_at (i : Nat) {d : Option Tmp} {fuel : Nat} {listed : Array Bool} {a : Act} {w : World} (hd : (ops[i]?).map (·.dst) = some d)
    (hs : Region.noSelect ops = true) (hf : Region.free md ops listed i = true) (hr : (Region.ready md ops listed).contains i = true)
    (hQ : ∀ c a w, Q (.panic c) (a.put d undef) w → Q (.panic c) a w) (hw : (ops[i]?).map (fun o => Region.wanted o (yielded ops a.tmps)) = some false) (hS : S w)
    (h : wpAnyH P md ops Q S fuel (listed.setIfInBounds i true) (a.put d undef) w) : wpAnyH P md ops Q S (fuel + 1) listed a w :=
  take_at hd hs hf hr hQ (fun oi ho => Or.inr ⟨by rw [ho] at hw; exact Option.some.inj hw, rfl⟩) hS h

theorem call_at (i : Nat) {fuel : Nat} {listed : Array Bool} {a : Act} {w : World} (hr : Region.ready md ops listed = [i])
    (hi : (ops[i]?).isSome = true)
    (h : ∀ o, ops[i]? = some o → ∀ K' : Act → World → Prop, Shut (∀ a w, S w → (S w → wpAnyH P md ops Q S fuel (listed.setIfInBounds i true) a w) → K' a w) → if Region.wanted o (yielded ops a.tmps) = true then Oper.wp P o a w K' Q else K' (a.put o.dst undef) w) :
    wpAnyH P md ops Q S (fuel + 1) listed a w := by
  obtain ⟨o, ho⟩ := Option.isSome_iff_exists.1 hi
  exact wpAnyH_ready hr (by simp) (AllReadyH.cons ho (h o ho) AllReadyH.nil)
end

end Go.Proofs.Ytglcngjllfgdpaa

/- ExpandSigns: the law's walk. -/
namespace Go.Proofs.Ytglcngjllfgdpaa
open Go.RowKit Go.Shelf
attribute [local go_sem ↓] Go.wp_at_zero Go.wp_at_succ
attribute [local go_sem] run_store_float

/-- Two numbers in boxes of the call's own. -/
structure NM (w W : World) (S1 E1 : Int) (v1 : Value) (q1 : Rat) (S2 E2 : Int) (v2 : Value) (q2 : Rat) : Prop where
  n : BoxN W w.heap.size S1 v1 E1
  m : BoxN W (w.heap.size + 1) S2 v2 E2
  rn : Rf W (.agg #[.int .i64 S1, v1, .int .i64 E1]) q1
  rm : Rf W (.agg #[.int .i64 S2, v2, .int .i64 E2]) q2
  bel : Below w.heap.size w W
theorem NM.start (w : World) : NM w ((w.alloc (.cells #[.int .i64 0, .slice none 0 0, .int .i64 0] 33)).alloc (.cells #[.int .i64 0, .slice none 0 0, .int .i64 0] 33)) 0 0 (.slice none 0 0) 0 0 0 (.slice none 0 0) 0 :=
  ⟨(BoxN.new w 0 0 _).alloc _, by have := BoxN.new (w.alloc (.cells #[.int .i64 0, .slice none 0 0, .int .i64 0] 33)) 0 0 (.slice none 0 0); simpa using this, rf_zero _, rf_zero _, ((Below.refl _ w).alloc (Nat.le_refl _) _).alloc (by simp) _⟩
theorem NM.later {w W W' : World} {S1 E1 S2 E2 : Int} {v1 v2 : Value} {q1 q2 : Rat} (h : NM w W S1 E1 v1 q1 S2 E2 v2 q2) (hb : Below W.heap.size W W') : NM w W' S1 E1 v1 q1 S2 E2 v2 q2 := ⟨h.n.later hb, h.m.later hb, h.rn.later hb, h.rm.later hb, below_step h.bel hb⟩
theorem NM.setN {w W : World} {S1 E1 S2 E2 S E : Int} {v1 v2 v : Value} {q1 q2 q : Rat} (h : NM w W S1 E1 v1 q1 S2 E2 v2 q2) (hr : Rf W (.agg #[.int .i64 S, v, .int .i64 E]) q) : NM w (((W.setCell ⟨w.heap.size, 0, none⟩ (.int .i64 S)).setCell ⟨w.heap.size, 1, none⟩ v).setCell ⟨w.heap.size, 2, none⟩ (.int .i64 E)) S E v q S2 E2 v2 q2 :=
  ⟨h.n.set3, h.m.other3 (by omega) _ _ _, hr.boxed (other_box h.n) _ _ _, h.rm.boxed (other_box h.n) _ _ _, ((h.bel.setCell (Nat.le_refl _) _).setCell (Nat.le_refl _) _).setCell (Nat.le_refl _) _⟩
theorem NM.setM {w W : World} {S1 E1 S2 E2 S E : Int} {v1 v2 v : Value} {q1 q2 q : Rat} (h : NM w W S1 E1 v1 q1 S2 E2 v2 q2) (hr : Rf W (.agg #[.int .i64 S, v, .int .i64 E]) q) : NM w (((W.setCell ⟨w.heap.size + 1, 0, none⟩ (.int .i64 S)).setCell ⟨w.heap.size + 1, 1, none⟩ v).setCell ⟨w.heap.size + 1, 2, none⟩ (.int .i64 E)) S1 E1 v1 q1 S E v q :=
  ⟨h.n.other3 (by omega) _ _ _, h.m.set3, h.rn.boxed (other_box h.m) _ _ _, hr.boxed (other_box h.m) _ _ _, ((h.bel.setCell (by show w.heap.size ≤ w.heap.size + 1; omega) _).setCell (by show w.heap.size ≤ w.heap.size + 1; omega) _).setCell (by show w.heap.size ≤ w.heap.size + 1; omega) _⟩
theorem near0 : NearS 0 0 := by
  unfold NearS
  rw [fval0]
  refine ⟨?_, rfl⟩
  show 1125899906842624 * ab (0 - 0) ≤ ab 0
  unfold ab
  grind
theorem below_eq {w w' : World} (h : w' = w) : Below w.heap.size w w' := by rw [h]; exact Below.refl _ _
theorem and_f {a b : Bool} (h : (a && b) = false) : a = false ∨ b = false := by
  cases a
  · exact Or.inl rfl
  · exact Or.inr h
theorem and_t {a b : Bool} (h : (a && b) = true) : a = true ∧ b = true := by
  cases a
  · exact Bool.noConfusion h
  · exact ⟨rfl, h⟩
theorem bool_iff {a b : Bool} {p : Prop} (h1 : a = true ↔ p) (h2 : b = true ↔ p) : a = b := by
  cases a <;> cases b
  · rfl
  · exact absurd (h1.2 (h2.1 rfl)) (by simp)
  · exact absurd (h2.2 (h1.1 rfl)) (by simp)
  · rfl

set_option maxRecDepth 100000 in
set_option maxHeartbeats 16000000 in
theorem signs_law (a1 a2 : Option Addr) (n m c1 c2 x : Nat) (es fs : List Nat) (w : World) (hs : Fs w (.slice a1 n c1) es) (hs2 : Fs w (.slice a2 m c2) fs) (hn : es.length = n) (hm : fs.length = m) (z1 : ∀ k c, Value.slice a1 n c1 = .slice none k c → k = 0 ∧ c = 0) (hb : x < 18446744073709551616) :
    Calls Try.prog 8 #[.slice a1 n c1, .slice a2 m c2, .float .f64 x] w fun e w' => e = .returned (.bool true) ∧ Below w.heap.size w w' := by
  have H : Hid (Fs w (.slice a1 n c1) es ∧ es.length = n ∧ ∀ k c, Value.slice a1 n c1 = .slice none k c → k = 0 ∧ c = 0) := ⟨hs, hn, z1⟩
  have H2 : Hid (Fs w (.slice a2 m c2) fs ∧ fs.length = m) := ⟨hs2, hm⟩
  have HBW : Hid (x < 18446744073709551616) := hb
  clear hs hs2 hn hm z1 hb
  go_enter Try.func8, Try.ntmps8
  go_wp2_with fail
  refine (long_any a1 a2 n m c1 c2 _).mono ?_
  rintro e w1 ⟨rfl, hw1⟩
  obtain rfl := hw1.symm
  by_cases hlong : 200 < n ∨ 200 < m
  · rw [decide_eq_true hlong]
    clear hlong
    go_wp2
    go_ret
    exact ⟨rfl, Below.refl _ _⟩
  · rw [decide_eq_false hlong]
    have HL : Hid (n ≤ 200 ∧ m ≤ 200) := by show _ ∧ _; omega
    have l1 : (n : Int) ≤ 200 := by omega
    have l2 : (m : Int) ≤ 200 := by omega
    clear hlong
    have hbA : Hid (Below w.heap.size w (w.alloc (.cells #[] 22))) := (Below.refl _ w).alloc (Nat.le_refl _) _
    go_wp2_with (at_builtin; refine wpList_copy _ rfl (.tmp 21) (.tmp 22) rfl w.heap.size w.heap.size rfl (World.ownsRow_made w #[] 0 (Nat.le_refl _) (Nat.zero_le _) rfl) _ es rfl (H.out.1.later hbA.out) H.out.2.2 (by have := H.out.2.1; have := HL.out; omega) (by simp) ?_; intro vp w1 hFp hbp; obtain ⟨⟨ap, cp, ep, _⟩, _⟩ := hFp.fs; subst ep; have HP : Hid (Fr w1 w.heap.size (.slice ap es.length cp) es ∧ Below w.heap.size w w1) := ⟨hFp, hbA.out.trans hbp⟩; clear hFp hbp)
    clear hbA
    refine (refCheck3_any _ es _ (H.out.1.later HP.out.2)).mono ?_
    rintro e w2 ⟨⟨m1, rfl, hm1⟩, hb2⟩
    have HM1 : Hid (m1 = true ↔ MayC es) := hm1
    have HP2 : Hid (Fr w2 w.heap.size (.slice ap es.length cp) es ∧ Below w.heap.size w w2) := ⟨HP.out.1.later hb2, below_step HP.out.2 hb2⟩
    clear hm1 hb2 HP
    go_wp2_with fail
    refine (refCheck3_any _ fs _ (H2.out.1.later HP2.out.2)).mono ?_
    rintro e w3 ⟨⟨m2, rfl, hm2⟩, hb3⟩
    have HM2 : Hid (m2 = true ↔ MayC fs) := hm2
    have HP3 : Hid (Fr w3 w.heap.size (.slice ap es.length cp) es ∧ Below w.heap.size w w3) := ⟨HP2.out.1.later hb3, below_step HP2.out.2 hb3⟩
    clear hm2 hb3 HP2
    obtain ⟨q1, hq1⟩ : ∃ q, Hid ((m1 = true → q = (vals es).sum) ∧ (m1 = false → q = 0)) := by
      cases m1
      · exact ⟨0, fun h => Bool.noConfusion h, fun _ => rfl⟩
      · exact ⟨_, fun _ => rfl, fun h => Bool.noConfusion h⟩
    obtain ⟨q2, hq2⟩ : ∃ q, Hid ((m2 = true → q = (vals fs).sum) ∧ (m2 = false → q = 0)) := by
      cases m2
      · exact ⟨0, fun h => Bool.noConfusion h, fun _ => rfl⟩
      · exact ⟨_, fun _ => rfl, fun h => Bool.noConfusion h⟩
    have HN0 : Hid (NM w3 ((w3.alloc (.cells #[.int .i64 0, .slice none 0 0, .int .i64 0] 33)).alloc (.cells #[.int .i64 0, .slice none 0 0, .int .i64 0] 33)) 0 0 (.slice none 0 0) 0 0 0 (.slice none 0 0) 0) := NM.start w3
    go_upto_if 30 with fail
    go_cut [] (fun wx => ∃ (S1 E1 : Int) (g1 : Option Addr) (l1 k1 : Nat), Hid (NM w3 wx S1 E1 (.slice g1 l1 k1) q1 0 0 (.slice none 0 0) 0))
    case first =>
      cases m1
      · obtain rfl := hq1.out.2 rfl
        go_wp2_with fail
        go_meet
        exact ⟨0, 0, none, 0, 0, HN0⟩
      · obtain rfl := hq1.out.1 rfl
        have HC1 : Hid (MayC es) := HM1.out.1 rfl
        go_wp2_with fail
        refine (number_any _ es _ (H.out.1.later (below_step HP3.out.2 HN0.out.bel)) HC1.out.1 (check_up HC1.out).fin).mono ?_
        rintro e w4 ⟨v4, rfl, hr4, hb4⟩
        obtain ⟨S1, g1, l1', k1, E1, rfl⟩ := hr4.agg
        have HN4 : Hid (NM w3 w4 0 0 (.slice none 0 0) 0 0 0 (.slice none 0 0) 0) := HN0.out.later hb4
        have HR4 : Hid (Rf w4 (.agg #[.int .i64 S1, .slice g1 l1' k1, .int .i64 E1]) (vals es).sum) := hr4
        obtain ⟨x0, x1, x2, xf, _⟩ := HN4.out.n.cells
        have xf0 := xf 0
        have xf1 := xf 1
        have xf2 := xf 2
        clear xf hr4 hb4
        go_wp2_with fail
        go_meet
        exact ⟨S1, E1, g1, l1', k1, HN4.out.setN HR4.out⟩
    case rest =>
      obtain ⟨S1, E1, g1, l1', k1, hN1⟩ := hcut
      obtain ⟨wd, rfl⟩ : ∃ wd, wd = wc := ⟨wc, rfl⟩
      clear HN0
      go_upto_if 33 with fail
      go_cut [] (fun wx => ∃ (S2 E2 : Int) (g2 : Option Addr) (l2 k2 : Nat), Hid (NM w3 wx S1 E1 (.slice g1 l1' k1) q1 S2 E2 (.slice g2 l2 k2) q2))
      case first =>
        cases m2
        · obtain rfl := hq2.out.2 rfl
          go_wp2_with fail
          go_meet
          exact ⟨0, 0, none, 0, 0, hN1⟩
        · obtain rfl := hq2.out.1 rfl
          have HC2 : Hid (MayC fs) := HM2.out.1 rfl
          go_wp2_with fail
          refine (number_any _ fs _ (H2.out.1.later (below_step HP3.out.2 hN1.out.bel)) HC2.out.1 (check_up HC2.out).fin).mono ?_
          rintro e w4 ⟨v4, rfl, hr4, hb4⟩
          obtain ⟨S2, g2, l2', k2, E2, rfl⟩ := hr4.agg
          have HN4 : Hid (NM w3 w4 S1 E1 (.slice g1 l1' k1) q1 0 0 (.slice none 0 0) 0) := hN1.out.later hb4
          have HR4 : Hid (Rf w4 (.agg #[.int .i64 S2, .slice g2 l2' k2, .int .i64 E2]) (vals fs).sum) := hr4
          obtain ⟨x0, x1, x2, xf, _⟩ := HN4.out.m.cells
          have xf0 := xf 0
          have xf1 := xf 1
          have xf2 := xf 2
          clear xf hr4 hb4
          go_wp2_with fail
          go_meet
          exact ⟨S2, E2, g2, l2', k2, HN4.out.setM HR4.out⟩
      case rest =>
        obtain ⟨S2, E2, g2, l2', k2, hN2⟩ := hcut
        obtain ⟨we, rfl⟩ : ∃ we, we = wc := ⟨wc, rfl⟩
        clear hN1
        have FQ1 : Hid (Fit q1 ∧ Bd 2000 (-1074) q1) := by
          have key : Bd 1088 (-1074) q1 := by
            cases hm : m1
            · rw [hq1.out.2 hm]; exact bd_zero _ _
            · rw [hq1.out.1 hm]
              have hc := HM1.out.1 hm
              exact vals_bd hc.1 (check_up hc).fin
          exact ⟨key.mono (by omega) (by omega), key.mono (by omega) (by omega)⟩
        have FQ2 : Hid (Fit q2) := by
          have key : Bd 1088 (-1074) q2 := by
            cases hm : m2
            · rw [hq2.out.2 hm]; exact bd_zero _ _
            · rw [hq2.out.1 hm]
              have hc := HM2.out.1 hm
              exact vals_bd hc.1 (check_up hc).fin
          exact key.mono (by omega) (by omega)
        obtain ⟨cc, hcc⟩ : ∃ c : Int, Hid ((m1 = true → m2 = true → c = sgq (q1 - q2)) ∧ (m1 = false ∨ m2 = false → c = 0)) := by
          cases m1
          · exact ⟨0, fun h => Bool.noConfusion h, fun _ => rfl⟩
          · cases m2
            · exact ⟨0, fun _ h => Bool.noConfusion h, fun _ => rfl⟩
            · exact ⟨_, fun _ _ => rfl, fun h => by rcases h with h | h <;> exact Bool.noConfusion h⟩
        go_upto_region 13 with fail
        go_cut [39] (fun b wx => b = .bool (m1 && m2) ∧ wx = we)
        case first =>
          cases m1 <;> (go_wp2_with fail; go_meet; exact ⟨rfl, rfl⟩)
        case rest =>
          obtain ⟨rfl, rfl⟩ := hcut
          obtain ⟨mm, hmm⟩ : ∃ mm, Hid ((m1 && m2) = mm) := ⟨_, rfl⟩
          rw [hmm.out]
          go_upto_if 39 with fail
          go_cut [12] (fun c wx => c = .int .i64 cc ∧ Hid (NM w3 wx S1 E1 (.slice g1 l1' k1) q1 S2 E2 (.slice g2 l2' k2) q2))
          case first =>
            cases mm
            · have hc0 : cc = 0 := hcc.out.2 (and_f hmm.out)
              subst hc0
              go_wp2_with fail
              go_meet
              exact ⟨rfl, hN2⟩
            · have hc0 : Hid (sgq (q1 - q2) = cc) := by
                exact (hcc.out.1 (and_t hmm.out).1 (and_t hmm.out).2).symm
              obtain ⟨x0, x1, x2, _, _⟩ := hN2.out.n.cells
              obtain ⟨y0, y1, y2, _, _⟩ := hN2.out.m.cells
              go_wp2_with fail
              refine (cmp_is _ _ q1 q2 cc _ hN2.out.rn hN2.out.rm FQ1.out.1 FQ2.out hc0.out).mono ?_
              rintro e w4 ⟨rfl, hb4⟩
              have HN4 : Hid (NM w3 w4 S1 E1 (.slice g1 l1' k1) q1 S2 E2 (.slice g2 l2' k2) q2) := hN2.out.later hb4
              clear hb4 x0 x1 x2 y0 y1 y2
              go_wp2_with fail
              go_meet
              exact ⟨rfl, HN4⟩
          case rest =>
            obtain ⟨rfl, hN3⟩ := hcut
            obtain ⟨wq, rfl⟩ : ∃ wq, wq = wc := ⟨wc, rfl⟩
            clear hN2 hmm
            have HPQ : Hid (Fr wq w.heap.size (.slice ap es.length cp) es ∧ Below w.heap.size w wq) := ⟨HP3.out.1.later hN3.out.bel, below_step HP3.out.2 hN3.out.bel⟩
            have HSG : Hid (∀ z : Int, (MayC es → z = sgq (vals es).sum) → (¬ MayC es → z = 0) → z = S1) := by
              intro z h1 h2
              obtain ⟨S', g', l', k', E', e', hs'⟩ := hN3.out.rn.sgn
              simp at e'
              obtain ⟨rfl, -, -⟩ := e'
              rw [sgq_of hs']
              cases hm : m1
              · rw [hq1.out.2 hm, h2 (fun h => by rw [HM1.out.2 h] at hm; exact Bool.noConfusion hm)]; rfl
              · rw [hq1.out.1 hm, h1 (HM1.out.1 hm)]
            have HCM : Hid (∀ z : Int, (MayC es → MayC fs → z = sgq ((vals es).sum - (vals fs).sum)) → (¬ (MayC es ∧ MayC fs) → z = 0) → z = cc) := by
              intro z h1 h2
              cases hm : m1
              · rw [hcc.out.2 (Or.inl hm)]
                exact h2 (fun h => by rw [HM1.out.2 h.1] at hm; exact Bool.noConfusion hm)
              · cases hm' : m2
                · rw [hcc.out.2 (Or.inr hm')]
                  exact h2 (fun h => by rw [HM2.out.2 h.2] at hm'; exact Bool.noConfusion hm')
                · rw [hcc.out.1 hm hm', hq1.out.1 hm, hq2.out.1 hm']
                  exact h1 (HM1.out.1 hm) (HM2.out.1 hm')
            have HNR : Hid (∀ y : Nat, (MayC es → NearS y (vals es).sum) → (¬ MayC es → y = 0) → NearS y q1) := by
              intro y h1 h2
              cases hm : m1
              · rw [hq1.out.2 hm, h2 (fun h => by rw [HM1.out.2 h] at hm; exact Bool.noConfusion hm)]; exact near0
              · rw [hq1.out.1 hm]; exact h1 (HM1.out.1 hm)
            obtain ⟨x0, x1, x2, _, _⟩ := hN3.out.n.cells
            go_upto_region 15 with fail
            go_cut [74] (fun b wx => b = .bool false ∧ Hid (Below wq.heap.size wq wx))
            case first =>
              refine wp_region_held_drew (S := (fun W => W.cell? ⟨w3.heap.size, 0, none⟩ = some (.int .i64 S1) ∧ W.cell? ⟨w3.heap.size, 1, none⟩ = some (.slice g1 l1' k1) ∧ W.cell? ⟨w3.heap.size, 2, none⟩ = some (.int .i64 E1) ∧ Below wq.heap.size wq W)) (by kernel_rfl) ⟨x0, x1, x2, (Below.refl _ _).drew⟩ (fun hS => ?_)
              refine take_at (i := 0) (d := some 43) (v := .slice ap es.length cp) (by kernel_rfl) (by kernel_rfl) (by kernel_rfl) (by kernel_rfl) (fun _ _ _ h => h) ?_ hS ?_
              · intro o ho
                simp only [List.getElem?_toArray, List.getElem?_cons_zero, Option.some.injEq] at ho
                subst ho
                refine Or.inl ⟨by rfl, ?_⟩
                intro w hSw
                (try dsimp only at hSw)
                go_simp
              simp only [Act.put, List.setIfInBounds_toArray, List.set_cons_zero, List.set_cons_succ]
              refine take_at (i := 2) (d := some 45) (v := .bool m1) (by kernel_rfl) (by kernel_rfl) (by kernel_rfl) (by kernel_rfl) (fun _ _ _ h => h) ?_ hS ?_
              · intro o ho
                simp only [List.getElem?_toArray, List.getElem?_cons_succ, List.getElem?_cons_zero, Option.some.injEq] at ho
                subst ho
                refine Or.inl ⟨by rfl, ?_⟩
                intro w hSw
                (try dsimp only at hSw)
                go_simp
              simp only [Act.put, List.setIfInBounds_toArray, List.set_cons_zero, List.set_cons_succ]
              refine call_at 1 (by kernel_rfl) (by kernel_rfl) ?_
              intro o ho
              simp only [List.getElem?_toArray, List.getElem?_cons_succ, List.getElem?_cons_zero, Option.some.injEq] at ho
              subst ho
              intro KF hK
              go_simp
              refine (check_any _ es _ (HPQ.out.1.fs.later hS.2.2.2)).mono ?_
              rintro e wx ⟨⟨t, rfl, ht⟩, hw⟩
              obtain rfl : m1 = t := (bool_iff ht HM1.out).symm
              have hbx := below_eq hw
              clear ht hw
              go_wp2_with fail
              refine hK.out _ _ (keepN3 hS hbx) ?_
              clear hS hbx
              intro hS
              clear hK KF
              try simp only [Act.put, List.setIfInBounds_toArray, List.set_cons_zero, List.set_cons_succ]
              refine take_at (i := 3) (d := some 46) (v := .bool false) (by kernel_rfl) (by kernel_rfl) (by kernel_rfl) (by kernel_rfl) (fun _ _ _ h => h) ?_ hS ?_
              · intro o ho
                simp only [List.getElem?_toArray, List.getElem?_cons_succ, List.getElem?_cons_zero, Option.some.injEq] at ho
                subst ho
                refine Or.inl ⟨by rfl, ?_⟩
                intro w hSw
                (try dsimp only at hSw)
                go_simp
              simp only [Act.put, List.setIfInBounds_toArray, List.set_cons_zero, List.set_cons_succ]
              refine take_at (i := 4) (d := some 47) (v := .bool false) (by kernel_rfl) (by kernel_rfl) (by kernel_rfl) (by kernel_rfl) (fun _ _ _ h => h) ?_ hS ?_
              · intro o ho
                simp only [List.getElem?_toArray, List.getElem?_cons_succ, List.getElem?_cons_zero, Option.some.injEq] at ho
                subst ho
                refine Or.inl ⟨by rfl, ?_⟩
                intro w hSw
                (try dsimp only at hSw)
                go_simp
              simp only [Act.put, List.setIfInBounds_toArray, List.set_cons_zero, List.set_cons_succ]
              refine take_at (i := 5) (d := some 48) (v := .slice ap es.length cp) (by kernel_rfl) (by kernel_rfl) (by kernel_rfl) (by kernel_rfl) (fun _ _ _ h => h) ?_ hS ?_
              · intro o ho
                simp only [List.getElem?_toArray, List.getElem?_cons_succ, List.getElem?_cons_zero, Option.some.injEq] at ho
                subst ho
                refine Or.inl ⟨by rfl, ?_⟩
                intro w hSw
                (try dsimp only at hSw)
                go_simp
              simp only [Act.put, List.setIfInBounds_toArray, List.set_cons_zero, List.set_cons_succ]
              refine take_at (i := 7) (d := some 50) (v := .slice a1 n c1) (by kernel_rfl) (by kernel_rfl) (by kernel_rfl) (by kernel_rfl) (fun _ _ _ h => h) ?_ hS ?_
              · intro o ho
                simp only [List.getElem?_toArray, List.getElem?_cons_succ, List.getElem?_cons_zero, Option.some.injEq] at ho
                subst ho
                refine Or.inl ⟨by rfl, ?_⟩
                intro w hSw
                (try dsimp only at hSw)
                go_simp
              simp only [Act.put, List.setIfInBounds_toArray, List.set_cons_zero, List.set_cons_succ]
              refine call_at 6 (by kernel_rfl) (by kernel_rfl) ?_
              intro o ho
              simp only [List.getElem?_toArray, List.getElem?_cons_succ, List.getElem?_cons_zero, Option.some.injEq] at ho
              subst ho
              intro KF hK
              go_simp
              refine (safeE_any _ es _ (HPQ.out.1.fs.later hS.2.2.2)).mono ?_
              rintro e wx ⟨⟨s1, rfl, hs1⟩, hw⟩
              have hbx := below_eq hw
              clear hw
              go_wp2_with fail
              refine hK.out _ _ (keepN3 hS hbx) ?_
              clear hS hbx
              intro hS
              clear hK KF
              try simp only [Act.put, List.setIfInBounds_toArray, List.set_cons_zero, List.set_cons_succ]
              refine call_at 8 (by kernel_rfl) (by kernel_rfl) ?_
              intro o ho
              simp only [List.getElem?_toArray, List.getElem?_cons_succ, List.getElem?_cons_zero, Option.some.injEq] at ho
              subst ho
              intro KF hK
              go_simp
              refine (refSafe3_any _ es _ (H.out.1.later (below_step HPQ.out.2 hS.2.2.2))).mono ?_
              rintro e wx ⟨⟨t, rfl, ht⟩, hbx⟩
              obtain rfl : s1 = t := (bool_iff ht hs1).symm
              clear ht hs1
              go_wp2_with fail
              refine hK.out _ _ (keepN3 hS hbx) ?_
              clear hS hbx
              intro hS
              clear hK KF
              try simp only [Act.put, List.setIfInBounds_toArray, List.set_cons_zero, List.set_cons_succ]
              refine take_at (i := 9) (d := some 52) (v := .bool false) (by kernel_rfl) (by kernel_rfl) (by kernel_rfl) (by kernel_rfl) (fun _ _ _ h => h) ?_ hS ?_
              · intro o ho
                simp only [List.getElem?_toArray, List.getElem?_cons_succ, List.getElem?_cons_zero, Option.some.injEq] at ho
                subst ho
                refine Or.inl ⟨by rfl, ?_⟩
                intro w hSw
                (try dsimp only at hSw)
                go_simp
              simp only [Act.put, List.setIfInBounds_toArray, List.set_cons_zero, List.set_cons_succ]
              refine take_at (i := 10) (d := some 53) (v := .bool false) (by kernel_rfl) (by kernel_rfl) (by kernel_rfl) (by kernel_rfl) (fun _ _ _ h => h) ?_ hS ?_
              · intro o ho
                simp only [List.getElem?_toArray, List.getElem?_cons_succ, List.getElem?_cons_zero, Option.some.injEq] at ho
                subst ho
                refine Or.inl ⟨by rfl, ?_⟩
                intro w hSw
                (try dsimp only at hSw)
                go_simp
              simp only [Act.put, List.setIfInBounds_toArray, List.set_cons_zero, List.set_cons_succ]
              refine take_at (i := 11) (d := some 54) (v := .bool false) (by kernel_rfl) (by kernel_rfl) (by kernel_rfl) (by kernel_rfl) (fun _ _ _ h => h) ?_ hS ?_
              · intro o ho
                simp only [List.getElem?_toArray, List.getElem?_cons_succ, List.getElem?_cons_zero, Option.some.injEq] at ho
                subst ho
                refine Or.inl ⟨by rfl, ?_⟩
                intro w hSw
                (try dsimp only at hSw)
                go_simp
              simp only [Act.put, List.setIfInBounds_toArray, List.set_cons_zero, List.set_cons_succ]
              refine take_at (i := 12) (d := some 55) (v := .slice ap es.length cp) (by kernel_rfl) (by kernel_rfl) (by kernel_rfl) (by kernel_rfl) (fun _ _ _ h => h) ?_ hS ?_
              · intro o ho
                simp only [List.getElem?_toArray, List.getElem?_cons_succ, List.getElem?_cons_zero, Option.some.injEq] at ho
                subst ho
                refine Or.inl ⟨by rfl, ?_⟩
                intro w hSw
                (try dsimp only at hSw)
                go_simp
              simp only [Act.put, List.setIfInBounds_toArray, List.set_cons_zero, List.set_cons_succ]
              refine take_at (i := 14) (d := some 57) (v := .pointer (some ⟨w3.heap.size, 0, none⟩)) (by kernel_rfl) (by kernel_rfl) (by kernel_rfl) (by kernel_rfl) (fun _ _ _ h => h) ?_ hS ?_
              · intro o ho
                simp only [List.getElem?_toArray, List.getElem?_cons_succ, List.getElem?_cons_zero, Option.some.injEq] at ho
                subst ho
                refine Or.inl ⟨by rfl, ?_⟩
                intro w hSw
                (try dsimp only at hSw)
                go_simp
              simp only [Act.put, List.setIfInBounds_toArray, List.set_cons_zero, List.set_cons_succ]
              refine take_at (i := 15) (d := some 58) (v := .int .i64 S1) (by kernel_rfl) (by kernel_rfl) (by kernel_rfl) (by kernel_rfl) (fun _ _ _ h => h) ?_ hS ?_
              · intro o ho
                simp only [List.getElem?_toArray, List.getElem?_cons_succ, List.getElem?_cons_zero, Option.some.injEq] at ho
                subst ho
                refine Or.inl ⟨by rfl, ?_⟩
                intro w hSw
                (try dsimp only at hSw)
                go_simp
              simp only [Act.put, List.setIfInBounds_toArray, List.set_cons_zero, List.set_cons_succ]
              refine call_at 13 (by kernel_rfl) (by kernel_rfl) ?_
              intro o ho
              simp only [List.getElem?_toArray, List.getElem?_cons_succ, List.getElem?_cons_zero, Option.some.injEq] at ho
              subst ho
              intro KF hK
              go_simp
              refine (sign_any _ es _ (HPQ.out.1.fs.later hS.2.2.2)).mono ?_
              rintro e wx ⟨⟨z, rfl, hz1, hz2⟩, hw⟩
              obtain rfl : S1 = z := (HSG.out z hz1 hz2).symm
              have hbx := below_eq hw
              clear hz1 hz2 hw
              go_wp2_with fail
              refine hK.out _ _ (keepN3 hS hbx) ?_
              clear hS hbx
              intro hS
              clear hK KF
              try simp only [Act.put, List.setIfInBounds_toArray, List.set_cons_zero, List.set_cons_succ]
              refine take_at (i := 16) (d := some 59) (v := .bool false) (by kernel_rfl) (by kernel_rfl) (by kernel_rfl) (by kernel_rfl) (fun _ _ _ h => h) ?_ hS ?_
              · intro o ho
                simp only [List.getElem?_toArray, List.getElem?_cons_succ, List.getElem?_cons_zero, Option.some.injEq] at ho
                subst ho
                refine Or.inl ⟨by rfl, ?_⟩
                intro w hSw
                (try dsimp only at hSw)
                go_simp
              simp only [Act.put, List.setIfInBounds_toArray, List.set_cons_zero, List.set_cons_succ]
              refine take_at (i := 17) (d := some 60) (v := .bool false) (by kernel_rfl) (by kernel_rfl) (by kernel_rfl) (by kernel_rfl) (fun _ _ _ h => h) ?_ hS ?_
              · intro o ho
                simp only [List.getElem?_toArray, List.getElem?_cons_succ, List.getElem?_cons_zero, Option.some.injEq] at ho
                subst ho
                refine Or.inl ⟨by rfl, ?_⟩
                intro w hSw
                (try dsimp only at hSw)
                go_simp
              simp only [Act.put, List.setIfInBounds_toArray, List.set_cons_zero, List.set_cons_succ]
              refine take_at (i := 18) (d := some 61) (v := .bool false) (by kernel_rfl) (by kernel_rfl) (by kernel_rfl) (by kernel_rfl) (fun _ _ _ h => h) ?_ hS ?_
              · intro o ho
                simp only [List.getElem?_toArray, List.getElem?_cons_succ, List.getElem?_cons_zero, Option.some.injEq] at ho
                subst ho
                refine Or.inl ⟨by rfl, ?_⟩
                intro w hSw
                (try dsimp only at hSw)
                go_simp
              simp only [Act.put, List.setIfInBounds_toArray, List.set_cons_zero, List.set_cons_succ]
              refine take_at (i := 19) (d := some 62) (v := .slice ap es.length cp) (by kernel_rfl) (by kernel_rfl) (by kernel_rfl) (by kernel_rfl) (fun _ _ _ h => h) ?_ hS ?_
              · intro o ho
                simp only [List.getElem?_toArray, List.getElem?_cons_succ, List.getElem?_cons_zero, Option.some.injEq] at ho
                subst ho
                refine Or.inl ⟨by rfl, ?_⟩
                intro w hSw
                (try dsimp only at hSw)
                go_simp
              simp only [Act.put, List.setIfInBounds_toArray, List.set_cons_zero, List.set_cons_succ]
              refine take_at (i := 20) (d := some 63) (v := .slice a2 m c2) (by kernel_rfl) (by kernel_rfl) (by kernel_rfl) (by kernel_rfl) (fun _ _ _ h => h) ?_ hS ?_
              · intro o ho
                simp only [List.getElem?_toArray, List.getElem?_cons_succ, List.getElem?_cons_zero, Option.some.injEq] at ho
                subst ho
                refine Or.inl ⟨by rfl, ?_⟩
                intro w hSw
                (try dsimp only at hSw)
                go_simp
              simp only [Act.put, List.setIfInBounds_toArray, List.set_cons_zero, List.set_cons_succ]
              refine take_at (i := 22) (d := some 65) (v := .int .i64 cc) (by kernel_rfl) (by kernel_rfl) (by kernel_rfl) (by kernel_rfl) (fun _ _ _ h => h) ?_ hS ?_
              · intro o ho
                simp only [List.getElem?_toArray, List.getElem?_cons_succ, List.getElem?_cons_zero, Option.some.injEq] at ho
                subst ho
                refine Or.inl ⟨by rfl, ?_⟩
                intro w hSw
                (try dsimp only at hSw)
                go_simp
              simp only [Act.put, List.setIfInBounds_toArray, List.set_cons_zero, List.set_cons_succ]
              refine call_at 21 (by kernel_rfl) (by kernel_rfl) ?_
              intro o ho
              simp only [List.getElem?_toArray, List.getElem?_cons_succ, List.getElem?_cons_zero, Option.some.injEq] at ho
              subst ho
              intro KF hK
              go_simp
              refine (cmp_any _ _ es fs _ (HPQ.out.1.fs.later hS.2.2.2) (H2.out.1.later (below_step HPQ.out.2 hS.2.2.2))).mono ?_
              rintro e wx ⟨⟨z, rfl, hz1, hz2⟩, hbx⟩
              obtain rfl : cc = z := (HCM.out z hz1 hz2).symm
              clear hz1 hz2
              go_wp2_with fail
              refine hK.out _ _ (keepN3 hS hbx) ?_
              clear hS hbx
              intro hS
              clear hK KF
              try simp only [Act.put, List.setIfInBounds_toArray, List.set_cons_zero, List.set_cons_succ]
              refine take_at (i := 23) (d := some 66) (v := .bool false) (by kernel_rfl) (by kernel_rfl) (by kernel_rfl) (by kernel_rfl) (fun _ _ _ h => h) ?_ hS ?_
              · intro o ho
                simp only [List.getElem?_toArray, List.getElem?_cons_succ, List.getElem?_cons_zero, Option.some.injEq] at ho
                subst ho
                refine Or.inl ⟨by rfl, ?_⟩
                intro w hSw
                (try dsimp only at hSw)
                go_simp
              simp only [Act.put, List.setIfInBounds_toArray, List.set_cons_zero, List.set_cons_succ]
              refine take_at (i := 24) (d := some 67) (v := .bool false) (by kernel_rfl) (by kernel_rfl) (by kernel_rfl) (by kernel_rfl) (fun _ _ _ h => h) ?_ hS ?_
              · intro o ho
                simp only [List.getElem?_toArray, List.getElem?_cons_succ, List.getElem?_cons_zero, Option.some.injEq] at ho
                subst ho
                refine Or.inl ⟨by rfl, ?_⟩
                intro w hSw
                (try dsimp only at hSw)
                go_simp
              simp only [Act.put, List.setIfInBounds_toArray, List.set_cons_zero, List.set_cons_succ]
              refine take_at (i := 25) (d := some 68) (v := .bool false) (by kernel_rfl) (by kernel_rfl) (by kernel_rfl) (by kernel_rfl) (fun _ _ _ h => h) ?_ hS ?_
              · intro o ho
                simp only [List.getElem?_toArray, List.getElem?_cons_succ, List.getElem?_cons_zero, Option.some.injEq] at ho
                subst ho
                refine Or.inl ⟨by rfl, ?_⟩
                intro w hSw
                (try dsimp only at hSw)
                go_simp
              simp only [Act.put, List.setIfInBounds_toArray, List.set_cons_zero, List.set_cons_succ]
              refine take_at (i := 26) (d := some 69) (v := .slice ap es.length cp) (by kernel_rfl) (by kernel_rfl) (by kernel_rfl) (by kernel_rfl) (fun _ _ _ h => h) ?_ hS ?_
              · intro o ho
                simp only [List.getElem?_toArray, List.getElem?_cons_succ, List.getElem?_cons_zero, Option.some.injEq] at ho
                subst ho
                refine Or.inl ⟨by rfl, ?_⟩
                intro w hSw
                (try dsimp only at hSw)
                go_simp
              simp only [Act.put, List.setIfInBounds_toArray, List.set_cons_zero, List.set_cons_succ]
              refine take_at (i := 28) (d := some 71) (v := (.agg #[.int .i64 S1, .slice g1 l1' k1, .int .i64 E1])) (by kernel_rfl) (by kernel_rfl) (by kernel_rfl) (by kernel_rfl) (fun _ _ _ h => h) ?_ hS ?_
              · intro o ho
                simp only [List.getElem?_toArray, List.getElem?_cons_succ, List.getElem?_cons_zero, Option.some.injEq] at ho
                subst ho
                refine Or.inl ⟨by rfl, ?_⟩
                intro w hSw
                (try dsimp only at hSw)
                go_simp
              simp only [Act.put, List.setIfInBounds_toArray, List.set_cons_zero, List.set_cons_succ]
              refine call_at 27 (by kernel_rfl) (by kernel_rfl) ?_
              intro o ho
              simp only [List.getElem?_toArray, List.getElem?_cons_succ, List.getElem?_cons_zero, Option.some.injEq] at ho
              subst ho
              intro KF hK
              go_simp
              refine (near_any _ es _ (HPQ.out.1.fs.later hS.2.2.2)).mono ?_
              rintro e wx ⟨⟨y, rfl, hy, fy, hy1, hy2⟩, hbx⟩
              have HY : Hid (y < 18446744073709551616 ∧ Fin64 y ∧ NearS y q1) := ⟨hy, fy, HNR.out y hy1 hy2⟩
              clear hy fy hy1 hy2
              go_wp2_with fail
              refine hK.out _ _ (keepN3 hS hbx) ?_
              clear hS hbx
              intro hS
              clear hK KF
              try simp only [Act.put, List.setIfInBounds_toArray, List.set_cons_zero, List.set_cons_succ]
              refine call_at 29 (by kernel_rfl) (by kernel_rfl) ?_
              intro o ho
              simp only [List.getElem?_toArray, List.getElem?_cons_succ, List.getElem?_cons_zero, Option.some.injEq] at ho
              subst ho
              intro KF hK
              go_simp
              refine (near_law y _ q1 _ HY.out.1 HY.out.2.1 (hN3.out.rn.later hS.2.2.2) FQ1.out.2 HY.out.2.2).mono ?_
              rintro e wx ⟨rfl, hbx⟩
              go_wp2_with fail
              refine hK.out _ _ (keepN3 hS hbx) ?_
              clear hS hbx
              intro hS
              clear hK KF
              try simp only [Act.put, List.setIfInBounds_toArray, List.set_cons_zero, List.set_cons_succ]
              refine take_at (i := 30) (d := some 73) (v := .bool false) (by kernel_rfl) (by kernel_rfl) (by kernel_rfl) (by kernel_rfl) (fun _ _ _ h => h) ?_ hS ?_
              · intro o ho
                simp only [List.getElem?_toArray, List.getElem?_cons_succ, List.getElem?_cons_zero, Option.some.injEq] at ho
                subst ho
                refine Or.inl ⟨by rfl, ?_⟩
                intro w hSw
                (try dsimp only at hSw)
                go_simp
              simp only [Act.put, List.setIfInBounds_toArray, List.set_cons_zero, List.set_cons_succ]
              refine take_at (i := 31) (d := some 74) (v := .bool false) (by kernel_rfl) (by kernel_rfl) (by kernel_rfl) (by kernel_rfl) (fun _ _ _ h => h) ?_ hS ?_
              · intro o ho
                simp only [List.getElem?_toArray, List.getElem?_cons_succ, List.getElem?_cons_zero, Option.some.injEq] at ho
                subst ho
                refine Or.inl ⟨by rfl, ?_⟩
                intro w hSw
                (try dsimp only at hSw)
                go_simp
              simp only [Act.put, List.setIfInBounds_toArray, List.set_cons_zero, List.set_cons_succ]
              refine wpAnyH_done (by kernel_rfl) ?_ _
              go_wp2_with fail
              go_meet
              exact ⟨rfl, hS.2.2.2⟩
            case rest =>
              obtain ⟨rfl, hb5⟩ := hcut
              have HP5 : Hid (Fr wc w.heap.size (.slice ap es.length cp) es ∧ Below w.heap.size w wc) := ⟨HPQ.out.1.later hb5.out, below_step HPQ.out.2 hb5.out⟩
              obtain ⟨wf, rfl⟩ : ∃ wf, wf = wc := ⟨wc, rfl⟩
              clear hb5 x0 x1 x2 HNR HCM HSG HPQ hN3 hcc hq1 hq2 FQ1 FQ2 HP3 HM1 HM2
              go_wp2_with fail
              refine (neg_any _ es _ HP5.out.1.fs (by have := H.out.2.1; have := HL.out; omega)).mono ?_
              rintro e w6 ⟨⟨v6, rfl, hF6⟩, hb6⟩
              obtain ⟨⟨a6, d6, e6, _⟩, _⟩ := id hF6.fs
              subst e6
              have hl6 : (es.map fflip).length = n := by rw [List.length_map]; exact H.out.2.1
              rw [hl6]
              have H6 : Hid (Fr w6 wf.heap.size (.slice a6 (es.map fflip).length d6) (es.map fflip) ∧ Below wf.heap.size wf w6) := ⟨hF6, hb6⟩
              rw [hl6] at H6
              clear hF6 hb6
              go_wp2
              have HES : Hid (∀ j, j < n → ∃ g1 o1, a1 = some ⟨g1, o1, none⟩ ∧ w.cell? ⟨g1, o1 + j, none⟩ = some (.float .f64 (es.getD j 0))) := by
                intro j hj
                obtain ⟨⟨a', c', e', _, _, f'⟩, _⟩ := H.out.1
                rcases f' with rfl | ⟨g1, o1, rfl, f'⟩
                · have := H.out.2.1; simp at this; omega
                · cases e'
                  exact ⟨g1, o1, rfl, f' j (by rw [H.out.2.1]; exact hj)⟩
              have HG0 : Hid (∃ ds : List Nat, ds.length = n ∧ Fr w6 wf.heap.size (.slice a6 n d6) ds ∧ (∀ k, 0 ≤ k → k < n → ds.getD k 0 = fflip (es.getD k 0)) ∧ Below wf.heap.size wf w6) := by
                refine ⟨_, hl6, H6.out.1, fun k _ hk => ?_, H6.out.2⟩
                have hk' : k < es.length := by rw [H.out.2.1]; exact hk
                simp [List.getD, hk']
              clear hl6 H6
              go_loopw [14] (fun i W => ∃ j : Nat, j ≤ n ∧ i = .int .i64 (j : Nat) ∧ Hid (∃ ds : List Nat, ds.length = n ∧ Fr W wf.heap.size (.slice a6 n d6) ds ∧ (∀ k, j ≤ k → k < n → ds.getD k 0 = fflip (es.getD k 0)) ∧ Below wf.heap.size wf W)) (fun i _ => n - (intOf i).toNat)
              case atStart => exact ⟨0, Nat.zero_le _, rfl, HG0.out⟩
              case round =>
                clear HG0
                obtain ⟨j, hj, rfl, hz⟩ := hrel
                by_cases hlj : j < n
                · obtain ⟨ds, hd, hf, hk, hbw⟩ := hz.out
                  obtain ⟨gg, rfl⟩ := fr_addr hf (by omega)
                  obtain ⟨g1, o1, rfl, y1⟩ := HES.out j hlj
                  have hlj' : (j : Int) < (n : Int) := by omega
                  have hj0 : (0 : Int) ≤ (j : Int) := by omega
                  have hf' := hf
                  rw [← hd] at hf'
                  have x1 := hf'.cell j (by omega)
                  have x2 := hf'.frozen j
                  rw [hk j (Nat.le_refl _) hlj] at x1
                  have y2 := box_cell (below_step HP5.out.2 hbw) y1
                  have hew : es.getD j 0 < 18446744073709551616 := getD_word H.out.1.word j
                  have HZ : Hid (ds.length = n ∧ Fr wr wf.heap.size (.slice (some ⟨gg, 0, none⟩) n d6) ds ∧ (∀ k, j ≤ k → k < n → ds.getD k 0 = fflip (es.getD k 0)) ∧ Below wf.heap.size wf wr) := ⟨hd, hf, hk, hbw⟩
                  have HEND : Hid (∀ W, W = (wr.drew.setCell ⟨gg, j, none⟩ (.float .f64 4619567317775286272)) → ∃ ds : List Nat, ds.length = n ∧ Fr W wf.heap.size (.slice (some ⟨gg, 0, none⟩) n d6) ds ∧ (∀ k, j + 1 ≤ k → k < n → ds.getD k 0 = fflip (es.getD k 0)) ∧ Below wf.heap.size wf W) := by
                    rintro W rfl
                    have h1 := HZ.out.2.1
                    rw [← HZ.out.1] at h1
                    have h1' := h1.later (w' := wr.drew) ⟨rfl, rfl, rfl, Nat.le_refl _, fun _ _ => rfl⟩
                    have h2 := h1'.set (k := j) (d := 4619567317775286272) (by omega)
                    rw [List.length_set, HZ.out.1] at h2
                    refine ⟨_, by rw [List.length_set]; exact HZ.out.1, h2, fun k hk1 hk2 => ?_, HZ.out.2.2.2.drew.setCell (p := ⟨gg, j, none⟩) HZ.out.2.1.base _⟩
                    rw [← HZ.out.2.2.1 k (by omega) hk2]
                    simp [List.getD, show ¬ j = k by omega]
                  clear hd hf hf' hk hbw hz y1
                  generalize es.getD j 0 = xx at *
                  have rn := run_negF xx hew
                  have fr2 := frung_flip hew
                  by_cases hx : frung xx ≤ 9218868437227405312
                  · have q1 : FloatKind.f64.format.order (fflip xx) (fflip xx) = some .eq := by have := eql_self (fflip xx); rw [fr2, decide_eq_true hx] at this; simpa using this
                    clear hx fr2 hew
                    generalize fflip xx = ff at *
                    go_wp2
                    go_region
                    go_wp2
                    exact ⟨⟨j + 1, by omega, by go_num, HEND.out _ rfl⟩, by simp [intOf]; omega⟩
                  · have q1 : FloatKind.f64.format.order (fflip xx) (fflip xx) = none := order_nan_left (by rw [fr2]; omega)
                    have q2 : FloatKind.f64.format.order xx xx = none := order_nan_left (by omega)
                    clear hx fr2 hew
                    generalize fflip xx = ff at *
                    go_wp2
                    go_region_held3 (fun W => W.cell? ⟨gg, j, none⟩ = some (.float .f64 ff) ∧ W.cell? ⟨g1, o1 + j, none⟩ = some (.float .f64 xx))
                      (first | assumption | exact ⟨by go_simp, by go_simp⟩)
                      (fail)
                    go_wp2
                    exact ⟨⟨j + 1, by omega, by go_num, HEND.out _ rfl⟩, by simp [intOf]; omega⟩
                · obtain rfl : j = n := by omega
                  have hltb : decide ((j : Int) < (j : Int)) = false := decide_eq_false (by omega)
                  have HP6 : Hid (Fr wr w.heap.size (.slice ap es.length cp) es ∧ Below w.heap.size w wr) := by obtain ⟨ds, _, _, _, hbw⟩ := hz.out; exact ⟨HP5.out.1.later hbw, below_step HP5.out.2 hbw⟩
                  clear hz HES
                  have q := eql_zero2 x
                  go_wp2_with fail
                  refine (of_any x _ HBW.out).mono ?_
                  rintro e w7 ⟨⟨v7, b7, o, rfl, hF7, g1, g2, g3⟩, hb7⟩
                  have H7 : Hid (Fr w7 wr.heap.size v7 b7 ∧ (o = true ↔ MayC (gw [] x)) ∧ (o = true → b7 = gw [] x) ∧ (o = false → b7 = []) ∧ Below wr.heap.size wr w7) := ⟨hF7, g1, g2, g3, hb7⟩
                  have HP7 : Hid (Fr w7 w.heap.size (.slice ap es.length cp) es ∧ Below w.heap.size w w7) := ⟨HP6.out.1.later hb7, below_step HP6.out.2 hb7⟩
                  clear hF7 g1 g2 g3 hb7 HP6
                  by_cases h0 : frung x = 0
                  · rw [decide_eq_true h0] at q
                    have HX0 : Hid (frung x = 0) := h0
                    clear h0
                    have HAL : Hid (Below w7.heap.size w7 (w7.alloc (.cells #[.float .f64 x] 22))) := (Below.refl _ w7).alloc (Nat.le_refl _) _
                    have HV : Hid (Fs (w7.alloc (.cells #[.float .f64 x] 22)) (.slice none 0 0) (gw [] x)) := fs_nought HX0.out
                    cases o
                    · obtain rfl := H7.out.2.2.2.1 rfl
                      obtain ⟨a7, d7, rfl⟩ := H7.out.1.fs.none
                      go_wp2_with fail
                      refine (refCheck3_any _ (gw [] x) _ HV.out).mono ?_
                      rintro e w8 ⟨⟨t, rfl, ht⟩, hb8⟩
                      obtain rfl : t = false := by
                        cases t
                        · rfl
                        · exact absurd (H7.out.2.1.2 (ht.1 rfl)) (by simp)
                      have HP8 : Hid (Fr w8 w.heap.size (.slice ap es.length cp) es ∧ Below w.heap.size w w8) := ⟨HP7.out.1.later (below_step HAL.out hb8), below_step HP7.out.2 (below_step HAL.out hb8)⟩
                      clear ht hb8
                      go_wp2_with fail
                      refine (same_any _ _ es _ HP8.out.1.fs (H.out.1.later HP8.out.2) (by have := H.out.2.1; have := HL.out; omega)).mono ?_
                      rintro e w9 ⟨rfl, hb9⟩
                      have HB9 : Hid (Below w.heap.size w w9) := below_step HP8.out.2 hb9
                      clear hb9
                      go_wp2
                      go_ret
                      exact ⟨rfl, HB9.out⟩
                    · obtain rfl := H7.out.2.2.1 rfl
                      go_wp2_with fail
                      refine (refCheck3_any _ (gw [] x) _ HV.out).mono ?_
                      rintro e w8 ⟨⟨t, rfl, ht⟩, hb8⟩
                      obtain rfl : t = true := ht.2 (H7.out.2.1.1 (by simp))
                      have HP8 : Hid (Fr w8 w.heap.size (.slice ap es.length cp) es ∧ Below w.heap.size w w8) := ⟨HP7.out.1.later (below_step HAL.out hb8), below_step HP7.out.2 (below_step HAL.out hb8)⟩
                      have HV8 : Hid (Fs w8 (.slice none 0 0) (gw [] x) ∧ Fs w8 v7 (gw [] x)) := ⟨HV.out.later hb8, H7.out.1.fs.later (below_step HAL.out hb8)⟩
                      clear ht hb8
                      go_wp2_with fail
                      refine (same_any _ _ (gw [] x) _ HV8.out.2 HV8.out.1 (by have := (H7.out.2.1.1 (by simp)).1; omega)).mono ?_
                      rintro e w9 ⟨rfl, hb9⟩
                      have HP9 : Hid (Fr w9 w.heap.size (.slice ap es.length cp) es ∧ Below w.heap.size w w9) := ⟨HP8.out.1.later hb9, below_step HP8.out.2 hb9⟩
                      clear hb9
                      go_wp2_with fail
                      refine (same_any _ _ es _ HP9.out.1.fs (H.out.1.later HP9.out.2) (by have := H.out.2.1; have := HL.out; omega)).mono ?_
                      rintro e w10 ⟨rfl, hb10⟩
                      have HB10 : Hid (Below w.heap.size w w10) := below_step HP9.out.2 hb10
                      clear hb10
                      go_wp2
                      go_ret
                      exact ⟨rfl, HB10.out⟩
                  · rw [decide_eq_false h0] at q
                    have HX0 : Hid (frung x ≠ 0) := h0
                    clear h0
                    have HAL : Hid (Below w7.heap.size w7 (w7.alloc (.cells #[.float .f64 x] 22))) := (Below.refl _ w7).alloc (Nat.le_refl _) _
                    have HV : Hid (Fs (w7.alloc (.cells #[.float .f64 x] 22)) (.slice (some ⟨w7.heap.size, 0, none⟩) 1 1) (gw [] x)) := fs_one HBW.out HX0.out
                    cases o
                    · obtain rfl := H7.out.2.2.2.1 rfl
                      obtain ⟨a7, d7, rfl⟩ := H7.out.1.fs.none
                      go_wp2_with fail
                      refine (refCheck3_any _ (gw [] x) _ HV.out).mono ?_
                      rintro e w8 ⟨⟨t, rfl, ht⟩, hb8⟩
                      obtain rfl : t = false := by
                        cases t
                        · rfl
                        · exact absurd (H7.out.2.1.2 (ht.1 rfl)) (by simp)
                      have HP8 : Hid (Fr w8 w.heap.size (.slice ap es.length cp) es ∧ Below w.heap.size w w8) := ⟨HP7.out.1.later (below_step HAL.out hb8), below_step HP7.out.2 (below_step HAL.out hb8)⟩
                      clear ht hb8
                      go_wp2_with fail
                      refine (same_any _ _ es _ HP8.out.1.fs (H.out.1.later HP8.out.2) (by have := H.out.2.1; have := HL.out; omega)).mono ?_
                      rintro e w9 ⟨rfl, hb9⟩
                      have HB9 : Hid (Below w.heap.size w w9) := below_step HP8.out.2 hb9
                      clear hb9
                      go_wp2
                      go_ret
                      exact ⟨rfl, HB9.out⟩
                    · obtain rfl := H7.out.2.2.1 rfl
                      go_wp2_with fail
                      refine (refCheck3_any _ (gw [] x) _ HV.out).mono ?_
                      rintro e w8 ⟨⟨t, rfl, ht⟩, hb8⟩
                      obtain rfl : t = true := ht.2 (H7.out.2.1.1 (by simp))
                      have HP8 : Hid (Fr w8 w.heap.size (.slice ap es.length cp) es ∧ Below w.heap.size w w8) := ⟨HP7.out.1.later (below_step HAL.out hb8), below_step HP7.out.2 (below_step HAL.out hb8)⟩
                      have HV8 : Hid (Fs w8 (.slice (some ⟨w7.heap.size, 0, none⟩) 1 1) (gw [] x) ∧ Fs w8 v7 (gw [] x)) := ⟨HV.out.later hb8, H7.out.1.fs.later (below_step HAL.out hb8)⟩
                      clear ht hb8
                      go_wp2_with fail
                      refine (same_any _ _ (gw [] x) _ HV8.out.2 HV8.out.1 (by have := (H7.out.2.1.1 (by simp)).1; omega)).mono ?_
                      rintro e w9 ⟨rfl, hb9⟩
                      have HP9 : Hid (Fr w9 w.heap.size (.slice ap es.length cp) es ∧ Below w.heap.size w w9) := ⟨HP8.out.1.later hb9, below_step HP8.out.2 hb9⟩
                      clear hb9
                      go_wp2_with fail
                      refine (same_any _ _ es _ HP9.out.1.fs (H.out.1.later HP9.out.2) (by have := H.out.2.1; have := HL.out; omega)).mono ?_
                      rintro e w10 ⟨rfl, hb10⟩
                      have HB10 : Hid (Below w.heap.size w w10) := below_step HP9.out.2 hb10
                      clear hb10
                      go_wp2
                      go_ret
                      exact ⟨rfl, HB10.out⟩

end Go.Proofs.Ytglcngjllfgdpaa
