import Derived.Test.YtgfloegaoofbbaaDoorQ4
import Derived.Test.YtgfloegaoofbbaaDoorQ23
import Derived.Test.YtgfloegaoofbbaaDoorQ25
import Derived.Deep.RegionHeld3
/- reads11_law: part El10 of a long walk. (capt.py) -/
/- The law ElefileReads. -/
namespace Go.Proofs.YtgfloegaoofbbaaDoor
set_option maxRecDepth 100000
open Go.RowKit Go.Shelf Go.Lib
attribute [local go_sem] run_store_float
section
variable {a : Act} {W : World} {o : Oper} {K : Act → World → Prop} {Q : Exit → Act → World → Prop}
theorem ok_cI {n : Int} (ho : o.op = .buildSlice 35 1 #[(0, .const (.int .i64 n))]) (h : K (a.put o.dst (.slice (some ⟨W.heap.size, 0, none⟩) 1 1)) (W.alloc (.cells #[.int .i64 n] 3))) : Oper.wp Tryd.prog o a W K Q := by
  unfold Oper.wp execOp
  rw [ho]
  simp only [List.map_toArray, List.map_cons, List.map_nil]
  go_simp
  exact h
theorem ok_cF {n : Nat} (ho : o.op = .buildSlice 36 1 #[(0, .const (.float .f64 n))]) (h : K (a.put o.dst (.slice (some ⟨W.heap.size, 0, none⟩) 1 1)) (W.alloc (.cells #[.float .f64 n] 39))) : Oper.wp Tryd.prog o a W K Q := by
  unfold Oper.wp execOp
  rw [ho]
  simp only [List.map_toArray, List.map_cons, List.map_nil]
  go_simp
  exact h
theorem ok_stFl {t u B i : Nat} {x y : Option Addr} {n m c d : Nat} (ho : o.op = .store 36 (.tmp t) (.tmp u)) (hv : a.eval (.tmp t) = .pointer (some ⟨B, i, none⟩)) (hu : a.eval (.tmp u) = .slice x n c) (hc : W.cell? ⟨B, i, none⟩ = some (.slice y m d)) (hf : W.frozen? ⟨B, i, none⟩ = false) (h : K (a.put o.dst undef) (W.setCell ⟨B, i, none⟩ (.slice x n c))) : Oper.wp Tryd.prog o a W K Q := by
  unfold Oper.wp execOp
  rw [ho]
  simp only [hv, hu]
  go_simp
  exact h
end
structure Shr11 (P : Prop) : Prop where
  get : P
theorem share11 {P Q : Prop} (h1 : Shr11 P → Q) (h2 : P) : Q := h1 ⟨h2⟩
set_option maxHeartbeats 32000000 in
def el10_c : Cut1 (∀ {p : Pm} (_hp : p.Ok) (t : Bs) (w : World) (_ht : t.length ≤ 9223372036854775807) (_hT : Tab w)
    (_hRef : ∀ W : World, t.length ≤ 20000 → Calls Tryd.prog 4 #[sv t] W fun e w' => R11 p W w' t e), Calls Tryd.prog 3 #[sv t] w fun e w' => e = .returned (.bool true) ∧ Below w.heap.size w w') := by
  apply Cut1.mk
  focus
    intro cUt1
    intro p hp t w ht hT hRef
    have HP := Lib.hid hp
    have HT := Lib.hid hT
    have hsz : (⟨t.toArray⟩ : ByteArray).size = t.length := by rw [Lib.size_eq]
    clear hT hp
    by_cases hlt : 20000 < (t.length : Int)
    · go_enter Tryd.func3, Tryd.ntmps3
      go_wp2_with fail
      go_ret
      exact ⟨rfl, Below.refl _ _⟩
    have htl : t.length ≤ 20000 := by omega
    have HTl := Lib.hid htl
    have HRd := Lib.hid (fun W : World => hRef W htl)
    clear hRef
    go_enter Tryd.func3, Tryd.ntmps3
    go_wp2_with fail
    refine (HRd.out w).mono ?_
    rintro e V1 ⟨hb1, a1, c1, rs1, f, c, k, rfl, hf1, hE1⟩
    obtain ⟨al, hal⟩ : ∃ n, Hid ((reV p t).2.1 = n) := ⟨_, Lib.hid rfl⟩
    obtain ⟨er, her⟩ : ∃ n, Hid ((reV p t).2.2 = n) := ⟨_, Lib.hid rfl⟩
    rw [hal.out, her.out]
    obtain ⟨V2, hV2⟩ : ∃ V2, V1.alloc (.cells #[.int .i64 (f : Nat), .int .i64 (c : Nat), .int .i64 (k : Nat), .slice a1 rs1.length c1] 24) = V2 := ⟨_, rfl⟩
    obtain ⟨B1, hB1⟩ : ∃ B, V1.heap.size = B := ⟨_, rfl⟩
    obtain ⟨n1, hn1⟩ : ∃ n, Hid (rs1.length = n) := ⟨_, Lib.hid rfl⟩
    have d2 : Below V1.heap.size V1 V2 := by rw [← hV2]; exact (Below.refl _ _).alloc (Nat.le_refl _) _
    have H2 : Hid (Below w.heap.size w V2 ∧ CB V2 B1 #[.int .i64 (f : Nat), .int .i64 (c : Nat), .int .i64 (k : Nat), .slice a1 rs1.length c1] 24 ∧ Eo 49 V2 w.heap.size (.slice a1 rs1.length c1) rs1) := Lib.hid ⟨hb1.trans (d2.mono hb1.size), by rw [← hB1, ← hV2]; exact CB.new _ _ _, hE1.later d2⟩
    have HF1 := Lib.hid hf1
    clear hb1 hf1 hE1 d2
    rw [hn1.out] at hV2 H2 ⊢
    go_wp2_with fail
    try rw [hV2]
    try rw [hB1]
    clear hV2 hB1
    go_loopw [6] (fun s6 wr => ∃ i : Nat, s6 = .int .i64 (i : Nat) ∧ i ≤ 2 ∧ Hid (Below V2.heap.size V2 wr)) (fun s6 _ => 2 - (RowKit.intOf s6).toNat)
    case atStart => exact ⟨0, rfl, by omega, Lib.hid (Below.refl _ _)⟩
    case round =>
      obtain ⟨i, rfl, hi2, HB⟩ := hrel
      obtain ⟨w1, hw1⟩ : ∃ X, X = wr := ⟨_, rfl⟩
      subst hw1
      by_cases hi : i < 2
      · have hi' : (i : Int) < 2 := by omega
        have hT' : Tab w1 := HT.out.later (H2.out.1.trans (HB.out.mono H2.out.1.size))
        have HRe := Lib.hid (readE_any HP.out ⟨t.toArray⟩ t w1 (by simp) ht hT')
        clear hT'
        go_wp2_with fail
        refine HRe.out.mono ?_
        rintro e V3 ⟨hb3, a3, c3, rs3, f', c', k', rfl, hf3, hE3⟩
        rw [hal.out, her.out]
        obtain rfl : f = f' := by have h := congrArg Fe.f (HF1.out.symm.trans hf3); simp only [] at h; omega
        obtain rfl : c = c' := by have h := congrArg Fe.c (HF1.out.symm.trans hf3); simp only [] at h; omega
        obtain rfl : k = k' := by have h := congrArg Fe.k (HF1.out.symm.trans hf3); simp only [] at h; omega
        have hrs : rs3.map (·.1) = rs1.map (·.1) := by have h := congrArg Fe.l (HF1.out.symm.trans hf3); exact h.symm
        obtain ⟨V4, hV4⟩ : ∃ V4, V3.alloc (.cells #[.int .i64 (f : Nat), .int .i64 (c : Nat), .int .i64 (k : Nat), .slice a3 rs3.length c3] 30) = V4 := ⟨_, rfl⟩
        obtain ⟨B3, hB3⟩ : ∃ B, V3.heap.size = B := ⟨_, rfl⟩
        have hlen3 : rs3.length = n1 := by rw [← hn1.out]; have := congrArg List.length hrs; simpa using this
        obtain ⟨V5, hV5⟩ : ∃ V5, V4.drew = V5 := ⟨_, rfl⟩
        have d34 : Below V3.heap.size V3 V4 := by rw [← hV4]; exact (Below.refl _ _).alloc (Nat.le_refl _) _
        have d45 : Below V4.heap.size V4 V5 := by rw [← hV5]; exact (Below.refl _ _).drew
        have d35 : Below V3.heap.size V3 V5 := d34.trans (d45.mono d34.size)
        have hBV5 : Below V2.heap.size V2 V5 := HB.out.trans ((hb3.trans (d35.mono hb3.size)).mono HB.out.size)
        have hg1 : ∀ q ∈ rs1, (∃ c k : Int, amissE c k q.1 = false) ∧ (∀ n ∈ q.1.t, InR n) ∧ (∀ x ∈ q.1.a, x < 18446744073709551616) ∧ q.1.t.length ≤ 6 ∧ q.1.a.length ≤ 16 := fun q hq => reV_rows HP.out t q.1 (by rw [HF1.out]; exact List.mem_map.2 ⟨q, hq, rfl⟩)
        have hg3 : ∀ q ∈ rs3, (∃ c k : Int, amissE c k q.1 = false) ∧ (∀ n ∈ q.1.t, InR n) ∧ (∀ x ∈ q.1.a, x < 18446744073709551616) ∧ q.1.t.length ≤ 6 ∧ q.1.a.length ≤ 16 := fun q hq => reV_rows HP.out t q.1 (by rw [HF1.out]; show q.1 ∈ rs1.map (·.1); rw [← hrs]; exact List.mem_map.2 ⟨q, hq, rfl⟩)
        have hn3 : n1 ≤ 10000 := by
          have h := reV_few (p := p) HTl.out
          rw [HF1.out] at h
          rw [← hn1.out]
          simpa using h
        have hRv1 : Rv V2 (.slice a1 n1 c1) rs1 := H2.out.2.2.rv (fun q hq => ⟨(hg1 q hq).2.1, (hg1 q hq).2.2.1⟩)
        have hE5 := (hE3.later d35)
        rw [hlen3] at hE5 hV4
        have hRv3 : Rv V5 (.slice a3 n1 c3) rs3 := hE5.rv (fun q hq => ⟨(hg3 q hq).2.1, (hg3 q hq).2.2.1⟩)
        have HOf : Hid (∀ W', Below V5.heap.size V5 W' → Calls Tryd.prog 7 #[.agg #[.int .i64 (f : Nat), .int .i64 (c : Nat), .int .i64 (k : Nat), .slice a3 n1 c3]] W' fun e w' => ∃ a cap rs', e = .returned (.agg #[.int .i64 (f : Nat), .int .i64 (c : Nat), .int .i64 (k : Nat), .slice a n1 cap]) ∧ Hid (Rv w' (.slice a n1 cap) rs' ∧ rs'.map (·.1) = rs1.map (·.1)) ∧ Below V5.heap.size V5 w') := Lib.hid (fun W' hW' => (of11_any (f : Nat) (c : Nat) (k : Nat) (.slice a3 n1 c3) rs3 W' (hRv3.later hW') (by omega) (fun q hq => ⟨by have := (hg3 q hq).2.2.2.1; omega, by have := (hg3 q hq).2.2.2.2; omega⟩)).mono (by
          rintro e w' ⟨a, cap, rs', rfl, hEo, hm, hb⟩
          have hl : rs'.length = n1 := by have := congrArg List.length hm; rw [← hlen3]; simpa using this
          rw [hl] at hEo ⊢
          have hm1 : rs'.map (·.1) = rs1.map (·.1) := hm.trans hrs
          refine ⟨a, cap, rs', rfl, Lib.hid ⟨hEo.rv (fun q hq => ?_), hm1⟩, hW'.trans (hb.mono hW'.size)⟩
          have hq1 : q.1 ∈ rs1.map (·.1) := by rw [← hm1]; exact List.mem_map.2 ⟨q, hq, rfl⟩
          obtain ⟨r, hr, e⟩ := List.mem_map.1 hq1
          rw [← e]
          exact ⟨(hg1 r hr).2.1, (hg1 r hr).2.2.1⟩))
        have HSm : Hid (∀ W' a cap rs', Below V5.heap.size V5 W' → Hid (Rv W' (.slice a n1 cap) rs' ∧ rs'.map (·.1) = rs1.map (·.1)) → Calls Tryd.prog 6 #[.agg #[.int .i64 (f : Nat), .int .i64 (c : Nat), .int .i64 (k : Nat), .slice a n1 cap], .agg #[.int .i64 (f : Nat), .int .i64 (c : Nat), .int .i64 (k : Nat), .slice a1 n1 c1]] W' fun e w' => e = .returned (.bool true) ∧ Below V5.heap.size V5 w') := Lib.hid (fun W' a cap rs' hW' hR => by
          have hgm : ∀ q ∈ rs', (∃ c k : Int, amissE c k q.1 = false) ∧ q.1.t.length ≤ 1000000 ∧ q.1.a.length ≤ 1000000 := fun q hq => by
            have hq1 : q.1 ∈ rs1.map (·.1) := by rw [← hR.out.2]; exact List.mem_map.2 ⟨q, hq, rfl⟩
            obtain ⟨r, hr, e⟩ := List.mem_map.1 hq1
            rw [← e]
            have := hg1 r hr
            exact ⟨this.1, by omega, by omega⟩
          obtain ⟨s1, s2⟩ := same_rts hR.out.2 (fun q hq => (hgm q hq).1)
          exact (same11_any (f : Nat) (c : Nat) (k : Nat) _ _ rs' rs1 W' hR.out.1 ((hRv1.later hBV5).later hW') s1 s2 (by rw [s1, hn1.out]; omega) (fun q hq => (hgm q hq).2)).mono fun e w' h => ⟨h.1, hW'.trans (h.2.mono hW'.size)⟩)
        have HCc : Hid (∀ W', Below V5.heap.size V5 W' → CB W' B3 #[.int .i64 (f : Nat), .int .i64 (c : Nat), .int .i64 (k : Nat), .slice a3 n1 c3] 30 ∧ CB W' B1 #[.int .i64 (f : Nat), .int .i64 (c : Nat), .int .i64 (k : Nat), .slice a1 n1 c1] 24) := Lib.hid (fun W' h => ⟨by rw [← hB3]; exact (CB.later (by rw [← hV4]; exact CB.new _ _ _) d45).later h, (H2.out.2.1.later hBV5).later h⟩)
        have H5 := Lib.hid (And.intro hBV5 (And.intro hb3 (And.intro hE3 (And.intro d45 hg3))))
        have HV4 := Lib.hid hV4
        have HB3 := Lib.hid hB3
        have hr5 := Below.refl V5.heap.size V5
        have HRs := Lib.hid hrs
        clear hb3 hE3 hf3 hrs d34 d45 d35 hBV5 hg1 hg3 hRv1 hE5 hRv3 hsz htl
        clear hlt hi'
        obtain ⟨⟨x0, x1, x2, x3⟩, y0, y1, y2, y3⟩ := And.intro (HCc.out V5 hr5).1.cells4E (HCc.out V5 hr5).2.cells4E
        go_wp2_with fail
        try rw [hV4]
        try rw [hV5]
        try rw [hB3]
        apply share11
        · intro key
          go_region_with (first
            | (go_at_call 7; refine (HOf.out _ (by assumption)).mono ?_; rintro e Va ⟨a', cap', rs', rfl, hR', hva⟩; obtain ⟨hca, hcb⟩ := HCc.out _ hva; obtain ⟨x0, x1, x2, x3⟩ := hca.cells4E; obtain ⟨y0, y1, y2, y3⟩ := hcb.cells4E; clear hca hcb)
            | (go_at_call 6; refine (HSm.out _ _ _ _ (by assumption) (by assumption)).mono ?_; rintro e Vb ⟨rfl, hvb⟩; have HBv := Lib.hid hvb; clear hvb))
          all_goals
            clear hR' hva x0 x1 x2 x3 y0 y1 y2 y3
            clear Va rs'
            revert HBv
            revert Vb
            revert cap'
            revert a'
            exact key.get
        intro a' cap' Vb HBv
        clear x0 x1 x2 x3 y0 y1 y2 y3 HOf HSm hr5
        have HBb : Hid (Below V2.heap.size V2 Vb) := Lib.hid (H5.out.1.trans (HBv.out.mono H5.out.1.size))
        by_cases hz : n1 = 0
        · subst hz
          have hcb := (HCc.out Vb HBv.out).1
          have HCb := Lib.hid hcb
          clear hcb
          go_wp2_with fail
          go_loopw [10] (fun s10 wx => s10 = .int .i64 0 ∧ Hid (Below V2.heap.size V2 wx ∧ CB wx B3 #[.int .i64 (f : Nat), .int .i64 (c : Nat), .int .i64 (k : Nat), .slice a3 0 c3] 30)) (fun _ _ => 0)
          case atStart => exact ⟨rfl, HBb.out, HCb.out⟩
          case round =>
            obtain ⟨rfl, hI⟩ := hrel
            obtain ⟨x0, x1, x2, x3⟩ := hI.out.2.cells4E
            go_wp2_with fail
            go_roundw
            case rel => exact ⟨i + 1, by go_num, by omega, Lib.hid hI.out.1⟩
            case measure => simp [RowKit.intOf]; omega
        have he := H5.out.2.2.1
        obtain ⟨g, rfl⟩ : ∃ g, a3 = some ⟨g, 0, none⟩ := by
          rcases he.own.2 with ⟨h1, h2⟩ | ⟨g, cap, cur, h1, _⟩
          · exact absurd h2 (by omega)
          · injection h1 with e1; exact ⟨g, e1⟩
        have HSp : Hid (Spo w1 Vb B3 g 17 c3 (f : Nat) (c : Nat) (k : Nat) (tqs rs3)) := Lib.hid (by
          have h0 := Spo.start (W := V4) (M := 17) (f := (f : Nat)) (c := (c : Nat)) (k := (k : Nat)) H5.out.2.1 he (fun q hq => by have := (H5.out.2.2.2.2 q hq).2.2.2; omega) (by rw [hlen3]; exact HV4.out)
          rw [HB3.out] at h0
          exact (h0.later H5.out.2.2.2.1).later HBv.out)
        have HVs : Hid ((tqs rs3).length = n1 ∧ ∀ q ∈ tqs rs3, q.2.1 ≤ 16 ∧ q.2.2.2 ≤ 16) := Lib.hid ⟨by unfold tqs; rw [List.length_map]; exact hlen3, fun q hq => by
          unfold tqs at hq
          obtain ⟨r, hr, rfl⟩ := List.mem_map.1 hq
          have := (H5.out.2.2.2.2 r hr).2.2.2
          exact ⟨by show r.1.t.length ≤ 16; omega, by show r.1.a.length ≤ 16; omega⟩⟩
        clear he
        go_wp2_with fail
        go_loopw [10] (fun s10 wx => ∃ (j : Nat) (vs : List Tq), s10 = .int .i64 (j : Nat) ∧ j ≤ n1 ∧ vs.length = n1 ∧ Hid (Spo w1 wx B3 g 17 c3 (f : Nat) (c : Nat) (k : Nat) vs ∧ ∀ (m : Nat) (q : Tq), j ≤ m → vs[m]? = some q → q.2.1 ≤ 16 ∧ q.2.2.2 ≤ 16)) (fun s10 _ => n1 - (RowKit.intOf s10).toNat)
        case atStart => exact ⟨0, tqs rs3, rfl, by omega, HVs.out.1, HSp.out, fun m q _ hq => HVs.out.2 q (List.mem_of_getElem? hq)⟩
        case round =>
          clear HSp HVs
          obtain ⟨j, vs, rfl, hj, hvl, hI⟩ := hrel
          obtain ⟨x0, x1, x2, x3⟩ := hI.out.1.box.cells4E
          rw [hvl] at x3
          by_cases hjn : j < n1
          · have hjn' : (j : Int) < (n1 : Int) := by omega
            have hj0 : (0 : Int) ≤ (j : Int) := by omega
            obtain ⟨⟨q1, qn, q2, qm⟩, hq⟩ : ∃ q, vs[j]? = some q := ⟨_, List.getElem?_eq_getElem (by omega)⟩
            obtain ⟨ta, tc, e1, h2, h3, _⟩ := (hI.out.1.sub _ (List.mem_of_getElem? hq)).1.at
            obtain ⟨aa, ac, e2, h4, h5, _⟩ := (hI.out.1.sub _ (List.mem_of_getElem? hq)).2.1.at
            simp only [] at e1 e2 h2 h4
            subst e1 e2
            have HQ : Hid (vs[j]? = some (.slice ta qn tc, qn, .slice aa qm ac, qm)) := Lib.hid hq
            clear hq
            go_wp2_with fail
            go_loopw [11] (fun s11 wy => ∃ m : Nat, s11 = .int .i64 (m : Nat) ∧ m ≤ qn ∧ Hid (Spo w1 wy B3 g 17 c3 (f : Nat) (c : Nat) (k : Nat) vs)) (fun s11 _ => qn - (RowKit.intOf s11).toNat)
            case atStart => exact ⟨0, rfl, by omega, Lib.hid hI.out.1⟩
            case round =>
              obtain ⟨m, rfl, hm, hS⟩ := hrel
              have hm0 : (0 : Int) ≤ (m : Int) := by omega
              obtain ⟨x0, x1, x2, x3⟩ := hS.out.box.cells4E
              rw [hvl] at x3
              obtain ⟨⟨g1, g2⟩, g3, g4⟩ := hS.out.ga HQ.out
              by_cases hmn : m < qn
              · have hmn' : (m : Int) < (qn : Int) := by omega
                obtain ⟨gt, off, rfl, ⟨u, hu⟩, hfz, hset⟩ := hS.out.tt HQ.out rfl hmn
                have HSet := Lib.hid hset
                clear hset
                go_wp2_with fail
                go_roundw
                case rel => exact ⟨m + 1, by go_num, by omega, Lib.hid (HSet.out _)⟩
                case measure => simp [RowKit.intOf]; omega
              · have hmn' : ¬ ((m : Int) < (qn : Int)) := by omega
                obtain rfl : m = qn := by omega
                go_wp2_with fail
                clear x0 x1 x2 x3 g1 g2 g3 g4
                go_loopw [12] (fun s12 wy => ∃ l : Nat, s12 = .int .i64 (l : Nat) ∧ l ≤ qm ∧ Hid (Spo w1 wy B3 g 17 c3 (f : Nat) (c : Nat) (k : Nat) vs)) (fun s12 _ => qm - (RowKit.intOf s12).toNat)
                case atStart => exact ⟨0, rfl, by omega, hS⟩
                case round =>
                  obtain ⟨l, rfl, hl, hS2⟩ := hrel
                  have hl0 : (0 : Int) ≤ (l : Int) := by omega
                  obtain ⟨x0, x1, x2, x3⟩ := hS2.out.box.cells4E
                  rw [hvl] at x3
                  obtain ⟨⟨g1, g2⟩, g3, g4⟩ := hS2.out.ga HQ.out
                  by_cases hln : l < qm
                  · have hln' : (l : Int) < (qm : Int) := by omega
                    obtain ⟨gt, off, rfl, ⟨u, hu⟩, hfz, hset⟩ := hS2.out.aa HQ.out rfl hln
                    have HSet := Lib.hid hset
                    clear hset
                    go_wp2_with fail
                    go_roundw
                    case rel => exact ⟨l + 1, by go_num, by omega, Lib.hid (HSet.out _)⟩
                    case measure => simp [RowKit.intOf]; omega
                  · have hln' : ¬ ((l : Int) < (qm : Int)) := by omega
                    obtain rfl : l = qm := by omega
                    (repeat (rename_i xqEl10; first | (have hQq : Value := xqEl10; clear hQq; clear xqEl10) | (have hQq : Act → World → Prop := xqEl10; clear hQq; clear xqEl10) | revert xqEl10))
                    (repeat (revert bel))
                    (repeat (revert hln'))
                    (repeat (revert hln))
                    (repeat (revert hl0))
                    (repeat (revert hS2))
                    (repeat (revert s12))
                    (repeat (revert HSet))
                    (repeat (revert tt))
                    (repeat (revert hset))
                    (repeat (revert hfz))
                    (repeat (revert hu))
                    (repeat (revert u))
                    (repeat (revert off))
                    (repeat (revert gt))
                    (repeat (revert hmn'))
                    (repeat (revert hmn))
                    (repeat (revert ga))
                    (repeat (revert g4))
                    (repeat (revert g3))
                    (repeat (revert g2))
                    (repeat (revert g1))
                    (repeat (revert hm0))
                    (repeat (revert hS))
                    (repeat (revert wy))
                    (repeat (revert s11))
                    (repeat (revert HQ))
                    (repeat (revert h5))
                    (repeat (revert h4))
                    (repeat (revert e2))
                    (repeat (revert ac))
                    (repeat (revert aa))
                    (repeat (revert sub))
                    (repeat (revert h3))
                    (repeat (revert tc))
                    (repeat (revert ta))
                    (repeat (revert qm))
                    (repeat (revert q2))
                    (repeat (revert qn))
                    (repeat (revert q1))
                    (repeat (revert hj0))
                    (repeat (revert hjn'))
                    (repeat (revert hjn))
                    (repeat (revert box))
                    (repeat (revert hvl))
                    (repeat (revert hj))
                    (repeat (revert m))
                    (repeat (revert Tq))
                    (repeat (revert vs))
                    (repeat (revert j))
                    (repeat (revert unfold))
                    (repeat (revert HVs))
                    (repeat (revert M))
                    (repeat (revert start))
                    (repeat (revert h0))
                    (repeat (revert tqs))
                    (repeat (revert Spo))
                    (repeat (revert HSp))
                    (repeat (revert e1))
                    (repeat (revert absurd))
                    (repeat (revert cur))
                    (repeat (revert h2))
                    (repeat (revert h1))
                    (repeat (revert own))
                    (repeat (revert g))
                    (repeat (revert he))
                    (repeat (revert go_num))
                    (repeat (revert rel))
                    (repeat (revert hI))
                    (repeat (revert wx))
                    (repeat (revert s10))
                    (repeat (revert HCb))
                    (repeat (revert hz))
                    (repeat (revert HBb))
                    (repeat (revert get))
                    (repeat (revert revert))
                    (repeat (revert HBv))
                    (repeat (revert hvb))
                    (repeat (revert Vb))
                    (repeat (revert hcb))
                    (repeat (revert hca))
                    (repeat (revert hva))
                    (repeat (revert hR'))
                    (repeat (revert cap'))
                    (repeat (revert a'))
                    (repeat (revert Va))
                    (repeat (revert key))
                    (repeat (revert apply))
                    (repeat (revert y3))
                    (repeat (revert y2))
                    (repeat (revert y1))
                    (repeat (revert y0))
                    (repeat (revert x3))
                    (repeat (revert x2))
                    (repeat (revert x1))
                    (repeat (revert x0))
                    (repeat (revert HRs))
                    (repeat (revert hr5))
                    (repeat (revert HB3))
                    (repeat (revert HV4))
                    (repeat (revert And))
                    (repeat (revert H5))
                    (repeat (revert HCc))
                    (repeat (revert s2))
                    (repeat (revert s1))
                    (repeat (revert hgm))
                    (repeat (revert hR))
                    (repeat (revert true))
                    (repeat (revert bool))
                    (repeat (revert Same))
                    (repeat (revert HSm))
                    (repeat (revert hr))
                    (repeat (revert r))
                    (repeat (revert hq1))
                    (repeat (revert hm1))
                    (repeat (revert hl))
                    (repeat (revert hb))
                    (repeat (revert hm))
                    (repeat (revert hEo))
                    (repeat (revert hW'))
                    (repeat (revert rs'))
                    (repeat (revert cap))
                    (repeat (revert w'))
                    (repeat (revert agg))
                    (repeat (revert of))
                    (repeat (revert prog))
                    (repeat (revert Calls))
                    (repeat (revert W'))
                    (repeat (revert HOf))
                    (repeat (revert hRv3))
                    (repeat (revert hE5))
                    (repeat (revert rv))
                    (repeat (revert Rv))
                    (repeat (revert hRv1))
                    (repeat (revert hn3))
                    (repeat (revert hg3))
                    (repeat (revert hq))
                    (repeat (revert a))
                    (repeat (revert x))
                    (repeat (revert InR))
                    (repeat (revert false))
                    (repeat (revert amissE))
                    (repeat (revert q))
                    (repeat (revert hg1))
                    (repeat (revert hBV5))
                    (repeat (revert d35))
                    (repeat (revert d45))
                    (repeat (revert d34))
                    (repeat (revert drew))
                    (repeat (revert hV5))
                    (repeat (revert V5))
                    (repeat (revert simpa))
                    (repeat (revert hlen3))
                    (repeat (revert hB3))
                    (repeat (revert B3))
                    (repeat (revert hV4))
                    (repeat (revert V4))
                    (repeat (revert l))
                    (repeat (revert map))
                    (repeat (revert hrs))
                    (repeat (revert symm))
                    (repeat (revert Fe))
                    (repeat (revert h))
                    (repeat (revert hE3))
                    (repeat (revert hf3))
                    (repeat (revert k'))
                    (repeat (revert c'))
                    (repeat (revert f'))
                    (repeat (revert rs3))
                    (repeat (revert c3))
                    (repeat (revert a3))
                    (repeat (revert hb3))
                    (repeat (revert V3))
                    (repeat (revert HRe))
                    (repeat (revert Tab))
                    (repeat (revert hT'))
                    (repeat (revert hi'))
                    (repeat (revert hi))
                    (repeat (revert X))
                    (repeat (revert hw1))
                    (repeat (revert w1))
                    (repeat (revert hrel))
                    (repeat (revert HB))
                    (repeat (revert hi2))
                    (repeat (revert round))
                    (repeat (revert toNat))
                    (repeat (revert intOf))
                    (repeat (revert RowKit))
                    (repeat (revert i))
                    (repeat (revert wr))
                    (repeat (revert s6))
                    (repeat (revert HF1))
                    (repeat (revert later))
                    (repeat (revert new))
                    (repeat (revert trans))
                    (repeat (revert Row))
                    (repeat (revert Eo))
                    (repeat (revert CB))
                    (repeat (revert H2))
                    (repeat (revert d2))
                    (repeat (revert hn1))
                    (repeat (revert n1))
                    (repeat (revert heap))
                    (repeat (revert B))
                    (repeat (revert hB1))
                    (repeat (revert B1))
                    (repeat (revert File))
                    (repeat (revert T))
                    (repeat (revert slice))
                    (repeat (revert i64))
                    (repeat (revert int))
                    (repeat (revert cells))
                    (repeat (revert alloc))
                    (repeat (revert hV2))
                    (repeat (revert V2))
                    (repeat (revert her))
                    (repeat (revert er))
                    (repeat (revert reV))
                    (repeat (revert n))
                    (repeat (revert hal))
                    (repeat (revert al))
                    (repeat (revert hE1))
                    (repeat (revert hf1))
                    (repeat (revert k))
                    (repeat (revert c))
                    (repeat (revert f))
                    (repeat (revert rs1))
                    (repeat (revert c1))
                    (repeat (revert a1))
                    (repeat (revert hb1))
                    (repeat (revert V1))
                    (repeat (revert e))
                    (repeat (revert mono))
                    (repeat (revert W))
                    (repeat (revert HRd))
                    (repeat (revert HTl))
                    (repeat (revert htl))
                    (repeat (revert _))
                    (repeat (revert refl))
                    (repeat (revert go_ret))
                    (repeat (revert ntmps))
                    (repeat (revert F))
                    (repeat (revert func))
                    (repeat (revert A))
                    (repeat (revert hlt))
                    (repeat (revert length))
                    (repeat (revert size))
                    (repeat (revert hsz))
                    (repeat (revert HT))
                    (repeat (revert HP))
                    (repeat (revert hRef))
                    (repeat (revert hT))
                    (repeat (revert ht))
                    (repeat (revert w))
                    (repeat (revert t))
                    (repeat (revert hp))
                    (repeat (revert w0))
                    (repeat (revert hrel))
                    (repeat (revert hwc))
                    (repeat (revert wo))
                    (repeat (revert wl))
                    (repeat (revert wr))
                    (repeat (revert wc))
                    (repeat (revert u339))
                    (repeat (revert u338))
                    (repeat (revert u337))
                    (repeat (revert u336))
                    (repeat (revert u335))
                    (repeat (revert u334))
                    (repeat (revert u333))
                    (repeat (revert u332))
                    (repeat (revert u331))
                    (repeat (revert u330))
                    (repeat (revert u329))
                    (repeat (revert u328))
                    (repeat (revert u327))
                    (repeat (revert u326))
                    (repeat (revert u325))
                    (repeat (revert u324))
                    (repeat (revert u323))
                    (repeat (revert u322))
                    (repeat (revert u321))
                    (repeat (revert u320))
                    (repeat (revert u319))
                    (repeat (revert u318))
                    (repeat (revert u317))
                    (repeat (revert u316))
                    (repeat (revert u315))
                    (repeat (revert u314))
                    (repeat (revert u313))
                    (repeat (revert u312))
                    (repeat (revert u311))
                    (repeat (revert u310))
                    (repeat (revert u309))
                    (repeat (revert u308))
                    (repeat (revert u307))
                    (repeat (revert u306))
                    (repeat (revert u305))
                    (repeat (revert u304))
                    (repeat (revert u303))
                    (repeat (revert u302))
                    (repeat (revert u301))
                    (repeat (revert u300))
                    (repeat (revert u299))
                    (repeat (revert u298))
                    (repeat (revert u297))
                    (repeat (revert u296))
                    (repeat (revert u295))
                    (repeat (revert u294))
                    (repeat (revert u293))
                    (repeat (revert u292))
                    (repeat (revert u291))
                    (repeat (revert u290))
                    (repeat (revert u289))
                    (repeat (revert u288))
                    (repeat (revert u287))
                    (repeat (revert u286))
                    (repeat (revert u285))
                    (repeat (revert u284))
                    (repeat (revert u283))
                    (repeat (revert u282))
                    (repeat (revert u281))
                    (repeat (revert u280))
                    (repeat (revert u279))
                    (repeat (revert u278))
                    (repeat (revert u277))
                    (repeat (revert u276))
                    (repeat (revert u275))
                    (repeat (revert u274))
                    (repeat (revert u273))
                    (repeat (revert u272))
                    (repeat (revert u271))
                    (repeat (revert u270))
                    (repeat (revert u269))
                    (repeat (revert u268))
                    (repeat (revert u267))
                    (repeat (revert u266))
                    (repeat (revert u265))
                    (repeat (revert u264))
                    (repeat (revert u263))
                    (repeat (revert u262))
                    (repeat (revert u261))
                    (repeat (revert u260))
                    (repeat (revert u259))
                    (repeat (revert u258))
                    (repeat (revert u257))
                    (repeat (revert u256))
                    (repeat (revert u255))
                    (repeat (revert u254))
                    (repeat (revert u253))
                    (repeat (revert u252))
                    (repeat (revert u251))
                    (repeat (revert u250))
                    (repeat (revert u249))
                    (repeat (revert u248))
                    (repeat (revert u247))
                    (repeat (revert u246))
                    (repeat (revert u245))
                    (repeat (revert u244))
                    (repeat (revert u243))
                    (repeat (revert u242))
                    (repeat (revert u241))
                    (repeat (revert u240))
                    (repeat (revert u239))
                    (repeat (revert u238))
                    (repeat (revert u237))
                    (repeat (revert u236))
                    (repeat (revert u235))
                    (repeat (revert u234))
                    (repeat (revert u233))
                    (repeat (revert u232))
                    (repeat (revert u231))
                    (repeat (revert u230))
                    (repeat (revert u229))
                    (repeat (revert u228))
                    (repeat (revert u227))
                    (repeat (revert u226))
                    (repeat (revert u225))
                    (repeat (revert u224))
                    (repeat (revert u223))
                    (repeat (revert u222))
                    (repeat (revert u221))
                    (repeat (revert u220))
                    (repeat (revert u219))
                    (repeat (revert u218))
                    (repeat (revert u217))
                    (repeat (revert u216))
                    (repeat (revert u215))
                    (repeat (revert u214))
                    (repeat (revert u213))
                    (repeat (revert u212))
                    (repeat (revert u211))
                    (repeat (revert u210))
                    (repeat (revert u209))
                    (repeat (revert u208))
                    (repeat (revert u207))
                    (repeat (revert u206))
                    (repeat (revert u205))
                    (repeat (revert u204))
                    (repeat (revert u203))
                    (repeat (revert u202))
                    (repeat (revert u201))
                    (repeat (revert u200))
                    (repeat (revert u199))
                    (repeat (revert u198))
                    (repeat (revert u197))
                    (repeat (revert u196))
                    (repeat (revert u195))
                    (repeat (revert u194))
                    (repeat (revert u193))
                    (repeat (revert u192))
                    (repeat (revert u191))
                    (repeat (revert u190))
                    (repeat (revert u189))
                    (repeat (revert u188))
                    (repeat (revert u187))
                    (repeat (revert u186))
                    (repeat (revert u185))
                    (repeat (revert u184))
                    (repeat (revert u183))
                    (repeat (revert u182))
                    (repeat (revert u181))
                    (repeat (revert u180))
                    (repeat (revert u179))
                    (repeat (revert u178))
                    (repeat (revert u177))
                    (repeat (revert u176))
                    (repeat (revert u175))
                    (repeat (revert u174))
                    (repeat (revert u173))
                    (repeat (revert u172))
                    (repeat (revert u171))
                    (repeat (revert u170))
                    (repeat (revert u169))
                    (repeat (revert u168))
                    (repeat (revert u167))
                    (repeat (revert u166))
                    (repeat (revert u165))
                    (repeat (revert u164))
                    (repeat (revert u163))
                    (repeat (revert u162))
                    (repeat (revert u161))
                    (repeat (revert u160))
                    (repeat (revert u159))
                    (repeat (revert u158))
                    (repeat (revert u157))
                    (repeat (revert u156))
                    (repeat (revert u155))
                    (repeat (revert u154))
                    (repeat (revert u153))
                    (repeat (revert u152))
                    (repeat (revert u151))
                    (repeat (revert u150))
                    (repeat (revert u149))
                    (repeat (revert u148))
                    (repeat (revert u147))
                    (repeat (revert u146))
                    (repeat (revert u145))
                    (repeat (revert u144))
                    (repeat (revert u143))
                    (repeat (revert u142))
                    (repeat (revert u141))
                    (repeat (revert u140))
                    (repeat (revert u139))
                    (repeat (revert u138))
                    (repeat (revert u137))
                    (repeat (revert u136))
                    (repeat (revert u135))
                    (repeat (revert u134))
                    (repeat (revert u133))
                    (repeat (revert u132))
                    (repeat (revert u131))
                    (repeat (revert u130))
                    (repeat (revert u129))
                    (repeat (revert u128))
                    (repeat (revert u127))
                    (repeat (revert u126))
                    (repeat (revert u125))
                    (repeat (revert u124))
                    (repeat (revert u123))
                    (repeat (revert u122))
                    (repeat (revert u121))
                    (repeat (revert u120))
                    (repeat (revert u119))
                    (repeat (revert u118))
                    (repeat (revert u117))
                    (repeat (revert u116))
                    (repeat (revert u115))
                    (repeat (revert u114))
                    (repeat (revert u113))
                    (repeat (revert u112))
                    (repeat (revert u111))
                    (repeat (revert u110))
                    (repeat (revert u109))
                    (repeat (revert u108))
                    (repeat (revert u107))
                    (repeat (revert u106))
                    (repeat (revert u105))
                    (repeat (revert u104))
                    (repeat (revert u103))
                    (repeat (revert u102))
                    (repeat (revert u101))
                    (repeat (revert u100))
                    (repeat (revert u99))
                    (repeat (revert u98))
                    (repeat (revert u97))
                    (repeat (revert u96))
                    (repeat (revert u95))
                    (repeat (revert u94))
                    (repeat (revert u93))
                    (repeat (revert u92))
                    (repeat (revert u91))
                    (repeat (revert u90))
                    (repeat (revert u89))
                    (repeat (revert u88))
                    (repeat (revert u87))
                    (repeat (revert u86))
                    (repeat (revert u85))
                    (repeat (revert u84))
                    (repeat (revert u83))
                    (repeat (revert u82))
                    (repeat (revert u81))
                    (repeat (revert u80))
                    (repeat (revert u79))
                    (repeat (revert u78))
                    (repeat (revert u77))
                    (repeat (revert u76))
                    (repeat (revert u75))
                    (repeat (revert u74))
                    (repeat (revert u73))
                    (repeat (revert u72))
                    (repeat (revert u71))
                    (repeat (revert u70))
                    (repeat (revert u69))
                    (repeat (revert u68))
                    (repeat (revert u67))
                    (repeat (revert u66))
                    (repeat (revert u65))
                    (repeat (revert u64))
                    (repeat (revert u63))
                    (repeat (revert u62))
                    (repeat (revert u61))
                    (repeat (revert u60))
                    (repeat (revert u59))
                    (repeat (revert u58))
                    (repeat (revert u57))
                    (repeat (revert u56))
                    (repeat (revert u55))
                    (repeat (revert u54))
                    (repeat (revert u53))
                    (repeat (revert u52))
                    (repeat (revert u51))
                    (repeat (revert u50))
                    (repeat (revert u49))
                    (repeat (revert u48))
                    (repeat (revert u47))
                    (repeat (revert u46))
                    (repeat (revert u45))
                    (repeat (revert u44))
                    (repeat (revert u43))
                    (repeat (revert u42))
                    (repeat (revert u41))
                    (repeat (revert u40))
                    (repeat (revert u39))
                    (repeat (revert u38))
                    (repeat (revert u37))
                    (repeat (revert u36))
                    (repeat (revert u35))
                    (repeat (revert u34))
                    (repeat (revert u33))
                    (repeat (revert u32))
                    (repeat (revert u31))
                    (repeat (revert u30))
                    (repeat (revert u29))
                    (repeat (revert u28))
                    (repeat (revert u27))
                    (repeat (revert u26))
                    (repeat (revert u25))
                    (repeat (revert u24))
                    (repeat (revert u23))
                    (repeat (revert u22))
                    (repeat (revert u21))
                    (repeat (revert u20))
                    (repeat (revert u19))
                    (repeat (revert u18))
                    (repeat (revert u17))
                    (repeat (revert u16))
                    (repeat (revert u15))
                    (repeat (revert u14))
                    (repeat (revert u13))
                    (repeat (revert u12))
                    (repeat (revert u11))
                    (repeat (revert u10))
                    (repeat (revert u9))
                    (repeat (revert u8))
                    (repeat (revert u7))
                    (repeat (revert u6))
                    (repeat (revert u5))
                    (repeat (revert u4))
                    (repeat (revert u3))
                    (repeat (revert u2))
                    (repeat (revert u1))
                    (repeat (revert u0))
                    (repeat (revert p))
                    exact @Cap.get _ cUt1
          · have hjn' : ¬ ((j : Int) < (n1 : Int)) := by omega
            go_wp2_with fail
            go_roundw
            case rel => exact ⟨i + 1, by go_num, by omega, Lib.hid (HB.out.trans (hI.out.1.bel.mono HB.out.size))⟩
            case measure => simp [RowKit.intOf]; omega
      · have hi' : ¬ ((i : Int) < 2) := by omega
        go_wp2_with fail
        go_ret
        exact ⟨rfl, H2.out.1.trans (HB.out.mono H2.out.1.size)⟩
end Go.Proofs.YtgfloegaoofbbaaDoor
