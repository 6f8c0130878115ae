/- The law LinesBack. -/
import Derived.Test.YtpjdffjfhnlbjaaBq
import Derived.Test.YtpjdffjfhnlbjaaBr
import Derived.Test.YtpjdffjfhnlbjaaBpw
import Derived.Deep.DeepCutAuto
namespace Go.Proofs.Ytpjdffjfhnlbjaa
open Go.RowKit Go.Shelf Go.Lib

theorem rch_mod {ls : List Lv} {z t n : Nat} (hz : z = ls.length + t + (((ls.take n).map fun p => p.1.length)).sum) (hn : n = ls.length) (h : z < 200000) : Mod ls := by
  subst hn
  rw [List.take_length] at hz
  refine ⟨by omega, fun p hp => ?_⟩
  have : p.1.length ≤ (ls.map fun p => p.1.length).sum := by
    clear hz
    induction ls with
    | nil => simp at hp
    | cons a r ih =>
      simp only [List.map_cons, List.sum_cons]
      rcases List.mem_cons.1 hp with e | e
      · subst e; omega
      · have := ih e; omega
  omega
theorem sum_take {ls : List Lv} {k : Nat} (hk : k < ls.length) : ((ls.take (k + 1)).map fun p => p.1.length).sum = ((ls.take k).map fun p => p.1.length).sum + ls[k].1.length := by
  rw [List.take_succ_eq_append_getElem hk, List.map_append, List.sum_append]; simp
theorem Lr.sl {e : TypeId} {W : World} {B : Nat} {v : Value} {ps : List Lt} (h : Lr e W B v ps) {t : Bs} (ht : tell ps = (rdV t).1) : ∀ p ∈ ps, Sl W p.2.2 p.2.1 := fun p hp => by
  refine (h.sub p hp).sl (fun x hx => ?_)
  have hm : (p.1, p.2.1) ∈ (rdV t).1 := by rw [← ht]; exact List.mem_map.2 ⟨p, hp, rfl⟩
  have := (rdV_word hm).2.1 x hx
  omega
theorem wrV_zero {L : List (List Bs)} (h : (wrV L).2 = 0) : L.all okL = true ∧ fits L = true ∧ (wrV L).1 = wrT L := by
  unfold wrV at h ⊢
  split at h
  · rename_i h1
    rw [if_pos h1]
    split at h
    · rename_i h2; rw [if_pos h2]; exact ⟨h1, h2, rfl⟩
    · cases h
  · cases h
def lvs (ps : List Lt) : List Lv := ps.map fun p => (p.2.1, p.2.2)
theorem own_ll {W : World} {B : Nat} {v : Value} {ps : List Lt} (h : W.ownsRow B 30 1 v ps.length (ps.map (·.2.2))) (hs : ∀ p ∈ ps, Sl W p.2.2 p.2.1) : Ll W v (lvs ps) := by
  refine ⟨?_, fun p hp => ?_⟩
  · have h0 := h
    rcases h.2 with ⟨h1, h2⟩ | ⟨g, cap, cur, rfl, _, h3, h4, h5, _⟩
    · have : ps = [] := List.length_eq_zero_iff.1 h2
      subst this
      exact ⟨none, 0, h1, by simp [lvs], by omega, Or.inl rfl⟩
    · refine ⟨_, cap, by simp [lvs], by simpa [lvs] using h4, by unfold maxLen at h5; omega, Or.inr ⟨g, 0, rfl, (World.ownsRow.lt h0 g rfl).2, fun k p hk => ?_⟩⟩
      unfold lvs at hk
      rw [List.getElem?_map] at hk
      cases hq : ps[k]? with
      | none => rw [hq] at hk; cases hk
      | some y =>
        rw [hq] at hk
        obtain rfl : (y.2.1, y.2.2) = p := by simpa using hk
        exact own_cell h0 (by rw [List.getElem?_map, hq]; rfl)
  · obtain ⟨q, hq, rfl⟩ := List.mem_map.1 hp
    exact hs q hq
theorem lvs_ls1 (ps : List Lt) : ls1 (lvs ps) = (tell ps).map (·.2) := by simp [ls1, lvs, tell]
theorem lvs_mod {ps : List Lt} {t : Bs} (ht : tell ps = (rdV t).1) (hl : t.length < 100000) : Mod (lvs ps) := by
  refine ⟨?_, fun p hp => ?_⟩
  · have h1 : ps.length = (rdV t).1.length := by rw [← ht]; simp [tell]
    have h2 : (rdV t).1.length ≤ t.length + 1 := by
      unfold rdV
      split
      · simp
      · split
        · simp
        · exact Nat.le_trans (good_len _ _) (lns_len t)
    simp [lvs]; omega
  · obtain ⟨q, hq, rfl⟩ := List.mem_map.1 hp
    have hm : (q.1, q.2.1) ∈ (rdV t).1 := by rw [← ht]; exact List.mem_map.2 ⟨q, hq, rfl⟩
    obtain ⟨l, h2, h3⟩ := (rdV_word hm).2.2.2
    have e : q.2.1 = lineW l := h3
    show q.2.1.length ≤ _
    rw [e]
    have g1 := toks_len (ahd l)
    have g2 : (ahd l).length ≤ l.length := cutT_len _ _
    have g3 := (spl_word h2).2.1
    show (toks (ahd l)).length ≤ _
    omega
theorem map_take_snoc {ps : List Lt} {k : Nat} (hk : k < ps.length) : (ps.take (k + 1)).map (·.2.2) = (ps.take k).map (·.2.2) ++ [ps[k].2.2] := by
  rw [List.take_succ_eq_append_getElem hk, List.map_append]; rfl
/-- What Read tells, its lines as a slice of that many. -/
def RdS (W : World) (t : Bs) (e : Ending) (w' : World) : Prop := ∃ a c ps, e = .returned (.tuple #[.slice a (rdV t).1.length c, .int .i64 ((rdV t).2.1 : Nat), .int .i64 ((rdV t).2.2 : Nat)]) ∧ Lr 33 w' W.heap.size (.slice a (rdV t).1.length c) ps ∧ tell ps = (rdV t).1 ∧ ps.length = (rdV t).1.length ∧ Below W.heap.size W w'
theorem readS (s : ByteArray) (t : Bs) (W : World) (ht : s.data.toList = t) (hl : t.length ≤ 9223372036854775807) : Calls Try.prog 9 #[.string s] W fun e w' => RdS W t e w' := by
  refine (read_any s t W ht hl).mono ?_
  rintro e w' ⟨v, ps, rfl, h2, h3, h4⟩
  have hlen : ps.length = (rdV t).1.length := by rw [← h3]; simp [tell]
  obtain ⟨a, c, rfl, _, _, _⟩ := h2.form
  rw [hlen] at h2 ⊢
  exact ⟨a, c, ps, rfl, h2, h3, hlen, h4⟩

set_option maxRecDepth 100000 in
set_option maxHeartbeats 16000000 in
theorem linesBack_law (v : Value) (ls : List Lv) (s : ByteArray) (w : World) (hv : Ll w v ls) (hr : Rch ls) (hs : s.size ≤ 140737488355328) : Calls Try.prog 6 #[v, .string s] w fun e w' => e = .returned (.bool true) ∧ Below w.heap.size w w' := by
  have HV := Lib.hid hv
  have HR := Lib.hid hr
  obtain ⟨⟨a, c, rfl, hc1, hc2, hm⟩, hsub⟩ := hv
  obtain ⟨n, hn⟩ : ∃ n, Hid (ls.length = n) := ⟨_, Lib.hid rfl⟩
  have HM := Lib.hid hm
  have HU := Lib.hid hsub
  have hn1 : (n : Int) ≤ 140737488355328 := by have := hr.len; rw [hn.out] at this; omega
  have hs1 : (s.size : Int) ≤ 140737488355328 := by omega
  rw [hn.out] at hc1 HV ⊢
  clear hm hsub hr
  go_enter Try.func6, Try.ntmps6
  go_wp2_with fail
  go_loop [5, 6] (fun s5 s6 => ∃ k z : Nat, k ≤ n ∧ s6 = .int .i64 (k : Nat) ∧ s5 = .int .i64 (z : Nat) ∧ z ≤ 422212465065984 ∧ Hid (z = ls.length + s.size + ((ls.take k).map fun p => p.1.length).sum)) (fun _ s6 => n - (RowKit.intOf s6).toNat)
  case atStart => exact ⟨0, n + s.size, Nat.zero_le _, rfl, by go_num, by omega, by rw [hn.out]; rfl⟩
  case round =>
    obtain ⟨k, z, hk, rfl, rfl, hz, hI⟩ := hrel
    have hz' : (z : Int) ≤ 422212465065984 := by omega
    by_cases hgo : k < n ∧ z < 100000
    · obtain ⟨hlt, hzl⟩ := hgo
      have hk2 : k < ls.length := by rw [hn.out]; exact hlt
      have hlt' : (k : Int) < (n : Int) := by omega
      have hk0 : (0 : Int) ≤ (k : Int) := by omega
      have hzl' : (z : Int) < 100000 := by omega
      obtain ⟨g, off, rfl, hg, hcell⟩ := HM.out.resolve_left (fun e => by rw [e] at hk2; simp at hk2)
      have b1 := hcell k ls[k] (List.getElem?_eq_getElem hk2)
      obtain ⟨⟨ws, wv⟩, hp⟩ : ∃ p, Hid (ls[k] = p) := ⟨_, Lib.hid rfl⟩
      rw [hp.out] at b1
      have hmem : (ws, wv) ∈ ls := by rw [← hp.out]; exact List.getElem_mem hk2
      have hS : Sl w wv ws := HU.out _ hmem
      have b2 : w.cell? ⟨g, off + k, none⟩ = some wv := b1
      clear b1
      obtain ⟨⟨a2, c2, rfl, hd1, hd2, _⟩, _⟩ := hS
      have hwl : ws.length ≤ 140737488355328 := (HR.out.sub _ hmem).1
      have HS : Hid (z + ws.length = ls.length + s.size + ((ls.take (k + 1)).map fun p => p.1.length).sum) := by
        show z + ws.length = _
        rw [sum_take hk2, hp.out, hI.out]; simp only []; omega
      have hwl' : (ws.length : Int) ≤ 140737488355328 := by omega
      obtain ⟨nw, hnw⟩ : ∃ nw, Hid (ws.length = nw) := ⟨_, Lib.hid rfl⟩
      rw [hnw.out] at b2 hwl' HS
      have hb : z + nw ≤ 422212465065984 := by omega
      clear hcell hmem hwl
      go_wp2
      refine ⟨⟨k + 1, z + nw, by omega, by go_num, by go_num, hb, HS.out⟩, ?_⟩
      simp [RowKit.intOf]; omega
    · have HW : Hid (∀ W, Below w.heap.size w W → Calls Try.prog 8 #[] W fun e w' => e = .returned (.bool true) ∧ Below w.heap.size w w') := fun W hb => (works_any W).mono fun _ _ ⟨h1, h2⟩ => ⟨h1, hb.trans (h2.mono hb.size)⟩
      by_cases hbig : 100000 ≤ z
      · have hbig' : (100000 : Int) ≤ (z : Int) := by omega
        have hbig2 : ¬ ((z : Int) < 100000) := by omega
        have hdec : ((k : Int) < (n : Int)) ∨ ¬ ((k : Int) < (n : Int)) := Classical.em _
        rcases hdec with hd | hd
        all_goals
          go_wp2_with (go_at_call 8; refine (HW.out _ (by first | exact HBk.out | exact Below.refl _ _)).mono ?_; rintro e W1 ⟨rfl, hb1⟩; have HBk := Lib.hid hb1; clear hb1)
          go_ret
          exact ⟨rfl, HBk.out⟩
      · have hkn : k = n := by omega
        have HMod := Lib.hid (rch_mod hI.out (by rw [hn.out]; exact hkn) (by omega))
        have hsl : s.size < 100000 := by
          have := hI.out; omega
        have hz2 : (z : Int) < 100000 := by omega
        have hz3 : decide ((100000 : Int) ≤ (z : Int)) = false := decide_eq_false (by omega)
        have hz4 : decide ((z : Int) < 100000) = true := decide_eq_true hz2
        have hkn' : ¬ ((k : Int) < (n : Int)) := by omega
        have hs2 : (s.size : Int) < 100000 := by omega
        clear hI hgo hbig hkn hk
        obtain ⟨L, hL⟩ : ∃ L, Hid (ls1 ls = L) := ⟨_, Lib.hid rfl⟩
        have HWr : Hid (∀ W, Below w.heap.size w W → Calls Try.prog 11 #[.slice a n c] W fun e w' => e = .returned (.tuple #[sv (wrV L).1, .int .i64 ((wrV L).2 : Nat)]) ∧ Below W.heap.size W w') := fun W hb => by
          have := write_any (.slice a n c) ls W (HV.out.later hb) HMod.out
          rwa [hL.out] at this
        obtain ⟨t1, ht1⟩ : ∃ t, Hid ((wrV L).1 = t) := ⟨_, Lib.hid rfl⟩
        obtain ⟨e1, he1⟩ : ∃ t, Hid ((wrV L).2 = t) := ⟨_, Lib.hid rfl⟩
        obtain ⟨q1, hq1⟩ : ∃ q : ByteArray, (⟨t1.toArray⟩ : ByteArray) = q := ⟨_, rfl⟩
        rw [ht1.out, he1.out] at HWr
        unfold sv at HWr
        rw [hq1] at HWr
        have HQ1 := Lib.hid hq1
        clear hq1
        go_wp2_with fail
        refine (HW.out _ (Below.refl _ _)).mono ?_
        rintro e W1 ⟨rfl, hb1⟩
        have HB1 := Lib.hid hb1
        clear hb1
        go_wp2_with fail
        refine (HWr.out _ HB1.out).mono ?_
        rintro e W2 ⟨rfl, hb2⟩
        have HB2 := Lib.hid (HB1.out.trans (hb2.mono HB1.out.size))
        clear hb2
        go_upto_region 9 with fail
        obtain ⟨B, hB⟩ : ∃ B, Hid (decide (e1 = 0 ∧ q1.size ≤ 200000) = B) := ⟨_, Lib.hid rfl⟩
        go_cut [64] (fun s64 wx => s64 = .bool B ∧ Hid (Below w.heap.size w wx))
        case first =>
          have hql : (q1.size : Int) ≤ 9223372036854775807 := by
            have h1 : q1.size = t1.length := by rw [← HQ1.out]; exact sv_size _
            have h2 : t1.length ≤ 16777216 := by
              rw [← ht1.out]
              unfold wrV
              split
              · split
                · rename_i h; exact (fits_parts h).2
                · simp
              · simp
            omega
          by_cases h0 : e1 = 0
          · by_cases hlong : q1.size ≤ 200000
            · have hl1 : decide ((q1.size : Int) ≤ 200000) = true := decide_eq_true (by omega)
              have hBt : B = true := by rw [← hB.out]; exact decide_eq_true ⟨h0, hlong⟩
              subst h0 hBt
              go_wp2
              go_meet
              exact ⟨rfl, HB2⟩
            · have hl1 : decide ((q1.size : Int) ≤ 200000) = false := decide_eq_false (by omega)
              have hBt : B = false := by rw [← hB.out]; exact decide_eq_false (fun h => hlong h.2)
              subst h0 hBt
              go_wp2
              go_meet
              exact ⟨rfl, HB2⟩
          · have h1 : ((e1 : Int) == 0) = false := by simp; omega
            have hBt : B = false := by rw [← hB.out]; exact decide_eq_false (fun h => h0 h.1)
            subst hBt
            go_wp2
            go_meet
            exact ⟨rfl, HB2⟩
        case rest =>
        obtain ⟨rfl, HB2⟩ := hcut
        obtain ⟨W2, rfl⟩ : ∃ W2, W2 = wc := ⟨wc, rfl⟩
        go_upto_if 64 with fail
        go_cut [] (fun wx => Hid (Below w.heap.size w wx))
        case first =>
          by_cases hBt : B = true
          · have hbb : e1 = 0 ∧ q1.size ≤ 200000 := of_decide_eq_true (by rw [hB.out]; exact hBt)
            obtain ⟨h0, hlong⟩ := hbb
            obtain ⟨z1, z2, z3⟩ := wrV_zero (he1.out.trans h0)
            have HRd := rd_wr z1 z2
            rw [← z3, ht1.out] at HRd
            have hq1 : q1.size = t1.length := by rw [← HQ1.out]; exact sv_size _
            have HN : Hid (L.length = n) := (by rw [← hL.out, List.length_map, hn.out] : L.length = n)
            have HRS : Hid (∀ W, Calls Try.prog 9 #[.string q1] W fun e w' => ∃ ra rc ps, e = .returned (.tuple #[.slice ra n rc, .int .i64 0, .int .i64 0]) ∧ Lr 33 w' W.heap.size (.slice ra n rc) ps ∧ tell ps = nums 1 L ∧ tell ps = (rdV t1).1 ∧ ps.length = n ∧ Below W.heap.size W w') := fun W => by
              refine (readS q1 t1 W (by rw [← HQ1.out]) (by rw [← ht1.out, z3]; have := (fits_parts z2).2; omega)).mono ?_
              rintro e w' ⟨ra, rc, ps, rfl, h2, h3, h4, h5⟩
              rw [HRd] at h2 h3 h4 ⊢
              have e1 : (nums 1 L).length = n := by rw [nums_len, HN.out]
              have e2 : ((nums 1 L, 0, 0) : List (Nat × List Bs) × Nat × Nat).1.length = n := e1
              rw [e2] at h2 h4 ⊢
              exact ⟨ra, rc, ps, rfl, h2, h3, h3, h4, h5⟩
            clear HRd z1 z2 z3 h0
            subst hBt
            have hl2 : (q1.size : Int) ≤ 200000 := by omega
            go_wp2_with (go_at_call 9; refine (HRS.out _).mono ?_; rintro e W3 ⟨ra, rc, ps, rfl, hr1, hr2, hr3, hr4, hr5⟩; have HRp := Lib.hid (And.intro hr1 (And.intro hr2 (And.intro hr3 (And.intro hr4 (HB2.out.trans (hr5.mono HB2.out.size)))))); clear hr1 hr2 hr3 hr4 hr5)
            go_loopw [12] (fun s12 wr => ∃ i : Nat, i ≤ n ∧ s12 = .int .i64 (i : Nat) ∧ Hid (∃ m, wr = W3.drewN m)) (fun s12 _ => n - (RowKit.intOf s12).toNat)
            case atStart => exact ⟨0, Nat.zero_le _, rfl, 0, rfl⟩
            case round =>
              obtain ⟨i, hi, rfl, hJ⟩ := hrel
              by_cases hlt : i < n
              · have hlt' : (i : Int) < (n : Int) := by omega
                have hi0 : (0 : Int) ≤ (i : Int) := by omega
                obtain ⟨m0, hm0⟩ := hJ.out
                have hbw : Below W3.heap.size W3 wr := by rw [hm0]; exact below_drewN _ _ _
                obtain ⟨hr1, hr2, hr3, hr4, hr5⟩ := HRp.out
                have hi1 : i < ps.length := by rw [hr4]; exact hlt
                have hi2 : i < ls.length := by rw [hn.out]; exact hlt
                have hi3 : i < L.length := by rw [HN.out]; exact hlt
                have hrw := hr1.later hbw
                obtain ⟨ga, gcc, eg, _, _, hgf⟩ := hrw.form
                obtain ⟨g1, eg1, hg1⟩ := hgf.resolve_left (fun e => by rw [e] at hi1; simp at hi1)
                have eA : ra = some ⟨g1, 0, none⟩ := by
                  have : ra = ga ∧ n = ps.length ∧ rc = gcc := by simpa using eg
                  exact this.1.trans eg1
                subst eA
                have hro := hrw.own
                rw [hr4] at hro
                obtain ⟨k1, k2⟩ := row_cells hro hi1
                obtain ⟨hl3, q5⟩ := tell_at hr2 hi1
                rw [nums_at L 1 i hi3 hl3] at q5
                have q5a : ps[i].1 = 1 + i := congrArg Prod.fst q5
                have q5b : ps[i].2.1 = L[i] := congrArg Prod.snd q5
                obtain ⟨g, off, ea, hg, hcell⟩ := HM.out.resolve_left (fun e => by rw [e] at hi2; simp at hi2)
                subst ea
                have b1 := cell_later (hr5.trans (hbw.mono hr5.size)) hg (hcell i ls[i] (List.getElem?_eq_getElem hi2))
                have hLi : L[i] = ls[i].1 := by
                  have e := hL.out
                  subst e
                  rw [List.getElem_map]
                have s1 : Sl wr ps[i].2.2 L[i] := by
                  have := (hr1.sl hr3 _ (List.getElem_mem hi1)).later hbw
                  rwa [q5b] at this
                have s2 : Sl wr ls[i].2 L[i] := by
                  rw [hLi]; exact (HU.out _ (List.getElem_mem hi2)).later (hr5.trans (hbw.mono hr5.size))
                obtain ⟨x1, hx1⟩ : ∃ x, ps[i].2.2 = x := ⟨_, rfl⟩
                obtain ⟨x2, hx2⟩ : ∃ x, ls[i].2 = x := ⟨_, rfl⟩
                rw [hx1] at s1 k2
                rw [hx2] at s2 b1
                rw [q5a] at k1
                have k1' : wr.cell? ⟨g1, i * 2, none⟩ = some (.int .i64 ((i : Int) + 1)) := by rw [k1, show ((1 + i : Nat) : Int) = (i : Int) + 1 by omega]
                have HTx : Hid (∀ m, Calls Try.prog 13 #[x1, x2] (wr.drewN m) fun e w' => e = .returned (.bool true) ∧ ∃ k, w' = (wr.drewN m).drewN k) := fun m => by
                  have hb := below_drewN wr.heap.size wr m
                  have := textsN_any x1 x2 L[i] L[i] (wr.drewN m) (s1.later hb) (s2.later hb)
                  rwa [decide_eq_true rfl] at this
                have HDn : Hid (∀ m, ∃ k, wr.drewN m = W3.drewN k) := fun m => ⟨m0 + m, by rw [hm0, World.drewN_drewN]⟩
                obtain ⟨⟨xa, xc, rfl, _, _, _⟩, _⟩ := s1
                obtain ⟨⟨ya, yc, rfl, _, _, _⟩, _⟩ := s2
                clear k1 hm0 hbw hr1 hr2 hr3 hr4 hr5 hrw hro q5 q5a q5b hcell hx1 hx2 hLi hgf eg hl3
                go_wp2
                go_quiet (first | (go_at_call 13; refine Calls.quiet_of (HTx.out _)))
                go_wp2
                go_roundw
                case rel => exact ⟨i + 1, by omega, by go_num, HDn.out _⟩
                case measure => simp [RowKit.intOf]; omega
              · obtain rfl : n = i := by omega
                have HE : Hid (Below w.heap.size w wr) := by
                  obtain ⟨m0, hm0⟩ := hJ.out
                  rw [hm0]
                  exact HRp.out.2.2.2.2.trans ((below_drewN _ W3 m0))
                go_wp2
                go_meet
                exact HE
          · have hBf : B = false := by simpa using hBt
            subst hBf
            go_wp2
            go_meet
            exact HB2
        case rest =>
          obtain ⟨W3, rfl⟩ : ∃ W3, W3 = wc := ⟨wc, rfl⟩
          have HC := hcut
          clear hcut HWr HQ1 ht1 he1 hB HMod HV HU HM HR hL
          obtain ⟨t2, ht2⟩ : ∃ t, Hid (s.data.toList = t) := ⟨_, Lib.hid rfl⟩
          have htl : t2.length < 100000 := by rw [← ht2.out, ← Lib.size_eq]; exact hsl
          obtain ⟨L2, hL2⟩ : ∃ L, Hid ((rdV t2).1 = L) := ⟨_, Lib.hid rfl⟩
          obtain ⟨e2, he2⟩ : ∃ e, Hid ((rdV t2).2.2 = e) := ⟨_, Lib.hid rfl⟩
          obtain ⟨o2, ho2⟩ : ∃ e, Hid ((rdV t2).2.1 = e) := ⟨_, Lib.hid rfl⟩
          obtain ⟨n2, hn2⟩ : ∃ e, Hid (L2.length = e) := ⟨_, Lib.hid rfl⟩
          have HR2 : Hid (∀ W, Calls Try.prog 9 #[.string s] W fun e w' => ∃ ra rc ps, e = .returned (.tuple #[.slice ra n2 rc, .int .i64 (o2 : Nat), .int .i64 (e2 : Nat)]) ∧ Lr 33 w' W.heap.size (.slice ra n2 rc) ps ∧ tell ps = L2 ∧ ps.length = n2 ∧ Below W.heap.size W w') := fun W => by
            refine (readS s t2 W ht2.out (by omega)).mono ?_
            rintro e w' ⟨ra, rc, ps, rfl, h2, h3, h4, h5⟩
            rw [hL2.out, hn2.out] at h2 h4
            rw [hL2.out] at h3
            exact ⟨ra, rc, ps, by rw [hL2.out, hn2.out, ho2.out, he2.out], h2, h3, h4, h5⟩
          by_cases h0 : e2 = 0
          · subst h0
            have HRF := Lib.hid (rd_fits (t := t2) (by omega) he2.out)
            rw [hL2.out] at HRF
            obtain ⟨i1, hyi, hy0, hy1, hy2⟩ := info_parts (show (Try.prog.info? 30).map (fun i => (i.zero, i.size, i.bytes)) = some (some (.slice none 0 0), 1, 24) by kernel_rfl)
            have hn2l : n2 ≤ 100000 := by
              have h1 : L2.length ≤ t2.length + 1 := by
                rw [← hL2.out]
                unfold rdV
                split
                · simp
                · split
                  · simp
                  · exact Nat.le_trans (good_len _ _) (lns_len t2)
              rw [hn2.out] at h1; omega
            have hn2' : (n2 : Int) ≤ 100000 := by omega
            go_wp2_with (go_at_call 9; refine (HR2.out _).mono ?_; rintro e W4 ⟨ra, rc, ps, rfl, hr1, hr2, hr3, hr4⟩; have HP := Lib.hid (And.intro hr1 (And.intro hr2 (And.intro hr3 (HC.out.trans (hr4.mono HC.out.size))))); clear hr1 hr2 hr3 hr4)
            go_loopw [16, 17] (fun s16 s17 wr => ∃ i : Nat, i ≤ n2 ∧ s17 = .int .i64 (i : Nat) ∧ Hid (wr.ownsRow W4.heap.size 30 1 s16 i ((ps.take i).map (·.2.2)) ∧ Below W4.heap.size W4 wr)) (fun _ s17 _ => n2 - (RowKit.intOf s17).toNat)
            case atStart => exact ⟨0, Nat.zero_le _, rfl, World.ownsRow_nil _ _ _ _, Below.refl _ _⟩
            case round =>
              obtain ⟨i, hi, rfl, hJ⟩ := hrel
              by_cases hlt : i < n2
              · have hlt' : (i : Int) < (n2 : Int) := by omega
                have hi0 : (0 : Int) ≤ (i : Int) := by omega
                obtain ⟨hr1, hr2, hr3, hr5⟩ := HP.out
                have hi1 : i < ps.length := by rw [hr3]; exact hlt
                have hrw := hr1.later hJ.out.2
                obtain ⟨ga, gcc, eg, _, _, hgf⟩ := hrw.form
                obtain ⟨g1, eg1, hg1⟩ := hgf.resolve_left (fun e => by rw [e] at hi1; simp at hi1)
                have eA : ra = some ⟨g1, 0, none⟩ := by
                  have : ra = ga ∧ n2 = ps.length ∧ rc = gcc := by simpa using eg
                  exact this.1.trans eg1
                subst eA
                have hro := hrw.own
                rw [hr3] at hro
                obtain ⟨k1, k2⟩ := row_cells hro hi1
                obtain ⟨x1, hx1⟩ : ∃ x, ps[i].2.2 = x := ⟨_, rfl⟩
                have HSn := Lib.hid (map_take_snoc hi1)
                have hsf := (hr1.sub _ (List.getElem_mem hi1)).form
                rw [hx1] at k2 HSn hsf
                obtain ⟨xa, xc, rfl, _, _⟩ := hsf
                obtain ⟨nx, hnx⟩ : ∃ nx, ps[i].2.1.length = nx := ⟨_, rfl⟩
                rw [hnx] at k2 HSn
                have HN2 : Hid (i ≤ 100000) := (by omega : i ≤ 100000)
                clear k1 hr1 hr2 hr3 hr5 hrw hro hgf eg hx1 hnx
                go_wp2_with (at_builtin; refine wpList_append_own _ rfl _ _ 31 rfl W4.heap.size 30 i1 (.slice none 0 0) 1 24 Try.underlying31 hyi hy0 hy1 hy2 rfl (by decide) u16 i ((ps.take i).map (·.2.2)) rfl (World.ownsRow.alloc hJ.out.1 _) ⟨wr.heap.size, 0, none⟩ 1 1 [.slice xa nx xc] rfl rfl (cell_one_new _ _ _) (by simp [Value.oneCell']) (by unfold maxLen; have := HN2.out; omega) (by have := HN2.out; omega) (by have := hJ.out.2.size; simp; omega) ?_; intro v' W5 hown hgrow _; rw [← HSn.out] at hown; have HR5 := Lib.hid (And.intro hown (below_grew hJ.out.2 hJ.out.1 hgrow)); clear hown hgrow)
                go_roundw
                case rel => exact ⟨i + 1, by omega, by go_num, HR5.out⟩
                case measure => simp [RowKit.intOf]; omega
              · obtain rfl : n2 = i := by omega
                obtain ⟨hr1, hr2, hr3, hr5⟩ := HP.out
                have hrow := hJ.out.1
                rw [← hr3, List.take_length] at hrow
                have hr2' : tell ps = (rdV t2).1 := by rw [hL2.out]; exact hr2
                have hLl := own_ll hrow (fun p hp => (hr1.sl hr2' p hp).later hJ.out.2)
                have hlen3 : (lvs ps).length = n2 := by simp [lvs, hr3]
                obtain ⟨⟨wa, wc2, hu, _, _, _⟩, _⟩ := id hLl
                rw [hlen3] at hu
                have HWr : Hid (Calls Try.prog 11 #[.slice wa n2 wc2] wr fun e w' => e = .returned (.tuple #[sv (wrT (L2.map (·.2))), .int .i64 0]) ∧ Below wr.heap.size wr w') := by
                  have := write_any u16 (lvs ps) wr hLl (lvs_mod hr2' htl)
                  rw [lvs_ls1, hr2, wrV_good HRF.out.1 HRF.out.2, hu] at this
                  exact this
                have HRd := rd_wr HRF.out.1 HRF.out.2
                obtain ⟨t3, ht3⟩ : ∃ t, wrT (L2.map (·.2)) = t := ⟨_, rfl⟩
                have ht3l : t3.length ≤ 16777216 := by rw [← ht3]; exact (fits_parts HRF.out.2).2
                rw [ht3] at HWr HRd
                obtain ⟨q3, hq3⟩ : ∃ q : ByteArray, (⟨t3.toArray⟩ : ByteArray) = q := ⟨_, rfl⟩
                unfold sv at HWr
                rw [hq3] at HWr
                have HRS : Hid (∀ W, Calls Try.prog 9 #[.string q3] W fun e w' => ∃ xa xc aps, e = .returned (.tuple #[.slice xa n2 xc, .int .i64 0, .int .i64 0]) ∧ Lr 33 w' W.heap.size (.slice xa n2 xc) aps ∧ tell aps = nums 1 (L2.map (·.2)) ∧ tell aps = (rdV t3).1 ∧ aps.length = n2 ∧ Below W.heap.size W w') := fun W => by
                  refine (readS q3 t3 W (by rw [← hq3]) (by omega)).mono ?_
                  rintro e w' ⟨xa, xc, aps, rfl, h2, h3, h4, h5⟩
                  rw [HRd] at h2 h3 h4 ⊢
                  have e2 : ((nums 1 (L2.map (·.2)), 0, 0) : List (Nat × List Bs) × Nat × Nat).1.length = n2 := by
                    show (nums 1 (L2.map (·.2))).length = n2
                    rw [nums_len, List.length_map, hn2.out]
                  rw [e2] at h2 h4 ⊢
                  exact ⟨xa, xc, aps, rfl, h2, h3, h3, h4, h5⟩
                have HPw := Lib.hid (And.intro (hr1.later hJ.out.2) (And.intro hr2 (And.intro hr2' (And.intro hr3 (hr5.trans (hJ.out.2.mono hr5.size))))))
                clear hr1 hr2 hr2' hr3 hr5 hrow hLl hlen3 HRd hq3 ht3 HR2 HW HC HP hJ
                subst hu
                obtain ⟨W5, hW5⟩ : ∃ W5, wr = W5 := ⟨_, rfl⟩
                rw [hW5] at HPw HWr ⊢
                clear hW5
                go_wp2_with (first
                  | (go_at_call 11; refine HWr.out.mono ?_; rintro e W6 ⟨rfl, hb6⟩; have HB6 := Lib.hid hb6; clear hb6)
                  | (go_at_call 9; refine (HRS.out _).mono ?_; rintro e W7 ⟨ya, yc, aps, rfl, hr1, hr2, hr3, hr4, hr5⟩; have HP7 := Lib.hid (And.intro hr1 (And.intro hr2 (And.intro hr3 (And.intro hr4 (HB6.out.trans (hr5.mono HB6.out.size)))))); clear hr1 hr2 hr3 hr4 hr5))
                go_loopw [23] (fun s23 wr => ∃ i : Nat, i ≤ n2 ∧ s23 = .int .i64 (i : Nat) ∧ Hid (∃ m, wr = W7.drewN m)) (fun s23 _ => n2 - (RowKit.intOf s23).toNat)
                case atStart => exact ⟨0, Nat.zero_le _, rfl, 0, rfl⟩
                case round =>
                  obtain ⟨i, hi, rfl, hJ⟩ := hrel
                  obtain ⟨m0, hm0⟩ := hJ.out
                  have hbw : Below W7.heap.size W7 wr := by rw [hm0]; exact below_drewN _ _ _
                  obtain ⟨p1, p2, p3, p4, p5⟩ := HPw.out
                  obtain ⟨r1, r2, r3, r4, r5⟩ := HP7.out
                  by_cases hlt : i < n2
                  · have hlt' : (i : Int) < (n2 : Int) := by omega
                    have hi0 : (0 : Int) ≤ (i : Int) := by omega
                    have hi1 : i < ps.length := by rw [p4]; exact hlt
                    have hi2 : i < aps.length := by rw [r4]; exact hlt
                    have hb57 : Below W5.heap.size W5 wr := r5.trans (hbw.mono r5.size)
                    have hrw1 := p1.later hb57
                    have hrw2 := r1.later hbw
                    obtain ⟨ga, gcc, eg, _, _, hgf⟩ := hrw1.form
                    obtain ⟨g1, eg1, hg1⟩ := hgf.resolve_left (fun e => by rw [e] at hi1; simp at hi1)
                    have eA : ra = some ⟨g1, 0, none⟩ := by
                      have : ra = ga ∧ n2 = ps.length ∧ rc = gcc := by simpa using eg
                      exact this.1.trans eg1
                    subst eA
                    obtain ⟨gb, gcd, eg2, _, _, hgf2⟩ := hrw2.form
                    obtain ⟨g2, eg3, hg2⟩ := hgf2.resolve_left (fun e => by rw [e] at hi2; simp at hi2)
                    have eB : ya = some ⟨g2, 0, none⟩ := by
                      have : ya = gb ∧ n2 = aps.length ∧ yc = gcd := by simpa using eg2
                      exact this.1.trans eg3
                    subst eB
                    have hro1 := hrw1.own
                    have hro2 := hrw2.own
                    rw [p4] at hro1
                    rw [r4] at hro2
                    obtain ⟨k1, k2⟩ := row_cells hro1 hi1
                    obtain ⟨k3, k4⟩ := row_cells hro2 hi2
                    obtain ⟨hl3, q5⟩ := tell_at r2 hi2
                    obtain ⟨hl4, q6⟩ := tell_at p2 hi1
                    have hl5 : i < (L2.map (·.2)).length := by simpa using hl4
                    rw [nums_at _ 1 i hl5 hl3] at q5
                    have q5b : aps[i].2.1 = L2[i].2 := by
                      have := congrArg Prod.snd q5
                      simpa using this
                    have q6b : ps[i].2.1 = L2[i].2 := congrArg Prod.snd q6
                    have s1 := (r1.sl r3 _ (List.getElem_mem hi2)).later hbw
                    have s2 := (p1.sl p3 _ (List.getElem_mem hi1)).later hb57
                    rw [q5b] at s1
                    rw [q6b] at s2
                    obtain ⟨x1, hx1⟩ : ∃ x, aps[i].2.2 = x := ⟨_, rfl⟩
                    obtain ⟨x2, hx2⟩ : ∃ x, ps[i].2.2 = x := ⟨_, rfl⟩
                    rw [hx1] at s1 k4
                    rw [hx2] at s2 k2
                    have HTx : Hid (∀ m, Calls Try.prog 13 #[x1, x2] (wr.drewN m) fun e w' => e = .returned (.bool true) ∧ ∃ k, w' = (wr.drewN m).drewN k) := fun m => by
                      have hb := below_drewN wr.heap.size wr m
                      have := textsN_any x1 x2 L2[i].2 L2[i].2 (wr.drewN m) (s1.later hb) (s2.later hb)
                      rwa [decide_eq_true rfl] at this
                    have HDn : Hid (∀ m, ∃ k, wr.drewN m = W7.drewN k) := fun m => ⟨m0 + m, by rw [hm0, World.drewN_drewN]⟩
                    obtain ⟨⟨xa, xc, rfl, _, _, _⟩, _⟩ := s1
                    obtain ⟨⟨yb, yd, rfl, _, _, _⟩, _⟩ := s2
                    clear k1 k3 hm0 hbw p1 p2 p3 p4 p5 r1 r2 r3 r4 r5 hb57 hrw1 hrw2 hgf hgf2 eg eg2 hro1 hro2 q5 q6 q5b q6b hx1 hx2 hl3 hl5
                    go_wp2
                    go_quiet (first | (go_at_call 13; refine Calls.quiet_of (HTx.out _)))
                    go_wp2
                    go_roundw
                    case rel => exact ⟨i + 1, by omega, by go_num, HDn.out _⟩
                    case measure => simp [RowKit.intOf]; omega
                  · obtain rfl : n2 = i := by omega
                    have HE : Hid (Below w.heap.size w wr) := by
                      have hb57 : Below W5.heap.size W5 wr := r5.trans (hbw.mono r5.size)
                      exact p5.trans (hb57.mono p5.size)
                    clear hm0 hbw p1 p2 p3 p4 p5 r1 r2 r3 r4 r5
                    go_wp2
                    go_ret
                    exact ⟨rfl, HE.out⟩
          · have h1 : ((e2 : Int) != 0) = true := by simp; omega
            have HNil : Hid (n2 = 0) := by
              show n2 = 0
              rw [← hn2.out, ← hL2.out, rd_err (by rw [he2.out]; exact h0)]; rfl
            rw [HNil.out] at HR2
            go_wp2_with (go_at_call 9; refine (HR2.out _).mono ?_; rintro e W4 ⟨ra, rc, ps, rfl, hr1, hr2, hr3, hr4⟩; have HB4 := Lib.hid (HC.out.trans (hr4.mono HC.out.size)); clear hr1 hr2 hr3 hr4)
            go_ret
            exact ⟨rfl, HB4.out⟩
end Go.Proofs.Ytpjdffjfhnlbjaa
