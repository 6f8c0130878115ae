/- The document's side of layer 9: Read. -/
import Derived.Test.YtpjdffjfhnlbjaaBl
namespace Go.Proofs.Ytpjdffjfhnlbjaa
open Go.RowKit Go.Shelf Go.Lib

structure RdI (t : Bs) (st k : Nat) (done : List Bs) : Prop where
  all : lns t = done ++ (if st ≤ t.length then lns (t.drop st) else [])
  free : ∀ c ∈ cw t st k, c ≠ 10
  none : bad 1 done = none
  le : st ≤ k
  fin : k = t.length + 1 → st = k
theorem RdI.start (t : Bs) : RdI t 0 0 [] := ⟨rfl, fun c hc => by simp [cw] at hc, rfl, Nat.le_refl _, fun h => by omega⟩
theorem RdI.done {t : Bs} {st : Nat} {done : List Bs} (h : RdI t st (t.length + 1) done) : lns t = done := by
  have := h.all
  rw [h.fin rfl, if_neg (by omega), List.append_nil] at this
  exact this
theorem RdI.go {t : Bs} {st k : Nat} {done : List Bs} (h : RdI t st k done) (hk : k < t.length) (hc : t[k] ≠ 10) : RdI t st (k + 1) done := by
  refine ⟨h.all, fun c hc' => ?_, h.none, by have := h.le; omega, fun e => by omega⟩
  have := h.le
  unfold cw at hc'
  rw [show k + 1 - st = (k - st) + 1 by omega, List.take_add_one] at hc'
  rcases List.mem_append.1 hc' with e | e
  · exact h.free c e
  · rw [List.getElem?_drop, show st + (k - st) = k by omega, List.getElem?_eq_getElem hk] at e
    obtain rfl : c = t[k] := by simpa using e
    exact hc
theorem RdI.line {t : Bs} {st k : Nat} {done : List Bs} (h : RdI t st k done) (hk : k ≤ t.length) (hc : ∀ hk : k < t.length, t[k] = 10) : lns t = done ++ cw t st k :: (if k + 1 ≤ t.length then lns (t.drop (k + 1)) else []) := by
  rw [h.all, if_pos (by have := h.le; omega)]
  congr 1
  have e := cw_drop (l := t) h.le
  by_cases hlt : k < t.length
  · rw [e, List.drop_eq_getElem_cons hlt, hc hlt, lns_app h.free, if_pos (by omega : k + 1 ≤ t.length)]
  · rw [if_neg (by omega : ¬ k + 1 ≤ t.length), e, List.drop_of_length_le (by omega), List.append_nil, lns_none (fun hm => h.free 10 hm rfl)]
theorem RdI.bad {t : Bs} {st k : Nat} {done : List Bs} (h : RdI t st k done) (hk : k ≤ t.length) (hc : ∀ hk : k < t.length, t[k] = 10) (he : lineE (cw t st k) ≠ 0) : bad 1 (lns t) = some (done.length + 1, lineE (cw t st k)) := by
  rw [h.line hk hc, bad_app h.none, Go.Proofs.Ytpjdffjfhnlbjaa.bad, if_neg he, Nat.add_comm]
theorem RdI.step {t : Bs} {st k : Nat} {done : List Bs} (h : RdI t st k done) (hk : k ≤ t.length) (hc : ∀ hk : k < t.length, t[k] = 10) (he : lineE (cw t st k) = 0) : RdI t (k + 1) (k + 1) (done ++ [cw t st k]) := by
  refine ⟨by rw [h.line hk hc, List.append_assoc]; rfl, fun c hc => by simp [cw] at hc, ?_, Nat.le_refl _, fun _ => rfl⟩
  rw [bad_app h.none, Go.Proofs.Ytpjdffjfhnlbjaa.bad, if_pos he]; rfl
theorem RdI.dlen {t : Bs} {st k : Nat} {done : List Bs} (h : RdI t st k done) : done.length ≤ t.length + 1 := by
  have := lns_len t
  rw [h.all, List.length_append] at this
  omega
theorem lineE_is {l : Bs} : lineE l = if 65536 < l.length then 3 else if (lineW l).all mayW then 0 else 4 := rfl
theorem Lr.below_grew {e : TypeId} {w W W2 : World} {v : Value} {ps : List Lt} {tmp : Obj} (hb : Below w.heap.size w W) (h : Lr e W w.heap.size v ps) (hg : (W.alloc tmp).grownBy W2 v.ownBlock) : Below w.heap.size w W2 := Go.Proofs.Ytpjdffjfhnlbjaa.below_grew hb h.own hg

set_option maxRecDepth 100000 in
set_option maxHeartbeats 8000000 in
theorem refRead_any (s : ByteArray) (t : Bs) (w : World) (ht : s.data.toList = t) (hl : t.length ≤ 16777216) :
    Calls Try.prog 12 #[.string s] w fun e w' => ReadR 37 w w' t e := by
  have hsz : s.size = t.length := by rw [Lib.size_eq, ht]
  have h1 : ¬ ((16777216 : Int) < (s.size : Int)) := by omega
  have h2 : (s.size : Int) ≤ 16777216 := by omega
  have HL := Lib.hid hl
  have HZ := Lib.hid hsz
  have HB : Hid (∀ (k : Nat) (h1 : k < s.size) (h2 : k < t.length), s[k]'h1 = t[k]) := fun k g1 g2 => by
    have e : s = ⟨t.toArray⟩ := by rw [← ht]
    subst e
    exact byte_at g1 g2
  have HX : Hid (∀ st k, (s.extract st k).data.toList = cw t st k) := fun st k => by rw [Lib.extract_eq, ht]
  obtain ⟨i0, hi0, hz0, hz1, hz2⟩ := info_parts (show (Try.prog.info? 37).map (fun i => (i.zero, i.size, i.bytes)) = some (some (.agg #[.int .i64 0, .slice none 0 0]), 2, 32) by kernel_rfl)
  clear ht hl hsz
  go_enter Try.func12, Try.ntmps12
  go_wp2
  go_loopw [5, 6, 7, 8] (fun s5 s6 s7 s8 wr => ∃ (k st : Nat) (ps : List Lt) (done : List Bs), k ≤ s.size + 1 ∧ s8 = .int .i64 (k : Nat) ∧ s7 = .int .i64 (st : Nat) ∧ st ≤ k ∧ s6 = .int .i64 ((done.length + 1 : Nat) : Int) ∧ Hid (RdI t st k done ∧ tell ps = good 1 done ∧ Lr 37 wr w.heap.size s5 ps ∧ Below w.heap.size w wr)) (fun _ _ _ s8 _ => s.size + 1 - (RowKit.intOf s8).toNat)
  case atStart => exact ⟨0, 0, [], [], Nat.zero_le _, rfl, rfl, Nat.le_refl _, rfl, RdI.start t, rfl, Lr.nil _ _ _, Below.refl _ _⟩
  case round =>
    obtain ⟨k, st, ps, done, hk, rfl, rfl, hst, rfl, hI⟩ := hrel
    have hk0 : (0 : Int) ≤ (k : Int) := by omega
    have hst0 : (0 : Int) ≤ (st : Int) := by omega
    have hst' : (st : Int) ≤ (k : Int) := by omega
    have hdl : done.length ≤ 16777217 := by have := hI.out.1.dlen; have := HL.out; omega
    have hdl' : (done.length : Int) ≤ 16777217 := by omega
    have LN : Hid (ps.length ≤ 16777217) := by
      show ps.length ≤ _
      have e := congrArg List.length hI.out.2.1
      have := good_len done 1
      rw [← e] at this
      simp [tell] at this
      omega
    by_cases hend : k = s.size + 1
    · have HF : Hid (rdV t = (good 1 done, 0, 0)) := by
        show rdV t = _
        have h := hI.out.1
        rw [hend, HZ.out] at h
        rw [rdV_good HL.out (by rw [h.done]; exact h.none), h.done]
      have hgt : ¬ ((k : Int) ≤ (s.size : Int)) := by omega
      go_wp2
      go_ret3
      exact ⟨_, ps, by rw [HF.out]; rfl, hI.out.2.2.1, by rw [HF.out]; exact hI.out.2.1, hI.out.2.2.2⟩
    · have hkl : (k : Int) ≤ (s.size : Int) := by omega
      have hks : k ≤ t.length := by have := HZ.out; omega
      by_cases hnl : ∀ h : k < t.length, t[k] = 10
      · have hnl2 : (¬ ((k : Int) < (s.size : Int))) ∨ ((k : Int) < (s.size : Int) ∧ ∃ h : k < s.size, ((s[k]'h).toNat : Int) = 10) := by
          by_cases e : k = s.size
          · exact Or.inl (by omega)
          · have h1 : k < s.size := by omega
            have h2 : k < t.length := by rw [← HZ.out]; exact h1
            exact Or.inr ⟨by omega, h1, by rw [HB.out k h1 h2, hnl h2]; rfl⟩
        obtain ⟨ln, hln⟩ : ∃ ln, Hid (cw t st k = ln) := ⟨_, Lib.hid rfl⟩
        have HLL : Hid (ln.length = k - st) := (by rw [← hln.out]; exact cw_len hks : ln.length = k - st)
        have HBad : Hid (∀ e : Nat, e ≠ 0 → lineE ln = e → rdV t = ([], done.length + 1, e)) := fun e h0 he => by
          have := hI.out.1.bad hks hnl (by rw [hln.out, he]; exact h0)
          rw [hln.out, he] at this
          exact rdV_bad HL.out this
        have HStep : Hid (lineE ln = 0 → RdI t (k + 1) (k + 1) (done ++ [ln])) := fun he => by
          have := hI.out.1.step hks hnl (by rw [hln.out]; exact he)
          rwa [hln.out] at this
        clear hnl
        by_cases hlong : 65536 < k - st
        · have hlong' : (65536 : Int) < (k : Int) - (st : Int) := by omega
          have HE := Lib.hid (HBad.out 3 (by omega) (by rw [lineE_is, if_pos (by rw [HLL.out]; exact hlong)]))
          clear HBad HStep
          rcases hnl2 with e1 | ⟨e1, q1, q2⟩
          · go_wp2
            go_ret3
            exact ⟨_, [], by rw [HE.out]; rfl, Lr.nil _ _ _, by rw [HE.out]; rfl, hI.out.2.2.2⟩
          · go_wp2
            go_ret3
            exact ⟨_, [], by rw [HE.out]; rfl, Lr.nil _ _ _, by rw [HE.out]; rfl, hI.out.2.2.2⟩
        · have hlong' : ¬ ((65536 : Int) < (k : Int) - (st : Int)) := by omega
          obtain ⟨q, hq⟩ : ∃ q, s.extract st k = q := ⟨_, rfl⟩
          have HWo : Hid (∀ W, Calls Try.prog 25 #[.string q] W fun e w' => WdR W w' ln e) := fun W => by
            refine refWords_any q ln W (by rw [← hq, HX.out, hln.out]) ?_
            rw [HLL.out]; omega
          clear HX
          obtain ⟨ok, hok⟩ : ∃ ok, Hid ((lineW ln).all mayW = ok) := ⟨_, Lib.hid rfl⟩
          cases ok
          · have HE := Lib.hid (HBad.out 4 (by omega) (by rw [lineE_is, if_neg (by rw [HLL.out]; exact hlong), hok.out]; rfl))
            have HW2 : Hid (∀ W, Calls Try.prog 25 #[.string q] W fun e w' => e = .returned (.tuple #[.slice none 0 0, .bool false]) ∧ Below W.heap.size W w') := fun W => by
              refine (HWo.out W).mono ?_
              rintro e w' ⟨⟨v, rfl, g1, g2⟩, hb⟩
              rw [g2 hok.out, hok.out]
              exact ⟨rfl, hb⟩
            clear HBad HStep HWo
            rcases hnl2 with e1 | ⟨e1, q1, q2⟩
            all_goals
              go_wp2_with (go_at_call 25; refine (HW2.out _).mono ?_; rintro e W2 ⟨rfl, hb2⟩; have HB2 := Lib.hid (hI.out.2.2.2.trans (hb2.mono hI.out.2.2.2.size)); clear hb2)
              go_ret3
              exact ⟨_, [], by rw [HE.out]; rfl, Lr.nil _ _ _, by rw [HE.out]; rfl, HB2.out⟩
          · have hst2 := HStep.out (by rw [lineE_is, if_neg (by rw [HLL.out]; exact hlong), hok.out]; rfl)
            have HST := Lib.hid hst2
            have HW2 : Hid (∀ W, Calls Try.prog 25 #[.string q] W fun e w' => ∃ a c, e = .returned (.tuple #[.slice a (lineW ln).length c, .bool true]) ∧ Sr w' W.heap.size (.slice a (lineW ln).length c) (lineW ln) ∧ Below W.heap.size W w') := fun W => by
              refine (HWo.out W).mono ?_
              rintro e w' ⟨⟨v, rfl, g1, g2⟩, hb⟩
              have hS := g1 hok.out
              obtain ⟨a, c, rfl, _, _⟩ := hS.form
              exact ⟨a, c, by rw [hok.out], hS, hb⟩
            obtain ⟨ws, hws⟩ : ∃ ws, Hid (lineW ln = ws) := ⟨_, Lib.hid rfl⟩
            rw [hws.out] at HW2
            have HG : Hid (good 1 (done ++ [ln]) = good 1 done ++ (if ws.isEmpty then [] else [(done.length + 1, ws)])) := by
              show good 1 (done ++ [ln]) = _
              rw [good_step, hws.out]
            have hwl : ws.length ≤ 65537 := by
              rw [← hws.out]
              have g1 := toks_len (ahd ln)
              have g2 : (ahd ln).length ≤ ln.length := cutT_len _ _
              have g3 := HLL.out
              show (toks (ahd ln)).length ≤ _
              omega
            have hkk : k + 1 ≤ s.size + 1 := by omega
            have HMs : Hid (s.size + 1 - (k + 1) < s.size + 1 - k) := (by omega : s.size + 1 - (k + 1) < s.size + 1 - k)
            clear HBad HStep HWo hst2
            by_cases hw0 : ws = []
            · have hwn : ws.length = 0 := by rw [hw0]; rfl
              rw [hwn] at HW2
              have HI2 : Hid (tell ps = good 1 (done ++ [ln])) := by
                show tell ps = _
                rw [HG.out, hw0]; simp [hI.out.2.1]
              clear hw0 hwn hwl
              rcases hnl2 with e1 | ⟨e1, q1, q2⟩
              all_goals
                go_wp2_with (go_at_call 25; refine (HW2.out _).mono ?_; rintro e W2 ⟨wa, wc, rfl, hS2, hb2⟩; have HB2 := Lib.hid (And.intro (hI.out.2.2.1.later hb2) (hI.out.2.2.2.trans (hb2.mono hI.out.2.2.2.size))); clear hb2 hS2)
                go_roundw
                case rel => exact ⟨k + 1, k + 1, ps, done ++ [ln], hkk, by go_num, by go_num, Nat.le_refl _, by rw [List.length_append]; go_num, HST.out, HI2.out, HB2.out⟩
                case measure => simp [RowKit.intOf]; omega
            · have hwz : (0 : Int) < (ws.length : Int) := by
                have := List.length_pos_iff.2 hw0
                omega
              have hwl' : (ws.length : Int) ≤ 65537 := by omega
              have HI2 : Hid (∀ wv, tell (ps ++ [(done.length + 1, ws, wv)]) = good 1 (done ++ [ln])) := fun wv => by
                rw [HG.out, ← hI.out.2.1]
                cases ws with
                | nil => exact absurd rfl hw0
                | cons x r => simp [tell]
              have HWN := Lib.hid hw0
              clear hw0 hwl
              rcases hnl2 with e1 | ⟨e1, q1, q2⟩
              all_goals
                go_wp2_with (first
                  | (go_at_call 25; refine (HW2.out _).mono ?_; rintro e W2 ⟨wa, wc, rfl, hS2, hb2⟩; have HB2 := Lib.hid (And.intro (hI.out.2.2.1.later hb2) (hI.out.2.2.2.trans (hb2.mono hI.out.2.2.2.size))); have HS2 := Lib.hid (hS2.base (show w.heap.size ≤ wr.heap.size from hI.out.2.2.2.size)); have HFr := Lib.hid (hI.out.2.2.1.fresh hS2 (Nat.le_refl _) HWN.out); clear hb2 hS2)
                  | (at_builtin; refine wpList_append_own _ rfl _ _ 34 rfl w.heap.size 37 i0 (.agg #[.int .i64 0, .slice none 0 0]) 2 32 Try.underlying34 hi0 hz0 hz1 hz2 rfl (by decide) u5 ps.length (lcs ps) rfl (World.ownsRow.alloc HB2.out.1.own _) ⟨W2.heap.size, 0, none⟩ 1 1 [.int .i64 ((done.length + 1 : Nat) : Int), .slice wa ws.length wc] rfl rfl (cell_two_new _ _ _ _) (by simp [Value.oneCell']) (by unfold maxLen; have := LN.out; omega) (by have := LN.out; omega) (by have := HB2.out.2.size; simp; omega) ?_; intro v' W4 hown hgrow _; have HR4 := Lib.hid (And.intro (HB2.out.1.grew (p := (done.length + 1, ws, .slice wa ws.length wc)) (by decide) HS2.out HFr.out hown hgrow) (HB2.out.1.below_grew HB2.out.2 hgrow)); clear hown hgrow))
                go_roundw
                case rel => exact ⟨k + 1, k + 1, ps ++ [(done.length + 1, ws, .slice wa ws.length wc)], done ++ [ln], hkk, by go_num, by go_num, Nat.le_refl _, by rw [List.length_append]; go_num, HST.out, HI2.out _, HR4.out⟩
                case measure => simp [RowKit.intOf]; omega
      · have hklt : k < t.length := Nat.lt_of_not_le fun e => hnl fun h => absurd h (Nat.not_lt.2 e)
        have hne : t[k] ≠ 10 := fun e => hnl (fun _ => e)
        have hks2 : k < s.size := by rw [HZ.out]; exact hklt
        have e1 : (k : Int) < (s.size : Int) := by omega
        have HGo := Lib.hid (hI.out.1.go hklt hne)
        have d1 : ¬ ((((s[k]'hks2).toNat : Nat) : Int) = 10) := by
          rw [HB.out k hks2 hklt]
          exact fun e => hne (UInt8.toNat.inj (by show t[k].toNat = 10; omega))
        have d2 : ((((s[k]'hks2).toNat : Nat) : Int) == 10) = false := by simpa using d1
        have d3 : ((((s[k]'hks2).toNat : Nat) : Int) != 10) = true := by simpa using d1
        have HI3 := Lib.hid hI.out.2
        clear hnl hne HX
        go_wp2
        go_roundw
        case rel => exact ⟨k + 1, st, ps, done, by omega, by go_num, rfl, by omega, rfl, HGo.out, HI3.out⟩
        case measure => simp [RowKit.intOf]; omega
end Go.Proofs.Ytpjdffjfhnlbjaa
