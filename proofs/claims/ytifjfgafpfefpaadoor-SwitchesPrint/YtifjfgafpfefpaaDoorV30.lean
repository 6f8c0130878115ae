/- Own texts, put together: Yj Ym. -/
import Derived.Test.YtifjfgafpfefpaaDoorV28
import Derived.Laws.CopyOwn
namespace Go.Proofs.YtifjfgafpfefpaaDoor
/- Package switches: what the letters with numbers do. (gen_yj.py) -/
section
set_option maxRecDepth 100000
open Go.RowKit Go.Shelf Go.Lib
attribute [local go_sem] run_store_float
theorem float_isY {f : Fp} (hf : f.Ok) (x : List UInt8) (hx : x.length ≤ 900000) (w : World) (hT : Tab w) : Calls Tryd.prog 62 #[sv x] w fun r w' => r = .returned (.tuple #[.float .f64 (f.rf x).1, .int .i64 (f.rf x).2]) ∧ Below w.heap.size w w' := by
 obtain ⟨v, er, h1, h2⟩ := float_any ⟨x.toArray⟩ (by rw [Lib.size_eq]; simpa using hx)
 have := FloatR.uniqY (hf.rf x) (by simpa using h1)
 rw [this.1, this.2]
 exact h2 w hT
theorem takeW_len (q : UInt8 → Bool) (t : List UInt8) : (t.takeWhile q).length ≤ t.length := by
 have := take_drop_len q t
 omega
theorem step_q (f : Fp) (p : Pn) (t : List UInt8) : stepS f 113 p t = if t.takeWhile (floatCs.contains ·) = [] then finS 2 { p with ang := 4626322717216342016 } (t.dropWhile (floatCs.contains ·))
     else if (f.rf (t.takeWhile (floatCs.contains ·))).2 = 0 then finS 2 { p with ang := (f.rf (t.takeWhile (floatCs.contains ·))).1 } (t.dropWhile (floatCs.contains ·)) else none := by
 unfold stepS
 rw [show letIx 113 = none by decide]
 rfl
theorem step_a (f : Fp) (p : Pn) (t : List UInt8) : stepS f 97 p t = if t.takeWhile (floatCs.contains ·) = [] then finS 6 p (t.dropWhile (floatCs.contains ·))
     else if (f.rf (t.takeWhile (floatCs.contains ·))).2 = 0 then finS 4 { p with area := (f.rf (t.takeWhile (floatCs.contains ·))).1 } (t.dropWhile (floatCs.contains ·)) else none := by
 unfold stepS
 rw [show letIx 97 = none by decide]
 rfl
theorem step_s (f : Fp) (p : Pn) (t : List UInt8) : stepS f 83 p t = match rdInt (t.takeWhile (wholeCs.contains ·)) with
     | none => none
     | some n => if p.st = -1 then some ({ p with st := n }, t.dropWhile (wholeCs.contains ·)) else none := by
 unfold stepS
 rw [show letIx 83 = none by decide]
 rfl
theorem step_o_yes (f : Fp) (p : Pn) (r : List UInt8) : stepS f 111 p (50 :: r) = finS 18 p r := by
 unfold stepS
 rw [show letIx 111 = none by decide]
 rfl
theorem step_o_no (f : Fp) (p : Pn) (t : List UInt8) (h : ∀ r, t ≠ 50 :: r) : stepS f 111 p t = none := by
 unfold stepS
 rw [show letIx 111 = none by decide]
 simp only [show ¬ (111 : UInt8) = 113 by decide, show ¬ (111 : UInt8) = 97 by decide, show ¬ (111 : UInt8) = 83 by decide, if_false, if_true]
structure Mw (w0 w W : World) (R : Nat) (p : Pn) : Prop where
 oy : Oy R w W
 rw : Rw W R p
 bel : Below w0.heap.size w0 W
theorem Mw.later {w0 w W W' : World} {R : Nat} {p : Pn} (h : Mw w0 w W R p) (hb : Below W.heap.size W W') : Mw w0 w W' R p := ⟨h.oy.trans (Oy.of_below hb), h.rw.later hb, h.bel.trans (hb.mono h.bel.size)⟩
theorem Mw.end {w0 w W W' : World} {R : Nat} {p : Pn} {e : Ending} {o : Option (Pn × List UInt8)} (h : Mw w0 w W R p) (ha : ActR W W' R e o) : ActR w W' R e o := by
 cases o with
 | none => obtain ⟨s, h1, h2⟩ := ha; exact ⟨s, h1, h.oy.trans h2⟩
 | some q => obtain ⟨h1, h2, h3⟩ := ha; exact ⟨h1, h2, h.oy.trans h3⟩
set_option maxHeartbeats 4000000 in
theorem angle_any {f : Fp} (hf : f.Ok) (R : Nat) (p : Pn) (t : List UInt8) (w0 w : World) (hT : T8 w0) (h0 : Below w0.heap.size w0 w) (hR0 : w0.heap.size ≤ R) (hR : Rw w R p) (ht : t.length ≤ 100000) :
   Calls Tryd.prog 43 #[.pointer (some ⟨R, 0, none⟩), sv t] w fun e w' => ActR w w' R e (stepS f 113 p t) := by
 have HC := Lib.hid (cutY_any t ⟨#[48, 49, 50, 51, 52, 53, 54, 55, 56, 57, 98, 45]⟩ w (by omega) (by decide) (ascii_of_all (by decide)))
 have hlw := takeW_len (floatCs.contains ·) t
 rw [step_q]
 rw [show (fun x => (⟨#[48, 49, 50, 51, 52, 53, 54, 55, 56, 57, 98, 45]⟩ : ByteArray).data.toList.contains x) = (floatCs.contains ·) from rfl] at HC
 obtain ⟨wd, hwd⟩ : ∃ wd, t.takeWhile (floatCs.contains ·) = wd := ⟨_, rfl⟩
 obtain ⟨r, hr⟩ : ∃ r, t.dropWhile (floatCs.contains ·) = r := ⟨_, rfl⟩
 rw [hwd, hr] at HC
 rw [hwd] at hlw
 rw [hwd, hr]
 have HM0 : Hid (Mw w0 w w R p) := Lib.hid ⟨Oy.refl _ _, hR, h0⟩
 have HT := Lib.hid hT
 clear hT h0 hR hwd hr
 by_cases hw : wd = []
 · rw [if_pos hw]
   obtain ⟨o, ho0⟩ : ∃ o, finS 2 { p with ang := 4626322717216342016 } r = o := ⟨_, rfl⟩
   rw [ho0]
   have ho := Lib.hid ho0
   clear ho0
   have e1 : (wd == []) = true := by rw [hw]; rfl
   have e2 : (wd != []) = false := by rw [hw]; rfl
   go_enter Tryd.func43, Tryd.ntmps43
   go_wp2_with fail
   refine HC.out.mono ?_
   rintro e w1 ⟨rfl, hb1⟩
   have HM1 := Lib.hid (HM0.out.later hb1)
   clear hb1 HC
   obtain ⟨w2, hst⟩ : ∃ W, w1.setCell ⟨R, 3, none⟩ (.float .f64 4626322717216342016) = W := ⟨_, rfl⟩
   have kst := HM1.out.rw.at (j := 3) (by omega)
   have fst := CB.frozen HM1.out.rw 3
   have HM : Hid (Mw w0 w w2 R { p with ang := 4626322717216342016 }) := Lib.hid (by
     rw [← hst]
     exact ⟨HM1.out.oy.trans (Oy.set _ _ _ _), HM1.out.rw.ang, HM1.out.bel.setCell hR0 _⟩)
   clear HM1 hw
   go_wp2_with fail
   try rw [hst]
   clear hst kst fst
   refine (once_is R 2 _).mono ?_
   rintro e w3 ⟨b, rfl, hb1, hb2, hb3⟩
   have HM3 := Lib.hid (HM.out.later hb3)
   have HO := Lib.hid (once1_any R 2 b _ r w3 HM3.out.rw (by unfold isFl; omega) hb1)
   rw [ho.out] at HO
   clear hb1 hb2 hb3 ho
   go_wp2_with fail
   refine HO.out.mono ?_
   intro e w4 ha
   have HA := Lib.hid (HM3.out.end ha)
   clear ha HO
   cases o with
   | none =>
     obtain ⟨s, rfl, _⟩ := HA.out
     go_wp2
     go_ret2
     exact HA.out
   | some q =>
     obtain ⟨rfl, _, _⟩ := HA.out
     go_wp2
     go_ret2
     exact HA.out
 · rw [if_neg hw]
   have e1 : (wd == []) = false := by simpa using hw
   have e2 : (wd != []) = true := by simpa using hw
   have HF := Lib.hid (fun (W : World) (h : Below w0.heap.size w0 W) => float_isY hf wd (by omega) W (HT.out.later h).1)
   obtain ⟨x, hx⟩ : ∃ x, (f.rf wd).1 = x := ⟨_, rfl⟩
   obtain ⟨er, her⟩ : ∃ er, (f.rf wd).2 = er := ⟨_, rfl⟩
   rw [hx, her] at HF
   rw [hx, her]
   clear hx her
   by_cases he : er = 0
   · subst he
     rw [if_pos rfl]
     obtain ⟨o, ho0⟩ : ∃ o, finS 2 { p with ang := x } r = o := ⟨_, rfl⟩
     rw [ho0]
     have ho := Lib.hid ho0
     clear ho0
     go_enter Tryd.func43, Tryd.ntmps43
     go_wp2_with fail
     refine HC.out.mono ?_
     rintro e w1 ⟨rfl, hb1⟩
     have HM1 := Lib.hid (HM0.out.later hb1)
     clear hb1 HC
     obtain ⟨w2, hst⟩ : ∃ W, w1.setCell ⟨R, 3, none⟩ (.float .f64 4626322717216342016) = W := ⟨_, rfl⟩
     have kst := HM1.out.rw.at (j := 3) (by omega)
     have fst := CB.frozen HM1.out.rw 3
     have HM2 : Hid (Mw w0 w w2 R { p with ang := 4626322717216342016 }) := Lib.hid (by
       rw [← hst]
       exact ⟨HM1.out.oy.trans (Oy.set _ _ _ _), HM1.out.rw.ang, HM1.out.bel.setCell hR0 _⟩)
     clear HM1 hw
     go_wp2_with fail
     try rw [hst]
     clear hst kst fst
     refine (HF.out _ HM2.out.bel).mono ?_
     rintro e w5 ⟨rfl, hb5⟩
     have HM5 := Lib.hid (HM2.out.later hb5)
     clear hb5 HF
     obtain ⟨w6, hst⟩ : ∃ W, w5.setCell ⟨R, 3, none⟩ (.float .f64 x) = W := ⟨_, rfl⟩
     have kst := HM5.out.rw.at (j := 3) (by omega)
     have fst := CB.frozen HM5.out.rw 3
     have HM : Hid (Mw w0 w w6 R { p with ang := x }) := Lib.hid (by
       rw [← hst]
       exact ⟨HM5.out.oy.trans (Oy.set _ _ _ _), HM5.out.rw.ang, HM5.out.bel.setCell hR0 _⟩)
     clear HM5 HM2
     go_wp2_with fail
     try rw [hst]
     clear hst kst fst
     refine (once_is R 2 _).mono ?_
     rintro e w3 ⟨b, rfl, hb1, hb2, hb3⟩
     have HM3 := Lib.hid (HM.out.later hb3)
     have HO := Lib.hid (once1_any R 2 b _ r w3 HM3.out.rw (by unfold isFl; omega) hb1)
     rw [ho.out] at HO
     clear hb1 hb2 hb3 ho
     go_wp2_with fail
     refine HO.out.mono ?_
     intro e w4 ha
     have HA := Lib.hid (HM3.out.end ha)
     clear ha HO
     cases o with
     | none =>
       obtain ⟨s, rfl, _⟩ := HA.out
       go_wp2
       go_ret2
       exact HA.out
     | some q =>
       obtain ⟨rfl, _, _⟩ := HA.out
       go_wp2
       go_ret2
       exact HA.out
   · rw [if_neg he]
     have he2 : (er != 0) = true := by simpa using he
     have he3 : (er == 0) = false := by simpa using he
     go_enter Tryd.func43, Tryd.ntmps43
     go_wp2_with fail
     refine HC.out.mono ?_
     rintro e w1 ⟨rfl, hb1⟩
     have HM1 := Lib.hid (HM0.out.later hb1)
     clear hb1 HC
     obtain ⟨w2, hst⟩ : ∃ W, w1.setCell ⟨R, 3, none⟩ (.float .f64 4626322717216342016) = W := ⟨_, rfl⟩
     have kst := HM1.out.rw.at (j := 3) (by omega)
     have fst := CB.frozen HM1.out.rw 3
     have HM2 : Hid (Mw w0 w w2 R { p with ang := 4626322717216342016 }) := Lib.hid (by
       rw [← hst]
       exact ⟨HM1.out.oy.trans (Oy.set _ _ _ _), HM1.out.rw.ang, HM1.out.bel.setCell hR0 _⟩)
     clear HM1 hw
     go_wp2_with fail
     try rw [hst]
     clear hst kst fst
     refine (HF.out _ HM2.out.bel).mono ?_
     rintro e w5 ⟨rfl, hb5⟩
     have HM5 := Lib.hid (HM2.out.later hb5)
     clear hb5 HF
     go_wp2
     go_ret2
     exact ⟨_, rfl, HM5.out.oy⟩
set_option maxHeartbeats 4000000 in
theorem area_any {f : Fp} (hf : f.Ok) (R : Nat) (p : Pn) (t : List UInt8) (w0 w : World) (hT : T8 w0) (h0 : Below w0.heap.size w0 w) (hR0 : w0.heap.size ≤ R) (hR : Rw w R p) (ht : t.length ≤ 100000) :
   Calls Tryd.prog 44 #[.pointer (some ⟨R, 0, none⟩), sv t] w fun e w' => ActR w w' R e (stepS f 97 p t) := by
 have HC := Lib.hid (cutY_any t ⟨#[48, 49, 50, 51, 52, 53, 54, 55, 56, 57, 98, 45]⟩ w (by omega) (by decide) (ascii_of_all (by decide)))
 have hlw := takeW_len (floatCs.contains ·) t
 rw [step_a]
 rw [show (fun x => (⟨#[48, 49, 50, 51, 52, 53, 54, 55, 56, 57, 98, 45]⟩ : ByteArray).data.toList.contains x) = (floatCs.contains ·) from rfl] at HC
 obtain ⟨wd, hwd⟩ : ∃ wd, t.takeWhile (floatCs.contains ·) = wd := ⟨_, rfl⟩
 obtain ⟨r, hr⟩ : ∃ r, t.dropWhile (floatCs.contains ·) = r := ⟨_, rfl⟩
 rw [hwd, hr] at HC
 rw [hwd] at hlw
 rw [hwd, hr]
 have HM0 : Hid (Mw w0 w w R p) := Lib.hid ⟨Oy.refl _ _, hR, h0⟩
 have HT := Lib.hid hT
 clear hT h0 hR hwd hr
 by_cases hw : wd = []
 · rw [if_pos hw]
   obtain ⟨o, ho0⟩ : ∃ o, finS 6 p r = o := ⟨_, rfl⟩
   rw [ho0]
   have ho := Lib.hid ho0
   clear ho0
   have e1 : (wd == []) = true := by rw [hw]; rfl
   have e2 : (wd != []) = false := by rw [hw]; rfl
   go_enter Tryd.func44, Tryd.ntmps44
   go_wp2_with fail
   refine HC.out.mono ?_
   rintro e w1 ⟨rfl, hb1⟩
   have HM1 := Lib.hid (HM0.out.later hb1)
   clear hb1 HC
   have HM := HM1
   clear HM1 hw
   go_wp2_with fail
   refine (once_is R 6 _).mono ?_
   rintro e w3 ⟨b, rfl, hb1, hb2, hb3⟩
   have HM3 := Lib.hid (HM.out.later hb3)
   have HO := Lib.hid (once1_any R 6 b _ r w3 HM3.out.rw (by unfold isFl; omega) hb1)
   rw [ho.out] at HO
   clear hb1 hb2 hb3 ho
   go_wp2_with fail
   refine HO.out.mono ?_
   intro e w4 ha
   have HA := Lib.hid (HM3.out.end ha)
   clear ha HO
   cases o with
   | none =>
     obtain ⟨s, rfl, _⟩ := HA.out
     go_wp2
     go_ret2
     exact HA.out
   | some q =>
     obtain ⟨rfl, _, _⟩ := HA.out
     go_wp2
     go_ret2
     exact HA.out
 · rw [if_neg hw]
   have e1 : (wd == []) = false := by simpa using hw
   have e2 : (wd != []) = true := by simpa using hw
   have HF := Lib.hid (fun (W : World) (h : Below w0.heap.size w0 W) => float_isY hf wd (by omega) W (HT.out.later h).1)
   obtain ⟨x, hx⟩ : ∃ x, (f.rf wd).1 = x := ⟨_, rfl⟩
   obtain ⟨er, her⟩ : ∃ er, (f.rf wd).2 = er := ⟨_, rfl⟩
   rw [hx, her] at HF
   rw [hx, her]
   clear hx her
   by_cases he : er = 0
   · subst he
     rw [if_pos rfl]
     obtain ⟨o, ho0⟩ : ∃ o, finS 4 { p with area := x } r = o := ⟨_, rfl⟩
     rw [ho0]
     have ho := Lib.hid ho0
     clear ho0
     go_enter Tryd.func44, Tryd.ntmps44
     go_wp2_with fail
     refine HC.out.mono ?_
     rintro e w1 ⟨rfl, hb1⟩
     have HM1 := Lib.hid (HM0.out.later hb1)
     clear hb1 HC
     clear hw
     go_wp2_with fail
     refine (HF.out _ HM1.out.bel).mono ?_
     rintro e w5 ⟨rfl, hb5⟩
     have HM5 := Lib.hid (HM1.out.later hb5)
     clear hb5 HF
     obtain ⟨w6, hst⟩ : ∃ W, w5.setCell ⟨R, 5, none⟩ (.float .f64 x) = W := ⟨_, rfl⟩
     have kst := HM5.out.rw.at (j := 5) (by omega)
     have fst := CB.frozen HM5.out.rw 5
     have HM : Hid (Mw w0 w w6 R { p with area := x }) := Lib.hid (by
       rw [← hst]
       exact ⟨HM5.out.oy.trans (Oy.set _ _ _ _), HM5.out.rw.area, HM5.out.bel.setCell hR0 _⟩)
     clear HM5 HM1
     go_wp2_with fail
     try rw [hst]
     clear hst kst fst
     refine (once_is R 4 _).mono ?_
     rintro e w3 ⟨b, rfl, hb1, hb2, hb3⟩
     have HM3 := Lib.hid (HM.out.later hb3)
     have HO := Lib.hid (once1_any R 4 b _ r w3 HM3.out.rw (by unfold isFl; omega) hb1)
     rw [ho.out] at HO
     clear hb1 hb2 hb3 ho
     go_wp2_with fail
     refine HO.out.mono ?_
     intro e w4 ha
     have HA := Lib.hid (HM3.out.end ha)
     clear ha HO
     cases o with
     | none =>
       obtain ⟨s, rfl, _⟩ := HA.out
       go_wp2
       go_ret2
       exact HA.out
     | some q =>
       obtain ⟨rfl, _, _⟩ := HA.out
       go_wp2
       go_ret2
       exact HA.out
   · rw [if_neg he]
     have he2 : (er != 0) = true := by simpa using he
     have he3 : (er == 0) = false := by simpa using he
     go_enter Tryd.func44, Tryd.ntmps44
     go_wp2_with fail
     refine HC.out.mono ?_
     rintro e w1 ⟨rfl, hb1⟩
     have HM1 := Lib.hid (HM0.out.later hb1)
     clear hb1 HC
     clear hw
     go_wp2_with fail
     refine (HF.out _ HM1.out.bel).mono ?_
     rintro e w5 ⟨rfl, hb5⟩
     have HM5 := Lib.hid (HM1.out.later hb5)
     clear hb5 HF
     go_wp2
     go_ret2
     exact ⟨_, rfl, HM5.out.oy⟩
set_option maxHeartbeats 4000000 in
theorem steiner_any {f : Fp} (_hf : f.Ok) (R : Nat) (p : Pn) (t : List UInt8) (w0 w : World) (_hT : T8 w0) (h0 : Below w0.heap.size w0 w) (_hR0 : w0.heap.size ≤ R) (hR : Rw w R p) (ht : t.length ≤ 100000) :
   Calls Tryd.prog 45 #[.pointer (some ⟨R, 0, none⟩), sv t] w fun e w' => ActR w w' R e (stepS f 83 p t) := by
 have HC := Lib.hid (cutY_any t ⟨#[48, 49, 50, 51, 52, 53, 54, 55, 56, 57]⟩ w (by omega) (by decide) (ascii_of_all (by decide)))
 have hlw := takeW_len (wholeCs.contains ·) t
 rw [step_s]
 rw [show (fun x => (⟨#[48, 49, 50, 51, 52, 53, 54, 55, 56, 57]⟩ : ByteArray).data.toList.contains x) = (wholeCs.contains ·) from rfl] at HC
 obtain ⟨wd, hwd⟩ : ∃ wd, t.takeWhile (wholeCs.contains ·) = wd := ⟨_, rfl⟩
 obtain ⟨r, hr⟩ : ∃ r, t.dropWhile (wholeCs.contains ·) = r := ⟨_, rfl⟩
 rw [hwd, hr] at HC
 rw [hwd] at hlw
 rw [hwd, hr]
 have HM0 : Hid (Mw w0 w w R p) := Lib.hid ⟨Oy.refl _ _, hR, h0⟩
 clear h0 hR hwd hr
 have HI := Lib.hid (fun W => int_any ⟨wd.toArray⟩ W (by rw [Lib.size_eq]; simpa using (by omega : wd.length ≤ 1000000)))
 rw [show (⟨wd.toArray⟩ : ByteArray).data.toList = wd from rfl] at HI
 cases hrd : rdInt wd with
 | none =>
   rw [hrd] at HI
   try simp only []
   clear hrd
   unfold intR at HI
   try dsimp only at HI
   go_enter Tryd.func45, Tryd.ntmps45
   go_wp2_with fail
   refine HC.out.mono ?_
   rintro e w1 ⟨rfl, hb1⟩
   have HM1 := Lib.hid (HM0.out.later hb1)
   clear hb1 HC
   go_wp2_with fail
   refine (HI.out _).mono ?_
   rintro e w2 ⟨rfl, rfl⟩
   go_wp2
   go_ret2
   exact ⟨_, rfl, HM1.out.oy⟩
 | some n =>
   rw [hrd] at HI
   try simp only []
   clear hrd
   unfold intR at HI
   try dsimp only at HI
   by_cases hst : p.st = -1
   · rw [if_pos hst]
     have hs2 : (p.st != -1) = false := by rw [hst]; rfl
     have hs3 : (p.st == -1) = true := by rw [hst]; rfl
     go_enter Tryd.func45, Tryd.ntmps45
     go_wp2_with fail
     refine HC.out.mono ?_
     rintro e w1 ⟨rfl, hb1⟩
     have HM1 := Lib.hid (HM0.out.later hb1)
     clear hb1 HC
     have k11 := HM1.out.rw.at (j := 11) (by omega)
     rw [show pcell p 11 = .int .i64 p.st from rfl] at k11
     have f11 := CB.frozen HM1.out.rw 11
     have HE : Hid (ActR w (w1.setCell ⟨R, 11, none⟩ (.int .i64 n)) R (.returned (.tuple #[sv r, .bool true])) (some ({ p with st := n }, r))) := Lib.hid ⟨rfl, HM1.out.rw.st, HM1.out.oy.trans (Oy.set _ _ _ _)⟩
     go_wp2_with fail
     refine (HI.out _).mono ?_
     rintro e w2 ⟨rfl, rfl⟩
     go_wp2
     go_ret2
     exact HE.out
   · rw [if_neg hst]
     have hs2 : (p.st != -1) = true := by simpa using hst
     have hs3 : (p.st == -1) = false := by simpa using hst
     go_enter Tryd.func45, Tryd.ntmps45
     go_wp2_with fail
     refine HC.out.mono ?_
     rintro e w1 ⟨rfl, hb1⟩
     have HM1 := Lib.hid (HM0.out.later hb1)
     clear hb1 HC
     have k11 := HM1.out.rw.at (j := 11) (by omega)
     rw [show pcell p 11 = .int .i64 p.st from rfl] at k11
     go_wp2_with fail
     refine (HI.out _).mono ?_
     rintro e w2 ⟨rfl, rfl⟩
     go_wp2
     go_ret2
     exact ⟨_, rfl, HM1.out.oy⟩
set_option maxHeartbeats 4000000 in
theorem second_any {f : Fp} (R : Nat) (p : Pn) (t : List UInt8) (w0 w : World) (h0 : Below w0.heap.size w0 w) (hR : Rw w R p) :
   Calls Tryd.prog 46 #[.pointer (some ⟨R, 0, none⟩), sv t] w fun e w' => ActR w w' R e (stepS f 111 p t) := by
 have HC := Lib.hid (Tryd.strings_CutPrefix ⟨t.toArray⟩ ⟨#[50]⟩ w)
 rw [show (⟨t.toArray⟩ : ByteArray).data.toList = t from rfl, show (⟨#[50]⟩ : ByteArray).data.toList = [50] from rfl] at HC
 have HM0 : Hid (Mw w0 w w R p) := Lib.hid ⟨Oy.refl _ _, hR, h0⟩
 clear h0 hR
 by_cases ht : ∃ r, t = 50 :: r
 · obtain ⟨r, rfl⟩ := ht
   rw [step_o_yes]
   rw [show hasPrefix (50 :: r) [50] = true by simp [hasPrefix], show trimPrefix (50 :: r) [50] = r by simp [trimPrefix, hasPrefix]] at HC
   obtain ⟨t, htt⟩ : ∃ t, (⟨(50 :: r).toArray⟩ : ByteArray) = t := ⟨_, rfl⟩
   rw [htt] at HC
   rw [show sv (50 :: r) = .string t from congrArg Value.string htt]
   clear htt
   obtain ⟨o, ho0⟩ : ∃ o, finS 18 p r = o := ⟨_, rfl⟩
   rw [ho0]
   have ho := Lib.hid ho0
   clear ho0
   go_enter Tryd.func46, Tryd.ntmps46
   go_wp2_with fail
   refine HC.out.mono ?_
   rintro e w1 ⟨rfl, rfl⟩
   have HM := HM0
   clear HM0 HC
   go_wp2_with fail
   refine (once_is R 18 _).mono ?_
   rintro e w3 ⟨b, rfl, hb1, hb2, hb3⟩
   have HM3 := Lib.hid (HM.out.later hb3)
   have HO := Lib.hid (once1_any R 18 b _ r w3 HM3.out.rw (by unfold isFl; omega) hb1)
   rw [ho.out] at HO
   clear hb1 hb2 hb3 ho
   go_wp2_with fail
   refine HO.out.mono ?_
   intro e w4 ha
   have HA := Lib.hid (HM3.out.end ha)
   clear ha HO
   cases o with
   | none =>
     obtain ⟨s, rfl, _⟩ := HA.out
     go_wp2
     go_ret2
     exact HA.out
   | some q =>
     obtain ⟨rfl, _, _⟩ := HA.out
     go_wp2
     go_ret2
     exact HA.out
 · have hp : hasPrefix t [50] = false := by
     cases t with
     | nil => rfl
     | cons c r =>
       have : (50 == c) = false := by
         rw [beq_eq_false_iff_ne]
         exact fun e => ht ⟨r, by rw [← e]⟩
       simp [hasPrefix, List.isPrefixOf, this]
   rw [step_o_no f p t (fun r e => ht ⟨r, e⟩)]
   rw [hp] at HC
   clear hp ht
   go_enter Tryd.func46, Tryd.ntmps46
   go_wp2_with fail
   refine HC.out.mono ?_
   rintro e w1 ⟨rfl, rfl⟩
   go_wp2
   go_ret2
   exact ⟨_, rfl, HM0.out.oy⟩
end

/- Package switches: what a letter's entry is; build; plans laid and stored. -/
section
set_option maxRecDepth 100000
open Go.RowKit Go.Shelf Go.Lib
attribute [local go_sem] run_store_float
structure Ms (w2 W : World) (R M : Nat) : Prop where
 hM : w2.heap.size ≤ M
 lt : M < W.heap.size
 ent : ∃ L, (∀ k, k ∈ L.map (·.1) ↔ k ∈ lts) ∧ MpB W M L ∧ ∀ q ∈ L, entY w2 W R M q
theorem Ls.ms {w2 W : World} {R M : Nat} (h : Ls w2 W R M lts) : Ms w2 W R M := ⟨h.hM, h.lt, h.ent⟩
theorem Ms.oy {w2 W W' : World} {R M : Nat} (h : Ms w2 W R M) (ho : Oy R W W') (hR : R < w2.heap.size) : Ms w2 W' R M := by
 obtain ⟨L, h1, h2, h3⟩ := h.ent
 have hM := h.hM
 exact ⟨hM, Nat.lt_of_lt_of_le h.lt ho.size, L, h1, h2.keep (ho.block M h.lt (by omega)), fun q hq => (h3 q hq).keep fun b hb _ hlt => ho.block b hlt (by omega)⟩
def look1 (M : Nat) (W : World) (c : UInt8) (v : Value) : Prop := (Instr.lookup 58 (.map (some M)) (.int .u8 ((c.toNat : Nat) : Int)) false).run Tryd.prog W = .ok v W
theorem Ms.look {w2 W : World} {R M : Nat} (h : Ms w2 W R M) (c : UInt8) :
   (∃ j b, letIx c = some j ∧ look1 M W c (.func (.func 60) #[] #[.pointer (some ⟨b, 0, none⟩)]) ∧ CB W b #[.pointer (some ⟨R, j, none⟩)] 83) ∨
   (letIx c = none ∧ (c = 113 ∨ c = 97 ∨ c = 83 ∨ c = 111) ∧ look1 M W c (methY R ((c.toNat : Nat) : Int))) ∨
   (letIx c = none ∧ ¬ (c = 113 ∨ c = 97 ∨ c = 83 ∨ c = 111) ∧ look1 M W c .nilFunc) := by
 obtain ⟨L, h1, h2, h3⟩ := h.ent
 have hl := h2.look ((c.toNat : Nat) : Int)
 have hof : UInt8.ofNat (((c.toNat : Nat) : Int)).toNat = c := by simp
 cases hf : L.find? (·.1 == ((c.toNat : Nat) : Int)) with
 | none =>
   rw [hf] at hl
   have hno : ((c.toNat : Nat) : Int) ∉ lts := by
     rw [← h1]
     intro hm
     obtain ⟨q, hq, e⟩ := List.mem_map.1 hm
     have := List.find?_eq_none.1 hf q hq
     simp [e] at this
   have hix : letIx c = none := by
     cases hc : letIx c with
     | none => rfl
     | some j =>
       exfalso
       have ha : ∀ q ∈ ltab, ((q.1.toNat : Nat) : Int) ∈ lts := by decide
       unfold letIx at hc
       obtain ⟨q, hq, _⟩ := Option.map_eq_some_iff.1 hc
       have e : q.1 = c := by simpa using List.find?_some hq
       exact hno (e ▸ ha q (List.mem_of_find?_eq_some hq))
   refine Or.inr (Or.inr ⟨hix, ?_, hl⟩)
   rintro (rfl | rfl | rfl | rfl) <;> exact hno (by decide)
 | some q =>
   rw [hf] at hl
   have hq := List.mem_of_find?_eq_some hf
   have e : q.1 = ((c.toNat : Nat) : Int) := by simpa using List.find?_some hf
   rcases h3 q hq with ⟨j, b, g1, g2, g3, _⟩ | ⟨g1, g2⟩
   · rw [e, hof] at g1
     refine Or.inl ⟨j, b, g1, ?_, g3⟩
     show _ = Result.ok _ W
     rw [← g2]; exact hl
   · have hm : q.1 ∈ lts := (h1 _).1 (List.mem_map.2 ⟨q, hq, rfl⟩)
     have ha : ∀ k ∈ lts, letIx (UInt8.ofNat k.toNat) = none → k = 113 ∨ k = 97 ∨ k = 83 ∨ k = 111 := by decide
     have hk := ha _ hm g1
     rw [e, hof] at g1
     rw [e] at hk
     refine Or.inr (Or.inl ⟨g1, ?_, ?_⟩)
     · have key : ∀ n : Nat, n < 256 → ((c.toNat : Nat) : Int) = (n : Nat) → c = UInt8.ofNat n := fun n hn he => by
         apply UInt8.toNat_inj.1
         rw [UInt8.toNat_ofNat']
         omega
       rcases hk with hk | hk | hk | hk
       · exact Or.inl (key 113 (by omega) hk)
       · exact Or.inr (Or.inl (key 97 (by omega) hk))
       · exact Or.inr (Or.inr (Or.inl (key 83 (by omega) hk)))
       · exact Or.inr (Or.inr (Or.inr (key 111 (by omega) hk)))
     · show _ = Result.ok _ W
       rw [← e, ← g2]; rw [← e] at hl; exact hl
theorem bld_yes {p : Pn} (h1 : p.fl 21 = true) : bldS p = { p with bd := 3 } := by unfold bldS; rw [if_pos h1]
theorem bld_two {p : Pn} (h1 : p.fl 21 = false) (h2 : p.fl 22 = true) : bldS p = { p with bd := 2 } := by unfold bldS; rw [if_neg (by rw [h1]; decide), if_pos h2]
theorem bld_no {p : Pn} (h1 : p.fl 21 = false) (h2 : p.fl 22 = false) : bldS p = p := by unfold bldS; rw [if_neg (by rw [h1]; decide), if_neg (by rw [h2]; decide)]
set_option maxHeartbeats 2000000 in
theorem build_any (R : Nat) (p : Pn) (w : World) (hR : Rw w R p) : Calls Tryd.prog 27 #[.pointer (some ⟨R, 0, none⟩)] w fun e w' =>
   ((p.fl 21 = true ∧ p.fl 22 = true ∧ e = .returned (.int .i64 16)) ∨ ((p.fl 21 && p.fl 22) = false ∧ e = .returned (.int .i64 0) ∧ Rw w' R (bldS p))) ∧ Oy R w w' := by
 have k1 : w.cell? ⟨R, 21, none⟩ = some (.bool (p.fl 21)) := hR.at (by omega)
 have k2 : w.cell? ⟨R, 22, none⟩ = some (.bool (p.fl 22)) := hR.at (by omega)
 have kb : w.cell? ⟨R, 12, none⟩ = some (.int .u8 (p.bd : Nat)) := hR.at (by omega)
 have fb := CB.frozen hR 12
 have HR := Lib.hid hR
 clear hR
 cases h1 : p.fl 21 with
 | true =>
   rw [h1] at k1
   cases h2 : p.fl 22 with
   | true =>
     rw [h2] at k2
     go_enter Tryd.func27, Tryd.ntmps27
     go_wp2
     go_ret
     exact ⟨Or.inl ⟨by trivial, by trivial, rfl⟩, Oy.refl _ _⟩
   | false =>
     rw [h2] at k2
     rw [bld_yes h1]
     go_enter Tryd.func27, Tryd.ntmps27
     go_wp2
     go_ret
     exact ⟨Or.inr ⟨rfl, rfl, HR.out.bd⟩, Oy.set _ _ _ _⟩
 | false =>
   rw [h1] at k1
   cases h2 : p.fl 22 with
   | true =>
     rw [h2] at k2
     rw [bld_two h1 h2]
     go_enter Tryd.func27, Tryd.ntmps27
     go_wp2
     go_ret
     exact ⟨Or.inr ⟨rfl, rfl, HR.out.bd⟩, Oy.set _ _ _ _⟩
   | false =>
     rw [h2] at k2
     rw [bld_no h1 h2]
     go_enter Tryd.func27, Tryd.ntmps27
     go_wp2
     go_ret
     exact ⟨Or.inr ⟨rfl, rfl, HR.out⟩, Oy.refl _ _⟩
section
variable {ops : Array Oper} {rest : List Oper} {o : Oper} {a : Act} {w : World} {Q : Exit → Act → World → Prop}
theorem wpList_buildY (hg : o.guard = none) (t : TypeId) (parts : Array (Nat × Operand)) (ho : o.op = .build t parts) (cells : Array Value) (hb : Tryd.prog.built t (parts.map fun (i, x) => (i, a.eval x)).toList = some cells)
   (h : wpList Tryd.prog ops Q rest (a.put o.dst (.agg cells)) w) : wpList Tryd.prog ops Q (o :: rest) a w :=
 wpList_build hg t parts ho (by rw [hb]; rfl) (by rw [hb]; exact h)
theorem oy_allocR {K : Act → World → Prop} (ho : o.op = .alloc 57) (h : K (a.put o.dst (.pointer (some ⟨w.heap.size, 0, none⟩))) (w.alloc (.cells (rws pz).toArray 57))) : Oper.wp Tryd.prog o a w K Q := by
 unfold Oper.wp execOp
 rw [ho]
 go_simp
 exact h
theorem oy_allocP {K : Act → World → Prop} (ho : o.op = .alloc 24) (h : K (a.put o.dst (.pointer (some ⟨w.heap.size, 0, none⟩))) (w.alloc (.cells (pls pz).toArray 24))) : Oper.wp Tryd.prog o a w K Q := by
 unfold Oper.wp execOp
 rw [ho]
 go_simp
 exact h
theorem wpList_allocR (hg : o.guard = none) (ho : o.op = .alloc 57) (h : ∀ w', Rw w' w.heap.size pz → Below w.heap.size w w' → w'.heap.size = w.heap.size + 1 → wpList Tryd.prog ops Q rest (a.put o.dst (.pointer (some ⟨w.heap.size, 0, none⟩))) w') : wpList Tryd.prog ops Q (o :: rest) a w :=
 wpList_plain hg fun _ hK => oy_allocR ho (hK _ _ (h _ (CB.new w _ _) ((Below.refl _ w).alloc (Nat.le_refl _) _) (by simp)))
theorem wpList_allocP (hg : o.guard = none) (ho : o.op = .alloc 24) (h : ∀ w', Pl w' w.heap.size pz → Below w.heap.size w w' → w'.heap.size = w.heap.size + 1 → wpList Tryd.prog ops Q rest (a.put o.dst (.pointer (some ⟨w.heap.size, 0, none⟩))) w') : wpList Tryd.prog ops Q (o :: rest) a w :=
 wpList_plain hg fun _ hK => oy_allocP ho (hK _ _ (h _ (CB.new w _ _) ((Below.refl _ w).alloc (Nat.le_refl _) _) (by simp)))
theorem rws_one (p : Pn) : (rws p).toArray.all (·.oneCell') = true := by
 rw [Array.all_eq_true_iff_forall_mem]
 intro v hv
 simp [rws] at hv
 obtain ⟨j, _, rfl⟩ := hv
 exact pcell_one p j
theorem wpList_storeR (hg : o.guard = none) (x y : Operand) (ho : o.op = .store 57 x y) (R : Nat) (p q : Pn) (hx : a.eval x = .pointer (some ⟨R, 0, none⟩)) (hy : a.eval y = .agg (rws q).toArray) (hR : Rw w R p)
   (h : ∀ w', Rw w' R q → Oy R w w' → w'.heap.size = w.heap.size → wpList Tryd.prog ops Q rest (a.put o.dst undef) w') : wpList Tryd.prog ops Q (o :: rest) a w :=
 wpList_store_row hg 57 x y ho R (rws q).toArray hx hy 57 (rws p).toArray hR (by rw [List.size_toArray, rws_len]; kernel_rfl) (by rw [List.size_toArray, List.size_toArray, rws_len, rws_len]) (rws_one q)
   (h _ (setRow_heap w R _ _ _ _ hR) ⟨rfl, rfl, rfl, by rw [setRow_size]; exact Nat.le_refl _, fun k _ hk => setRow_other w R k _ hk⟩ (setRow_size _ _ _))
theorem wpList_storeP (hg : o.guard = none) (x y : Operand) (ho : o.op = .store 24 x y) (R : Nat) (p q : Pn) (hx : a.eval x = .pointer (some ⟨R, 0, none⟩)) (hy : a.eval y = .agg (pls q).toArray) (hR : Pl w R p)
   (h : ∀ w', Pl w' R q → Oy R w w' → w'.heap.size = w.heap.size → wpList Tryd.prog ops Q rest (a.put o.dst undef) w') : wpList Tryd.prog ops Q (o :: rest) a w :=
 wpList_store_row hg 24 x y ho R (pls q).toArray hx hy 24 (pls p).toArray hR (by rw [List.size_toArray, pls_len]; kernel_rfl) (by rw [List.size_toArray, List.size_toArray, pls_len, pls_len]) (pls_one q)
   (h _ (setRow_heap w R _ _ _ _ hR) ⟨rfl, rfl, rfl, by rw [setRow_size]; exact Nat.le_refl _, fun k _ hk => setRow_other w R k _ hk⟩ (setRow_size _ _ _))
end
end
end Go.Proofs.YtifjfgafpfefpaaDoor
