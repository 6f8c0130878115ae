/- Own texts, put together: Yi Yj. -/
import Derived.Test.YtkgnlobakicnjaaDoorQ3
import Derived.Test.YtkgnlobakicnjaaDoorQ21
import Derived.Laws.Strings3
namespace Go.Proofs.YtkgnlobakicnjaaDoor
/- Package switches: cut, and what the letters with numbers do. -/
section
set_option maxRecDepth 100000
open Go.RowKit Go.Shelf Go.Lib
attribute [local go_sem] run_store_float
theorem trimL_drop (l cs : List UInt8) : Lib.trimLeftS l cs = l.dropWhile (cs.contains ·) := rfl
theorem take_drop_len (q : UInt8 → Bool) (l : List UInt8) : (l.takeWhile q).length + (l.dropWhile q).length = l.length := by
 rw [← List.length_append, List.takeWhile_append_dropWhile]
theorem take_len_is (q : UInt8 → Bool) (l : List UInt8) : l.take (l.length - (l.dropWhile q).length) = l.takeWhile q := by
 have h := take_drop_len q l
 have e : l.length - (l.dropWhile q).length = (l.takeWhile q).length := by omega
 rw [e]
 conv => lhs; rw [← List.takeWhile_append_dropWhile (p := q) (l := l)]
 rw [List.take_left']
 rw [List.takeWhile_append_dropWhile]
theorem extr_take (l : List UInt8) (n : Nat) : (⟨l.toArray⟩ : ByteArray).extract 0 n = ⟨(l.take n).toArray⟩ := by
 apply ByteArray.ext
 simp [ByteArray.data_extract]
set_option maxHeartbeats 1000000 in
theorem cutY_any (l : List UInt8) (cs : ByteArray) (w : World) (hl : l.length ≤ 1000000000) (hcs : cs.size < 4294967281) (ha : ∀ (j : Nat) b, cs.data.toList[j]? = some b → b.toNat < 128) :
   Calls Tryd.prog 90 #[sv l, .string cs] w fun e w' => e = .returned (.tuple #[sv (l.takeWhile (cs.data.toList.contains ·)), sv (l.dropWhile (cs.data.toList.contains ·))]) ∧ Below w.heap.size w w' := by
 have HT := Lib.hid (trimLeft_any ⟨l.toArray⟩ cs w hcs ha)
 have hd : Lib.trimLeftS (⟨l.toArray⟩ : ByteArray).data.toList cs.data.toList = l.dropWhile (cs.data.toList.contains ·) := by rw [trimL_drop]
 rw [hd] at HT
 have htk := take_len_is (cs.data.toList.contains ·) l
 have htl := take_drop_len (cs.data.toList.contains ·) l
 obtain ⟨r, hr⟩ : ∃ r, l.dropWhile (cs.data.toList.contains ·) = r := ⟨_, rfl⟩
 obtain ⟨t, ht⟩ : ∃ t, l.takeWhile (cs.data.toList.contains ·) = t := ⟨_, rfl⟩
 rw [hr] at HT htk htl ⊢
 rw [ht] at htk htl ⊢
 have hx : (⟨l.toArray⟩ : ByteArray).extract 0 (l.length - r.length) = ⟨t.toArray⟩ := by rw [extr_take, htk]
 have s1 : (⟨l.toArray⟩ : ByteArray).size = l.length := by rw [Lib.size_eq]
 have s2 : (⟨r.toArray⟩ : ByteArray).size = r.length := by rw [Lib.size_eq]
 obtain ⟨sl, hsl⟩ : ∃ sl : ByteArray, (⟨l.toArray⟩ : ByteArray) = sl := ⟨_, rfl⟩
 obtain ⟨sr, hsr⟩ : ∃ sr : ByteArray, (⟨r.toArray⟩ : ByteArray) = sr := ⟨_, rfl⟩
 obtain ⟨st, hst⟩ : ∃ st : ByteArray, (⟨t.toArray⟩ : ByteArray) = st := ⟨_, rfl⟩
 unfold sv at HT ⊢
 rw [hsl, hsr] at HT
 rw [hsl, hsr, hst]
 rw [hsl, hst] at hx
 rw [hsl] at s1
 rw [hsr] at s2
 have b1 : ((sr.size : Nat) : Int) ≤ (sl.size : Nat) := by rw [s1, s2]; omega
 have b2 : ((sl.size : Nat) : Int) ≤ 1000000000 := by rw [s1]; omega
 have b0 : (0 : Int) ≤ ((sr.size : Nat) : Int) := by omega
 rw [← s1, ← s2] at hx
 have HX := Lib.hid hx
 clear htk htl hr ht hsl hsr hst s1 s2 hd hx
 go_enter Tryd.func90, Tryd.ntmps90
 go_wp2_with (go_at_call 104; refine HT.out.mono ?_; rintro e w' ⟨rfl, hb⟩)
 go_ret2
 exact ⟨by rw [← HX.out]; rfl, hb⟩
end

/- Package switches: what the letters with numbers do. (gen_yj.py) -/
section
set_option maxRecDepth 100000
open Go.RowKit Go.Shelf Go.Lib
attribute [local go_sem] run_store_float
theorem float_isY {f : Fp} (hf : f.Ok) (x : List UInt8) (hx : x.length ≤ 900000) (w : World) (hT : Tab w) : Calls Tryd.prog 91 #[sv x] w fun r w' => r = .returned (.tuple #[.float .f64 (f.rf x).1, .int .i64 (f.rf x).2]) ∧ Below w.heap.size w w' := by
 obtain ⟨v, er, h1, h2⟩ := float_any ⟨x.toArray⟩ (by rw [Lib.size_eq]; simpa using hx)
 have := FloatR.uniqY (hf.rf x) (by simpa using h1)
 rw [this.1, this.2]
 exact h2 w hT
theorem takeW_len (q : UInt8 → Bool) (t : List UInt8) : (t.takeWhile q).length ≤ t.length := by
 have := take_drop_len q t
 omega
theorem step_q (f : Fp) (p : Pn) (t : List UInt8) : stepS f 113 p t = if t.takeWhile (floatCs.contains ·) = [] then finS 2 { p with ang := 4626322717216342016 } (t.dropWhile (floatCs.contains ·))
     else if (f.rf (t.takeWhile (floatCs.contains ·))).2 = 0 then finS 2 { p with ang := (f.rf (t.takeWhile (floatCs.contains ·))).1 } (t.dropWhile (floatCs.contains ·)) else none := by
 unfold stepS
 rw [show letIx 113 = none by decide]
 rfl
theorem step_a (f : Fp) (p : Pn) (t : List UInt8) : stepS f 97 p t = if t.takeWhile (floatCs.contains ·) = [] then finS 6 p (t.dropWhile (floatCs.contains ·))
     else if (f.rf (t.takeWhile (floatCs.contains ·))).2 = 0 then finS 4 { p with area := (f.rf (t.takeWhile (floatCs.contains ·))).1 } (t.dropWhile (floatCs.contains ·)) else none := by
 unfold stepS
 rw [show letIx 97 = none by decide]
 rfl
theorem step_s (f : Fp) (p : Pn) (t : List UInt8) : stepS f 83 p t = match rdInt (t.takeWhile (wholeCs.contains ·)) with
     | none => none
     | some n => if p.st = -1 then some ({ p with st := n }, t.dropWhile (wholeCs.contains ·)) else none := by
 unfold stepS
 rw [show letIx 83 = none by decide]
 rfl
theorem step_o_yes (f : Fp) (p : Pn) (r : List UInt8) : stepS f 111 p (50 :: r) = finS 18 p r := by
 unfold stepS
 rw [show letIx 111 = none by decide]
 rfl
theorem step_o_no (f : Fp) (p : Pn) (t : List UInt8) (h : ∀ r, t ≠ 50 :: r) : stepS f 111 p t = none := by
 unfold stepS
 rw [show letIx 111 = none by decide]
 simp only [show ¬ (111 : UInt8) = 113 by decide, show ¬ (111 : UInt8) = 97 by decide, show ¬ (111 : UInt8) = 83 by decide, if_false, if_true]
structure Mw (w0 w W : World) (R : Nat) (p : Pn) : Prop where
 oy : Oy R w W
 rw : Rw W R p
 bel : Below w0.heap.size w0 W
theorem Mw.later {w0 w W W' : World} {R : Nat} {p : Pn} (h : Mw w0 w W R p) (hb : Below W.heap.size W W') : Mw w0 w W' R p := ⟨h.oy.trans (Oy.of_below hb), h.rw.later hb, h.bel.trans (hb.mono h.bel.size)⟩
theorem Mw.end {w0 w W W' : World} {R : Nat} {p : Pn} {e : Ending} {o : Option (Pn × List UInt8)} (h : Mw w0 w W R p) (ha : ActR W W' R e o) : ActR w W' R e o := by
 cases o with
 | none => obtain ⟨s, h1, h2⟩ := ha; exact ⟨s, h1, h.oy.trans h2⟩
 | some q => obtain ⟨h1, h2, h3⟩ := ha; exact ⟨h1, h2, h.oy.trans h3⟩
set_option maxHeartbeats 4000000 in
theorem angle_any {f : Fp} (hf : f.Ok) (R : Nat) (p : Pn) (t : List UInt8) (w0 w : World) (hT : T8 w0) (h0 : Below w0.heap.size w0 w) (hR0 : w0.heap.size ≤ R) (hR : Rw w R p) (ht : t.length ≤ 100000) :
   Calls Tryd.prog 64 #[.pointer (some ⟨R, 0, none⟩), sv t] w fun e w' => ActR w w' R e (stepS f 113 p t) := by
 have HC := Lib.hid (cutY_any t ⟨#[48, 49, 50, 51, 52, 53, 54, 55, 56, 57, 98, 45]⟩ w (by omega) (by decide) (ascii_of_all (by decide)))
 have hlw := takeW_len (floatCs.contains ·) t
 rw [step_q]
 rw [show (fun x => (⟨#[48, 49, 50, 51, 52, 53, 54, 55, 56, 57, 98, 45]⟩ : ByteArray).data.toList.contains x) = (floatCs.contains ·) from rfl] at HC
 obtain ⟨wd, hwd⟩ : ∃ wd, t.takeWhile (floatCs.contains ·) = wd := ⟨_, rfl⟩
 obtain ⟨r, hr⟩ : ∃ r, t.dropWhile (floatCs.contains ·) = r := ⟨_, rfl⟩
 rw [hwd, hr] at HC
 rw [hwd] at hlw
 rw [hwd, hr]
 have HM0 : Hid (Mw w0 w w R p) := Lib.hid ⟨Oy.refl _ _, hR, h0⟩
 have HT := Lib.hid hT
 clear hT h0 hR hwd hr
 by_cases hw : wd = []
 · rw [if_pos hw]
   obtain ⟨o, ho0⟩ : ∃ o, finS 2 { p with ang := 4626322717216342016 } r = o := ⟨_, rfl⟩
   rw [ho0]
   have ho := Lib.hid ho0
   clear ho0
   have e1 : (wd == []) = true := by rw [hw]; rfl
   have e2 : (wd != []) = false := by rw [hw]; rfl
   go_enter Tryd.func64, Tryd.ntmps64
   go_wp2_with fail
   refine HC.out.mono ?_
   rintro e w1 ⟨rfl, hb1⟩
   have HM1 := Lib.hid (HM0.out.later hb1)
   clear hb1 HC
   obtain ⟨w2, hst⟩ : ∃ W, w1.setCell ⟨R, 3, none⟩ (.float .f64 4626322717216342016) = W := ⟨_, rfl⟩
   have kst := HM1.out.rw.at (j := 3) (by omega)
   have fst := CB.frozen HM1.out.rw 3
   have HM : Hid (Mw w0 w w2 R { p with ang := 4626322717216342016 }) := Lib.hid (by
     rw [← hst]
     exact ⟨HM1.out.oy.trans (Oy.set _ _ _ _), HM1.out.rw.ang, HM1.out.bel.setCell hR0 _⟩)
   clear HM1 hw
   go_wp2_with fail
   try rw [hst]
   clear hst kst fst
   refine (once_is R 2 _).mono ?_
   rintro e w3 ⟨b, rfl, hb1, hb2, hb3⟩
   have HM3 := Lib.hid (HM.out.later hb3)
   have HO := Lib.hid (once1_any R 2 b _ r w3 HM3.out.rw (by unfold isFl; omega) hb1)
   rw [ho.out] at HO
   clear hb1 hb2 hb3 ho
   go_wp2_with fail
   refine HO.out.mono ?_
   intro e w4 ha
   have HA := Lib.hid (HM3.out.end ha)
   clear ha HO
   cases o with
   | none =>
     obtain ⟨s, rfl, _⟩ := HA.out
     go_wp2
     go_ret2
     exact HA.out
   | some q =>
     obtain ⟨rfl, _, _⟩ := HA.out
     go_wp2
     go_ret2
     exact HA.out
 · rw [if_neg hw]
   have e1 : (wd == []) = false := by simpa using hw
   have e2 : (wd != []) = true := by simpa using hw
   have HF := Lib.hid (fun (W : World) (h : Below w0.heap.size w0 W) => float_isY hf wd (by omega) W (HT.out.later h).1)
   obtain ⟨x, hx⟩ : ∃ x, (f.rf wd).1 = x := ⟨_, rfl⟩
   obtain ⟨er, her⟩ : ∃ er, (f.rf wd).2 = er := ⟨_, rfl⟩
   rw [hx, her] at HF
   rw [hx, her]
   clear hx her
   by_cases he : er = 0
   · subst he
     rw [if_pos rfl]
     obtain ⟨o, ho0⟩ : ∃ o, finS 2 { p with ang := x } r = o := ⟨_, rfl⟩
     rw [ho0]
     have ho := Lib.hid ho0
     clear ho0
     go_enter Tryd.func64, Tryd.ntmps64
     go_wp2_with fail
     refine HC.out.mono ?_
     rintro e w1 ⟨rfl, hb1⟩
     have HM1 := Lib.hid (HM0.out.later hb1)
     clear hb1 HC
     obtain ⟨w2, hst⟩ : ∃ W, w1.setCell ⟨R, 3, none⟩ (.float .f64 4626322717216342016) = W := ⟨_, rfl⟩
     have kst := HM1.out.rw.at (j := 3) (by omega)
     have fst := CB.frozen HM1.out.rw 3
     have HM2 : Hid (Mw w0 w w2 R { p with ang := 4626322717216342016 }) := Lib.hid (by
       rw [← hst]
       exact ⟨HM1.out.oy.trans (Oy.set _ _ _ _), HM1.out.rw.ang, HM1.out.bel.setCell hR0 _⟩)
     clear HM1 hw
     go_wp2_with fail
     try rw [hst]
     clear hst kst fst
     refine (HF.out _ HM2.out.bel).mono ?_
     rintro e w5 ⟨rfl, hb5⟩
     have HM5 := Lib.hid (HM2.out.later hb5)
     clear hb5 HF
     obtain ⟨w6, hst⟩ : ∃ W, w5.setCell ⟨R, 3, none⟩ (.float .f64 x) = W := ⟨_, rfl⟩
     have kst := HM5.out.rw.at (j := 3) (by omega)
     have fst := CB.frozen HM5.out.rw 3
     have HM : Hid (Mw w0 w w6 R { p with ang := x }) := Lib.hid (by
       rw [← hst]
       exact ⟨HM5.out.oy.trans (Oy.set _ _ _ _), HM5.out.rw.ang, HM5.out.bel.setCell hR0 _⟩)
     clear HM5 HM2
     go_wp2_with fail
     try rw [hst]
     clear hst kst fst
     refine (once_is R 2 _).mono ?_
     rintro e w3 ⟨b, rfl, hb1, hb2, hb3⟩
     have HM3 := Lib.hid (HM.out.later hb3)
     have HO := Lib.hid (once1_any R 2 b _ r w3 HM3.out.rw (by unfold isFl; omega) hb1)
     rw [ho.out] at HO
     clear hb1 hb2 hb3 ho
     go_wp2_with fail
     refine HO.out.mono ?_
     intro e w4 ha
     have HA := Lib.hid (HM3.out.end ha)
     clear ha HO
     cases o with
     | none =>
       obtain ⟨s, rfl, _⟩ := HA.out
       go_wp2
       go_ret2
       exact HA.out
     | some q =>
       obtain ⟨rfl, _, _⟩ := HA.out
       go_wp2
       go_ret2
       exact HA.out
   · rw [if_neg he]
     have he2 : (er != 0) = true := by simpa using he
     have he3 : (er == 0) = false := by simpa using he
     go_enter Tryd.func64, Tryd.ntmps64
     go_wp2_with fail
     refine HC.out.mono ?_
     rintro e w1 ⟨rfl, hb1⟩
     have HM1 := Lib.hid (HM0.out.later hb1)
     clear hb1 HC
     obtain ⟨w2, hst⟩ : ∃ W, w1.setCell ⟨R, 3, none⟩ (.float .f64 4626322717216342016) = W := ⟨_, rfl⟩
     have kst := HM1.out.rw.at (j := 3) (by omega)
     have fst := CB.frozen HM1.out.rw 3
     have HM2 : Hid (Mw w0 w w2 R { p with ang := 4626322717216342016 }) := Lib.hid (by
       rw [← hst]
       exact ⟨HM1.out.oy.trans (Oy.set _ _ _ _), HM1.out.rw.ang, HM1.out.bel.setCell hR0 _⟩)
     clear HM1 hw
     go_wp2_with fail
     try rw [hst]
     clear hst kst fst
     refine (HF.out _ HM2.out.bel).mono ?_
     rintro e w5 ⟨rfl, hb5⟩
     have HM5 := Lib.hid (HM2.out.later hb5)
     clear hb5 HF
     go_wp2
     go_ret2
     exact ⟨_, rfl, HM5.out.oy⟩
set_option maxHeartbeats 4000000 in
theorem area_any {f : Fp} (hf : f.Ok) (R : Nat) (p : Pn) (t : List UInt8) (w0 w : World) (hT : T8 w0) (h0 : Below w0.heap.size w0 w) (hR0 : w0.heap.size ≤ R) (hR : Rw w R p) (ht : t.length ≤ 100000) :
   Calls Tryd.prog 65 #[.pointer (some ⟨R, 0, none⟩), sv t] w fun e w' => ActR w w' R e (stepS f 97 p t) := by
 have HC := Lib.hid (cutY_any t ⟨#[48, 49, 50, 51, 52, 53, 54, 55, 56, 57, 98, 45]⟩ w (by omega) (by decide) (ascii_of_all (by decide)))
 have hlw := takeW_len (floatCs.contains ·) t
 rw [step_a]
 rw [show (fun x => (⟨#[48, 49, 50, 51, 52, 53, 54, 55, 56, 57, 98, 45]⟩ : ByteArray).data.toList.contains x) = (floatCs.contains ·) from rfl] at HC
 obtain ⟨wd, hwd⟩ : ∃ wd, t.takeWhile (floatCs.contains ·) = wd := ⟨_, rfl⟩
 obtain ⟨r, hr⟩ : ∃ r, t.dropWhile (floatCs.contains ·) = r := ⟨_, rfl⟩
 rw [hwd, hr] at HC
 rw [hwd] at hlw
 rw [hwd, hr]
 have HM0 : Hid (Mw w0 w w R p) := Lib.hid ⟨Oy.refl _ _, hR, h0⟩
 have HT := Lib.hid hT
 clear hT h0 hR hwd hr
 by_cases hw : wd = []
 · rw [if_pos hw]
   obtain ⟨o, ho0⟩ : ∃ o, finS 6 p r = o := ⟨_, rfl⟩
   rw [ho0]
   have ho := Lib.hid ho0
   clear ho0
   have e1 : (wd == []) = true := by rw [hw]; rfl
   have e2 : (wd != []) = false := by rw [hw]; rfl
   go_enter Tryd.func65, Tryd.ntmps65
   go_wp2_with fail
   refine HC.out.mono ?_
   rintro e w1 ⟨rfl, hb1⟩
   have HM1 := Lib.hid (HM0.out.later hb1)
   clear hb1 HC
   have HM := HM1
   clear HM1 hw
   go_wp2_with fail
   refine (once_is R 6 _).mono ?_
   rintro e w3 ⟨b, rfl, hb1, hb2, hb3⟩
   have HM3 := Lib.hid (HM.out.later hb3)
   have HO := Lib.hid (once1_any R 6 b _ r w3 HM3.out.rw (by unfold isFl; omega) hb1)
   rw [ho.out] at HO
   clear hb1 hb2 hb3 ho
   go_wp2_with fail
   refine HO.out.mono ?_
   intro e w4 ha
   have HA := Lib.hid (HM3.out.end ha)
   clear ha HO
   cases o with
   | none =>
     obtain ⟨s, rfl, _⟩ := HA.out
     go_wp2
     go_ret2
     exact HA.out
   | some q =>
     obtain ⟨rfl, _, _⟩ := HA.out
     go_wp2
     go_ret2
     exact HA.out
 · rw [if_neg hw]
   have e1 : (wd == []) = false := by simpa using hw
   have e2 : (wd != []) = true := by simpa using hw
   have HF := Lib.hid (fun (W : World) (h : Below w0.heap.size w0 W) => float_isY hf wd (by omega) W (HT.out.later h).1)
   obtain ⟨x, hx⟩ : ∃ x, (f.rf wd).1 = x := ⟨_, rfl⟩
   obtain ⟨er, her⟩ : ∃ er, (f.rf wd).2 = er := ⟨_, rfl⟩
   rw [hx, her] at HF
   rw [hx, her]
   clear hx her
   by_cases he : er = 0
   · subst he
     rw [if_pos rfl]
     obtain ⟨o, ho0⟩ : ∃ o, finS 4 { p with area := x } r = o := ⟨_, rfl⟩
     rw [ho0]
     have ho := Lib.hid ho0
     clear ho0
     go_enter Tryd.func65, Tryd.ntmps65
     go_wp2_with fail
     refine HC.out.mono ?_
     rintro e w1 ⟨rfl, hb1⟩
     have HM1 := Lib.hid (HM0.out.later hb1)
     clear hb1 HC
     clear hw
     go_wp2_with fail
     refine (HF.out _ HM1.out.bel).mono ?_
     rintro e w5 ⟨rfl, hb5⟩
     have HM5 := Lib.hid (HM1.out.later hb5)
     clear hb5 HF
     obtain ⟨w6, hst⟩ : ∃ W, w5.setCell ⟨R, 5, none⟩ (.float .f64 x) = W := ⟨_, rfl⟩
     have kst := HM5.out.rw.at (j := 5) (by omega)
     have fst := CB.frozen HM5.out.rw 5
     have HM : Hid (Mw w0 w w6 R { p with area := x }) := Lib.hid (by
       rw [← hst]
       exact ⟨HM5.out.oy.trans (Oy.set _ _ _ _), HM5.out.rw.area, HM5.out.bel.setCell hR0 _⟩)
     clear HM5 HM1
     go_wp2_with fail
     try rw [hst]
     clear hst kst fst
     refine (once_is R 4 _).mono ?_
     rintro e w3 ⟨b, rfl, hb1, hb2, hb3⟩
     have HM3 := Lib.hid (HM.out.later hb3)
     have HO := Lib.hid (once1_any R 4 b _ r w3 HM3.out.rw (by unfold isFl; omega) hb1)
     rw [ho.out] at HO
     clear hb1 hb2 hb3 ho
     go_wp2_with fail
     refine HO.out.mono ?_
     intro e w4 ha
     have HA := Lib.hid (HM3.out.end ha)
     clear ha HO
     cases o with
     | none =>
       obtain ⟨s, rfl, _⟩ := HA.out
       go_wp2
       go_ret2
       exact HA.out
     | some q =>
       obtain ⟨rfl, _, _⟩ := HA.out
       go_wp2
       go_ret2
       exact HA.out
   · rw [if_neg he]
     have he2 : (er != 0) = true := by simpa using he
     have he3 : (er == 0) = false := by simpa using he
     go_enter Tryd.func65, Tryd.ntmps65
     go_wp2_with fail
     refine HC.out.mono ?_
     rintro e w1 ⟨rfl, hb1⟩
     have HM1 := Lib.hid (HM0.out.later hb1)
     clear hb1 HC
     clear hw
     go_wp2_with fail
     refine (HF.out _ HM1.out.bel).mono ?_
     rintro e w5 ⟨rfl, hb5⟩
     have HM5 := Lib.hid (HM1.out.later hb5)
     clear hb5 HF
     go_wp2
     go_ret2
     exact ⟨_, rfl, HM5.out.oy⟩
set_option maxHeartbeats 4000000 in
theorem steiner_any {f : Fp} (_hf : f.Ok) (R : Nat) (p : Pn) (t : List UInt8) (w0 w : World) (_hT : T8 w0) (h0 : Below w0.heap.size w0 w) (_hR0 : w0.heap.size ≤ R) (hR : Rw w R p) (ht : t.length ≤ 100000) :
   Calls Tryd.prog 66 #[.pointer (some ⟨R, 0, none⟩), sv t] w fun e w' => ActR w w' R e (stepS f 83 p t) := by
 have HC := Lib.hid (cutY_any t ⟨#[48, 49, 50, 51, 52, 53, 54, 55, 56, 57]⟩ w (by omega) (by decide) (ascii_of_all (by decide)))
 have hlw := takeW_len (wholeCs.contains ·) t
 rw [step_s]
 rw [show (fun x => (⟨#[48, 49, 50, 51, 52, 53, 54, 55, 56, 57]⟩ : ByteArray).data.toList.contains x) = (wholeCs.contains ·) from rfl] at HC
 obtain ⟨wd, hwd⟩ : ∃ wd, t.takeWhile (wholeCs.contains ·) = wd := ⟨_, rfl⟩
 obtain ⟨r, hr⟩ : ∃ r, t.dropWhile (wholeCs.contains ·) = r := ⟨_, rfl⟩
 rw [hwd, hr] at HC
 rw [hwd] at hlw
 rw [hwd, hr]
 have HM0 : Hid (Mw w0 w w R p) := Lib.hid ⟨Oy.refl _ _, hR, h0⟩
 clear h0 hR hwd hr
 have HI := Lib.hid (fun W => int_any ⟨wd.toArray⟩ W (by rw [Lib.size_eq]; simpa using (by omega : wd.length ≤ 1000000)))
 rw [show (⟨wd.toArray⟩ : ByteArray).data.toList = wd from rfl] at HI
 cases hrd : rdInt wd with
 | none =>
   rw [hrd] at HI
   try simp only []
   clear hrd
   unfold intR at HI
   try dsimp only at HI
   go_enter Tryd.func66, Tryd.ntmps66
   go_wp2_with fail
   refine HC.out.mono ?_
   rintro e w1 ⟨rfl, hb1⟩
   have HM1 := Lib.hid (HM0.out.later hb1)
   clear hb1 HC
   go_wp2_with fail
   refine (HI.out _).mono ?_
   rintro e w2 ⟨rfl, rfl⟩
   go_wp2
   go_ret2
   exact ⟨_, rfl, HM1.out.oy⟩
 | some n =>
   rw [hrd] at HI
   try simp only []
   clear hrd
   unfold intR at HI
   try dsimp only at HI
   by_cases hst : p.st = -1
   · rw [if_pos hst]
     have hs2 : (p.st != -1) = false := by rw [hst]; rfl
     have hs3 : (p.st == -1) = true := by rw [hst]; rfl
     go_enter Tryd.func66, Tryd.ntmps66
     go_wp2_with fail
     refine HC.out.mono ?_
     rintro e w1 ⟨rfl, hb1⟩
     have HM1 := Lib.hid (HM0.out.later hb1)
     clear hb1 HC
     have k11 := HM1.out.rw.at (j := 11) (by omega)
     rw [show pcell p 11 = .int .i64 p.st from rfl] at k11
     have f11 := CB.frozen HM1.out.rw 11
     have HE : Hid (ActR w (w1.setCell ⟨R, 11, none⟩ (.int .i64 n)) R (.returned (.tuple #[sv r, .bool true])) (some ({ p with st := n }, r))) := Lib.hid ⟨rfl, HM1.out.rw.st, HM1.out.oy.trans (Oy.set _ _ _ _)⟩
     go_wp2_with fail
     refine (HI.out _).mono ?_
     rintro e w2 ⟨rfl, rfl⟩
     go_wp2
     go_ret2
     exact HE.out
   · rw [if_neg hst]
     have hs2 : (p.st != -1) = true := by simpa using hst
     have hs3 : (p.st == -1) = false := by simpa using hst
     go_enter Tryd.func66, Tryd.ntmps66
     go_wp2_with fail
     refine HC.out.mono ?_
     rintro e w1 ⟨rfl, hb1⟩
     have HM1 := Lib.hid (HM0.out.later hb1)
     clear hb1 HC
     have k11 := HM1.out.rw.at (j := 11) (by omega)
     rw [show pcell p 11 = .int .i64 p.st from rfl] at k11
     go_wp2_with fail
     refine (HI.out _).mono ?_
     rintro e w2 ⟨rfl, rfl⟩
     go_wp2
     go_ret2
     exact ⟨_, rfl, HM1.out.oy⟩
set_option maxHeartbeats 4000000 in
theorem second_any {f : Fp} (R : Nat) (p : Pn) (t : List UInt8) (w0 w : World) (h0 : Below w0.heap.size w0 w) (hR : Rw w R p) :
   Calls Tryd.prog 67 #[.pointer (some ⟨R, 0, none⟩), sv t] w fun e w' => ActR w w' R e (stepS f 111 p t) := by
 have HC := Lib.hid (Tryd.strings_CutPrefix ⟨t.toArray⟩ ⟨#[50]⟩ w)
 rw [show (⟨t.toArray⟩ : ByteArray).data.toList = t from rfl, show (⟨#[50]⟩ : ByteArray).data.toList = [50] from rfl] at HC
 have HM0 : Hid (Mw w0 w w R p) := Lib.hid ⟨Oy.refl _ _, hR, h0⟩
 clear h0 hR
 by_cases ht : ∃ r, t = 50 :: r
 · obtain ⟨r, rfl⟩ := ht
   rw [step_o_yes]
   rw [show hasPrefix (50 :: r) [50] = true by simp [hasPrefix], show trimPrefix (50 :: r) [50] = r by simp [trimPrefix, hasPrefix]] at HC
   obtain ⟨t, htt⟩ : ∃ t, (⟨(50 :: r).toArray⟩ : ByteArray) = t := ⟨_, rfl⟩
   rw [htt] at HC
   rw [show sv (50 :: r) = .string t from congrArg Value.string htt]
   clear htt
   obtain ⟨o, ho0⟩ : ∃ o, finS 18 p r = o := ⟨_, rfl⟩
   rw [ho0]
   have ho := Lib.hid ho0
   clear ho0
   go_enter Tryd.func67, Tryd.ntmps67
   go_wp2_with fail
   refine HC.out.mono ?_
   rintro e w1 ⟨rfl, rfl⟩
   have HM := HM0
   clear HM0 HC
   go_wp2_with fail
   refine (once_is R 18 _).mono ?_
   rintro e w3 ⟨b, rfl, hb1, hb2, hb3⟩
   have HM3 := Lib.hid (HM.out.later hb3)
   have HO := Lib.hid (once1_any R 18 b _ r w3 HM3.out.rw (by unfold isFl; omega) hb1)
   rw [ho.out] at HO
   clear hb1 hb2 hb3 ho
   go_wp2_with fail
   refine HO.out.mono ?_
   intro e w4 ha
   have HA := Lib.hid (HM3.out.end ha)
   clear ha HO
   cases o with
   | none =>
     obtain ⟨s, rfl, _⟩ := HA.out
     go_wp2
     go_ret2
     exact HA.out
   | some q =>
     obtain ⟨rfl, _, _⟩ := HA.out
     go_wp2
     go_ret2
     exact HA.out
 · have hp : hasPrefix t [50] = false := by
     cases t with
     | nil => rfl
     | cons c r =>
       have : (50 == c) = false := by
         rw [beq_eq_false_iff_ne]
         exact fun e => ht ⟨r, by rw [← e]⟩
       simp [hasPrefix, List.isPrefixOf, this]
   rw [step_o_no f p t (fun r e => ht ⟨r, e⟩)]
   rw [hp] at HC
   clear hp ht
   go_enter Tryd.func67, Tryd.ntmps67
   go_wp2_with fail
   refine HC.out.mono ?_
   rintro e w1 ⟨rfl, rfl⟩
   go_wp2
   go_ret2
   exact ⟨_, rfl, HM0.out.oy⟩
end
end Go.Proofs.YtkgnlobakicnjaaDoor
