/- Own texts, put together: Yzc. -/
import Derived.Test.YtkgnlobakicnjaaDoorQ36
import Derived.Test.YtkgnlobakicnjaaDoorQ38
/- Package switches: what is written is read back as it was: plain. -/
namespace Go.Proofs.YtkgnlobakicnjaaDoor
set_option maxRecDepth 100000
open Go.RowKit Go.Shelf Go.Lib
theorem rat_tri (a b : Rat) : a < b ∨ a = b ∨ b < a := by
 by_cases h : a < b
 · exact Or.inl h
 · by_cases g : a = b
   · exact Or.inr (Or.inl g)
   · exact Or.inr (Or.inr (by grind))
theorem rf_txY {f : Fp} (hf : f.Ok) {x : Nat} (hx : Fin64 x) (lx : x < 18446744073709551616) : ∃ z, f.rf (f.tx x) = (z, 0) ∧ Fin64 z ∧ z < 18446744073709551616 ∧ fval z = fval x := by
 obtain ⟨n, e, ht, hv, _⟩ := (hf.tx x lx).tell hx
 rcases hf.rf (f.tx x) with ⟨h1, _⟩ | ⟨n', e', ok, h1, h2, h3⟩
 · rw [h1] at ht; cases ht
 · rw [h1] at ht
   simp at ht
   obtain ⟨rfl, rfl⟩ := ht
   rcases h2 with ⟨rfl, fz, lz, vz, _⟩ | ⟨rfl, _, hno⟩
   · exact ⟨_, Prod.ext rfl h3, fz, lz, by rw [vz, hv]⟩
   · exact absurd hv (hno x hx lx)
theorem ord_inf_r {a b : Nat} (ha : frung a = 9218868437227405312) (hb : Fin64 b) : Ieee.double.order a b = some (if fneg a then .lt else .gt) := by
 unfold Ieee.Format.order
 rw [read_inf ha, read_fin hb]; rfl
theorem ogeV {x y : Nat} (hx : Fin64 x) (hy : Fin64 y) : oge x y = decide (fval y ≤ fval x) := by
 unfold oge
 rw [order_val hx hy]
 rcases rat_tri (fval x) (fval y) with h | h | h
 · rw [if_pos h, decide_eq_false (by grind)]; rfl
 · rw [if_neg (by rw [h]; exact Rat.lt_irrefl), if_pos h, decide_eq_true (by rw [h]; exact Rat.le_refl)]; rfl
 · rw [if_neg (by grind), if_neg (by grind), decide_eq_true (by grind)]; rfl
theorem oleV {x y : Nat} (hx : Fin64 x) (hy : Fin64 y) : ole x y = decide (fval x ≤ fval y) := by
 unfold ole
 rw [order_val hx hy]
 rcases rat_tri (fval x) (fval y) with h | h | h
 · rw [if_pos h, decide_eq_true (by grind)]; rfl
 · rw [if_neg (by rw [h]; exact Rat.lt_irrefl), if_pos h, decide_eq_true (by rw [h]; exact Rat.le_refl)]; rfl
 · rw [if_neg (by grind), if_neg (by grind), decide_eq_false (by grind)]; rfl
theorem ogtV {x y : Nat} (hx : Fin64 x) (hy : Fin64 y) : ogt x y = decide (fval y < fval x) := by
 unfold ogt
 rw [order_val hx hy]
 rcases rat_tri (fval x) (fval y) with h | h | h
 · rw [if_pos h, decide_eq_false (by grind)]; rfl
 · rw [if_neg (by rw [h]; exact Rat.lt_irrefl), if_pos h, decide_eq_false (by rw [h]; exact Rat.lt_irrefl)]; rfl
 · rw [if_neg (by grind), if_neg (by grind), decide_eq_true (by grind)]; rfl
theorem oeqV {x y : Nat} (hx : Fin64 x) (hy : Fin64 y) : oeq x y = decide (fval x = fval y) := by
 unfold oeq
 rw [order_val hx hy]
 rcases rat_tri (fval x) (fval y) with h | h | h
 · rw [if_pos h, decide_eq_false (by grind)]; rfl
 · rw [if_neg (by rw [h]; exact Rat.lt_irrefl), if_pos h, decide_eq_true h]; rfl
 · rw [if_neg (by grind), if_neg (by grind), decide_eq_false (by grind)]; rfl
theorem fin60 : Fin64 4633641066610819072 := by unfold Fin64 frung; decide
theorem finMx : Fin64 9218868437227405311 := by unfold Fin64 frung; decide
theorem fin0Y : Fin64 0 := by unfold Fin64 frung; decide
theorem nan_ord {a b : Nat} (h : 9218868437227405312 < frung a) : FloatKind.f64.format.order a b = none := nan_order h b
theorem ang_fin {x : Nat} (h : (oge x 0 && ole x 4633641066610819072) = true) : Fin64 x := by
 simp only [Bool.and_eq_true] at h
 rcases Nat.lt_trichotomy (frung x) 9218868437227405312 with g | g | g
 · exact g
 · exfalso
   have h1 := h.1
   have h2 := h.2
   have o1 : FloatKind.f64.format.order x 0 = some (if fneg x then .lt else .gt) := ord_inf_r g fin0Y
   have o2 : FloatKind.f64.format.order x 4633641066610819072 = some (if fneg x then .lt else .gt) := ord_inf_r g fin60
   unfold oge at h1
   unfold ole at h2
   rw [o1] at h1
   rw [o2] at h2
   revert h1 h2
   generalize fneg x = b
   cases b <;> decide
 · exfalso
   have h1 := h.1
   unfold oge at h1
   rw [nan_ord g] at h1
   revert h1; decide
theorem area_fin {x : Nat} (h : (ogt x 0 && !ogt x 9218868437227405311) = true) : Fin64 x := by
 simp only [Bool.and_eq_true] at h
 rcases Nat.lt_trichotomy (frung x) 9218868437227405312 with g | g | g
 · exact g
 · exfalso
   have h1 := h.1
   have h2 := h.2
   have o1 : FloatKind.f64.format.order x 0 = some (if fneg x then .lt else .gt) := ord_inf_r g fin0Y
   have o2 : FloatKind.f64.format.order x 9218868437227405311 = some (if fneg x then .lt else .gt) := ord_inf_r g finMx
   unfold ogt at h1 h2
   rw [o1] at h1
   rw [o2] at h2
   revert h1 h2
   generalize fneg x = b
   cases b <;> decide
 · exfalso
   have h1 := h.1
   unfold ogt at h1
   rw [nan_ord g] at h1
   revert h1; decide
theorem at20_fl (f : Fp) (p : Pn) (k : Nat) (hk : k < 21) (h3 : k ≠ 3) (h5 : k ≠ 5) (h11 : k ≠ 11) (h12 : k ≠ 12) : (at20 f p).fl k = p.fl k := by
 have : k = 0 ∨ k = 1 ∨ k = 2 ∨ k = 4 ∨ k = 6 ∨ k = 7 ∨ k = 8 ∨ k = 9 ∨ k = 10 ∨ k = 13 ∨ k = 14 ∨ k = 15 ∨ k = 16 ∨ k = 17 ∨ k = 18 ∨ k = 19 ∨ k = 20 := by omega
 clear hk h3 h5 h11 h12
 rcases this with rfl | rfl | rfl | rfl | rfl | rfl | rfl | rfl | rfl | rfl | rfl | rfl | rfl | rfl | rfl | rfl | rfl
 all_goals exact Bool.or_false _
theorem at20_grow (f : Fp) (p : Pn) : (at20 f p).fl 21 = (p.bd == 3) := Bool.or_false _
theorem at20_sweep (f : Fp) (p : Pn) : (at20 f p).fl 22 = (p.bd == 2) := Bool.or_false _
theorem at20_ang (f : Fp) (p : Pn) : (at20 f p).ang = if p.fl 2 then (f.rf (f.tx p.ang)).1 else 0 := rfl
theorem at20_area (f : Fp) (p : Pn) : (at20 f p).area = if p.fl 4 then (f.rf (f.tx p.area)).1 else 0 := rfl
theorem at20_st (f : Fp) (p : Pn) : (at20 f p).st = p.st := by
 show (if (p.st != -1) = true then p.st else -1) = p.st
 by_cases h : p.st = -1
 · rw [h]; rfl
 · rw [if_pos (by simpa using h)]
theorem at20_bd (f : Fp) (p : Pn) : (at20 f p).bd = 1 := rfl
theorem bld_fl (q : Pn) (k : Nat) : (bldS q).fl k = q.fl k := by unfold bldS; split; rfl; split <;> rfl
theorem bld_ang (q : Pn) : (bldS q).ang = q.ang := by unfold bldS; split; rfl; split <;> rfl
theorem bld_area (q : Pn) : (bldS q).area = q.area := by unfold bldS; split; rfl; split <;> rfl
theorem bld_st (q : Pn) : (bldS q).st = q.st := by unfold bldS; split; rfl; split <;> rfl
theorem chk_parts {p : Pn} (h : chkS p = 0) : angS p = true ∧ areaS p = true ∧ -1 ≤ p.st ∧ p.st ≤ 1048576 ∧ bdS p.bd = true ∧ bgoS p = true ∧ ggoS p = true ∧ rgoS p = true := by
 unfold chkS at h
 split at h
 · rename_i h1
   split at h
   · rename_i h2
     simp only [Bool.and_eq_true, decide_eq_true_eq] at h1 h2
     exact ⟨h1.1.1.1.1, h1.1.1.1.2, h1.1.1.2, h1.1.2, h1.2, h2.1.1, h2.1.2, h2.2⟩
   · cases h
 · cases h
theorem chk_of {p : Pn} (h : angS p = true ∧ areaS p = true ∧ -1 ≤ p.st ∧ p.st ≤ 1048576 ∧ bdS p.bd = true ∧ bgoS p = true ∧ ggoS p = true ∧ rgoS p = true) : chkS p = 0 := by
 obtain ⟨h1, h2, h3, h4, h5, h6, h7, h8⟩ := h
 unfold chkS
 rw [h1, h2, decide_eq_true h3, decide_eq_true h4, h5, h6, h7, h8]
 rfl
theorem trS_no {t : List UInt8} (h : ∀ d, t.head? = some d → floatCs.contains d = false) : trS t = t := by
 unfold trS trimPrefix
 cases t with
 | nil => rfl
 | cons c t =>
   have hc := h c rfl
   have : c ≠ 45 := by rintro rfl; revert hc; decide
   rw [if_neg]
   simpa [hasPrefix] using fun e => this e.symm
theorem trS_yes (t : List UInt8) : trS (45 :: t) = t := by
 unfold trS trimPrefix
 rw [if_pos (by simp [hasPrefix])]
 rfl
theorem back1 {f : Fp} (hf : f.Ok) {p : Pn} (ha : p.ang < 18446744073709551616) (hr : p.area < 18446744073709551616) (h : chkS p = 0) :
   ∃ q, prsS f (catS (swS f p)) = (q, 0) ∧ prsS f (45 :: catS (swS f p)) = (q, 0) ∧ eqP q p = true := by
 obtain ⟨h1, h2, h3, h4, h5, h6, h7, h8⟩ := chk_parts h
 have hA : p.fl 2 = true → Fin64 p.ang := fun e => by unfold angS at h1; rw [e, if_pos rfl] at h1; exact ang_fin h1
 have hR : p.fl 4 = true → Fin64 p.area := fun e => by unfold areaS at h2; rw [e, if_pos rfl] at h2; exact area_fin h2
 have hch := chain (f := f) (p := p)
   (fun e => by
     obtain ⟨z, hz, _⟩ := rf_txY hf (hA e) ha
     obtain ⟨g1, g2⟩ := (hf.tx p.ang ha).charsY (hA e)
     exact ⟨g1, g2, by rw [hz]⟩)
   (fun e => by
     obtain ⟨z, hz, _⟩ := rf_txY hf (hR e) hr
     obtain ⟨g1, g2⟩ := (hf.tx p.area hr).charsY (hR e)
     exact ⟨g1, g2, by rw [hz]⟩)
   (fun e => by
     have e' : p.st ≠ -1 := by simpa using e
     exact ⟨itoa_whole (by omega), rd_itoa ⟨by omega, by omega⟩⟩)
 have hb : p.bd = 1 ∨ p.bd = 2 ∨ p.bd = 3 := by
   unfold bdS at h5
   simp only [Bool.or_eq_true, beq_iff_eq] at h5
   omega
 have q_fl : ∀ k, k < 21 → k ≠ 3 → k ≠ 5 → k ≠ 11 → k ≠ 12 → (bldS (at20 f p)).fl k = p.fl k := fun k a b c d e => by rw [bld_fl, at20_fl f p k a b c d e]
 have q_st : (bldS (at20 f p)).st = p.st := by rw [bld_st, at20_st]
 have q_bd : (bldS (at20 f p)).bd = p.bd := by
   unfold bldS
   rw [at20_grow, at20_sweep]
   rcases hb with e | e | e
   · rw [e]; exact at20_bd f p
   · rw [e]; rfl
   · rw [e]; rfl
 have q_ang : angS (bldS (at20 f p)) = true ∧ oeq (bldS (at20 f p)).ang p.ang = true := by
   unfold angS at h1 ⊢
   rw [q_fl 2 (by omega) (by omega) (by omega) (by omega) (by omega), bld_ang, at20_ang]
   cases e : p.fl 2
   · rw [e] at h1
     simp only [Bool.false_eq_true, if_false] at h1 ⊢
     refine ⟨by decide, ?_⟩
     by_cases fx : Fin64 p.ang
     · rw [oeqV fx fin0Y] at h1
       rw [oeqV fin0Y fx]
       simp only [decide_eq_true_eq] at h1 ⊢
       exact h1.symm
     · exfalso
       unfold oeq at h1
       rcases Nat.lt_trichotomy (frung p.ang) 9218868437227405312 with g | g | g
       · exact fx g
       · rw [show FloatKind.f64.format.order p.ang 0 = _ from ord_inf_r g fin0Y] at h1
         revert h1
         generalize fneg p.ang = b
         cases b <;> decide
       · rw [nan_ord g] at h1
         revert h1; decide
   · obtain ⟨z, hz, fz, _, vz⟩ := rf_txY hf (hA e) ha
     rw [e, if_pos rfl] at h1
     rw [if_pos rfl, if_pos rfl, hz]
     rw [ogeV (hA e) fin0Y, oleV (hA e) fin60] at h1
     exact ⟨by rw [ogeV fz fin0Y, oleV fz fin60, vz]; exact h1, by rw [oeqV fz (hA e), vz]; simp⟩
 have q_area : areaS (bldS (at20 f p)) = true ∧ oeq (bldS (at20 f p)).area p.area = true := by
   unfold areaS at h2 ⊢
   rw [q_fl 4 (by omega) (by omega) (by omega) (by omega) (by omega), bld_area, at20_area]
   cases e : p.fl 4
   · rw [e] at h2
     simp only [Bool.false_eq_true, if_false] at h2 ⊢
     refine ⟨by decide, ?_⟩
     by_cases fx : Fin64 p.area
     · rw [oeqV fx fin0Y] at h2
       rw [oeqV fin0Y fx]
       simp only [decide_eq_true_eq] at h2 ⊢
       exact h2.symm
     · exfalso
       unfold oeq at h2
       rcases Nat.lt_trichotomy (frung p.area) 9218868437227405312 with g | g | g
       · exact fx g
       · rw [show FloatKind.f64.format.order p.area 0 = _ from ord_inf_r g fin0Y] at h2
         revert h2
         generalize fneg p.area = b
         cases b <;> decide
       · rw [nan_ord g] at h2
         revert h2; decide
   · obtain ⟨z, hz, fz, _, vz⟩ := rf_txY hf (hR e) hr
     rw [e, if_pos rfl] at h2
     rw [if_pos rfl, if_pos rfl, hz]
     rw [ogtV (hR e) fin0Y, ogtV (hR e) finMx] at h2
     exact ⟨by rw [ogtV fz fin0Y, ogtV fz finMx, vz]; exact h2, by rw [oeqV fz (hR e), vz]; simp⟩
 have q_chk : chkS (bldS (at20 f p)) = 0 := by
   refine chk_of ⟨q_ang.1, q_area.1, by rw [q_st]; exact h3, by rw [q_st]; exact h4, by rw [q_bd]; exact h5, ?_, ?_, ?_⟩
   · unfold bgoS at h6 ⊢
     rw [q_bd, q_fl 1 (by omega) (by omega) (by omega) (by omega) (by omega), q_fl 13 (by omega) (by omega) (by omega) (by omega) (by omega)]
     exact h6
   · unfold ggoS at h7 ⊢
     rw [q_fl 0 (by omega) (by omega) (by omega) (by omega) (by omega), q_fl 6 (by omega) (by omega) (by omega) (by omega) (by omega), q_fl 8 (by omega) (by omega) (by omega) (by omega) (by omega), q_fl 9 (by omega) (by omega) (by omega) (by omega) (by omega), q_fl 20 (by omega) (by omega) (by omega) (by omega) (by omega)]
     exact h7
   · unfold rgoS at h8 ⊢
     rw [q_st, q_fl 2 (by omega) (by omega) (by omega) (by omega) (by omega), q_fl 4 (by omega) (by omega) (by omega) (by omega) (by omega), q_fl 6 (by omega) (by omega) (by omega) (by omega) (by omega), q_fl 7 (by omega) (by omega) (by omega) (by omega) (by omega), q_fl 10 (by omega) (by omega) (by omega) (by omega) (by omega)]
     exact h8
 have hgo : ∀ t, trS t = catS (swS f p) → prsS f t = (bldS (at20 f p), 0) := by
   intro t ht
   unfold prsS
   rw [ht, show goS f (catS (swS f p)).length p0 (catS (swS f p)) = some (at20 f p) from hch]
   simp only []
   rw [at20_grow, at20_sweep, if_neg (by rcases hb with e | e | e <;> rw [e] <;> decide), if_pos q_chk]
 refine ⟨bldS (at20 f p), hgo _ (trS_no ?_), hgo _ (trS_yes _), eqP_same q_fl q_ang.2 q_area.2 q_st q_bd⟩
 rw [cat_rest]
 exact head0 f p
theorem catS_lenZ (l : List (Bool × List UInt8)) (n : Nat) (h : ∀ q ∈ l, q.2.length ≤ n) : (catS l).length ≤ l.length * n := by
 induction l with
 | nil => simp [catS]
 | cons a r ih =>
   have h1 := h a (by simp)
   have h2 := ih (fun q hq => h q (by simp [hq]))
   simp only [catS, List.length_append, List.length_cons]
   have : (if a.1 = true then a.2 else []).length ≤ n := by split; exact h1; simp
   rw [Nat.succ_mul]
   omega
def Wd (p : Pn) : Prop := (p.ang < 18446744073709551616 ∧ Fin64 p.ang) ∧ (p.area < 18446744073709551616 ∧ Fin64 p.area)
theorem goS_wd {f : Fp} (hf : f.Ok) : ∀ (n : Nat) (p q : Pn) (t : List UInt8), Wd p → goS f n p t = some q → Wd q := by
 have fin : ∀ {j : Nat} {p : Pn} {u : List UInt8} {q : Pn × List UInt8}, Wd p → finS j p u = some q → Wd q.1 := by
   intro j p u q h e
   unfold finS at e
   split at e
   · cases e
   · cases e; exact h
 have step : ∀ {c : UInt8} {p : Pn} {t : List UInt8} {q : Pn × List UInt8}, Wd p → stepS f c p t = some q → Wd q.1 := by
   intro c p t q h e
   have hw := And.intro (hf.rf (t.takeWhile (floatCs.contains ·))).wordY (hf.rf (t.takeWhile (floatCs.contains ·))).finY
   unfold stepS at e
   split at e
   · exact fin h e
   · split at e
     · split at e
       · exact fin (p := { p with ang := 4626322717216342016 }) ⟨⟨by show (4626322717216342016 : Nat) < _; decide, by show Fin64 4626322717216342016; unfold Fin64 frung; decide⟩, h.2⟩ e
       · split at e
         · exact fin (p := { p with ang := (f.rf (t.takeWhile (floatCs.contains ·))).1 }) ⟨hw, h.2⟩ e
         · cases e
     · split at e
       · split at e
         · exact fin h e
         · split at e
           · exact fin (p := { p with area := (f.rf (t.takeWhile (floatCs.contains ·))).1 }) ⟨h.1, hw⟩ e
           · cases e
       · split at e
         · split at e
           · cases e
           · split at e
             · cases e; exact h
             · cases e
         · split at e
           · split at e
             · exact fin h e
             · cases e
           · cases e
 intro n
 induction n with
 | zero =>
   intro p q t h e
   cases t with
   | nil => cases e; exact h
   | cons c t => cases e
 | succ n ih =>
   intro p q t h e
   cases t with
   | nil => cases e; exact h
   | cons c t =>
     simp only [goS] at e
     cases hs : stepS f c p t with
     | none => rw [hs] at e; cases e
     | some r =>
       rw [hs] at e
       exact ih r.1 q r.2 (step h hs) e
theorem prs_wd {f : Fp} (hf : f.Ok) (s : List UInt8) : Wd (prsS f s).1 ∧ ((prsS f s).2 = 0 → chkS (prsS f s).1 = 0) := by
 have hz : Wd pz := ⟨⟨by decide, fin0Y⟩, ⟨by decide, fin0Y⟩⟩
 unfold prsS
 cases hg : goS f (trS s).length p0 (trS s) with
 | none => exact ⟨hz, fun e => by cases e⟩
 | some p =>
   have hp := goS_wd hf _ _ _ _ (show Wd p0 from ⟨⟨by decide, fin0Y⟩, ⟨by decide, fin0Y⟩⟩) hg
   simp only []
   split
   · exact ⟨hz, fun e => by cases e⟩
   · split
     · rename_i h
       exact ⟨⟨by rw [bld_ang]; exact hp.1, by rw [bld_area]; exact hp.2⟩, fun _ => h⟩
     · rename_i h
       exact ⟨hz, fun e => absurd e h⟩
theorem chk_inR {p : Pn} (h : chkS p = 0) : InR p.st := by
 obtain ⟨_, _, h3, h4, _⟩ := chk_parts h
 exact ⟨by omega, by omega⟩
theorem prt_is {f : Fp} {p : Pn} : (prtS f p).2 = chkS p := by
 unfold prtS
 split
 · rename_i h; rw [h]
 · rfl
theorem prt_yes {f : Fp} {p : Pn} (h : chkS p = 0) : prtS f p = (catS (swS f p), 0) := by unfold prtS; rw [if_pos h]
theorem cat_short {f : Fp} (hf : f.Ok) {p : Pn} (ha : p.ang < 18446744073709551616) (hr : p.area < 18446744073709551616) (hs : InR p.st) : (catS (swS f p)).length ≤ 2000 := by
 have h1 := (hf.tx _ ha).lenY
 have h2 := (hf.tx _ hr).lenY
 have h3 := itoa_length_le p.st hs.1 hs.2
 have hsw : ∀ q ∈ swS f p, q.2.length ≤ 100 := by
   intro q hq
   simp only [swS, List.mem_cons, List.not_mem_nil, or_false] at hq
   rcases hq with rfl | rfl | rfl | rfl | rfl | rfl | rfl | rfl | rfl | rfl | rfl | rfl | rfl | rfl | rfl | rfl | rfl | rfl | rfl | rfl
   all_goals simp only [List.length_cons, List.length_nil]
   all_goals omega
 have := catS_lenZ _ 100 hsw
 have e : (swS f p).length = 20 := rfl
 omega
end Go.Proofs.YtkgnlobakicnjaaDoor
