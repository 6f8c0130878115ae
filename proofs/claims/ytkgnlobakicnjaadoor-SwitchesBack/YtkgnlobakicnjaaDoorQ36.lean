/- Own texts, put together: Yz Yza Yzb. -/
import Derived.Test.YtkgnlobakicnjaaDoorQ31
namespace Go.Proofs.YtkgnlobakicnjaaDoor
/- Package switches: a row that was written is read, a switch at a time: plain. (Towards SwitchesBack and SwitchesOrder.) -/
section
set_option maxRecDepth 100000
open Go.RowKit Go.Shelf Go.Lib
theorem goS_flag {f : Fp} {n j : Nat} {p : Pn} {c : UInt8} {t : List UInt8} (h : letIx c = some j) (hp : p.fl j = false) : goS f (n + 1) p (c :: t) = goS f n (p.on j) t := by
 simp [goS, stepS, h, finS, hp]
theorem take_word {q : UInt8 → Bool} {w r : List UInt8} (hw : ∀ c ∈ w, q c = true) (hr : ∀ c, r.head? = some c → q c = false) : (w ++ r).takeWhile q = w ∧ (w ++ r).dropWhile q = r := by
 induction w with
 | nil =>
   cases r with
   | nil => simp
   | cons c t =>
     have := hr c rfl
     simp [this]
 | cons c w ih =>
   have h1 := hw c (by simp)
   have h2 := ih (fun d hd => hw d (by simp [hd]))
   simp only [List.cons_append, List.takeWhile_cons, List.dropWhile_cons, h1, if_true]
   exact ⟨by rw [h2.1], h2.2⟩
theorem goS_angle {f : Fp} {n x : Nat} {p : Pn} {w t : List UInt8} (hw : ∀ c ∈ w, floatCs.contains c = true) (ht : ∀ c, t.head? = some c → floatCs.contains c = false) (h0 : w ≠ []) (hx : f.rf w = (x, 0)) (hp : p.fl 2 = false) : goS f (n + 1) p (113 :: (w ++ t)) = goS f n ({ p with ang := x }.on 2) t := by
 obtain ⟨h1, h2⟩ := take_word hw ht
 have hl : letIx 113 = none := by decide
 simp only [goS, stepS, hl, if_true, h1, h2, if_neg h0, hx, finS, hp]
 rfl
theorem goS_area {f : Fp} {n x : Nat} {p : Pn} {w t : List UInt8} (hw : ∀ c ∈ w, floatCs.contains c = true) (ht : ∀ c, t.head? = some c → floatCs.contains c = false) (h0 : w ≠ []) (hx : f.rf w = (x, 0)) (hp : p.fl 4 = false) : goS f (n + 1) p (97 :: (w ++ t)) = goS f n ({ p with area := x }.on 4) t := by
 obtain ⟨h1, h2⟩ := take_word hw ht
 have hl : letIx 97 = none := by decide
 have h97 : ¬ ((97 : UInt8) = 113) := by decide
 simp only [goS, stepS, hl, if_true, if_neg h97, h1, h2, if_neg h0, hx, finS, hp]
 rfl
theorem goS_steiner {f : Fp} {n : Nat} {k : Int} {p : Pn} {w t : List UInt8} (hw : ∀ c ∈ w, wholeCs.contains c = true) (ht : ∀ c, t.head? = some c → wholeCs.contains c = false) (hx : rdInt w = some k) (hp : p.st = -1) : goS f (n + 1) p (83 :: (w ++ t)) = goS f n { p with st := k } t := by
 obtain ⟨h1, h2⟩ := take_word hw ht
 have hl : letIx 83 = none := by decide
 have a1 : ¬ ((83 : UInt8) = 113) := by decide
 have a2 : ¬ ((83 : UInt8) = 97) := by decide
 simp only [goS, stepS, hl, if_neg a1, if_neg a2, if_true, h1, h2, hx, hp]
theorem eqP_same {p q : Pn} (hf : ∀ k, k < 21 → k ≠ 3 → k ≠ 5 → k ≠ 11 → k ≠ 12 → p.fl k = q.fl k) (ha : oeq p.ang q.ang = true) (hr : oeq p.area q.area = true) (hs : p.st = q.st) (hb : p.bd = q.bd) : eqP p q = true := by
 unfold eqP
 rw [List.all_eq_true]
 intro k hk
 have hk := List.mem_range.1 hk
 unfold eqK
 by_cases h3 : k = 3
 · simp [h3, ha]
 by_cases h5 : k = 5
 · simp [h5, hr]
 by_cases h11 : k = 11
 · simp [h11, hs]
 by_cases h12 : k = 12
 · simp [h12, hb]
 simp [h3, h5, h11, h12, hf k hk h3 h5 h11 h12]
def goT (f : Fp) (p : Pn) (t : List UInt8) : Option Pn := goS f t.length p t
theorem goT_flag {f : Fp} {j : Nat} {p : Pn} {c : UInt8} {t : List UInt8} (h : letIx c = some j) (hp : p.fl j = false) : goT f p (c :: t) = goT f (p.on j) t := goS_flag h hp
theorem goT_angle {f : Fp} {x : Nat} {p : Pn} {w t : List UInt8} (hw : ∀ c ∈ w, floatCs.contains c = true) (ht : ∀ c, t.head? = some c → floatCs.contains c = false) (h0 : w ≠ []) (hx : f.rf w = (x, 0)) (hp : p.fl 2 = false) : goT f p (113 :: (w ++ t)) = goT f ({ p with ang := x }.on 2) t := by
 unfold goT
 rw [List.length_cons, goS_angle hw ht h0 hx hp]
 exact (goS_more _ _ _ _ (Nat.le_refl _) (by simp)).symm
theorem goT_area {f : Fp} {x : Nat} {p : Pn} {w t : List UInt8} (hw : ∀ c ∈ w, floatCs.contains c = true) (ht : ∀ c, t.head? = some c → floatCs.contains c = false) (h0 : w ≠ []) (hx : f.rf w = (x, 0)) (hp : p.fl 4 = false) : goT f p (97 :: (w ++ t)) = goT f ({ p with area := x }.on 4) t := by
 unfold goT
 rw [List.length_cons, goS_area hw ht h0 hx hp]
 exact (goS_more _ _ _ _ (Nat.le_refl _) (by simp)).symm
theorem goT_steiner {f : Fp} {k : Int} {p : Pn} {w t : List UInt8} (hw : ∀ c ∈ w, wholeCs.contains c = true) (ht : ∀ c, t.head? = some c → wholeCs.contains c = false) (hx : rdInt w = some k) (hp : p.st = -1) : goT f p (83 :: (w ++ t)) = goT f { p with st := k } t := by
 unfold goT
 rw [List.length_cons, goS_steiner hw ht hx hp]
 exact (goS_more _ _ _ _ (Nat.le_refl _) (by simp)).symm
theorem goT_each {f : Fp} {p : Pn} {t : List UInt8} (ht : ∀ c, t.head? = some c → floatCs.contains c = false) (hp : p.fl 6 = false) : goT f p (97 :: t) = goT f (p.on 6) t := by
 have h := take_word (q := (floatCs.contains ·)) (w := []) (r := t) (by simp) ht
 simp only [List.nil_append] at h
 have hl : letIx 97 = none := by decide
 have h97 : ¬ ((97 : UInt8) = 113) := by decide
 unfold goT
 simp only [List.length_cons, goS, stepS, hl, if_true, if_neg h97, h.1, h.2, finS, hp]
 rfl
theorem goT_second {f : Fp} {p : Pn} {t : List UInt8} (hp : p.fl 18 = false) : goT f p (111 :: 50 :: t) = goT f (p.on 18) t := by
 have hl : letIx 111 = none := by decide
 have a1 : ¬ ((111 : UInt8) = 113) := by decide
 have a2 : ¬ ((111 : UInt8) = 97) := by decide
 have a3 : ¬ ((111 : UInt8) = 83) := by decide
 unfold goT
 simp only [List.length_cons, goS, stepS, hl, if_neg a1, if_neg a2, if_neg a3, if_true, finS, hp]
 exact (goS_more _ _ _ _ (Nat.le_refl _) (by simp)).symm
end

/- Package switches: which bytes a number's text holds: plain. (Towards SwitchesBack.) -/
section
set_option maxRecDepth 100000
open Go.RowKit Go.Shelf Go.Lib
theorem whole_of_dv (c : UInt8) (h : dv c ≤ 9) : wholeCs.contains c = true := by
 have key : ∀ n : Fin 256, dv (UInt8.ofNat n.val) ≤ 9 → wholeCs.contains (UInt8.ofNat n.val) = true := by decide +kernel
 have e : UInt8.ofNat c.toNat = c := by simp
 have := key ⟨c.toNat, c.toNat_lt⟩ (by rw [e]; exact h)
 rw [e] at this
 exact this
theorem float_of_whole (c : UInt8) (h : wholeCs.contains c = true) : floatCs.contains c = true := by
 simp only [wholeCs, floatCs, List.contains_iff_mem, List.mem_cons, List.not_mem_nil, or_false] at h ⊢
 rcases h with h | h | h | h | h | h | h | h | h | h <;> simp [h]
theorem dec_whole (u : Nat) : ∀ c ∈ decDigits u, wholeCs.contains c = true := fun c hc => whole_of_dv c (dec_digits u c hc)
theorem itoa_whole {n : Int} (hn : 0 ≤ n) : ∀ c ∈ itoa n, wholeCs.contains c = true := by
 obtain ⟨u, rfl⟩ := Int.eq_ofNat_of_zero_le hn
 rw [itoa_nonneg]
 exact dec_whole u
theorem itoa_float (n : Int) : ∀ c ∈ itoa n, floatCs.contains c = true := by
 intro c hc
 by_cases hn : 0 ≤ n
 · exact float_of_whole c (itoa_whole hn c hc)
 · obtain ⟨u, hu⟩ : ∃ u : Nat, n = -(u : Int) := ⟨(-n).toNat, by omega⟩
   subst hu
   rw [itoa_neg u (by omega)] at hc
   rcases List.mem_cons.1 hc with rfl | hc
   · decide
   · exact float_of_whole c (dec_whole u c hc)
theorem itoa_neY (n : Int) : itoa n ≠ [] := by
 by_cases hn : 0 ≤ n
 · obtain ⟨u, rfl⟩ := Int.eq_ofNat_of_zero_le hn
   rw [itoa_nonneg]
   exact dec_ne u
 · obtain ⟨u, hu⟩ : ∃ u : Nat, n = -(u : Int) := ⟨(-n).toNat, by omega⟩
   subst hu
   rw [itoa_neg u (by omega)]
   simp
theorem TextR.charsY {x : Nat} {l : List UInt8} (h : TextR x l) (hx : Fin64 x) : l ≠ [] ∧ ∀ c ∈ l, floatCs.contains c = true := by
 rcases h with ⟨h, _⟩ | ⟨_, ⟨k, _, _, _, rfl⟩ | ⟨_, n, e, _, _, _, _, _, _, rfl⟩⟩
 · exact absurd hx h
 · exact ⟨itoa_neY k, itoa_float k⟩
 · refine ⟨by simp, fun c hc => ?_⟩
   rcases List.mem_append.1 hc with hc | hc
   · exact itoa_float n c hc
   · rcases List.mem_cons.1 hc with rfl | hc
     · decide
     · exact itoa_float e c hc
end

/- Package switches: a written row is read: the chain. (gen_yzb.py) -/
section
set_option maxRecDepth 100000
open Go.RowKit Go.Shelf Go.Lib
def onB (b : Bool) (k : Nat) (r : Pn) : Pn := { r with fl := fun i => if i = k then (b || r.fl i) else r.fl i }
theorem onB_no (k : Nat) (r : Pn) : onB false k r = r := by
 unfold onB
 cases r
 simp
theorem onB_yes (k : Nat) (r : Pn) : onB true k r = r.on k := by
 unfold onB Pn.on
 simp
def angB (b : Bool) (x : Nat) (r : Pn) : Pn := onB b 2 { r with ang := if b then x else r.ang }
def areaB (b : Bool) (x : Nat) (r : Pn) : Pn := onB b 4 { r with area := if b then x else r.area }
def stB (b : Bool) (s : Int) (r : Pn) : Pn := { r with st := if b then s else r.st }
def partB (b : Bool) (l : List UInt8) : List UInt8 := if b then l else []
section
variable {f : Fp} {r : Pn} {t : List UInt8} {b : Bool}
theorem ch_f {j : Nat} {c : UInt8} (h : letIx c = some j) (hr : r.fl j = false) : goT f r (partB b [c] ++ t) = goT f (onB b j r) t := by
 cases b
 · rw [onB_no]; rfl
 · rw [onB_yes]; exact goT_flag h hr
theorem ch_e (ht : ∀ c, t.head? = some c → floatCs.contains c = false) (hr : r.fl 6 = false) : goT f r (partB b [97] ++ t) = goT f (onB b 6 r) t := by
 cases b
 · rw [onB_no]; rfl
 · rw [onB_yes]; exact goT_each ht hr
theorem ch_o (hr : r.fl 18 = false) : goT f r (partB b [111, 50] ++ t) = goT f (onB b 18 r) t := by
 cases b
 · rw [onB_no]; rfl
 · rw [onB_yes]; exact goT_second hr
theorem ch_q {w : List UInt8} {x : Nat} (hw : b = true → w ≠ [] ∧ (∀ c ∈ w, floatCs.contains c = true) ∧ f.rf w = (x, 0)) (ht : ∀ c, t.head? = some c → floatCs.contains c = false) (hr : r.fl 2 = false) : goT f r (partB b (113 :: w) ++ t) = goT f (angB b x r) t := by
 cases b
 · show goT f r t = goT f (onB false 2 r) t
   rw [onB_no]
 · obtain ⟨h1, h2, h3⟩ := hw rfl
   show goT f r (113 :: (w ++ t)) = goT f (onB true 2 { r with ang := x }) t
   rw [onB_yes]
   exact goT_angle h2 ht h1 h3 hr
theorem ch_a {w : List UInt8} {x : Nat} (hw : b = true → w ≠ [] ∧ (∀ c ∈ w, floatCs.contains c = true) ∧ f.rf w = (x, 0)) (ht : ∀ c, t.head? = some c → floatCs.contains c = false) (hr : r.fl 4 = false) : goT f r (partB b (97 :: w) ++ t) = goT f (areaB b x r) t := by
 cases b
 · show goT f r t = goT f (onB false 4 r) t
   rw [onB_no]
 · obtain ⟨h1, h2, h3⟩ := hw rfl
   show goT f r (97 :: (w ++ t)) = goT f (onB true 4 { r with area := x }) t
   rw [onB_yes]
   exact goT_area h2 ht h1 h3 hr
theorem ch_s {w : List UInt8} {s : Int} (hw : b = true → (∀ c ∈ w, wholeCs.contains c = true) ∧ rdInt w = some s) (ht : ∀ c, t.head? = some c → wholeCs.contains c = false) (hr : r.st = -1) : goT f r (partB b (83 :: w) ++ t) = goT f (stB b s r) t := by
 cases b
 · rfl
 · obtain ⟨h1, h2⟩ := hw rfl
   exact goT_steiner h1 ht h2 hr
theorem head_part {c : UInt8} {w : List UInt8} (hc : floatCs.contains c = false) (ht : ∀ d, t.head? = some d → floatCs.contains d = false) : ∀ d, (partB b (c :: w) ++ t).head? = some d → floatCs.contains d = false := by
 cases b
 · exact ht
 · intro d hd
   have : c = d := by simpa [partB] using hd
   rw [← this]; exact hc
theorem head_whole (ht : ∀ d, t.head? = some d → floatCs.contains d = false) : ∀ d, t.head? = some d → wholeCs.contains d = false := fun d hd => by
 cases h : wholeCs.contains d
 · rfl
 · have := float_of_whole d h
   rw [ht d hd] at this
   cases this
end
def rest20 : List UInt8 := []
def rest19 (_ : Fp) (p : Pn) : List UInt8 := partB (p.fl 20) ([65]) ++ rest20
def rest18 (f : Fp) (p : Pn) : List UInt8 := partB (p.fl 19) ([106]) ++ rest19 f p
def rest17 (f : Fp) (p : Pn) : List UInt8 := partB (p.fl 18) ([111, 50]) ++ rest18 f p
def rest16 (f : Fp) (p : Pn) : List UInt8 := partB (p.fl 17) ([122]) ++ rest17 f p
def rest15 (f : Fp) (p : Pn) : List UInt8 := partB (p.fl 16) ([118]) ++ rest16 f p
def rest14 (f : Fp) (p : Pn) : List UInt8 := partB (p.fl 15) ([110]) ++ rest15 f p
def rest13 (f : Fp) (p : Pn) : List UInt8 := partB (p.fl 14) ([101]) ++ rest14 f p
def rest12 (f : Fp) (p : Pn) : List UInt8 := partB (p.fl 13) ([108]) ++ rest13 f p
def rest11 (f : Fp) (p : Pn) : List UInt8 := partB (p.bd == 2) ([70]) ++ rest12 f p
def rest10 (f : Fp) (p : Pn) : List UInt8 := partB (p.bd == 3) ([105]) ++ rest11 f p
def rest9 (f : Fp) (p : Pn) : List UInt8 := partB (p.st != -1) (83 :: itoa p.st) ++ rest10 f p
def rest8 (f : Fp) (p : Pn) : List UInt8 := partB (p.fl 10) ([89]) ++ rest9 f p
def rest7 (f : Fp) (p : Pn) : List UInt8 := partB (p.fl 9) ([79]) ++ rest8 f p
def rest6 (f : Fp) (p : Pn) : List UInt8 := partB (p.fl 8) ([99]) ++ rest7 f p
def rest5 (f : Fp) (p : Pn) : List UInt8 := partB (p.fl 7) ([68]) ++ rest6 f p
def rest4 (f : Fp) (p : Pn) : List UInt8 := partB (p.fl 6) ([97]) ++ rest5 f p
def rest3 (f : Fp) (p : Pn) : List UInt8 := partB (p.fl 4) (97 :: f.tx p.area) ++ rest4 f p
def rest2 (f : Fp) (p : Pn) : List UInt8 := partB (p.fl 2) (113 :: f.tx p.ang) ++ rest3 f p
def rest1 (f : Fp) (p : Pn) : List UInt8 := partB (p.fl 1) ([114]) ++ rest2 f p
def rest0 (f : Fp) (p : Pn) : List UInt8 := partB (p.fl 0) ([112]) ++ rest1 f p
def at0 : Pn := p0
def at1 (_ : Fp) (p : Pn) : Pn := onB (p.fl 0) 0 (at0)
def at2 (f : Fp) (p : Pn) : Pn := onB (p.fl 1) 1 (at1 f p)
def at3 (f : Fp) (p : Pn) : Pn := angB (p.fl 2) (f.rf (f.tx p.ang)).1 (at2 f p)
def at4 (f : Fp) (p : Pn) : Pn := areaB (p.fl 4) (f.rf (f.tx p.area)).1 (at3 f p)
def at5 (f : Fp) (p : Pn) : Pn := onB (p.fl 6) 6 (at4 f p)
def at6 (f : Fp) (p : Pn) : Pn := onB (p.fl 7) 7 (at5 f p)
def at7 (f : Fp) (p : Pn) : Pn := onB (p.fl 8) 8 (at6 f p)
def at8 (f : Fp) (p : Pn) : Pn := onB (p.fl 9) 9 (at7 f p)
def at9 (f : Fp) (p : Pn) : Pn := onB (p.fl 10) 10 (at8 f p)
def at10 (f : Fp) (p : Pn) : Pn := stB (p.st != -1) p.st (at9 f p)
def at11 (f : Fp) (p : Pn) : Pn := onB (p.bd == 3) 21 (at10 f p)
def at12 (f : Fp) (p : Pn) : Pn := onB (p.bd == 2) 22 (at11 f p)
def at13 (f : Fp) (p : Pn) : Pn := onB (p.fl 13) 13 (at12 f p)
def at14 (f : Fp) (p : Pn) : Pn := onB (p.fl 14) 14 (at13 f p)
def at15 (f : Fp) (p : Pn) : Pn := onB (p.fl 15) 15 (at14 f p)
def at16 (f : Fp) (p : Pn) : Pn := onB (p.fl 16) 16 (at15 f p)
def at17 (f : Fp) (p : Pn) : Pn := onB (p.fl 17) 17 (at16 f p)
def at18 (f : Fp) (p : Pn) : Pn := onB (p.fl 18) 18 (at17 f p)
def at19 (f : Fp) (p : Pn) : Pn := onB (p.fl 19) 19 (at18 f p)
def at20 (f : Fp) (p : Pn) : Pn := onB (p.fl 20) 20 (at19 f p)
theorem cat_rest (f : Fp) (p : Pn) : catS (swS f p) = rest0 f p := rfl
theorem head20 : ∀ d, rest20.head? = some d → floatCs.contains d = false := by intro d hd; cases hd
theorem head19 (f : Fp) (p : Pn) : ∀ d, (rest19 f p).head? = some d → floatCs.contains d = false := head_part (by decide) head20
theorem head18 (f : Fp) (p : Pn) : ∀ d, (rest18 f p).head? = some d → floatCs.contains d = false := head_part (by decide) (head19 f p)
theorem head17 (f : Fp) (p : Pn) : ∀ d, (rest17 f p).head? = some d → floatCs.contains d = false := head_part (by decide) (head18 f p)
theorem head16 (f : Fp) (p : Pn) : ∀ d, (rest16 f p).head? = some d → floatCs.contains d = false := head_part (by decide) (head17 f p)
theorem head15 (f : Fp) (p : Pn) : ∀ d, (rest15 f p).head? = some d → floatCs.contains d = false := head_part (by decide) (head16 f p)
theorem head14 (f : Fp) (p : Pn) : ∀ d, (rest14 f p).head? = some d → floatCs.contains d = false := head_part (by decide) (head15 f p)
theorem head13 (f : Fp) (p : Pn) : ∀ d, (rest13 f p).head? = some d → floatCs.contains d = false := head_part (by decide) (head14 f p)
theorem head12 (f : Fp) (p : Pn) : ∀ d, (rest12 f p).head? = some d → floatCs.contains d = false := head_part (by decide) (head13 f p)
theorem head11 (f : Fp) (p : Pn) : ∀ d, (rest11 f p).head? = some d → floatCs.contains d = false := head_part (by decide) (head12 f p)
theorem head10 (f : Fp) (p : Pn) : ∀ d, (rest10 f p).head? = some d → floatCs.contains d = false := head_part (by decide) (head11 f p)
theorem head9 (f : Fp) (p : Pn) : ∀ d, (rest9 f p).head? = some d → floatCs.contains d = false := head_part (by decide) (head10 f p)
theorem head8 (f : Fp) (p : Pn) : ∀ d, (rest8 f p).head? = some d → floatCs.contains d = false := head_part (by decide) (head9 f p)
theorem head7 (f : Fp) (p : Pn) : ∀ d, (rest7 f p).head? = some d → floatCs.contains d = false := head_part (by decide) (head8 f p)
theorem head6 (f : Fp) (p : Pn) : ∀ d, (rest6 f p).head? = some d → floatCs.contains d = false := head_part (by decide) (head7 f p)
theorem head5 (f : Fp) (p : Pn) : ∀ d, (rest5 f p).head? = some d → floatCs.contains d = false := head_part (by decide) (head6 f p)
theorem head4 (f : Fp) (p : Pn) : ∀ d, (rest4 f p).head? = some d → floatCs.contains d = false := head_part (by decide) (head5 f p)
theorem head3 (f : Fp) (p : Pn) : ∀ d, (rest3 f p).head? = some d → floatCs.contains d = false := head_part (by decide) (head4 f p)
theorem head2 (f : Fp) (p : Pn) : ∀ d, (rest2 f p).head? = some d → floatCs.contains d = false := head_part (by decide) (head3 f p)
theorem head1 (f : Fp) (p : Pn) : ∀ d, (rest1 f p).head? = some d → floatCs.contains d = false := head_part (by decide) (head2 f p)
theorem head0 (f : Fp) (p : Pn) : ∀ d, (rest0 f p).head? = some d → floatCs.contains d = false := head_part (by decide) (head1 f p)
theorem chain {f : Fp} {p : Pn} (ha : p.fl 2 = true → f.tx p.ang ≠ [] ∧ (∀ c ∈ f.tx p.ang, floatCs.contains c = true) ∧ f.rf (f.tx p.ang) = ((f.rf (f.tx p.ang)).1, 0)) (hr : p.fl 4 = true → f.tx p.area ≠ [] ∧ (∀ c ∈ f.tx p.area, floatCs.contains c = true) ∧ f.rf (f.tx p.area) = ((f.rf (f.tx p.area)).1, 0))
   (hs : (p.st != -1) = true → (∀ c ∈ itoa p.st, wholeCs.contains c = true) ∧ rdInt (itoa p.st) = some p.st) : goT f p0 (catS (swS f p)) = some (at20 f p) := by
 rw [cat_rest]
 show goT f at0 (rest0 f p) = some (at20 f p)
 refine Eq.trans (show goT f (at0) (rest0 f p) = goT f (at1 f p) (rest1 f p) from ch_f (j := 0) (by decide) rfl) ?_
 refine Eq.trans (show goT f (at1 f p) (rest1 f p) = goT f (at2 f p) (rest2 f p) from ch_f (j := 1) (by decide) rfl) ?_
 refine Eq.trans (show goT f (at2 f p) (rest2 f p) = goT f (at3 f p) (rest3 f p) from ch_q ha (head3 f p) rfl) ?_
 refine Eq.trans (show goT f (at3 f p) (rest3 f p) = goT f (at4 f p) (rest4 f p) from ch_a hr (head4 f p) rfl) ?_
 refine Eq.trans (show goT f (at4 f p) (rest4 f p) = goT f (at5 f p) (rest5 f p) from ch_e (head5 f p) rfl) ?_
 refine Eq.trans (show goT f (at5 f p) (rest5 f p) = goT f (at6 f p) (rest6 f p) from ch_f (j := 7) (by decide) rfl) ?_
 refine Eq.trans (show goT f (at6 f p) (rest6 f p) = goT f (at7 f p) (rest7 f p) from ch_f (j := 8) (by decide) rfl) ?_
 refine Eq.trans (show goT f (at7 f p) (rest7 f p) = goT f (at8 f p) (rest8 f p) from ch_f (j := 9) (by decide) rfl) ?_
 refine Eq.trans (show goT f (at8 f p) (rest8 f p) = goT f (at9 f p) (rest9 f p) from ch_f (j := 10) (by decide) rfl) ?_
 refine Eq.trans (show goT f (at9 f p) (rest9 f p) = goT f (at10 f p) (rest10 f p) from ch_s hs (head_whole (head10 f p)) rfl) ?_
 refine Eq.trans (show goT f (at10 f p) (rest10 f p) = goT f (at11 f p) (rest11 f p) from ch_f (j := 21) (by decide) rfl) ?_
 refine Eq.trans (show goT f (at11 f p) (rest11 f p) = goT f (at12 f p) (rest12 f p) from ch_f (j := 22) (by decide) rfl) ?_
 refine Eq.trans (show goT f (at12 f p) (rest12 f p) = goT f (at13 f p) (rest13 f p) from ch_f (j := 13) (by decide) rfl) ?_
 refine Eq.trans (show goT f (at13 f p) (rest13 f p) = goT f (at14 f p) (rest14 f p) from ch_f (j := 14) (by decide) rfl) ?_
 refine Eq.trans (show goT f (at14 f p) (rest14 f p) = goT f (at15 f p) (rest15 f p) from ch_f (j := 15) (by decide) rfl) ?_
 refine Eq.trans (show goT f (at15 f p) (rest15 f p) = goT f (at16 f p) (rest16 f p) from ch_f (j := 16) (by decide) rfl) ?_
 refine Eq.trans (show goT f (at16 f p) (rest16 f p) = goT f (at17 f p) (rest17 f p) from ch_f (j := 17) (by decide) rfl) ?_
 refine Eq.trans (show goT f (at17 f p) (rest17 f p) = goT f (at18 f p) (rest18 f p) from ch_o rfl) ?_
 refine Eq.trans (show goT f (at18 f p) (rest18 f p) = goT f (at19 f p) (rest19 f p) from ch_f (j := 19) (by decide) rfl) ?_
 refine Eq.trans (show goT f (at19 f p) (rest19 f p) = goT f (at20 f p) (rest20) from ch_f (j := 20) (by decide) rfl) ?_
 rfl
end
end Go.Proofs.YtkgnlobakicnjaaDoor
