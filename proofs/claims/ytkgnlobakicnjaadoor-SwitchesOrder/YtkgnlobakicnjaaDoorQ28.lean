/- Own texts, put together: Yzc Yzd Ys Yt Yze Yzf Yzg. -/
import Derived.Test.YtkgnlobakicnjaaDoorQ3
import Derived.Test.YtkgnlobakicnjaaDoorQ5
import Derived.Test.YtkgnlobakicnjaaDoorQ15
import Derived.Test.YtkgnlobakicnjaaDoorQ21
import Derived.Test.YtkgnlobakicnjaaDoorQ25
import Derived.Test.YtkgnlobakicnjaaDoorQ26
import Derived.Test.YtkgnlobakicnjaaDoorQ27
import Derived.BigFrame
import Derived.Deep.AppendSrc
namespace Go.Proofs.YtkgnlobakicnjaaDoor
/- Package switches: what is written is read back as it was: plain. -/
section
set_option maxRecDepth 100000
open Go.RowKit Go.Shelf Go.Lib
theorem rat_tri (a b : Rat) : a < b ∨ a = b ∨ b < a := by
 by_cases h : a < b
 · exact Or.inl h
 · by_cases g : a = b
   · exact Or.inr (Or.inl g)
   · exact Or.inr (Or.inr (by grind))
theorem oeqV {x y : Nat} (hx : Fin64 x) (hy : Fin64 y) : oeq x y = decide (fval x = fval y) := by
 unfold oeq
 rw [order_val hx hy]
 rcases rat_tri (fval x) (fval y) with h | h | h
 · rw [if_pos h, decide_eq_false (by grind)]; rfl
 · rw [if_neg (by rw [h]; exact Rat.lt_irrefl), if_pos h, decide_eq_true h]; rfl
 · rw [if_neg (by grind), if_neg (by grind), decide_eq_false (by grind)]; rfl
theorem fin0Y : Fin64 0 := by unfold Fin64 frung; decide
theorem bld_ang (q : Pn) : (bldS q).ang = q.ang := by unfold bldS; split; rfl; split <;> rfl
theorem bld_area (q : Pn) : (bldS q).area = q.area := by unfold bldS; split; rfl; split <;> rfl
theorem trS_no {t : List UInt8} (h : ∀ d, t.head? = some d → floatCs.contains d = false) : trS t = t := by
 unfold trS trimPrefix
 cases t with
 | nil => rfl
 | cons c t =>
   have hc := h c rfl
   have : c ≠ 45 := by rintro rfl; revert hc; decide
   rw [if_neg]
   simpa [hasPrefix] using fun e => this e.symm
def Wd (p : Pn) : Prop := (p.ang < 18446744073709551616 ∧ Fin64 p.ang) ∧ (p.area < 18446744073709551616 ∧ Fin64 p.area)
theorem goS_wd {f : Fp} (hf : f.Ok) : ∀ (n : Nat) (p q : Pn) (t : List UInt8), Wd p → goS f n p t = some q → Wd q := by
 have fin : ∀ {j : Nat} {p : Pn} {u : List UInt8} {q : Pn × List UInt8}, Wd p → finS j p u = some q → Wd q.1 := by
   intro j p u q h e
   unfold finS at e
   split at e
   · cases e
   · cases e; exact h
 have step : ∀ {c : UInt8} {p : Pn} {t : List UInt8} {q : Pn × List UInt8}, Wd p → stepS f c p t = some q → Wd q.1 := by
   intro c p t q h e
   have hw := And.intro (hf.rf (t.takeWhile (floatCs.contains ·))).wordY (hf.rf (t.takeWhile (floatCs.contains ·))).finY
   unfold stepS at e
   split at e
   · exact fin h e
   · split at e
     · split at e
       · exact fin (p := { p with ang := 4626322717216342016 }) ⟨⟨by show (4626322717216342016 : Nat) < _; decide, by show Fin64 4626322717216342016; unfold Fin64 frung; decide⟩, h.2⟩ e
       · split at e
         · exact fin (p := { p with ang := (f.rf (t.takeWhile (floatCs.contains ·))).1 }) ⟨hw, h.2⟩ e
         · cases e
     · split at e
       · split at e
         · exact fin h e
         · split at e
           · exact fin (p := { p with area := (f.rf (t.takeWhile (floatCs.contains ·))).1 }) ⟨h.1, hw⟩ e
           · cases e
       · split at e
         · split at e
           · cases e
           · split at e
             · cases e; exact h
             · cases e
         · split at e
           · split at e
             · exact fin h e
             · cases e
           · cases e
 intro n
 induction n with
 | zero =>
   intro p q t h e
   cases t with
   | nil => cases e; exact h
   | cons c t => cases e
 | succ n ih =>
   intro p q t h e
   cases t with
   | nil => cases e; exact h
   | cons c t =>
     simp only [goS] at e
     cases hs : stepS f c p t with
     | none => rw [hs] at e; cases e
     | some r =>
       rw [hs] at e
       exact ih r.1 q r.2 (step h hs) e
theorem prs_wd {f : Fp} (hf : f.Ok) (s : List UInt8) : Wd (prsS f s).1 ∧ ((prsS f s).2 = 0 → chkS (prsS f s).1 = 0) := by
 have hz : Wd pz := ⟨⟨by decide, fin0Y⟩, ⟨by decide, fin0Y⟩⟩
 unfold prsS
 cases hg : goS f (trS s).length p0 (trS s) with
 | none => exact ⟨hz, fun e => by cases e⟩
 | some p =>
   have hp := goS_wd hf _ _ _ _ (show Wd p0 from ⟨⟨by decide, fin0Y⟩, ⟨by decide, fin0Y⟩⟩) hg
   simp only []
   split
   · exact ⟨hz, fun e => by cases e⟩
   · split
     · rename_i h
       exact ⟨⟨by rw [bld_ang]; exact hp.1, by rw [bld_area]; exact hp.2⟩, fun _ => h⟩
     · rename_i h
       exact ⟨hz, fun e => absurd e h⟩
end

/- Package switches: switches in any other order ask for the same: plain. -/
section
set_option maxRecDepth 100000
open Go.RowKit Go.Shelf Go.Lib
theorem goT_cons (f : Fp) (p : Pn) (c : UInt8) (t : List UInt8) : goT f p (c :: t) = (stepS f c p t).bind fun q => goT f q.1 q.2 := by
 unfold goT
 simp only [List.length_cons, goS]
 cases hs : stepS f c p t with
 | none => rfl
 | some q => exact (goS_more _ _ _ _ (Nat.le_refl _) (stepS_len (q := q.1) (r := q.2) hs)).symm
theorem goT_bad (f : Fp) (p : Pn) (c : UInt8) (t : List UInt8) (h : floatCs.contains c = true) : goT f p (c :: t) = none := by
 have e : stepS f c p t = none := by
   simp only [floatCs, List.contains_iff_mem, List.mem_cons, List.not_mem_nil, or_false] at h
   rcases h with rfl | rfl | rfl | rfl | rfl | rfl | rfl | rfl | rfl | rfl | rfl | rfl <;> rfl
 rw [goT_cons, e]; rfl
inductive Ask where
 | flag (j : Nat)
 | ang (x : Nat)
 | area (x : Nat)
 | st (n : Int)
def Ask.act (p : Pn) : Ask → Option Pn
 | .flag j => if p.fl j = true then none else some (p.on j)
 | .ang x => if p.fl 2 = true then none else some ({ p with ang := x }.on 2)
 | .area x => if p.fl 4 = true then none else some ({ p with area := x }.on 4)
 | .st n => if p.st = -1 then some { p with st := n } else none
def Ask.Ok : Ask → Prop
 | .st n => n ≠ -1
 | _ => True
def askOf (f : Fp) (c : UInt8) (w : List UInt8) : Option Ask :=
 match letIx c with
 | some j => if w = [] then some (.flag j) else none
 | none =>
   if c = 113 then if w = [] then some (.ang 4626322717216342016) else if (f.rf w).2 = 0 then some (.ang (f.rf w).1) else none
   else if c = 97 then if w = [] then some (.flag 6) else if (f.rf w).2 = 0 then some (.area (f.rf w).1) else none
   else if c = 83 then match rdInt (w.takeWhile (wholeCs.contains ·)) with
     | none => none
     | some n => if w.dropWhile (wholeCs.contains ·) = [] then some (.st n) else none
   else if c = 111 then if w = [50] then some (.flag 18) else none
   else none
def TkOk (k : UInt8 × List UInt8) : Prop := floatCs.contains k.1 = false ∧ ∀ c ∈ k.2, floatCs.contains c = true
theorem goT_drop (f : Fp) (p : Pn) (w t : List UInt8) (h : w ≠ []) (hw : ∀ c ∈ w, floatCs.contains c = true) : goT f p (w ++ t) = none := by
 cases w with
 | nil => exact absurd rfl h
 | cons c w => exact goT_bad f p c _ (hw c (by simp))
theorem fin_bind (f : Fp) (j : Nat) (p : Pn) (t : List UInt8) : ((finS j p t).bind fun q => goT f q.1 q.2) = ((Ask.flag j).act p).bind fun q => goT f q t := by
 unfold finS Ask.act
 by_cases h : p.fl j = true
 · simp only [h, if_true]; rfl
 · simp only [h, if_false, Bool.false_eq_true]; rfl
theorem take_whole (w t : List UInt8) (ht : ∀ c, t.head? = some c → wholeCs.contains c = false) : (w ++ t).takeWhile (wholeCs.contains ·) = w.takeWhile (wholeCs.contains ·) ∧ (w ++ t).dropWhile (wholeCs.contains ·) = w.dropWhile (wholeCs.contains ·) ++ t := by
 induction w with
 | nil => exact take_word (q := (wholeCs.contains ·)) (w := []) (r := t) (by simp) ht
 | cons c w ih =>
   simp only [List.cons_append, List.takeWhile_cons, List.dropWhile_cons]
   cases h : wholeCs.contains c
   · simp
   · simp only [if_true]
     exact ⟨by rw [ih.1], ih.2⟩
theorem goT_tok (f : Fp) (p : Pn) (c : UInt8) (w t : List UInt8) (hw : ∀ d ∈ w, floatCs.contains d = true) (ht : ∀ d, t.head? = some d → floatCs.contains d = false) :
   goT f p (c :: (w ++ t)) = (askOf f c w).bind fun a => (a.act p).bind fun q => goT f q t := by
 rw [goT_cons]
 obtain ⟨h1, h2⟩ := take_word hw ht
 unfold stepS askOf
 cases hl : letIx c with
 | some j =>
   simp only []
   by_cases h : w = []
   · subst h
     rw [if_pos rfl]
     exact fin_bind f j p t
   · rw [if_neg h]
     unfold finS
     split
     · rfl
     · exact goT_drop f _ w t h hw
 | none =>
   simp only []
   by_cases c1 : c = 113
   · rw [if_pos c1, if_pos c1, h1, h2]
     by_cases h : w = []
     · rw [if_pos h, if_pos h]
       exact fin_bind f 2 { p with ang := 4626322717216342016 } t
     · rw [if_neg h, if_neg h]
       by_cases h0 : (f.rf w).2 = 0
       · rw [if_pos h0, if_pos h0]
         exact fin_bind f 2 { p with ang := (f.rf w).1 } t
       · rw [if_neg h0, if_neg h0]; rfl
   rw [if_neg c1, if_neg c1]
   by_cases c2 : c = 97
   · rw [if_pos c2, if_pos c2, h1, h2]
     by_cases h : w = []
     · rw [if_pos h, if_pos h]
       exact fin_bind f 6 p t
     · rw [if_neg h, if_neg h]
       by_cases h0 : (f.rf w).2 = 0
       · rw [if_pos h0, if_pos h0]
         exact fin_bind f 4 { p with area := (f.rf w).1 } t
       · rw [if_neg h0, if_neg h0]; rfl
   rw [if_neg c2, if_neg c2]
   by_cases c3 : c = 83
   · obtain ⟨g1, g2⟩ := take_whole w t (head_whole ht)
     rw [if_pos c3, if_pos c3, g1, g2]
     cases hr : rdInt (w.takeWhile (wholeCs.contains ·)) with
     | none => rfl
     | some n =>
       simp only []
       by_cases h : w.dropWhile (wholeCs.contains ·) = []
       · rw [if_pos h, h]
         unfold Ask.act
         simp only [Option.bind_some]
         split <;> rfl
       · rw [if_neg h]
         split
         · exact goT_drop f _ _ t h (fun d hd => hw d (List.dropWhile_sublist _ |>.subset hd))
         · rfl
   rw [if_neg c3, if_neg c3]
   by_cases c4 : c = 111
   · rw [if_pos c4, if_pos c4]
     cases w with
     | nil =>
       rw [if_neg (by simp)]
       cases t with
       | nil => rfl
       | cons d t =>
         have hd := ht d rfl
         have : d ≠ 50 := by rintro rfl; revert hd; decide
         simp only [List.nil_append]
         split
         · rename_i e; cases e; exact absurd rfl this
         · rfl
     | cons d w =>
       by_cases hd : d = 50
       · subst hd
         simp only [List.cons_append]
         by_cases h : w = []
         · subst h
           rw [if_pos rfl]
           exact fin_bind f 18 p t
         · rw [if_neg (by simpa using h)]
           unfold finS
           split
           · rfl
           · exact goT_drop f _ w t h (fun d hd => hw d (by simp [hd]))
       · rw [if_neg (by simp [hd])]
         simp only [List.cons_append]
         split
         · rename_i e; cases e; exact absurd rfl hd
         · rfl
   rw [if_neg c4, if_neg c4]; rfl
def catT : List (UInt8 × List UInt8) → List UInt8
 | [] => []
 | k :: r => k.1 :: (k.2 ++ catT r)
theorem catT_head {l : List (UInt8 × List UInt8)} (h : ∀ k ∈ l, TkOk k) : ∀ d, (catT l).head? = some d → floatCs.contains d = false := by
 cases l with
 | nil => intro d e; cases e
 | cons k r => intro d e; cases e; exact (h k (by simp)).1
def runT (f : Fp) : List (UInt8 × List UInt8) → Pn → Option Pn
 | [], p => some p
 | k :: r, p => (askOf f k.1 k.2).bind fun a => (a.act p).bind (runT f r)
theorem goT_run (f : Fp) : ∀ (l : List (UInt8 × List UInt8)) (p : Pn), (∀ k ∈ l, TkOk k) → goT f p (catT l) = runT f l p
 | [], _, _ => rfl
 | k :: r, p, h => by
   have h1 := h k (by simp)
   have hr : ∀ k ∈ r, TkOk k := fun q hq => h q (by simp [hq])
   rw [catT, goT_tok f p k.1 k.2 (catT r) h1.2 (catT_head hr), runT]
   congr 1
   funext a
   congr 1
   funext q
   exact goT_run f r q hr
theorem pn_ext {p q : Pn} (h1 : ∀ k, p.fl k = q.fl k) (h2 : p.ang = q.ang) (h3 : p.area = q.area) (h4 : p.st = q.st) (h5 : p.bd = q.bd) : p = q := by
 cases p; cases q
 simp only at h1 h2 h3 h4 h5
 subst h2; subst h3; subst h4; subst h5
 congr 1
 funext k
 exact h1 k
theorem on_comm (p : Pn) (j k : Nat) : (p.on j).on k = (p.on k).on j := pn_ext (fun i => by unfold Pn.on; simp only []; split <;> split <;> rfl) rfl rfl rfl rfl
def Ask.slot : Ask → Option Nat
 | .flag j => some j
 | .ang _ => some 2
 | .area _ => some 4
 | .st _ => none
def Ask.put (p : Pn) : Ask → Pn
 | .flag _ => p
 | .ang x => { p with ang := x }
 | .area x => { p with area := x }
 | .st n => { p with st := n }
def Ask.free (p : Pn) (a : Ask) : Bool := match a.slot with
 | some j => !p.fl j
 | none => p.st == -1
def Ask.set (p : Pn) (a : Ask) : Pn := match a.slot with
 | some j => (a.put p).on j
 | none => a.put p
theorem act_is (a : Ask) (p : Pn) : a.act p = if a.free p then some (a.set p) else none := by
 cases a <;> simp only [Ask.act, Ask.free, Ask.set, Ask.slot, Ask.put]
 case st n => by_cases h : p.st = -1 <;> simp [h]
 case flag j => by_cases h : p.fl j = true <;> simp [h]
 case ang x => by_cases h : p.fl 2 = true <;> simp [h]
 case area x => by_cases h : p.fl 4 = true <;> simp [h]
theorem act_comm (a b : Ask) (ha : a.Ok) (hb : b.Ok) (p : Pn) : ((a.act p).bind fun q => b.act q) = ((b.act p).bind fun q => a.act q) := by
 have key : (a.free p && b.free (a.set p)) = (b.free p && a.free (b.set p)) := by
   cases a <;> cases b <;> simp only [Ask.free, Ask.set, Ask.slot, Ask.put, Ask.Ok, Pn.on, ne_eq] at *
   case st.st n m =>
     have e1 : (n == -1) = false := beq_eq_false_iff_ne.2 ha
     have e2 : (m == -1) = false := beq_eq_false_iff_ne.2 hb
     simp only [e1, e2, Bool.and_false]
   all_goals first
     | (rename_i j k; by_cases h : j = k
        · subst h; rfl
        · have h' : ¬ k = j := fun e => h e.symm
          simp [h, h', Bool.and_comm]; done)
     | (rename_i j k; by_cases h : j = 2
        · subst h; simp [Bool.and_comm]
        · have h' : ¬ 2 = j := fun e => h e.symm
          simp [h, h', Bool.and_comm]; done)
     | (rename_i j k; by_cases h : j = 4
        · subst h; simp [Bool.and_comm]
        · have h' : ¬ 4 = j := fun e => h e.symm
          simp [h, h', Bool.and_comm]; done)
     | (rename_i j k; by_cases h : k = 2
        · subst h; simp [Bool.and_comm]
        · have h' : ¬ 2 = k := fun e => h e.symm
          simp [h, h', Bool.and_comm]; done)
     | (rename_i j k; by_cases h : k = 4
        · subst h; simp [Bool.and_comm]
        · have h' : ¬ 4 = k := fun e => h e.symm
          simp [h, h', Bool.and_comm]; done)
     | (rename_i j k
        rw [show (j == -1) = false by simpa using ha, show (k == -1) = false by simpa using hb]
        simp; done)
     | simp [Bool.and_comm]
 have val : (a.free p && b.free (a.set p)) = true → b.set (a.set p) = a.set (b.set p) := by
   intro h
   cases a <;> cases b <;> simp only [Ask.free, Ask.set, Ask.slot, Ask.put, Ask.Ok] at *
   all_goals first
     | exact on_comm _ _ _
     | rfl
     | exact pn_ext (fun i => by unfold Pn.on; simp only []; split <;> split <;> rfl) rfl rfl rfl rfl
     | (exfalso; simp only [Pn.on, Bool.and_eq_true] at h; simp at h; done)
     | (exfalso; simp only [Bool.and_eq_true, beq_iff_eq] at h; omega)
     | (exfalso; simp only [Bool.and_eq_true, beq_iff_eq] at h; exact ha h.2)
 rw [act_is a, act_is b]
 cases h1 : a.free p <;> cases h2 : b.free p <;> simp only [if_true, Bool.false_eq_true, if_false, Option.bind_none, Option.bind_some, act_is]
 · rw [h1, h2] at key; simp at key
   rw [key]; rfl
 · rw [h1, h2] at key; simp at key
   rw [key]; rfl
 · rw [h1, h2] at key
   simp only [Bool.true_and] at key
   rw [key]
   cases h3 : a.free (b.set p)
   · rfl
   · rw [h3] at key
     rw [val (by rw [h1, key]; rfl)]
theorem askOf_ok {f : Fp} {c : UInt8} {w : List UInt8} {a : Ask} (h : askOf f c w = some a) : a.Ok := by
 unfold askOf at h
 split at h
 · split at h
   · cases h; trivial
   · cases h
 · split at h
   · split at h
     · cases h; trivial
     · split at h
       · cases h; trivial
       · cases h
   · split at h
     · split at h
       · cases h; trivial
       · split at h
         · cases h; trivial
         · cases h
     · split at h
       · split at h
         · cases h
         · rename_i n hr
           split at h
           · cases h
             show n ≠ -1
             rintro rfl
             have hi := (rd_iff.1 hr).2
             have : (45 : UInt8) ∈ w.takeWhile (wholeCs.contains ·) := by
               rw [← hi, show (-1 : Int) = -((1 : Nat) : Int) by rfl, itoa_neg 1 (by omega)]; simp
             have h2 := List.all_eq_true.1 (List.all_takeWhile (l := w) (p := (wholeCs.contains ·))) _ this
             revert h2; decide
           · cases h
       · split at h
         · split at h
           · cases h; trivial
           · cases h
         · cases h
theorem run_perm (f : Fp) {l r : List (UInt8 × List UInt8)} (h : l.Perm r) : ∀ p, runT f l p = runT f r p := by
 induction h with
 | nil => intro p; rfl
 | cons k _ ih =>
   intro p
   simp only [runT]
   congr 1
   funext a
   congr 1
   funext q
   exact ih q
 | swap a b l =>
   intro p
   simp only [runT]
   cases ha : askOf f a.1 a.2 with
   | none =>
     cases hb : askOf f b.1 b.2 with
     | none => rfl
     | some y => simp only [Option.bind_some, Option.bind_none]; cases y.act p <;> rfl
   | some x =>
     cases hb : askOf f b.1 b.2 with
     | none => simp only [Option.bind_some, Option.bind_none]; cases x.act p <;> rfl
     | some y =>
       simp only [Option.bind_some]
       have := act_comm x y (askOf_ok ha) (askOf_ok hb) p
       have e1 : ((y.act p).bind fun q => (x.act q).bind (runT f l)) = ((y.act p).bind fun q => x.act q).bind (runT f l) := by cases y.act p <;> rfl
       have e2 : ((x.act p).bind fun q => (y.act q).bind (runT f l)) = ((x.act p).bind fun q => y.act q).bind (runT f l) := by cases x.act p <;> rfl
       exact e1.trans ((congrArg (fun o => Option.bind o (runT f l)) this.symm).trans e2.symm)
 | trans _ _ h1 h2 => intro p; exact (h1 p).trans (h2 p)
theorem prs_perm (f : Fp) {l r : List (UInt8 × List UInt8)} (h : l.Perm r) (hl : ∀ k ∈ l, TkOk k) : prsS f (catT l) = prsS f (catT r) := by
 have hr : ∀ k ∈ r, TkOk k := fun k hk => hl k (h.mem_iff.2 hk)
 unfold prsS
 rw [trS_no (catT_head hl), trS_no (catT_head hr)]
 have e1 : goS f (catT l).length p0 (catT l) = runT f l p0 := goT_run f l p0 hl
 have e2 : goS f (catT r).length p0 (catT r) = runT f r p0 := goT_run f r p0 hr
 rw [e1, e2, run_perm f h]
theorem prs_self {f : Fp} (hf : f.Ok) (s : List UInt8) : eqP (prsS f s).1 (prsS f s).1 = true := by
 obtain ⟨h1, h2⟩ := (prs_wd hf s).1
 exact eqP_same (fun _ _ _ _ _ _ => rfl) (by rw [oeqV h1.2 h1.2]; simp) (by rw [oeqV h2.2 h2.2]; simp) rfl rfl
end

/- Package switches: the statements' helper awake. -/
section
set_option maxRecDepth 100000
open Go.RowKit Go.Shelf Go.Lib
attribute [local go_sem] run_store_float
theorem prsA {f : Fp} (hf : f.Ok) (w : World) (hT : T8 w) : Calls Tryd.prog 13 #[.string ⟨#[112, 113, 51, 48, 97, 49, 98, 45, 51]⟩] w fun e w' => e = .returned (.tuple #[.agg (pls pA).toArray, .int .i64 0]) ∧ Below w.heap.size w w' := by
 have h := parse_any hf ⟨#[112, 113, 51, 48, 97, 49, 98, 45, 51]⟩ _ w hT rfl (by simp)
 rw [(exA_is hf).1, (exA_is hf).2, ← pA_is] at h
 exact h
theorem prsB {f : Fp} (hf : f.Ok) (w : World) (hT : T8 w) : Calls Tryd.prog 13 #[.string ⟨#[45, 112, 97, 49, 98, 45, 49, 97, 113]⟩] w fun e w' => e = .returned (.tuple #[.agg (pls pB).toArray, .int .i64 0]) ∧ Below w.heap.size w w' := by
 have h := parse_any hf ⟨#[45, 112, 97, 49, 98, 45, 49, 97, 113]⟩ _ w hT rfl (by simp)
 rw [(exB_is hf).1, (exB_is hf).2, ← pB_is] at h
 exact h
theorem prtB {f : Fp} (hf : f.Ok) (w : World) (hT : T8 w) : Calls Tryd.prog 11 #[.agg (pls pB).toArray] w fun e w' => e = .returned (.tuple #[.string ⟨#[112, 113, 50, 48, 97, 49, 98, 45, 49, 97]⟩, .int .i64 0]) ∧ Below w.heap.size w w' := by
 have h := print_any hf pB w hT (by decide) (by decide) ⟨by decide, by decide⟩
 rw [exB_pr hf] at h
 exact h
theorem eqA (w : World) : (binOp .eql 42 (.agg (pls pA).toArray) (.agg exPA)).run Tryd.prog w = .ok (.bool true) w := by
 kernel_rfl
section
variable {ops : Array Oper} {rest : List Oper} {o : Oper} {a : Act} {w : World} {Q : Exit → Act → World → Prop}
theorem wpl_parseT {t : Nat} {ty : TypeId} {v : Value} {R : Ending → World → Prop} (hg : o.guard = none) (ho : o.op = .call { callee := .value (.func 13), args := #[.tmp t], argTypes := #[ty] }) (hv : a.eval (.tmp t) = v) (hC : Calls Tryd.prog 13 #[v] w R) (h : ∀ e w', R e w' → ∃ r, e = .returned r ∧ wpList Tryd.prog ops Q rest (a.put o.dst r) w') : wpList Tryd.prog ops Q (o :: rest) a w :=
 wpList_plain hg fun K hK => by
   have hv' : (a.tmps[t]?).getD undef = v := by rw [← Array.getD_eq_getD_getElem?]; exact hv
   have hK' : Hid (∀ a w, wpList Tryd.prog ops Q rest a w → K a w) := Lib.hid hK
   have h' := Lib.hid h
   clear hK h
   unfold Oper.wp execOp
   rw [ho]
   go_simp
   refine hC.mono ?_
   intro e w' hR
   obtain ⟨r, rfl, h2⟩ := h'.out e w' hR
   exact hK'.out _ _ h2
theorem wpl_parseC {ty : TypeId} {v : Value} {R : Ending → World → Prop} (hg : o.guard = none) (ho : o.op = .call { callee := .value (.func 13), args := #[.const v], argTypes := #[ty] }) (hC : Calls Tryd.prog 13 #[v] w R) (h : ∀ e w', R e w' → ∃ r, e = .returned r ∧ wpList Tryd.prog ops Q rest (a.put o.dst r) w') : wpList Tryd.prog ops Q (o :: rest) a w :=
 wpList_plain hg fun K hK => by
   have hK' : Hid (∀ a w, wpList Tryd.prog ops Q rest a w → K a w) := Lib.hid hK
   have h' := Lib.hid h
   clear hK h
   unfold Oper.wp execOp
   rw [ho]
   go_simp
   refine hC.mono ?_
   intro e w' hR
   obtain ⟨r, rfl, h2⟩ := h'.out e w' hR
   exact hK'.out _ _ h2
theorem wpl_printT {t : Nat} {ty : TypeId} {v : Value} {R : Ending → World → Prop} (hg : o.guard = none) (ho : o.op = .call { callee := .value (.func 11), args := #[.tmp t], argTypes := #[ty] }) (hv : a.eval (.tmp t) = v) (hC : Calls Tryd.prog 11 #[v] w R) (h : ∀ e w', R e w' → ∃ r, e = .returned r ∧ wpList Tryd.prog ops Q rest (a.put o.dst r) w') : wpList Tryd.prog ops Q (o :: rest) a w :=
 wpList_plain hg fun K hK => by
   have hv' : (a.tmps[t]?).getD undef = v := by rw [← Array.getD_eq_getD_getElem?]; exact hv
   have hK' : Hid (∀ a w, wpList Tryd.prog ops Q rest a w → K a w) := Lib.hid hK
   have h' := Lib.hid h
   clear hK h
   unfold Oper.wp execOp
   rw [ho]
   go_simp
   refine hC.mono ?_
   intro e w' hR
   obtain ⟨r, rfl, h2⟩ := h'.out e w' hR
   exact hK'.out _ _ h2
theorem wpl_extr {t i : Nat} {vs : Array Value} {v : Value} (hg : o.guard = none) (ho : o.op = .extract (.tmp t) i) (hv : a.eval (.tmp t) = .tuple vs) (hi : vs[i]? = some v) (h : wpList Tryd.prog ops Q rest (a.put o.dst v) w) : wpList Tryd.prog ops Q (o :: rest) a w :=
 wpList_plain hg fun K hK => by
   have h' := hK _ _ h
   clear hK h
   unfold Oper.wp execOp
   rw [ho]
   simp only [hv]
   go_simp
   exact h'
theorem wpl_eqI {t : Nat} {n m : Int} (hg : o.guard = none) (ho : o.op = .binOp .eql 25 (.tmp t) (.const (.int .i64 m)) 25) (hv : a.eval (.tmp t) = .int .i64 n) (h : wpList Tryd.prog ops Q rest (a.put o.dst (.bool (n == m))) w) : wpList Tryd.prog ops Q (o :: rest) a w :=
 wpList_plain hg fun K hK => by
   have h' := hK _ _ h
   clear hK h
   unfold Oper.wp execOp
   rw [ho]
   simp only [hv]
   go_simp
   exact h'
theorem wpl_buildG (hw : Region.wanted o (yielded ops a.tmps) = true) (ty : TypeId) (xs : Array (Nat × Operand)) (ho : o.op = .build ty xs) (cs : Array Value) (hb : Tryd.prog.built ty (xs.map fun (i, x) => (i, a.eval x)).toList = some cs)
   (h : wpList Tryd.prog ops Q rest (a.put o.dst (.agg cs)) w) : wpList Tryd.prog ops Q (o :: rest) a w :=
 BigFrame.wpList_want hw fun _ hK => wp_build ty xs ho (by rw [hb]; rfl) (by rw [hb]; exact hK _ _ h)
theorem wpl_loadG (hw : Region.wanted o (yielded ops a.tmps) = true) {p : Pn} {x : Operand} {B : Nat} (ho : o.op = .load 42 x) (hx : a.eval x = .pointer (some ⟨B, 0, none⟩)) (hP : Pl w B p)
   (h : wpList Tryd.prog ops Q rest (a.put o.dst (.agg (pls p).toArray)) w) : wpList Tryd.prog ops Q (o :: rest) a w :=
 BigFrame.wpList_want hw fun _ hK => wp_load_mid 42 x ho B 0 hx (pls p) _ hP.range Tryd.underlying42 rfl (by rw [pls_len]; kernel_rfl) (hK _ _ h)
end
set_option maxHeartbeats 8000000 in
theorem awake14 (w : World) (hT : T8 w) : Calls Tryd.prog 10 #[] w fun e w' => e = .returned (.bool true) ∧ Below w.heap.size w w' := by
 obtain ⟨f, hf⟩ := fp_ex
 have HA := Lib.hid (fun W h => prsA hf W h)
 have HB := Lib.hid (fun W h => prsB hf W h)
 have HP := Lib.hid (fun W h => prtB hf W h)
 have HT := Lib.hid hT
 have q1 := eqA
 clear hT hf
 go_enter Tryd.func10, Tryd.ntmps10
 go_upto_region 1 with fail
 refine wp_region_lit ?_
 refine wpl_parseC rfl rfl (HA.out w HT.out) ?_
 rintro e W1 ⟨rfl, hb1⟩
 refine ⟨_, rfl, ?_⟩
 refine wpList_moveY rfl 8 _ rfl rfl ?_
 refine wpl_extr (i := 0) rfl rfl rfl rfl ?_
 refine wpl_extr (i := 1) rfl rfl rfl rfl ?_
 refine wpList_allocP rfl rfl ?_
 intro W2 hp2 hb2 hs2
 refine wpList_storeP rfl _ _ rfl W1.heap.size pz pA rfl rfl hp2 ?_
 intro W3 hp3 ho3 hs3
 have hb3 : Below w.heap.size w W3 := (hb1.trans (hb2.mono hb1.size)).trans (ho3.below hb1.size (Nat.le_trans hb1.size hb2.size))
 obtain ⟨BA, hBA⟩ : ∃ b, W1.heap.size = b := ⟨_, rfl⟩
 rw [hBA] at hp3 ⊢
 have H3 : Hid (Below w.heap.size w W3 ∧ Pl W3 BA pA ∧ w.heap.size ≤ BA) := Lib.hid ⟨hb3, hp3, by rw [← hBA]; exact hb1.size⟩
 clear hp2 hb2 hs2 hp3 ho3 hs3 hb1 hb3 hBA
 go_upto_region 2 with fail
 refine wp_region_lit ?_
 refine wpl_parseC rfl rfl (HB.out W3 (HT.out.later H3.out.1)) ?_
 rintro e W4 ⟨rfl, hb4⟩
 refine ⟨_, rfl, ?_⟩
 refine wpList_moveY rfl 12 _ rfl rfl ?_
 refine wpl_extr (i := 0) rfl rfl rfl rfl ?_
 refine wpl_extr (i := 1) rfl rfl rfl rfl ?_
 refine wpList_allocP rfl rfl ?_
 intro W5 hp5 hb5 hs5
 refine wpList_storeP rfl _ _ rfl W4.heap.size pz pB rfl rfl hp5 ?_
 intro W6 hp6 ho6 hs6
 obtain ⟨BB, hBB⟩ : ∃ b, W4.heap.size = b := ⟨_, rfl⟩
 have H6 : Hid (Below w.heap.size w W6 ∧ Pl W6 BA pA ∧ Pl W6 BB pB) := Lib.hid (by
   obtain ⟨g1, g2, g3⟩ := H3.out
   have b36 : Below W3.heap.size W3 W6 := (hb4.trans (hb5.mono hb4.size)).trans (ho6.below hb4.size (Nat.le_trans hb4.size hb5.size))
   exact ⟨g1.trans (b36.mono g1.size), CB.later g2 b36, by rw [← hBB]; exact hp6⟩)
 rw [hBB]
 clear hp5 hb5 hs5 hp6 ho6 hs6 hb4 hBB H3
 go_upto_region 3 with fail
 refine wp_region_lit ?_
 refine wpList_load_mid rfl 42 _ rfl BB 0 rfl (pls pB) _ H6.out.2.2.range Tryd.underlying42 rfl (by rw [pls_len]; kernel_rfl) ?_
 refine wpl_printT rfl rfl rfl (HP.out W6 (HT.out.later H6.out.1)) ?_
 rintro e W7 ⟨rfl, hb7⟩
 refine ⟨_, rfl, ?_⟩
 have H7 : Hid (Below w.heap.size w W7 ∧ Pl W7 BA pA ∧ Pl W7 BB pB) := Lib.hid (by
   obtain ⟨g1, g2, g3⟩ := H6.out
   exact ⟨g1.trans (hb7.mono g1.size), CB.later g2 hb7, CB.later g3 hb7⟩)
 have y3 : W7.cell? ⟨BB, 3, none⟩ = some (.float .f64 4626322717216342016) := H7.out.2.2.at (j := 3) (by omega)
 have y5 : W7.cell? ⟨BB, 5, none⟩ = some (.float .f64 4602678819172646912) := H7.out.2.2.at (j := 5) (by omega)
 have y6 : W7.cell? ⟨BB, 6, none⟩ = some (.bool true) := H7.out.2.2.at (j := 6) (by omega)
 clear hb7 H6 HA HB HP HT
 have z1 : (FloatKind.f64.format.order 4626322717216342016 4626322717216342016 == some .eq) = true := by decide
 have z2 : (FloatKind.f64.format.order 4602678819172646912 4602678819172646912 == some .eq) = true := by decide
 go_upto_region 4 with fail
 refine wp_region_lit ?_
 refine wpList_moveY rfl 2 _ rfl rfl ?_
 refine wpl_eqI rfl rfl rfl ?_
 refine wpList_moveY rfl 21 _ rfl rfl ?_
 refine wpl_loadG (p := pA) rfl rfl rfl H7.out.2.1 ?_
 refine wpl_buildG rfl 42 _ rfl exPA (by kernel_rfl) ?_
 go_wp2_with fail
 go_ret
 exact ⟨rfl, H7.out.1⟩
end

/- The law SwitchesNames. (gen_yt.py) -/
section
set_option maxRecDepth 100000
open Go.RowKit Go.Shelf Go.Lib
attribute [local go_sem] run_store_float
section
variable {ops : Array Oper} {rest : List Oper} {o : Oper} {a : Act} {w : World} {Q : Exit → Act → World → Prop}
end
end

/- The law SwitchesBack: what is written is read back as it was; what is read is written, and read the same. (gen_yze.py) -/
section
set_option maxRecDepth 100000
open Go.RowKit Go.Shelf Go.Lib
attribute [local go_sem] run_store_float
section
variable {ops : Array Oper} {rest : List Oper} {o : Oper} {a : Act} {w : World} {Q : Exit → Act → World → Prop}
theorem wpl_moveG (hw : Region.wanted o (yielded ops a.tmps) = true) {t : Nat} {v : Value} (ho : o.op = .move (.tmp t)) (hv : a.eval (.tmp t) = v) (h : wpList Tryd.prog ops Q rest (a.put o.dst v) w) : wpList Tryd.prog ops Q (o :: rest) a w :=
 BigFrame.wpList_want hw fun K hK => by
   have h' := hK _ _ h
   clear hK h
   unfold Oper.wp execOp
   rw [ho]
   simp only [hv]
   go_simp
   exact h'
theorem wpl_eqPG (hw : Region.wanted o (yielded ops a.tmps) = true) {t u : Nat} {p q : Pn} {b : Bool} (ho : o.op = .binOp .eql 42 (.tmp t) (.tmp u) 42) (hv : a.eval (.tmp t) = .agg (pls p).toArray) (hu : a.eval (.tmp u) = .agg (pls q).toArray) (hb : eqP p q = b) (h : wpList Tryd.prog ops Q rest (a.put o.dst (.bool b)) w) : wpList Tryd.prog ops Q (o :: rest) a w :=
 BigFrame.wpList_want hw fun K hK => by
   have h' := hK _ _ h
   have e := eq_pl p q w
   rw [hb] at e
   have g : (eqGuard .eql 42 (.tmp t) (.tmp u) (.agg (pls p).toArray) (.agg (pls q).toArray)).run Tryd.prog w = .ok () w := by
     unfold eqGuard
     go_simp
   clear hK h
   unfold Oper.wp execOp
   rw [ho]
   simp only [hv, hu, Sem.run_bind, g, e, Result.andThen_ok, Sem.run_pure]
   exact h'
theorem wpl_pick {x y z : Operand} {b : Bool} {v : Value} (hg : o.guard = none) (ho : o.op = .pick x y z) (hx : a.eval x = .bool b) (hv : (if b then a.eval y else a.eval z) = v) (h : wpList Tryd.prog ops Q rest (a.put o.dst v) w) : wpList Tryd.prog ops Q (o :: rest) a w :=
 wpList_plain hg fun K hK => by
   have h' := hK _ _ h
   clear hK h
   unfold Oper.wp execOp
   rw [ho]
   simp only [hx]
   cases b
   · simp only [Bool.false_eq_true, if_false] at hv
     subst hv
     simp only [Sem.run_bind, Sem.run_pure]
     exact h'
   · simp only [if_true] at hv
     subst hv
     simp only [Sem.run_bind, Sem.run_pure]
     exact h'
end
end

/- Package switches: what the law SwitchesOrder goes over: lists of switches, picks, a list out of which one is cut. -/
section
set_option maxRecDepth 100000
open Go.RowKit Go.Shelf Go.Lib
def WOk (x : Bs) : Prop := ∃ c t, x = c :: t ∧ TkOk (c, t) ∧ x.length ≤ 50
def tkO : Bs → UInt8 × Bs
 | [] => (0, [])
 | c :: t => (c, t)
theorem flat_cat : ∀ l : List Bs, (∀ x ∈ l, WOk x) → l.flatten = catT (l.map tkO)
 | [], _ => rfl
 | x :: r, h => by
   obtain ⟨c, t, rfl, _, _⟩ := h x (by simp)
   rw [List.flatten_cons, flat_cat r (fun y hy => h y (by simp [hy]))]
   rfl
theorem flat_len : ∀ l : List Bs, (∀ x ∈ l, WOk x) → l.flatten.length ≤ 50 * l.length
 | [], _ => by simp
 | x :: r, h => by
   obtain ⟨c, t, e, _, hl⟩ := h x (by simp)
   have := flat_len r (fun y hy => h y (by simp [hy]))
   rw [List.flatten_cons, List.length_append, List.length_cons]
   omega
theorem ord_end (f : Fp) {ls pk : List Bs} (h : ∀ x ∈ ls, WOk x) (hp : pk.Perm ls) : prsS f ls.flatten = prsS f pk.flatten := by
 have hk : ∀ x ∈ pk, WOk x := fun x hx => h x (hp.mem_iff.1 hx)
 rw [flat_cat ls h, flat_cat pk hk]
 refine prs_perm f ((hp.map tkO).symm) ?_
 intro k hk
 obtain ⟨x, hx, rfl⟩ := List.mem_map.1 hk
 obtain ⟨c, t, rfl, ht, _⟩ := h x hx
 exact ht
structure Iy (W : World) (v : Value) (ns : List Int) : Prop where
 form : ∃ a c, v = .slice a ns.length c ∧ (ns = [] ∨ ∃ g off, a = some ⟨g, off, none⟩ ∧ g < W.heap.size ∧ ∀ k x, ns[k]? = some x → W.cell? ⟨g, off + k, none⟩ = some (.int .i64 x))
theorem Sl.at2 {W : World} {v : Value} {ws : List Bs} (h : Sl W v ws) {i : Nat} {x : Bs} (hx : ws[i]? = some x) : ∃ g off c, v = .slice (some ⟨g, off, none⟩) ws.length c ∧ ws.length ≤ c ∧ c ≤ 9223372036854775807 ∧ g < W.heap.size ∧ ∀ k y, ws[k]? = some y → W.cell? ⟨g, off + k, none⟩ = some (sv y) := by
 obtain ⟨a, c, rfl, h1, h2, h3⟩ := h.form
 obtain ⟨g, off, rfl, hg, hc⟩ := h3.resolve_left (fun e => by rw [e] at hx; simp at hx)
 exact ⟨g, off, c, rfl, h1, h2, hg, hc⟩
theorem src_strs {W : World} {x : Option Addr} {n c : Nat} {ts : List Bs} (h : Sl W (.slice x n c) ts) : Src Tryd.prog 1 50 (.slice x n c) n (svs ts) W := by
 obtain ⟨⟨a, d, e, h1, h2, h3⟩, _⟩ := h
 cases e
 rcases h3 with rfl | ⟨g, off, rfl, hg, hc⟩
 · cases x with
   | none => exact Src.ofNil W (e' := 9) (by kernel_rfl) c
   | some ad => exact Src.ofSlice W (e' := 9) (by kernel_rfl) ad 0 c [] (by simp) (by simp) (by simp)
 · refine Src.ofSlice W (e' := 9) (by kernel_rfl) _ _ _ _ (by simp [svs]) (fun j u hj => ?_) (fun u hu => by obtain ⟨b, _, rfl⟩ := List.mem_map.1 hu; rfl)
   rw [List.getElem?_map] at hj
   cases hq : ts[j]? with
   | none => rw [hq] at hj; cases hj
   | some y =>
     rw [hq] at hj
     obtain rfl : sv y = u := by simpa using hj
     rw [Addr.add_lit, hc j y hq]
theorem rest_news {W : World} {g off n k : Nat} {ad : Addr} {ws : List Bs} (hl : ws.length = n) (hc : ∀ k y, ws[k]? = some y → W.cell? ⟨g, off + k, none⟩ = some (sv y)) (ha : n - k = 0 ∨ ad = ⟨g, off + k, none⟩) : (svs (ws.drop k)).length = n - k ∧ ∀ j u, (svs (ws.drop k))[j]? = some u → W.cell? (ad.add j) = some u := by
 refine ⟨by simp [svs, hl], fun j u hj => ?_⟩
 rw [List.getElem?_map] at hj
 cases hq : (ws.drop k)[j]? with
 | none => rw [hq] at hj; cases hj
 | some y =>
   rw [hq] at hj
   obtain rfl : sv y = u := by simpa using hj
   rw [List.getElem?_drop] at hq
   rcases ha with h0 | rfl
   · have := (List.getElem?_eq_some_iff.1 hq).1
     omega
   · rw [Addr.add_lit, Nat.add_assoc]
     exact hc (k + j) y hq
theorem svs_one (l : List Bs) : ∀ u ∈ svs l, u.oneCell' = true := by
 intro u hu
 obtain ⟨x, _, rfl⟩ := List.mem_map.1 hu
 rfl
section
variable {a : Act} {W : World} {o : Oper} {K : Act → World → Prop} {Q : Exit → Act → World → Prop}
theorem oy_nilS (ho : o.op = .buildSlice 50 0 #[]) (h : K (a.put o.dst (.slice (some ⟨W.heap.size, 0, none⟩) 0 0)) (W.alloc (.cells #[] 9))) : Oper.wp Tryd.prog o a W K Q := by
 unfold Oper.wp execOp
 rw [ho]
 simp only [List.map_toArray, List.map_nil]
 go_simp
 exact h
theorem uSsY : Tryd.prog.underlying 50 = some (.slice 9) := by kernel_rfl
theorem oy_copyS {s u b B : Nat} {x : Option Addr} {n c : Nat} {ts : List Bs}
   (ho : o.op = .call { callee := .builtin .append, args := #[.tmp s, .tmp u], argTypes := #[50, 50] }) (hs : a.eval (.tmp s) = .slice (some ⟨b, 0, none⟩) 0 0) (hx : a.eval (.tmp u) = .slice x n c) (hsrc : Sl W (.slice x n c) ts) (hnl : ts.length = n) (hn : n ≤ 1000000) (hB : B ≤ W.heap.size) (hb : W.ownsRow B 9 1 (.slice (some ⟨b, 0, none⟩) 0 0) 0 [])
   (h1 : ∀ v' W', Sr W' B v' ts → Below W.heap.size W W' → K (a.put o.dst v') W') : Oper.wp Tryd.prog o a W K Q := by
 obtain ⟨i, hi, hz, hsize, hby⟩ := info_parts (show (Tryd.prog.info? 9).map (fun i => (i.zero, i.size, i.bytes)) = some (some (.string ⟨#[]⟩), 1, 16) by kernel_rfl)
 have hsr := src_strs hsrc
 unfold Oper.wp execOp
 have hl := hsr.newsLen
 simp only [ho, resolve, invoke, builtin, Sem.run_bind, Sem.run_pure, Result.andThen_ok, List.map_toArray, List.map_cons, List.map_nil, hs, hx]
 by_cases hn0 : n = 0
 · subst hn0
   have : ts = [] := List.length_eq_zero_iff.1 hnl
   subst this
   rw [run_append_room_src (P := Tryd.prog) W 50 50 o.type 9 i uSsY hi b 0 0 0 (.slice x 0 c) 0 [] (by rw [hsize]; exact hsr) (by omega) (fun j hj => by simp at hj) (fun j hj => by simp at hj)]
   exact h1 _ _ hb (Below.refl _ _)
 · have hold : (Builtin.firstCells i.size 0 (.slice (some ⟨b, 0, none⟩) 0 0)).run Tryd.prog W.drew = .ok ([] : List Value).toArray W.drew := run_firstCells_some W.drew i.size 0 ⟨b, 0, none⟩ 0 0 [] (by simp) (by simp)
   have hg : 0 < 0 + n := by omega
   rw [run_append_grow_src (P := Tryd.prog) W 50 50 o.type 9 i (.string ⟨#[]⟩) uSsY hi hz (some ⟨b, 0, none⟩) 0 0 [] hold (.slice x n c) n (svs ts) (by rw [hsize]; exact hsr) hg (by omega) (growslice_fits hg (by rw [hby]; omega))]
   have hge := grownCap_ge W (0 + n) 0 9
   have hm := grownCap_le_maxLen W (0 + n) 0 9 (by unfold maxLen; omega)
   have hge' : n ≤ grownCap W n 0 9 := by rw [Nat.zero_add] at hge; exact hge
   refine h1 _ _ ⟨by simp [svs], Or.inr ⟨W.heap.size, _, _, by rw [Nat.zero_add, hnl], hB, heap_alloc_new W.drew _, by rw [hnl]; exact hge', by rw [Nat.zero_add] at hm; exact hm, ?_, ?_⟩⟩ (((Below.refl _ W).drew).alloc (Nat.le_refl _) _)
   · simp only [Array.size_append, List.size_toArray, size_zeroCells, List.nil_append, hl]
     rw [Nat.zero_add] at hge ⊢
     simp [Value.cells]
     omega
   · simp only [List.nil_append, Array.toList_append]
     rw [show ts.length * 1 = (svs ts).length by simp [svs]]
     exact List.take_left
end
section
variable {ops : Array Oper} {rest : List Oper} {o : Oper} {a : Act} {w : World} {Q : Exit → Act → World → Prop}
theorem wpl_eqTG (hw : Region.wanted o (yielded ops a.tmps) = true) {t u : Nat} {n m : Int} {b : Bool} (ho : o.op = .binOp .eql 25 (.tmp t) (.tmp u) 25) (hv : a.eval (.tmp t) = .int .i64 n) (hu : a.eval (.tmp u) = .int .i64 m) (hb : (n == m) = b) (h : wpList Tryd.prog ops Q rest (a.put o.dst (.bool b)) w) : wpList Tryd.prog ops Q (o :: rest) a w :=
 BigFrame.wpList_want hw fun K hK => by
   have h' := hK _ _ h
   clear hK h
   unfold Oper.wp execOp
   rw [ho]
   simp only [hv, hu]
   go_simp
   exact h'
end
theorem makeY {W : World} {B : Nat} (hB : B ≤ W.heap.size) : (W.alloc (.cells #[] 9)).ownsRow B 9 1 (.slice (some ⟨W.heap.size, 0, none⟩) 0 0) 0 [] := own_base (World.ownsRow_made W (e := 9) (size := 1) #[] 0 (Nat.le_refl _) (Nat.zero_le _) rfl) hB
theorem float_iff (c : UInt8) : floatCs.contains c = true ↔ (48 ≤ ((c.toNat : Nat) : Int) ∧ ((c.toNat : Nat) : Int) ≤ 57) ∨ ((c.toNat : Nat) : Int) = 98 ∨ ((c.toNat : Nat) : Int) = 45 := by
 have key : ∀ n : Fin 256, floatCs.contains (UInt8.ofNat n.val) = decide ((48 ≤ (((UInt8.ofNat n.val).toNat : Nat) : Int) ∧ (((UInt8.ofNat n.val).toNat : Nat) : Int) ≤ 57) ∨ (((UInt8.ofNat n.val).toNat : Nat) : Int) = 98 ∨ (((UInt8.ofNat n.val).toNat : Nat) : Int) = 45) := by decide +kernel
 have e : UInt8.ofNat c.toNat = c := by simp
 have := key ⟨c.toNat, c.toNat_lt⟩
 rw [e] at this
 rw [this, decide_eq_true_iff]
theorem turn_byY (b : Int) (n : Nat) (hn : 0 < n) (hn2 : n ≤ 200) : ∃ rr : Nat, (wrap64 ((IntKind.u64.wrap b).tmod (n : Int)) = (rr : Int) ∧ True) ∧ rr < n := by
 have h0 : (0 : Int) ≤ IntKind.u64.wrap b := by rw [IntKind.wrap_u64]; exact Int.emod_nonneg _ (by decide)
 rw [Int.tmod_eq_emod_of_nonneg h0]
 have h1 := Int.emod_nonneg (IntKind.u64.wrap b) (show (n : Int) ≠ 0 by omega)
 have h2 := Int.emod_lt_of_pos (IntKind.u64.wrap b) (show (0 : Int) < (n : Int) by omega)
 refine ⟨(IntKind.u64.wrap b % (n : Int)).toNat, ⟨?_, trivial⟩, by omega⟩
 unfold wrap64
 omega
structure Oz (w W : World) (ls : List Bs) (i : Nat) (ob tb : ByteArray) (lv : Value) (pk lf : List Bs) : Prop where
 bel : Below w.heap.size w W
 good : ∀ x ∈ ls.take i, WOk x
 one : ob.data.toList = (ls.take i).flatten
 other : tb.data.toList = pk.flatten
 perm : (pk ++ lf).Perm ls
 len : lf.length + i = ls.length
 sl : Sl W lv lf
 ol : ob.size ≤ i * 140737488355328
 tl : tb.size ≤ i * 140737488355328
theorem Oz.step {w W W' : World} {ls : List Bs} {i : Nat} {ob tb ob' tb' : ByteArray} {lv lv' : Value} {pk lf : List Bs} (h : Oz w W ls i ob tb lv pk lf) (hb : ∀ x ∈ ls, x.length ≤ 140737488355328) {x y : Bs} {k : Nat} (hx : ls[i]? = some x) (hy : lf[k]? = some y) (hg : WOk x) (h1 : ob'.data.toList = ob.data.toList ++ x) (h2 : tb'.data.toList = tb.data.toList ++ y) (hbel : Below w.heap.size w W') (hs : Sl W' lv' (lf.take k ++ lf.drop (k + 1))) : Oz w W' ls (i + 1) ob' tb' lv' (pk ++ [y]) (lf.take k ++ lf.drop (k + 1)) := by
 obtain ⟨hi, hxe⟩ := List.getElem?_eq_some_iff.1 hx
 obtain ⟨hk, hye⟩ := List.getElem?_eq_some_iff.1 hy
 have hxm : x ∈ ls := List.mem_of_getElem? hx
 have hym : y ∈ ls := h.perm.mem_iff.1 (List.mem_append_right _ (List.mem_of_getElem? hy))
 have hsplit : lf = lf.take k ++ y :: lf.drop (k + 1) := by rw [← hye, ← List.drop_eq_getElem_cons hk, List.take_append_drop]
 have ht : ls.take (i + 1) = ls.take i ++ [x] := by rw [List.take_succ_eq_append_getElem hi, hxe]
 refine ⟨hbel, ?_, ?_, ?_, ?_, ?_, hs, ?_, ?_⟩
 · intro z hz
   rw [ht] at hz
   rcases List.mem_append.1 hz with hz | hz
   · exact h.good z hz
   · obtain rfl : z = x := by simpa using hz
     exact hg
 · rw [ht, h1, h.one]; simp
 · rw [h2, h.other]; simp
 · refine List.Perm.trans ?_ h.perm
   conv => rhs; rw [hsplit]
   rw [List.append_assoc]
   refine List.Perm.append_left pk ?_
   exact (List.perm_middle (a := y) (l₁ := lf.take k) (l₂ := lf.drop (k + 1))).symm
 · have := h.len
   simp only [List.length_append, List.length_take, List.length_drop]
   omega
 · have := h.ol
   have e1 := hb x hxm
   rw [Lib.size_eq] at this ⊢
   rw [h1, List.length_append]; omega
 · have := h.tl
   have e1 := hb y hym
   rw [Lib.size_eq] at this ⊢
   rw [h2, List.length_append]; omega
theorem add_bytes (a b : ByteArray) : (a ++ b).data.toList = a.data.toList ++ b.data.toList := by simp [ByteArray.data_append]
end

/- The law SwitchesOrder: switches in any other order ask for the same, or are refused alike. (gen_yzg.py) -/
section
set_option maxRecDepth 100000
open Go.RowKit Go.Shelf Go.Lib
theorem box_cellY {w W : World} (hb : Below w.heap.size w W) {p : Addr} {x : Value} (h : w.cell? p = some x) : W.cell? p = some x := by
 have hlt : p.block < w.heap.size := World.block_lt_of_cell? _ _ h
 exact (hb.cell hlt).trans h
set_option maxHeartbeats 32000000 in
theorem order14 (lv pv : Value) (ls : List Bs) (ps : List Int) (w : World) (hT : T8 w) (hS : Sl w lv ls) (hB : ∀ x ∈ ls, x.length ≤ 140737488355328) (hP : Iy w pv ps) :
   Calls Tryd.prog 5 #[lv, pv] w fun e w' => e = .returned (.bool true) ∧ Below w.heap.size w w' := by
 obtain ⟨f, hf⟩ := fp_ex
 have HT := Lib.hid hT
 have HF := Lib.hid hf
 have HA := Lib.hid (fun W h => awake14 W h)
 have HB := Lib.hid hB
 obtain ⟨la, lc, rfl, _, _, hlm⟩ := hS.form
 obtain ⟨pa, pc, rfl, hpm⟩ := hP.form
 have HS := Lib.hid hS
 have HP := Lib.hid hpm
 have HLm := Lib.hid hlm
 obtain ⟨i0, hi0, hz0, hz1, hz2⟩ := info_parts (show (Tryd.prog.info? 9).map (fun i => (i.zero, i.size, i.bytes)) = some (some (.string ⟨#[]⟩), 1, 16) by kernel_rfl)
 obtain ⟨N, hN⟩ : ∃ N, Hid (ls.length = N) := ⟨_, Lib.hid rfl⟩
 obtain ⟨M, hM⟩ : ∃ M, Hid (ps.length = M) := ⟨_, Lib.hid rfl⟩
 rw [hN.out] at HS ⊢
 rw [hM.out]
 clear hT hf hS hB hP hlm hpm
 by_cases h30 : (30 : Int) < (N : Int)
 · go_enter Tryd.func5, Tryd.ntmps5
   go_wp2_with (go_at_call 10; refine (HA.out w HT.out).mono ?_; rintro e w' ⟨rfl, hb⟩)
   go_ret
   exact ⟨rfl, hb⟩
 have h30' : N ≤ 30 := by omega
 go_enter Tryd.func5, Tryd.ntmps5
 go_upto_region 4 with (go_at_call 10; refine (HA.out w HT.out).mono ?_; rintro e W1 ⟨rfl, hb1⟩)
 refine wp_region_lit ?_
 refine wpList_plain rfl fun K hK => oy_nilS rfl (hK _ _ ?_)
 simp only [Act.put, List.setIfInBounds_toArray, List.set_cons_succ, List.set_cons_zero]
 obtain ⟨W2, hW2⟩ : ∃ W2, W1.alloc (.cells #[] 9) = W2 := ⟨_, rfl⟩
 have HW2 : Hid (W2.ownsRow W1.heap.size 9 1 (.slice (some ⟨W1.heap.size, 0, none⟩) 0 0) 0 [] ∧ Below w.heap.size w W2 ∧ W1.heap.size ≤ W2.heap.size) := Lib.hid (by
   rw [← hW2]
   exact ⟨makeY (Nat.le_refl _), hb1.alloc hb1.size _, by simp⟩)
 rw [hW2]
 clear hW2 hb1
 refine wpList_moveY rfl 0 _ rfl rfl ?_
 simp only [Act.put, List.setIfInBounds_toArray, List.set_cons_succ, List.set_cons_zero]
 refine wpList_plain rfl fun K hK => oy_copyS (B := W1.heap.size) rfl rfl rfl (HS.out.later HW2.out.2.1) hN.out (by omega) HW2.out.2.2 HW2.out.1 ?_
 intro v7 W3 hs3 hb3
 refine hK _ _ ?_
 clear hK
 simp only [Act.put, List.setIfInBounds_toArray, List.set_cons_succ, List.set_cons_zero]
 have H3 : Hid (Sl W3 v7 ls ∧ Below w.heap.size w W3) := Lib.hid ⟨Sr.sl hs3 (fun x hx => by have := HB.out x hx; omega), HW2.out.2.1.trans (hb3.mono HW2.out.2.1.size)⟩
 clear hs3 hb3 HW2
 go_wp2_with fail
 go_loopw [5, 6, 7, 8] (fun s5 s6 s7 s8 wr => ∃ (i : Nat) (ob tb : ByteArray) (pk lf : List Bs), i ≤ N ∧ s8 = .int .i64 (i : Nat) ∧ s5 = .string ob ∧ s6 = .string tb ∧ Hid (Oz w wr ls i ob tb s7 pk lf)) (fun _ _ _ s8 _ => N - (RowKit.intOf s8).toNat)
 case atStart => exact ⟨0, ⟨#[]⟩, ⟨#[]⟩, [], ls, by omega, rfl, rfl, rfl, ⟨H3.out.2, by simp, by simp, by simp, by simp, by simp, H3.out.1, by simp [ByteArray.size], by simp [ByteArray.size]⟩⟩
 case round =>
   clear H3
   obtain ⟨i, ob, tb, pk, lf, hi, rfl, rfl, rfl, HO⟩ := hrel
   by_cases hlt : i < N
   · have hlt' : (i : Int) < (N : Int) := by omega
     have hi0' : (0 : Int) ≤ (i : Int) := by omega
     obtain ⟨x, hx⟩ : ∃ x, Hid (ls[i]? = some x) := ⟨_, Lib.hid (List.getElem?_eq_getElem (by rw [hN.out]; exact hlt))⟩
     obtain ⟨g, off, rfl, hg, hcell⟩ := HLm.out.resolve_left (fun e => by have := hx.out; rw [e] at this; simp at this)
     have x0 : wr.cell? ⟨g, off + i, none⟩ = some (sv x) := cell_later HO.out.bel hg (hcell i x hx.out)
     obtain ⟨sb, hsb, hsd0⟩ : ∃ sb : ByteArray, sv x = .string sb ∧ sb.data.toList = x := ⟨⟨x.toArray⟩, rfl, by simp⟩
     have hsd := Lib.hid hsd0
     rw [hsb] at x0
     clear hcell hsb hsd0
     obtain ⟨n, hn⟩ : ∃ n, Hid (lf.length = n) := ⟨_, Lib.hid rfl⟩
     have hnp : n + i = N := by rw [← hn.out, ← hN.out]; exact HO.out.len
     obtain ⟨y0, hy0⟩ : ∃ y, lf[0]? = some y := ⟨_, List.getElem?_eq_getElem (by rw [hn.out]; omega)⟩
     obtain ⟨gl, ol, cl, hu7, hcl1, hcl2, hgl, hlc⟩ := HO.out.sl.at2 hy0
     subst hu7
     rw [hn.out] at HO hcl1 ⊢
     have HLc := Lib.hid hlc
     have HGl := Lib.hid hgl
     have HCl := Lib.hid (And.intro hcl1 hcl2)
     have hcl3 : (cl : Int) ≤ 9223372036854775807 := by omega
     clear hlc hgl hy0
     obtain ⟨wo, hwo⟩ : ∃ wo, wo = wr := ⟨_, rfl⟩
     subst hwo
     by_cases hx0 : sb.size = 0
     · have e1 : ((sb.size : Int) == 0) = true := by rw [hx0]; rfl
       go_wp2_with fail
       go_ret
       exact ⟨rfl, HO.out.bel⟩
     have e1 : ((sb.size : Int) == 0) = false := by rw [beq_eq_false_iff_ne]; omega
     by_cases hx5 : 50 < sb.size
     · have e2 : (50 : Int) < (sb.size : Int) := by omega
       go_wp2_with fail
       go_ret
       exact ⟨rfl, HO.out.bel⟩
     have e2 : ¬ ((50 : Int) < (sb.size : Int)) := by omega
     have h0 : 0 < sb.size := by omega
     have h0i : (0 : Int) < (sb.size : Int) := by omega
     obtain ⟨c0, t0, hxc⟩ : ∃ c0 t0, Hid (x = c0 :: t0) := by
       cases x with
       | nil => exact absurd (by rw [Lib.size_eq, hsd.out]; rfl) hx0
       | cons c t => exact ⟨c, t, Lib.hid rfl⟩
     have hc0 : sb[0]'h0 = c0 := by
       have h9 : sb.data.toList[0]? = some (sb[0]'h0) := by
         rw [Array.getElem?_toList, Array.getElem?_eq_getElem (by exact h0)]
         rfl
       rw [hsd.out, hxc.out] at h9
       exact (Option.some.inj h9).symm
     have hfi := float_iff c0
     rw [← hc0] at hfi
     have HC := Lib.hid (And.intro hc0 hfi)
     clear hc0 hfi
     by_cases p1 : 48 ≤ (((sb[0]'h0).toNat : Nat) : Int) ∧ (((sb[0]'h0).toNat : Nat) : Int) ≤ 57
     · have a1 := p1.1
       have a2 := p1.2
       clear p1
       go_wp2_with fail
       go_ret
       exact ⟨rfl, HO.out.bel⟩
     by_cases p2 : (((sb[0]'h0).toNat : Nat) : Int) = 98
     · have a1 : (48 : Int) ≤ (((sb[0]'h0).toNat : Nat) : Int) := by omega
       have a2 : ¬ (((sb[0]'h0).toNat : Nat) : Int) ≤ 57 := by omega
       have a3 : ((((sb[0]'h0).toNat : Nat) : Int) == 98) = true := by simpa using p2
       clear p1 p2
       go_wp2_with fail
       go_ret
       exact ⟨rfl, HO.out.bel⟩
     have a3 : ((((sb[0]'h0).toNat : Nat) : Int) == 98) = false := by simpa using p2
     by_cases p3 : (((sb[0]'h0).toNat : Nat) : Int) = 45
     · have a1 : ¬ ((48 : Int) ≤ (((sb[0]'h0).toNat : Nat) : Int)) := by omega
       have a4 : ((((sb[0]'h0).toNat : Nat) : Int) == 45) = true := by simpa using p3
       clear p1 p2 p3
       go_wp2_with fail
       go_ret
       exact ⟨rfl, HO.out.bel⟩
     have a4 : ((((sb[0]'h0).toNat : Nat) : Int) == 45) = false := by simpa using p3
     have HC0 : Hid (floatCs.contains c0 = false) := Lib.hid (by
       rw [← HC.out.1]
       cases h : floatCs.contains (sb[0]'h0)
       · rfl
       · exfalso
         rcases HC.out.2.1 h with h | h | h
         · exact p1 h
         · exact p2 h
         · exact p3 h)
     have hq : (¬ ((48 : Int) ≤ (((sb[0]'h0).toNat : Nat) : Int))) ∨ ((48 : Int) ≤ (((sb[0]'h0).toNat : Nat) : Int) ∧ ¬ (((sb[0]'h0).toNat : Nat) : Int) ≤ 57) := by omega
     clear p1 p2 p3 HC
     rcases hq with a1 | ⟨a1, a2⟩
     all_goals
       go_wp2_with fail
       go_loopw [10] (fun s10 wr => ∃ k : Nat, 1 ≤ k ∧ k ≤ sb.size ∧ s10 = .int .i64 (k : Nat) ∧ Hid (wr = wo ∧ ∀ j, 1 ≤ j → j < k → ∀ d, x[j]? = some d → floatCs.contains d = true)) (fun s10 _ => sb.size - (RowKit.intOf s10).toNat)
       case atStart => exact ⟨1, Nat.le_refl _, by omega, rfl, rfl, fun j h1 h2 => by omega⟩
       case round =>
         obtain ⟨k, hk1, hkL, rfl, hR⟩ := hrel
         have HFl := Lib.hid hR.out.2
         obtain rfl := hR.out.1
         clear hR
         by_cases hkl : k < sb.size
         · have hkl' : (k : Int) < (sb.size : Int) := by omega
           have hk0 : (0 : Int) ≤ (k : Int) := by omega
           have hd : x[k]? = some (sb[k]'hkl) := by
             have h9 : sb.data.toList[k]? = some (sb[k]'hkl) := by
               rw [Array.getElem?_toList, Array.getElem?_eq_getElem (by exact hkl)]
               rfl
             rw [hsd.out] at h9
             exact h9
           have HD := Lib.hid hd
           have hfi := float_iff (sb[k]'hkl)
           have HStep : Hid (floatCs.contains (sb[k]'hkl) = true → ∀ j, 1 ≤ j → j < k + 1 → ∀ d, x[j]? = some d → floatCs.contains d = true) := Lib.hid (fun h j h1 h2 d hd' => by
             rcases Nat.lt_or_ge j k with h3 | h3
             · exact HFl.out j h1 h3 d hd'
             · obtain rfl : j = k := by omega
               rw [HD.out] at hd'
               cases hd'
               exact h)
           clear hd HD
           by_cases f1 : (((sb[k]'hkl).toNat : Nat) : Int) = 98
           · have HS2 := Lib.hid (HStep.out (hfi.2 (Or.inr (Or.inl f1))))
             have d1 : ((((sb[k]'hkl).toNat : Nat) : Int) != 98) = false := by simpa using f1
             clear f1
             clear hfi HStep
             go_wp2_with fail
             go_roundw
             case rel => exact ⟨k + 1, by omega, by omega, by go_num, by trivial, HS2.out⟩
             case measure => simp [RowKit.intOf]; omega
           have d1 : ((((sb[k]'hkl).toNat : Nat) : Int) != 98) = true := by simpa using f1
           by_cases f2 : (((sb[k]'hkl).toNat : Nat) : Int) = 45
           · have HS2 := Lib.hid (HStep.out (hfi.2 (Or.inr (Or.inr f2))))
             have d2 : ((((sb[k]'hkl).toNat : Nat) : Int) != 45) = false := by simpa using f2
             clear f2 f1
             clear hfi HStep
             go_wp2_with fail
             go_roundw
             case rel => exact ⟨k + 1, by omega, by omega, by go_num, by trivial, HS2.out⟩
             case measure => simp [RowKit.intOf]; omega
           have d2 : ((((sb[k]'hkl).toNat : Nat) : Int) != 45) = true := by simpa using f2
           by_cases f3 : (((sb[k]'hkl).toNat : Nat) : Int) < 48
           · clear hfi HStep
             go_wp2_with fail
             go_ret
             exact ⟨rfl, HO.out.bel⟩
           by_cases f4 : (57 : Int) < (((sb[k]'hkl).toNat : Nat) : Int)
           · clear hfi HStep
             go_wp2_with fail
             go_ret
             exact ⟨rfl, HO.out.bel⟩
           have HS2 := Lib.hid (HStep.out (hfi.2 (Or.inl ⟨by omega, by omega⟩)))
           clear hfi HStep
           go_wp2_with fail
           go_roundw
           case rel => exact ⟨k + 1, by omega, by omega, by go_num, by trivial, HS2.out⟩
           case measure => simp [RowKit.intOf]; omega
         · have hkl' : ¬ ((k : Int) < (sb.size : Int)) := by omega
           have HG : Hid (WOk x) := Lib.hid (by
             refine ⟨c0, t0, hxc.out, ⟨HC0.out, fun d hd => ?_⟩, by rw [← hsd.out, ← Lib.size_eq]; omega⟩
             obtain ⟨j, hj, rfl⟩ := List.getElem_of_mem hd
             have hj2 : j < t0.length := hj
             have hlen : sb.size = t0.length + 1 := by rw [Lib.size_eq, hsd.out, hxc.out]; rfl
             refine HFl.out (j + 1) (by omega) (by omega) _ ?_
             rw [hxc.out, List.getElem?_cons_succ]
             exact List.getElem?_eq_getElem hj)
           have hc1 : ¬ 9223372036854775807 < ob.size + sb.size := by
             have h1 := HO.out.ol
             have h2 := HB.out x (List.mem_of_getElem? hx.out)
             have h3 : sb.size = x.length := by rw [Lib.size_eq, hsd.out]
             have h5 : i * 140737488355328 ≤ 30 * 140737488355328 := Nat.mul_le_mul_right _ (by omega)
             omega
           clear HFl x0
           by_cases hpk : i < M
           · have hpk' : (i : Int) < (M : Int) := by omega
             obtain ⟨pi, hpi⟩ : ∃ p, ps[i]? = some p := ⟨_, List.getElem?_eq_getElem (by rw [hM.out]; exact hpk)⟩
             obtain ⟨gp, op, rfl, hgp, hcp⟩ := HP.out.resolve_left (fun e => by rw [e] at hpi; simp at hpi)
             have x1 : wr.cell? ⟨gp, op + i, none⟩ = some (.int .i64 pi) := cell_later HO.out.bel hgp (hcp i pi hpi)
             obtain ⟨kk, hrr, hkn⟩ := turn_byY pi n (by omega) (by omega)
             have hrr1 := hrr.1
             clear hrr hcp hpi
             have hk0 : (0 : Int) ≤ (kk : Int) := by omega
             have hk1 : (kk : Int) ≤ (cl : Int) := by omega
             have hk2 : (kk : Int) + 1 ≤ (n : Int) := by omega
             have hk3 : (0 : Int) ≤ (kk : Int) + 1 := by omega
             have hk5 : (kk : Int) < (n : Int) := by omega
             have hkw : IntKind.i64.wrap ((kk : Int) + 1) = (kk : Int) + 1 := by rw [IntKind.wrap_i64]; omega
             have hn0 : ¬ n = 0 := by omega
             have hn1 : ((n : Int) == 0) = false := by simp; omega
             have hn2 : ¬ (n : Int) = 0 := by omega
             have hk4 : ¬ cl = 0 := by omega
             obtain ⟨y, hy⟩ : ∃ y, lf[kk]? = some y := ⟨_, List.getElem?_eq_getElem (by rw [hn.out]; omega)⟩
             have x2 : wr.cell? ⟨gl, ol + kk, none⟩ = some (sv y) := HLc.out kk y hy
             obtain ⟨yb, hyb, hyd⟩ : ∃ yb : ByteArray, sv y = .string yb ∧ yb.data.toList = y := ⟨⟨y.toArray⟩, rfl, by simp⟩
             rw [hyb] at x2
             have hc2 : ¬ 9223372036854775807 < tb.size + yb.size := by
               have h1 := HO.out.tl
               have h2 := HB.out y (HO.out.perm.mem_iff.1 (List.mem_append_right _ (List.mem_of_getElem? hy)))
               have h3 : yb.size = y.length := by rw [Lib.size_eq, hyd]
               have h4 : i ≤ 30 := by omega
               have h5 : i * 140737488355328 ≤ 30 * 140737488355328 := Nat.mul_le_mul_right _ h4
               omega
             have HPre : Hid (Sl wr (.slice (some ⟨gl, ol, none⟩) kk cl) (lf.take (kk))) := Lib.hid ⟨⟨some ⟨gl, ol, none⟩, cl, by rw [List.length_take, hn.out, Nat.min_eq_left (by omega)], by rw [List.length_take, hn.out]; omega, HCl.out.2, by
               by_cases h0 : lf.take (kk) = []
               · exact Or.inl h0
               · refine Or.inr ⟨gl, ol, rfl, HGl.out, fun j z hz => HLc.out j z ?_⟩
                 rw [List.getElem?_take] at hz
                 split at hz
                 · exact hz
                 · cases hz⟩, fun z hz => HO.out.sl.len z (List.mem_of_mem_take hz)⟩
             have HPl : Hid ((lf.take (kk)).length = kk) := Lib.hid (by rw [List.length_take, hn.out]; omega)
             obtain ⟨ad, hao, HAD⟩ : ∃ ad : Addr, (if cl = kk + 1 then some (⟨gl, ol, none⟩ : Addr) else some ⟨gl, ol + (kk + 1), none⟩) = some ad ∧ Hid (n - (kk + 1) = 0 ∨ ad = ⟨gl, ol + (kk + 1), none⟩) := by
               by_cases e : cl = kk + 1
               · exact ⟨_, by rw [if_pos e], Or.inl (by omega)⟩
               · exact ⟨_, by rw [if_neg e], Or.inr rfl⟩
             have HNw := Lib.hid (rest_news (k := kk + 1) hn.out HLc.out HAD.out)
             clear HAD
             go_wp2_with fail
             refine wp_region_held_drew (S := (fun W => Below wr.heap.size wr W)) (by kernel_rfl) ((Below.refl _ _).drew) (fun hS => ?_)
             refine takA (i := 1) (d := some 117) (v := .slice (some ⟨gl, ol, none⟩) n cl) hS ?_
             simp only [AP]
             refine takA (i := 2) (d := some 118) (v := .int .i64 (kk : Int)) hS ?_
             simp only [AP]
             refine takA (i := 3) (d := some 119) (v := .slice (some ⟨gl, ol, none⟩) kk cl) hS ?_
             simp only [AP]
             refine takA (i := 5) (d := some 121) (v := .slice (some ⟨gl, ol, none⟩) n cl) hS ?_
             simp only [AP]
             refine takA (i := 6) (d := some 122) (v := .int .i64 (kk : Int)) hS ?_
             simp only [AP]
             refine takA (i := 7) (d := some 123) (v := .int .i64 ((kk : Int) + 1)) hS ?_
             simp only [AP]
             refine takA (i := 8) (d := some 124) (v := .slice (some ad) (n - (kk + 1)) (cl - (kk + 1))) hS ?_
             simp only [AP]
             refine calA 0 fun KF hK => ?_
             rw [if_pos (by rfl)]
             refine oy_nilS rfl ?_
             obtain ⟨V1, hV1⟩ : ∃ V1, wr.drew.alloc (.cells #[] 9) = V1 := ⟨_, rfl⟩
             have HV1 : Hid (V1.ownsRow wr.heap.size 9 1 (.slice (some ⟨wr.drew.heap.size, 0, none⟩) 0 0) 0 []) := Lib.hid (by rw [← hV1]; exact makeY (Nat.le_refl _))
             have HS1 : Hid (Below wr.heap.size wr V1) := Lib.hid (by rw [← hV1]; exact ((Below.refl _ wr).drew).alloc (Nat.le_refl _) _)
             rw [hV1]
             refine hK.out _ _ HS1.out ?_
             clear hS
             intro hS
             clear hK KF
             try simp only [AP]
             clear hV1
             refine calA 4 fun KF hK => ?_
             rw [if_pos (by rfl)]
             refine oy_copyS (B := wr.heap.size) (ts := lf.take (kk)) rfl rfl rfl ((HPre.out).later hS) HPl.out (by omega) hS.size HV1.out ?_
             intro v1 V2 hown1 hb2
             have HS2 : Hid (Below wr.heap.size wr V2) := Lib.hid (hS.trans (hb2.mono hS.size))
             have HV2 : Hid (Sr V2 wr.heap.size v1 (lf.take (kk))) := Lib.hid hown1
             clear hown1 hb2 HV1 HS1
             refine hK.out _ _ HS2.out ?_
             clear hS
             intro hS
             clear hK KF
             try simp only [AP]
             refine calA 9 fun KF hK => ?_
             rw [if_pos (by rfl)]
             refine wp_append_own _ _ _ rfl wr.heap.size 9 i0 (.string ⟨#[]⟩) 1 16 Tryd.underlying50 hi0 hz0 hz1 hz2 rfl (by omega) v1 (lf.take (kk)).length (svs (lf.take (kk))) rfl HV2.out ad (n - (kk + 1)) (cl - (kk + 1)) (svs (lf.drop (kk + 1))) rfl (by rw [HNw.out.1, Nat.mul_one]) (fun j u hj => box_cellY hS (HNw.out.2 j u hj)) (svs_one _) (by rw [HPl.out]; unfold maxLen; omega) (by rw [HPl.out]; omega) hS.size ?_
             intro v2 V3 hown1 hgrow1
             have HS3 : Hid (Below wr.heap.size wr V3) := Lib.hid (hS.grown hgrow1 hS.size (fun q hq => (World.ownsRow.lt HV2.out q hq).1))
             have HV3 : Hid (Sr V3 wr.heap.size v2 (lf.take (kk) ++ lf.drop (kk + 1))) := Lib.hid (by
               show V3.ownsRow _ _ _ _ _ _
               rw [show svs (lf.take (kk) ++ lf.drop (kk + 1)) = svs (lf.take (kk)) ++ svs (lf.drop (kk + 1)) by simp [svs], List.length_append, List.length_drop, hn.out]
               exact hown1)
             clear hown1 hgrow1
             refine hK.out _ _ HS3.out ?_
             clear hS
             intro hS
             clear hK KF
             try simp only [AP]
             refine takA (i := 10) (d := some 7) (v := v2) hS ?_
             simp only [AP]
             refine wpAnyH_done (by kernel_rfl) ?_ _
             clear hS
             have HOn : Hid (Oz w V3 ls (i + 1) (ob ++ sb) (tb ++ yb) v2 (pk ++ [y]) (lf.take (kk) ++ lf.drop (kk + 1))) := Lib.hid (HO.out.step HB.out hx.out hy HG.out (by rw [add_bytes, hsd.out]) (by rw [add_bytes, hyd]) (HO.out.bel.trans (HS3.out.mono HO.out.bel.size)) (Sr.sl HV3.out (fun z hz => HO.out.sl.len z (by
               rcases List.mem_append.1 hz with hz | hz
               · exact List.mem_of_mem_take hz
               · exact List.mem_of_mem_drop hz))))
             clear hao hy hyd hc2 HPre HPl HNw HS2 HS3 HV2 HV3 x2 hn0 hn1 hn2 hk1 hk2 hk4 hk5 hrr1 hk0 hk3 hkw x1
             go_wp2_with fail
             go_roundw
             case rel =>
               first
               | exact ⟨_, _, _, _, _, _, _, _, _, _, _, _, _, _, _, _, _, _, _, _, _, _, _, _, _, _, _, _, _, _, _, _, _, _, _, _, _, _, _, _, _, _, _, _, _, _, _, _, _, _, _, _, _, _, _, _, _, _, _, _, _, _, _, _, _, _, _, _, _, _, _, _, _, _, _, _, _, _, _, _, _, _, _, _, _, _, _, _, _, _, _, _, _, _, _, _, _, _, _, _, _, _, _, _, _, _, _, ⟨i + 1, ob ++ sb, tb ++ yb, pk ++ [y], _, by omega, by go_num, rfl, rfl, HOn.out⟩, rfl⟩
               | exact ⟨_, _, _, _, _, _, _, _, _, _, _, _, _, _, _, _, _, _, _, _, _, _, _, _, _, _, _, _, _, _, _, _, _, _, _, _, _, _, _, _, _, _, _, _, _, _, _, _, _, _, _, _, _, _, _, _, _, _, _, _, _, _, _, _, _, _, _, _, _, _, _, _, _, _, _, _, _, _, _, _, _, _, _, _, _, _, _, _, _, _, _, _, _, _, _, _, _, _, _, _, _, _, _, _, _, _, ⟨i + 1, ob ++ sb, tb ++ yb, pk ++ [y], _, by omega, by go_num, rfl, rfl, HOn.out⟩, rfl⟩
               | exact ⟨_, _, _, _, _, _, _, _, _, _, _, _, _, _, _, _, _, _, _, _, _, _, _, _, _, _, _, _, _, _, _, _, _, _, _, _, _, _, _, _, _, _, _, _, _, _, _, _, _, _, _, _, _, _, _, _, _, _, _, _, _, _, _, _, _, _, _, _, _, _, _, _, _, _, _, _, _, _, _, _, _, _, _, _, _, _, _, _, _, _, _, _, _, _, _, _, _, _, _, _, _, _, _, _, _, _, _, _, ⟨i + 1, ob ++ sb, tb ++ yb, pk ++ [y], _, by omega, by go_num, rfl, rfl, HOn.out⟩, rfl⟩
               | exact ⟨_, _, _, _, _, _, _, _, _, _, _, _, _, _, _, _, _, _, _, _, _, _, _, _, _, _, _, _, _, _, _, _, _, _, _, _, _, _, _, _, _, _, _, _, _, _, _, _, _, _, _, _, _, _, _, _, _, _, _, _, _, _, _, _, _, _, _, _, _, _, _, _, _, _, _, _, _, _, _, _, _, _, _, _, _, _, _, _, _, _, _, _, _, _, _, _, _, _, _, _, _, _, _, _, _, ⟨i + 1, ob ++ sb, tb ++ yb, pk ++ [y], _, by omega, by go_num, rfl, rfl, HOn.out⟩, rfl⟩
               | exact ⟨_, _, _, _, _, _, _, _, _, _, _, _, _, _, _, _, _, _, _, _, _, _, _, _, _, _, _, _, _, _, _, _, _, _, _, _, _, _, _, _, _, _, _, _, _, _, _, _, _, _, _, _, _, _, _, _, _, _, _, _, _, _, _, _, _, _, _, _, _, _, _, _, _, _, _, _, _, _, _, _, _, _, _, _, _, _, _, _, _, _, _, _, _, _, _, _, _, _, _, _, _, _, _, _, _, _, _, _, _, ⟨i + 1, ob ++ sb, tb ++ yb, pk ++ [y], _, by omega, by go_num, rfl, rfl, HOn.out⟩, rfl⟩
               | exact ⟨_, _, _, _, _, _, _, _, _, _, _, _, _, _, _, _, _, _, _, _, _, _, _, _, _, _, _, _, _, _, _, _, _, _, _, _, _, _, _, _, _, _, _, _, _, _, _, _, _, _, _, _, _, _, _, _, _, _, _, _, _, _, _, _, _, _, _, _, _, _, _, _, _, _, _, _, _, _, _, _, _, _, _, _, _, _, _, _, _, _, _, _, _, _, _, _, _, _, _, _, _, _, _, _, ⟨i + 1, ob ++ sb, tb ++ yb, pk ++ [y], _, by omega, by go_num, rfl, rfl, HOn.out⟩, rfl⟩
               | exact ⟨_, _, _, _, _, _, _, _, _, _, _, _, _, _, _, _, _, _, _, _, _, _, _, _, _, _, _, _, _, _, _, _, _, _, _, _, _, _, _, _, _, _, _, _, _, _, _, _, _, _, _, _, _, _, _, _, _, _, _, _, _, _, _, _, _, _, _, _, _, _, _, _, _, _, _, _, _, _, _, _, _, _, _, _, _, _, _, _, _, _, _, _, _, _, _, _, _, _, _, _, _, _, _, _, _, _, _, _, _, _, ⟨i + 1, ob ++ sb, tb ++ yb, pk ++ [y], _, by omega, by go_num, rfl, rfl, HOn.out⟩, rfl⟩
               | exact ⟨_, _, _, _, _, _, _, _, _, _, _, _, _, _, _, _, _, _, _, _, _, _, _, _, _, _, _, _, _, _, _, _, _, _, _, _, _, _, _, _, _, _, _, _, _, _, _, _, _, _, _, _, _, _, _, _, _, _, _, _, _, _, _, _, _, _, _, _, _, _, _, _, _, _, _, _, _, _, _, _, _, _, _, _, _, _, _, _, _, _, ⟨i + 1, ob ++ sb, tb ++ yb, pk ++ [y], _, by omega, by go_num, rfl, rfl, HOn.out⟩, rfl⟩
               | exact ⟨_, _, _, _, _, _, _, _, _, _, _, _, _, _, _, _, _, _, _, _, _, _, _, _, _, _, _, _, _, _, _, _, _, _, _, _, _, _, _, _, _, _, _, _, _, _, _, _, _, _, _, _, _, _, _, _, _, _, _, _, _, _, _, _, _, _, _, _, _, _, _, _, _, _, _, _, _, _, _, _, _, _, _, _, _, _, _, _, _, _, _, ⟨i + 1, ob ++ sb, tb ++ yb, pk ++ [y], _, by omega, by go_num, rfl, rfl, HOn.out⟩, rfl⟩
               | exact ⟨_, _, _, _, _, _, _, _, _, _, _, _, _, _, _, _, _, _, _, _, _, _, _, _, _, _, _, _, _, _, _, _, _, _, _, _, _, _, _, _, _, _, _, _, _, _, _, _, _, _, _, _, _, _, _, _, _, _, _, _, _, _, _, _, _, _, _, _, _, _, _, _, _, _, _, _, _, _, _, _, _, _, _, _, _, _, _, _, _, _, _, _, ⟨i + 1, ob ++ sb, tb ++ yb, pk ++ [y], _, by omega, by go_num, rfl, rfl, HOn.out⟩, rfl⟩
               | exact ⟨_, _, _, _, _, _, _, _, _, _, _, _, _, _, _, _, _, _, _, _, _, _, _, _, _, _, _, _, _, _, _, _, _, _, _, _, _, _, _, _, _, _, _, _, _, _, _, _, _, _, _, _, _, _, _, _, _, _, _, _, _, _, _, _, _, _, _, _, _, _, _, _, _, _, _, _, _, _, _, _, _, _, _, _, _, _, _, _, _, _, _, _, _, ⟨i + 1, ob ++ sb, tb ++ yb, pk ++ [y], _, by omega, by go_num, rfl, rfl, HOn.out⟩, rfl⟩
               | exact ⟨_, _, _, _, _, _, _, _, _, _, _, _, _, _, _, _, _, _, _, _, _, _, _, _, _, _, _, _, _, _, _, _, _, _, _, _, _, _, _, _, _, _, _, _, _, _, _, _, _, _, _, _, _, _, _, _, _, _, _, _, _, _, _, _, _, _, _, _, _, _, _, _, _, _, _, _, _, _, _, _, _, _, _, _, _, _, _, _, _, _, _, _, _, _, ⟨i + 1, ob ++ sb, tb ++ yb, pk ++ [y], _, by omega, by go_num, rfl, rfl, HOn.out⟩, rfl⟩
               | exact ⟨_, _, _, _, _, _, _, _, _, _, _, _, _, _, _, _, _, _, _, _, _, _, _, _, _, _, _, _, _, _, _, _, _, _, _, _, _, _, _, _, _, _, _, _, _, _, _, _, _, _, _, _, _, _, _, _, _, _, _, _, _, _, _, _, _, _, _, _, _, _, _, _, _, _, _, _, _, _, _, _, _, _, _, _, _, _, _, _, _, _, _, _, _, _, _, ⟨i + 1, ob ++ sb, tb ++ yb, pk ++ [y], _, by omega, by go_num, rfl, rfl, HOn.out⟩, rfl⟩
               | exact ⟨_, _, _, _, _, _, _, _, _, _, _, _, _, _, _, _, _, _, _, _, _, _, _, _, _, _, _, _, _, _, _, _, _, _, _, _, _, _, _, _, _, _, _, _, _, _, _, _, _, _, _, _, _, _, _, _, _, _, _, _, _, _, _, _, _, _, _, _, _, _, _, _, _, _, _, _, _, _, _, _, _, _, _, _, _, _, _, _, _, _, _, _, _, _, _, _, ⟨i + 1, ob ++ sb, tb ++ yb, pk ++ [y], _, by omega, by go_num, rfl, rfl, HOn.out⟩, rfl⟩
               | exact ⟨_, _, _, _, _, _, _, _, _, _, _, _, _, _, _, _, _, _, _, _, _, _, _, _, _, _, _, _, _, _, _, _, _, _, _, _, _, _, _, _, _, _, _, _, _, _, _, _, _, _, _, _, _, _, _, _, _, _, _, _, _, _, _, _, _, _, _, _, _, _, _, _, _, _, _, _, _, _, _, _, _, _, _, _, _, _, _, _, _, _, _, _, _, _, _, _, _, ⟨i + 1, ob ++ sb, tb ++ yb, pk ++ [y], _, by omega, by go_num, rfl, rfl, HOn.out⟩, rfl⟩
               | exact ⟨_, _, _, _, _, _, _, _, _, _, _, _, _, _, _, _, _, _, _, _, _, _, _, _, _, _, _, _, _, _, _, _, _, _, _, _, _, _, _, _, _, _, _, _, _, _, _, _, _, _, _, _, _, _, _, _, _, _, _, _, _, _, _, _, _, _, _, _, _, _, _, _, _, _, _, _, _, _, _, _, _, _, _, _, _, _, _, _, _, _, _, _, _, _, _, _, _, _, ⟨i + 1, ob ++ sb, tb ++ yb, pk ++ [y], _, by omega, by go_num, rfl, rfl, HOn.out⟩, rfl⟩
               | exact ⟨_, _, _, _, _, _, _, _, _, _, _, _, _, _, _, _, _, _, _, _, _, _, _, _, _, _, _, _, _, _, _, _, _, _, _, _, _, _, _, _, _, _, _, _, _, _, _, _, _, _, _, _, _, _, _, _, _, _, _, _, _, _, _, _, _, _, _, _, _, _, _, _, _, _, _, _, _, _, _, _, _, _, _, _, _, _, _, _, _, _, _, _, _, _, _, _, _, _, _, ⟨i + 1, ob ++ sb, tb ++ yb, pk ++ [y], _, by omega, by go_num, rfl, rfl, HOn.out⟩, rfl⟩
               | exact ⟨_, _, _, _, _, _, _, _, _, _, _, _, _, _, _, _, _, _, _, _, _, _, _, _, _, _, _, _, _, _, _, _, _, _, _, _, _, _, _, _, _, _, _, _, _, _, _, _, _, _, _, _, _, _, _, _, _, _, _, _, _, _, _, _, _, _, _, _, _, _, _, _, _, _, _, _, _, _, _, _, _, _, _, _, _, _, _, _, _, _, _, _, _, _, _, _, _, _, _, _, ⟨i + 1, ob ++ sb, tb ++ yb, pk ++ [y], _, by omega, by go_num, rfl, rfl, HOn.out⟩, rfl⟩
               | exact ⟨_, _, _, _, _, _, _, _, _, _, _, _, _, _, _, _, _, _, _, _, _, _, _, _, _, _, _, _, _, _, _, _, _, _, _, _, _, _, _, _, _, _, _, _, _, _, _, _, _, _, _, _, _, _, _, _, _, _, _, _, _, _, _, _, _, _, _, _, _, _, _, _, _, _, _, _, _, _, _, _, _, _, _, _, _, _, _, _, _, _, _, _, _, _, _, _, _, _, _, _, _, ⟨i + 1, ob ++ sb, tb ++ yb, pk ++ [y], _, by omega, by go_num, rfl, rfl, HOn.out⟩, rfl⟩
               | exact ⟨_, _, _, _, _, _, _, _, _, _, _, _, _, _, _, _, _, _, _, _, _, _, _, _, _, _, _, _, _, _, _, _, _, _, _, _, _, _, _, _, _, _, _, _, _, _, _, _, _, _, _, _, _, _, _, _, _, _, _, _, _, _, _, _, _, _, _, _, _, _, _, _, _, _, _, _, _, _, _, _, _, _, _, _, _, _, _, _, _, _, _, _, _, _, _, _, _, _, _, _, _, _, ⟨i + 1, ob ++ sb, tb ++ yb, pk ++ [y], _, by omega, by go_num, rfl, rfl, HOn.out⟩, rfl⟩
               | exact ⟨_, _, _, _, _, _, _, _, _, _, _, _, _, _, _, _, _, _, _, _, _, _, _, _, _, _, _, _, _, _, _, _, _, _, _, _, _, _, _, _, _, _, _, _, _, _, _, _, _, _, _, _, _, _, _, _, _, _, _, _, _, _, _, _, _, _, _, _, _, _, _, _, _, _, _, _, _, _, _, _, _, _, _, _, _, _, _, _, _, _, _, _, _, _, _, _, _, _, _, _, _, _, _, ⟨i + 1, ob ++ sb, tb ++ yb, pk ++ [y], _, by omega, by go_num, rfl, rfl, HOn.out⟩, rfl⟩
               | exact ⟨_, _, _, _, _, _, _, _, _, _, _, _, _, _, _, _, _, _, _, _, _, _, _, _, _, _, _, _, _, _, _, _, _, _, _, _, _, _, _, _, _, _, _, _, _, _, _, _, _, _, _, _, _, _, _, _, _, _, _, _, _, _, _, _, _, _, _, _, _, _, _, _, _, _, _, _, _, _, _, _, _, _, _, _, _, _, _, _, _, _, _, _, _, _, _, _, _, _, _, _, _, _, _, _, _, _, _, _, _, _, _, ⟨i + 1, ob ++ sb, tb ++ yb, pk ++ [y], _, by omega, by go_num, rfl, rfl, HOn.out⟩, rfl⟩
               | exact ⟨_, _, _, _, _, _, _, _, _, _, _, _, _, _, _, _, _, _, _, _, _, _, _, _, _, _, _, _, _, _, _, _, _, _, _, _, _, _, _, _, _, _, _, _, _, _, _, _, _, _, _, _, _, _, _, _, _, _, _, _, _, _, _, _, _, _, _, _, _, _, _, _, _, _, _, _, _, _, _, _, _, _, _, _, _, _, _, _, _, _, _, _, _, _, _, _, _, _, _, _, _, _, _, _, _, _, _, _, _, _, _, _, ⟨i + 1, ob ++ sb, tb ++ yb, pk ++ [y], _, by omega, by go_num, rfl, rfl, HOn.out⟩, rfl⟩
               | exact ⟨_, _, _, _, _, _, _, _, _, _, _, _, _, _, _, _, _, _, _, _, _, _, _, _, _, _, _, _, _, _, _, _, _, _, _, _, _, _, _, _, _, _, _, _, _, _, _, _, _, _, _, _, _, _, _, _, _, _, _, _, _, _, _, _, _, _, _, _, _, _, _, _, _, _, _, _, _, _, _, _, _, _, _, _, _, _, _, _, _, _, _, _, _, _, _, _, _, _, _, _, _, _, _, _, _, _, _, _, _, _, _, _, _, ⟨i + 1, ob ++ sb, tb ++ yb, pk ++ [y], _, by omega, by go_num, rfl, rfl, HOn.out⟩, rfl⟩
               | exact ⟨_, _, _, _, _, _, _, _, _, _, _, _, _, _, _, _, _, _, _, _, _, _, _, _, _, _, _, _, _, _, _, _, _, _, _, _, _, _, _, _, _, _, _, _, _, _, _, _, _, _, _, _, _, _, _, _, _, _, _, _, _, _, _, _, _, _, _, _, _, _, _, _, _, _, _, _, _, _, _, _, _, _, _, _, _, _, _, _, _, _, _, _, _, _, _, _, _, _, _, _, _, _, _, _, _, _, _, _, _, _, _, _, _, _, ⟨i + 1, ob ++ sb, tb ++ yb, pk ++ [y], _, by omega, by go_num, rfl, rfl, HOn.out⟩, rfl⟩
               | exact ⟨_, _, _, _, _, _, _, _, _, _, _, _, _, _, _, _, _, _, _, _, _, _, _, _, _, _, _, _, _, _, _, _, _, _, _, _, _, _, _, _, _, _, _, _, _, _, _, _, _, _, _, _, _, _, _, _, _, _, _, _, _, _, _, _, _, _, _, _, _, _, _, _, _, _, _, _, _, _, _, _, _, _, _, _, _, _, _, _, _, _, _, _, _, _, _, _, _, _, _, _, _, _, _, _, _, _, _, _, _, _, _, _, _, _, _, ⟨i + 1, ob ++ sb, tb ++ yb, pk ++ [y], _, by omega, by go_num, rfl, rfl, HOn.out⟩, rfl⟩
               | exact ⟨_, _, _, _, _, _, _, _, _, _, _, _, _, _, _, _, _, _, _, _, _, _, _, _, _, _, _, _, _, _, _, _, _, _, _, _, _, _, _, _, _, _, _, _, _, _, _, _, _, _, _, _, _, _, _, _, _, _, _, _, _, _, _, _, _, _, _, _, _, _, _, _, _, _, _, _, _, _, _, _, _, _, _, _, _, _, _, _, _, _, _, _, _, _, _, _, _, _, _, _, _, _, _, _, _, _, _, _, _, _, _, _, _, _, _, _, ⟨i + 1, ob ++ sb, tb ++ yb, pk ++ [y], _, by omega, by go_num, rfl, rfl, HOn.out⟩, rfl⟩
               | exact ⟨_, _, _, _, _, _, _, _, _, _, _, _, _, _, _, _, _, _, _, _, _, _, _, _, _, _, _, _, _, _, _, _, _, _, _, _, _, _, _, _, _, _, _, _, _, _, _, _, _, _, _, _, _, _, _, _, _, _, _, _, _, _, _, _, _, _, _, _, _, _, _, _, _, _, _, _, _, _, _, _, _, _, _, _, _, _, _, _, _, _, _, _, _, _, _, _, _, _, _, _, _, _, _, _, _, _, _, _, _, _, _, _, _, _, _, _, _, ⟨i + 1, ob ++ sb, tb ++ yb, pk ++ [y], _, by omega, by go_num, rfl, rfl, HOn.out⟩, rfl⟩
               | exact ⟨_, _, _, _, _, _, _, _, _, _, _, _, _, _, _, _, _, _, _, _, _, _, _, _, _, _, _, _, _, _, _, _, _, _, _, _, _, _, _, _, _, _, _, _, _, _, _, _, _, _, _, _, _, _, _, _, _, _, _, _, _, _, _, _, _, _, _, _, _, _, _, _, _, _, _, _, _, _, _, _, _, _, _, _, _, _, _, _, _, _, _, _, _, _, _, _, _, _, _, _, _, _, _, _, _, _, _, _, _, _, _, _, _, _, _, _, _, _, ⟨i + 1, ob ++ sb, tb ++ yb, pk ++ [y], _, by omega, by go_num, rfl, rfl, HOn.out⟩, rfl⟩
               | exact ⟨_, _, _, _, _, _, _, _, _, _, _, _, _, _, _, _, _, _, _, _, _, _, _, _, _, _, _, _, _, _, _, _, _, _, _, _, _, _, _, _, _, _, _, _, _, _, _, _, _, _, _, _, _, _, _, _, _, _, _, _, _, _, _, _, _, _, _, _, _, _, _, _, _, _, _, _, _, _, _, _, _, _, _, _, _, _, _, _, _, _, _, _, _, _, _, _, _, _, _, _, _, _, _, _, _, _, _, _, _, _, _, _, _, _, _, _, _, _, _, ⟨i + 1, ob ++ sb, tb ++ yb, pk ++ [y], _, by omega, by go_num, rfl, rfl, HOn.out⟩, rfl⟩
               | exact ⟨_, _, _, _, _, _, _, _, _, _, _, _, _, _, _, _, _, _, _, _, _, _, _, _, _, _, _, _, _, _, _, _, _, _, _, _, _, _, _, _, _, _, _, _, _, _, _, _, _, _, _, _, _, _, _, _, _, _, _, _, _, _, _, _, _, _, _, _, _, _, _, _, _, _, _, _, _, _, _, _, _, _, _, _, _, _, _, _, _, _, _, _, _, _, _, _, _, _, _, _, _, _, _, _, _, _, _, _, _, _, _, _, _, _, _, _, _, _, _, _, ⟨i + 1, ob ++ sb, tb ++ yb, pk ++ [y], _, by omega, by go_num, rfl, rfl, HOn.out⟩, rfl⟩
               | exact ⟨_, _, _, _, _, _, _, _, _, _, _, _, _, _, _, _, _, _, _, _, _, _, _, _, _, _, _, _, _, _, _, _, _, _, _, _, _, _, _, _, _, _, _, _, _, _, _, _, _, _, _, _, _, _, _, _, _, _, _, _, _, _, _, _, _, _, _, _, _, _, _, _, _, _, _, _, _, _, _, _, _, _, _, _, _, _, _, _, _, _, _, _, _, _, _, _, _, _, _, _, _, _, _, _, _, _, _, _, _, _, _, _, _, _, _, _, _, _, _, _, _, ⟨i + 1, ob ++ sb, tb ++ yb, pk ++ [y], _, by omega, by go_num, rfl, rfl, HOn.out⟩, rfl⟩
               | exact ⟨_, _, _, _, _, _, _, _, _, _, _, _, _, _, _, _, _, _, _, _, _, _, _, _, _, _, _, _, _, _, _, _, _, _, _, _, _, _, _, _, _, _, _, _, _, _, _, _, _, _, _, _, _, _, _, _, _, _, _, _, _, _, _, _, _, _, _, _, _, _, _, _, _, _, _, _, _, _, _, _, _, _, _, _, _, _, _, _, _, _, _, _, _, _, _, _, _, _, _, _, _, _, _, _, _, _, _, _, _, _, _, _, _, _, _, _, _, _, _, _, _, _, ⟨i + 1, ob ++ sb, tb ++ yb, pk ++ [y], _, by omega, by go_num, rfl, rfl, HOn.out⟩, rfl⟩
               | exact ⟨_, _, _, _, _, _, _, _, _, _, _, _, _, _, _, _, _, _, _, _, _, _, _, _, _, _, _, _, _, _, _, _, _, _, _, _, _, _, _, _, _, _, _, _, _, _, _, _, _, _, _, _, _, _, _, _, _, _, _, _, _, _, _, _, _, _, _, _, _, _, _, _, _, _, _, _, _, _, _, _, _, _, _, _, _, _, _, _, _, _, _, _, _, _, _, _, _, _, _, _, _, _, _, _, _, _, _, _, _, _, _, _, _, _, _, _, _, _, _, _, _, _, _, ⟨i + 1, ob ++ sb, tb ++ yb, pk ++ [y], _, by omega, by go_num, rfl, rfl, HOn.out⟩, rfl⟩
               | exact ⟨_, _, _, _, _, _, _, _, _, _, _, _, _, _, _, _, _, _, _, _, _, _, _, _, _, _, _, _, _, _, _, _, _, _, _, _, _, _, _, _, _, _, _, _, _, _, _, _, _, _, _, _, _, _, _, _, _, _, _, _, _, _, _, _, _, _, _, _, _, _, _, _, _, _, _, _, _, _, _, _, _, _, _, _, _, _, _, _, _, _, _, _, _, _, _, _, _, _, _, _, _, _, _, _, _, _, _, _, _, _, _, _, _, _, _, _, _, _, _, _, _, _, _, _, ⟨i + 1, ob ++ sb, tb ++ yb, pk ++ [y], _, by omega, by go_num, rfl, rfl, HOn.out⟩, rfl⟩
             case measure => simp [RowKit.intOf]; omega
           · have hpk' : ¬ ((i : Int) < (M : Int)) := by omega
             have hk1 : (0 : Int) ≤ (cl : Int) := by omega
             have hkw : IntKind.i64.wrap 1 = 1 := by decide
             have hk2 : (1 : Int) ≤ (n : Int) := by omega
             have hk5 : (0 : Int) < (n : Int) := by omega
             have hn0 : ¬ n = 0 := by omega
             have hn1 : ((n : Int) == 0) = false := by simp; omega
             have hn2 : ¬ (n : Int) = 0 := by omega
             have hk4 : ¬ cl = 0 := by omega
             obtain ⟨y, hy⟩ : ∃ y, lf[0]? = some y := ⟨_, List.getElem?_eq_getElem (by rw [hn.out]; omega)⟩
             have x2 : wr.cell? ⟨gl, ol, none⟩ = some (sv y) := HLc.out 0 y hy
             obtain ⟨yb, hyb, hyd⟩ : ∃ yb : ByteArray, sv y = .string yb ∧ yb.data.toList = y := ⟨⟨y.toArray⟩, rfl, by simp⟩
             rw [hyb] at x2
             have hc2 : ¬ 9223372036854775807 < tb.size + yb.size := by
               have h1 := HO.out.tl
               have h2 := HB.out y (HO.out.perm.mem_iff.1 (List.mem_append_right _ (List.mem_of_getElem? hy)))
               have h3 : yb.size = y.length := by rw [Lib.size_eq, hyd]
               have h4 : i ≤ 30 := by omega
               have h5 : i * 140737488355328 ≤ 30 * 140737488355328 := Nat.mul_le_mul_right _ h4
               omega
             have HPre : Hid (Sl wr (.slice (some ⟨gl, ol, none⟩) 0 cl) (lf.take (0))) := Lib.hid ⟨⟨some ⟨gl, ol, none⟩, cl, by rw [List.length_take, hn.out, Nat.min_eq_left (by omega)], by rw [List.length_take, hn.out]; omega, HCl.out.2, by
               by_cases h0 : lf.take (0) = []
               · exact Or.inl h0
               · refine Or.inr ⟨gl, ol, rfl, HGl.out, fun j z hz => HLc.out j z ?_⟩
                 rw [List.getElem?_take] at hz
                 split at hz
                 · exact hz
                 · cases hz⟩, fun z hz => HO.out.sl.len z (List.mem_of_mem_take hz)⟩
             have HPl : Hid ((lf.take (0)).length = 0) := Lib.hid (by rw [List.length_take, hn.out]; omega)
             obtain ⟨ad, hao, HAD⟩ : ∃ ad : Addr, (if cl = 1 then some (⟨gl, ol, none⟩ : Addr) else some ⟨gl, ol + (1), none⟩) = some ad ∧ Hid (n - (1) = 0 ∨ ad = ⟨gl, ol + (1), none⟩) := by
               by_cases e : cl = 1
               · exact ⟨_, by rw [if_pos e], Or.inl (by omega)⟩
               · exact ⟨_, by rw [if_neg e], Or.inr rfl⟩
             have HNw := Lib.hid (rest_news (k := 1) hn.out HLc.out HAD.out)
             clear HAD
             go_wp2_with fail
             refine wp_region_held_drew (S := (fun W => Below wr.heap.size wr W)) (by kernel_rfl) ((Below.refl _ _).drew) (fun hS => ?_)
             refine takA (i := 1) (d := some 117) (v := .slice (some ⟨gl, ol, none⟩) n cl) hS ?_
             simp only [AP]
             refine takA (i := 2) (d := some 118) (v := .int .i64 0) hS ?_
             simp only [AP]
             refine takA (i := 3) (d := some 119) (v := .slice (some ⟨gl, ol, none⟩) 0 cl) hS ?_
             simp only [AP]
             refine takA (i := 5) (d := some 121) (v := .slice (some ⟨gl, ol, none⟩) n cl) hS ?_
             simp only [AP]
             refine takA (i := 6) (d := some 122) (v := .int .i64 0) hS ?_
             simp only [AP]
             refine takA (i := 7) (d := some 123) (v := .int .i64 (1)) hS ?_
             simp only [AP]
             refine takA (i := 8) (d := some 124) (v := .slice (some ad) (n - (1)) (cl - (1))) hS ?_
             simp only [AP]
             refine calA 0 fun KF hK => ?_
             rw [if_pos (by rfl)]
             refine oy_nilS rfl ?_
             obtain ⟨V1, hV1⟩ : ∃ V1, wr.drew.alloc (.cells #[] 9) = V1 := ⟨_, rfl⟩
             have HV1 : Hid (V1.ownsRow wr.heap.size 9 1 (.slice (some ⟨wr.drew.heap.size, 0, none⟩) 0 0) 0 []) := Lib.hid (by rw [← hV1]; exact makeY (Nat.le_refl _))
             have HS1 : Hid (Below wr.heap.size wr V1) := Lib.hid (by rw [← hV1]; exact ((Below.refl _ wr).drew).alloc (Nat.le_refl _) _)
             rw [hV1]
             refine hK.out _ _ HS1.out ?_
             clear hS
             intro hS
             clear hK KF
             try simp only [AP]
             clear hV1
             refine calA 4 fun KF hK => ?_
             rw [if_pos (by rfl)]
             refine oy_copyS (B := wr.heap.size) (ts := lf.take (0)) rfl rfl rfl ((HPre.out).later hS) HPl.out (by omega) hS.size HV1.out ?_
             intro v1 V2 hown1 hb2
             have HS2 : Hid (Below wr.heap.size wr V2) := Lib.hid (hS.trans (hb2.mono hS.size))
             have HV2 : Hid (Sr V2 wr.heap.size v1 (lf.take (0))) := Lib.hid hown1
             clear hown1 hb2 HV1 HS1
             refine hK.out _ _ HS2.out ?_
             clear hS
             intro hS
             clear hK KF
             try simp only [AP]
             refine calA 9 fun KF hK => ?_
             rw [if_pos (by rfl)]
             refine wp_append_own _ _ _ rfl wr.heap.size 9 i0 (.string ⟨#[]⟩) 1 16 Tryd.underlying50 hi0 hz0 hz1 hz2 rfl (by omega) v1 (lf.take (0)).length (svs (lf.take (0))) rfl HV2.out ad (n - (1)) (cl - (1)) (svs (lf.drop (1))) rfl (by rw [HNw.out.1, Nat.mul_one]) (fun j u hj => box_cellY hS (HNw.out.2 j u hj)) (svs_one _) (by rw [HPl.out]; unfold maxLen; omega) (by rw [HPl.out]; omega) hS.size ?_
             intro v2 V3 hown1 hgrow1
             have HS3 : Hid (Below wr.heap.size wr V3) := Lib.hid (hS.grown hgrow1 hS.size (fun q hq => (World.ownsRow.lt HV2.out q hq).1))
             have HV3 : Hid (Sr V3 wr.heap.size v2 (lf.take (0) ++ lf.drop (1))) := Lib.hid (by
               show V3.ownsRow _ _ _ _ _ _
               rw [show svs (lf.take (0) ++ lf.drop (1)) = svs (lf.take (0)) ++ svs (lf.drop (1)) by simp [svs], List.length_append, List.length_drop, hn.out]
               exact hown1)
             clear hown1 hgrow1
             refine hK.out _ _ HS3.out ?_
             clear hS
             intro hS
             clear hK KF
             try simp only [AP]
             refine takA (i := 10) (d := some 7) (v := v2) hS ?_
             simp only [AP]
             refine wpAnyH_done (by kernel_rfl) ?_ _
             clear hS
             have HOn : Hid (Oz w V3 ls (i + 1) (ob ++ sb) (tb ++ yb) v2 (pk ++ [y]) (lf.take (0) ++ lf.drop (0 + 1))) := Lib.hid (HO.out.step HB.out hx.out hy HG.out (by rw [add_bytes, hsd.out]) (by rw [add_bytes, hyd]) (HO.out.bel.trans (HS3.out.mono HO.out.bel.size)) (Sr.sl HV3.out (fun z hz => HO.out.sl.len z (by
               rcases List.mem_append.1 hz with hz | hz
               · exact List.mem_of_mem_take hz
               · exact List.mem_of_mem_drop hz))))
             clear hao hy hyd hc2 HPre HPl HNw HS2 HS3 HV2 HV3 x2 hn0 hn1 hn2 hk1 hk2 hk4 hk5 hkw
             go_wp2_with fail
             go_roundw
             case rel =>
               first
               | exact ⟨_, _, _, _, _, _, _, _, _, _, _, _, _, _, _, _, _, _, _, _, _, _, _, _, _, _, _, _, _, _, _, _, _, _, _, _, _, _, _, _, _, _, _, _, _, _, _, _, _, _, _, _, _, _, _, _, _, _, _, _, _, _, _, _, _, _, _, _, _, _, _, _, _, _, _, _, _, _, _, _, _, _, _, _, _, _, _, _, _, _, _, _, _, _, _, _, _, _, _, _, _, _, _, _, _, _, _, ⟨i + 1, ob ++ sb, tb ++ yb, pk ++ [y], _, by omega, by go_num, rfl, rfl, HOn.out⟩, rfl⟩
               | exact ⟨_, _, _, _, _, _, _, _, _, _, _, _, _, _, _, _, _, _, _, _, _, _, _, _, _, _, _, _, _, _, _, _, _, _, _, _, _, _, _, _, _, _, _, _, _, _, _, _, _, _, _, _, _, _, _, _, _, _, _, _, _, _, _, _, _, _, _, _, _, _, _, _, _, _, _, _, _, _, _, _, _, _, _, _, _, _, _, _, _, _, _, _, _, _, _, _, _, _, _, _, _, _, _, _, _, _, ⟨i + 1, ob ++ sb, tb ++ yb, pk ++ [y], _, by omega, by go_num, rfl, rfl, HOn.out⟩, rfl⟩
               | exact ⟨_, _, _, _, _, _, _, _, _, _, _, _, _, _, _, _, _, _, _, _, _, _, _, _, _, _, _, _, _, _, _, _, _, _, _, _, _, _, _, _, _, _, _, _, _, _, _, _, _, _, _, _, _, _, _, _, _, _, _, _, _, _, _, _, _, _, _, _, _, _, _, _, _, _, _, _, _, _, _, _, _, _, _, _, _, _, _, _, _, _, _, _, _, _, _, _, _, _, _, _, _, _, _, _, _, _, _, _, ⟨i + 1, ob ++ sb, tb ++ yb, pk ++ [y], _, by omega, by go_num, rfl, rfl, HOn.out⟩, rfl⟩
               | exact ⟨_, _, _, _, _, _, _, _, _, _, _, _, _, _, _, _, _, _, _, _, _, _, _, _, _, _, _, _, _, _, _, _, _, _, _, _, _, _, _, _, _, _, _, _, _, _, _, _, _, _, _, _, _, _, _, _, _, _, _, _, _, _, _, _, _, _, _, _, _, _, _, _, _, _, _, _, _, _, _, _, _, _, _, _, _, _, _, _, _, _, _, _, _, _, _, _, _, _, _, _, _, _, _, _, _, ⟨i + 1, ob ++ sb, tb ++ yb, pk ++ [y], _, by omega, by go_num, rfl, rfl, HOn.out⟩, rfl⟩
               | exact ⟨_, _, _, _, _, _, _, _, _, _, _, _, _, _, _, _, _, _, _, _, _, _, _, _, _, _, _, _, _, _, _, _, _, _, _, _, _, _, _, _, _, _, _, _, _, _, _, _, _, _, _, _, _, _, _, _, _, _, _, _, _, _, _, _, _, _, _, _, _, _, _, _, _, _, _, _, _, _, _, _, _, _, _, _, _, _, _, _, _, _, _, _, _, _, _, _, _, _, _, _, _, _, _, _, _, _, _, _, _, ⟨i + 1, ob ++ sb, tb ++ yb, pk ++ [y], _, by omega, by go_num, rfl, rfl, HOn.out⟩, rfl⟩
               | exact ⟨_, _, _, _, _, _, _, _, _, _, _, _, _, _, _, _, _, _, _, _, _, _, _, _, _, _, _, _, _, _, _, _, _, _, _, _, _, _, _, _, _, _, _, _, _, _, _, _, _, _, _, _, _, _, _, _, _, _, _, _, _, _, _, _, _, _, _, _, _, _, _, _, _, _, _, _, _, _, _, _, _, _, _, _, _, _, _, _, _, _, _, _, _, _, _, _, _, _, _, _, _, _, _, _, ⟨i + 1, ob ++ sb, tb ++ yb, pk ++ [y], _, by omega, by go_num, rfl, rfl, HOn.out⟩, rfl⟩
               | exact ⟨_, _, _, _, _, _, _, _, _, _, _, _, _, _, _, _, _, _, _, _, _, _, _, _, _, _, _, _, _, _, _, _, _, _, _, _, _, _, _, _, _, _, _, _, _, _, _, _, _, _, _, _, _, _, _, _, _, _, _, _, _, _, _, _, _, _, _, _, _, _, _, _, _, _, _, _, _, _, _, _, _, _, _, _, _, _, _, _, _, _, _, _, _, _, _, _, _, _, _, _, _, _, _, _, _, _, _, _, _, _, ⟨i + 1, ob ++ sb, tb ++ yb, pk ++ [y], _, by omega, by go_num, rfl, rfl, HOn.out⟩, rfl⟩
               | exact ⟨_, _, _, _, _, _, _, _, _, _, _, _, _, _, _, _, _, _, _, _, _, _, _, _, _, _, _, _, _, _, _, _, _, _, _, _, _, _, _, _, _, _, _, _, _, _, _, _, _, _, _, _, _, _, _, _, _, _, _, _, _, _, _, _, _, _, _, _, _, _, _, _, _, _, _, _, _, _, _, _, _, _, _, _, _, _, _, _, _, _, ⟨i + 1, ob ++ sb, tb ++ yb, pk ++ [y], _, by omega, by go_num, rfl, rfl, HOn.out⟩, rfl⟩
               | exact ⟨_, _, _, _, _, _, _, _, _, _, _, _, _, _, _, _, _, _, _, _, _, _, _, _, _, _, _, _, _, _, _, _, _, _, _, _, _, _, _, _, _, _, _, _, _, _, _, _, _, _, _, _, _, _, _, _, _, _, _, _, _, _, _, _, _, _, _, _, _, _, _, _, _, _, _, _, _, _, _, _, _, _, _, _, _, _, _, _, _, _, _, ⟨i + 1, ob ++ sb, tb ++ yb, pk ++ [y], _, by omega, by go_num, rfl, rfl, HOn.out⟩, rfl⟩
               | exact ⟨_, _, _, _, _, _, _, _, _, _, _, _, _, _, _, _, _, _, _, _, _, _, _, _, _, _, _, _, _, _, _, _, _, _, _, _, _, _, _, _, _, _, _, _, _, _, _, _, _, _, _, _, _, _, _, _, _, _, _, _, _, _, _, _, _, _, _, _, _, _, _, _, _, _, _, _, _, _, _, _, _, _, _, _, _, _, _, _, _, _, _, _, ⟨i + 1, ob ++ sb, tb ++ yb, pk ++ [y], _, by omega, by go_num, rfl, rfl, HOn.out⟩, rfl⟩
               | exact ⟨_, _, _, _, _, _, _, _, _, _, _, _, _, _, _, _, _, _, _, _, _, _, _, _, _, _, _, _, _, _, _, _, _, _, _, _, _, _, _, _, _, _, _, _, _, _, _, _, _, _, _, _, _, _, _, _, _, _, _, _, _, _, _, _, _, _, _, _, _, _, _, _, _, _, _, _, _, _, _, _, _, _, _, _, _, _, _, _, _, _, _, _, _, ⟨i + 1, ob ++ sb, tb ++ yb, pk ++ [y], _, by omega, by go_num, rfl, rfl, HOn.out⟩, rfl⟩
               | exact ⟨_, _, _, _, _, _, _, _, _, _, _, _, _, _, _, _, _, _, _, _, _, _, _, _, _, _, _, _, _, _, _, _, _, _, _, _, _, _, _, _, _, _, _, _, _, _, _, _, _, _, _, _, _, _, _, _, _, _, _, _, _, _, _, _, _, _, _, _, _, _, _, _, _, _, _, _, _, _, _, _, _, _, _, _, _, _, _, _, _, _, _, _, _, _, ⟨i + 1, ob ++ sb, tb ++ yb, pk ++ [y], _, by omega, by go_num, rfl, rfl, HOn.out⟩, rfl⟩
               | exact ⟨_, _, _, _, _, _, _, _, _, _, _, _, _, _, _, _, _, _, _, _, _, _, _, _, _, _, _, _, _, _, _, _, _, _, _, _, _, _, _, _, _, _, _, _, _, _, _, _, _, _, _, _, _, _, _, _, _, _, _, _, _, _, _, _, _, _, _, _, _, _, _, _, _, _, _, _, _, _, _, _, _, _, _, _, _, _, _, _, _, _, _, _, _, _, _, ⟨i + 1, ob ++ sb, tb ++ yb, pk ++ [y], _, by omega, by go_num, rfl, rfl, HOn.out⟩, rfl⟩
               | exact ⟨_, _, _, _, _, _, _, _, _, _, _, _, _, _, _, _, _, _, _, _, _, _, _, _, _, _, _, _, _, _, _, _, _, _, _, _, _, _, _, _, _, _, _, _, _, _, _, _, _, _, _, _, _, _, _, _, _, _, _, _, _, _, _, _, _, _, _, _, _, _, _, _, _, _, _, _, _, _, _, _, _, _, _, _, _, _, _, _, _, _, _, _, _, _, _, _, ⟨i + 1, ob ++ sb, tb ++ yb, pk ++ [y], _, by omega, by go_num, rfl, rfl, HOn.out⟩, rfl⟩
               | exact ⟨_, _, _, _, _, _, _, _, _, _, _, _, _, _, _, _, _, _, _, _, _, _, _, _, _, _, _, _, _, _, _, _, _, _, _, _, _, _, _, _, _, _, _, _, _, _, _, _, _, _, _, _, _, _, _, _, _, _, _, _, _, _, _, _, _, _, _, _, _, _, _, _, _, _, _, _, _, _, _, _, _, _, _, _, _, _, _, _, _, _, _, _, _, _, _, _, _, ⟨i + 1, ob ++ sb, tb ++ yb, pk ++ [y], _, by omega, by go_num, rfl, rfl, HOn.out⟩, rfl⟩
               | exact ⟨_, _, _, _, _, _, _, _, _, _, _, _, _, _, _, _, _, _, _, _, _, _, _, _, _, _, _, _, _, _, _, _, _, _, _, _, _, _, _, _, _, _, _, _, _, _, _, _, _, _, _, _, _, _, _, _, _, _, _, _, _, _, _, _, _, _, _, _, _, _, _, _, _, _, _, _, _, _, _, _, _, _, _, _, _, _, _, _, _, _, _, _, _, _, _, _, _, _, ⟨i + 1, ob ++ sb, tb ++ yb, pk ++ [y], _, by omega, by go_num, rfl, rfl, HOn.out⟩, rfl⟩
               | exact ⟨_, _, _, _, _, _, _, _, _, _, _, _, _, _, _, _, _, _, _, _, _, _, _, _, _, _, _, _, _, _, _, _, _, _, _, _, _, _, _, _, _, _, _, _, _, _, _, _, _, _, _, _, _, _, _, _, _, _, _, _, _, _, _, _, _, _, _, _, _, _, _, _, _, _, _, _, _, _, _, _, _, _, _, _, _, _, _, _, _, _, _, _, _, _, _, _, _, _, _, ⟨i + 1, ob ++ sb, tb ++ yb, pk ++ [y], _, by omega, by go_num, rfl, rfl, HOn.out⟩, rfl⟩
               | exact ⟨_, _, _, _, _, _, _, _, _, _, _, _, _, _, _, _, _, _, _, _, _, _, _, _, _, _, _, _, _, _, _, _, _, _, _, _, _, _, _, _, _, _, _, _, _, _, _, _, _, _, _, _, _, _, _, _, _, _, _, _, _, _, _, _, _, _, _, _, _, _, _, _, _, _, _, _, _, _, _, _, _, _, _, _, _, _, _, _, _, _, _, _, _, _, _, _, _, _, _, _, ⟨i + 1, ob ++ sb, tb ++ yb, pk ++ [y], _, by omega, by go_num, rfl, rfl, HOn.out⟩, rfl⟩
               | exact ⟨_, _, _, _, _, _, _, _, _, _, _, _, _, _, _, _, _, _, _, _, _, _, _, _, _, _, _, _, _, _, _, _, _, _, _, _, _, _, _, _, _, _, _, _, _, _, _, _, _, _, _, _, _, _, _, _, _, _, _, _, _, _, _, _, _, _, _, _, _, _, _, _, _, _, _, _, _, _, _, _, _, _, _, _, _, _, _, _, _, _, _, _, _, _, _, _, _, _, _, _, _, ⟨i + 1, ob ++ sb, tb ++ yb, pk ++ [y], _, by omega, by go_num, rfl, rfl, HOn.out⟩, rfl⟩
               | exact ⟨_, _, _, _, _, _, _, _, _, _, _, _, _, _, _, _, _, _, _, _, _, _, _, _, _, _, _, _, _, _, _, _, _, _, _, _, _, _, _, _, _, _, _, _, _, _, _, _, _, _, _, _, _, _, _, _, _, _, _, _, _, _, _, _, _, _, _, _, _, _, _, _, _, _, _, _, _, _, _, _, _, _, _, _, _, _, _, _, _, _, _, _, _, _, _, _, _, _, _, _, _, _, ⟨i + 1, ob ++ sb, tb ++ yb, pk ++ [y], _, by omega, by go_num, rfl, rfl, HOn.out⟩, rfl⟩
               | exact ⟨_, _, _, _, _, _, _, _, _, _, _, _, _, _, _, _, _, _, _, _, _, _, _, _, _, _, _, _, _, _, _, _, _, _, _, _, _, _, _, _, _, _, _, _, _, _, _, _, _, _, _, _, _, _, _, _, _, _, _, _, _, _, _, _, _, _, _, _, _, _, _, _, _, _, _, _, _, _, _, _, _, _, _, _, _, _, _, _, _, _, _, _, _, _, _, _, _, _, _, _, _, _, _, ⟨i + 1, ob ++ sb, tb ++ yb, pk ++ [y], _, by omega, by go_num, rfl, rfl, HOn.out⟩, rfl⟩
               | exact ⟨_, _, _, _, _, _, _, _, _, _, _, _, _, _, _, _, _, _, _, _, _, _, _, _, _, _, _, _, _, _, _, _, _, _, _, _, _, _, _, _, _, _, _, _, _, _, _, _, _, _, _, _, _, _, _, _, _, _, _, _, _, _, _, _, _, _, _, _, _, _, _, _, _, _, _, _, _, _, _, _, _, _, _, _, _, _, _, _, _, _, _, _, _, _, _, _, _, _, _, _, _, _, _, _, _, _, _, _, _, _, _, ⟨i + 1, ob ++ sb, tb ++ yb, pk ++ [y], _, by omega, by go_num, rfl, rfl, HOn.out⟩, rfl⟩
               | exact ⟨_, _, _, _, _, _, _, _, _, _, _, _, _, _, _, _, _, _, _, _, _, _, _, _, _, _, _, _, _, _, _, _, _, _, _, _, _, _, _, _, _, _, _, _, _, _, _, _, _, _, _, _, _, _, _, _, _, _, _, _, _, _, _, _, _, _, _, _, _, _, _, _, _, _, _, _, _, _, _, _, _, _, _, _, _, _, _, _, _, _, _, _, _, _, _, _, _, _, _, _, _, _, _, _, _, _, _, _, _, _, _, _, ⟨i + 1, ob ++ sb, tb ++ yb, pk ++ [y], _, by omega, by go_num, rfl, rfl, HOn.out⟩, rfl⟩
               | exact ⟨_, _, _, _, _, _, _, _, _, _, _, _, _, _, _, _, _, _, _, _, _, _, _, _, _, _, _, _, _, _, _, _, _, _, _, _, _, _, _, _, _, _, _, _, _, _, _, _, _, _, _, _, _, _, _, _, _, _, _, _, _, _, _, _, _, _, _, _, _, _, _, _, _, _, _, _, _, _, _, _, _, _, _, _, _, _, _, _, _, _, _, _, _, _, _, _, _, _, _, _, _, _, _, _, _, _, _, _, _, _, _, _, _, ⟨i + 1, ob ++ sb, tb ++ yb, pk ++ [y], _, by omega, by go_num, rfl, rfl, HOn.out⟩, rfl⟩
               | exact ⟨_, _, _, _, _, _, _, _, _, _, _, _, _, _, _, _, _, _, _, _, _, _, _, _, _, _, _, _, _, _, _, _, _, _, _, _, _, _, _, _, _, _, _, _, _, _, _, _, _, _, _, _, _, _, _, _, _, _, _, _, _, _, _, _, _, _, _, _, _, _, _, _, _, _, _, _, _, _, _, _, _, _, _, _, _, _, _, _, _, _, _, _, _, _, _, _, _, _, _, _, _, _, _, _, _, _, _, _, _, _, _, _, _, _, ⟨i + 1, ob ++ sb, tb ++ yb, pk ++ [y], _, by omega, by go_num, rfl, rfl, HOn.out⟩, rfl⟩
               | exact ⟨_, _, _, _, _, _, _, _, _, _, _, _, _, _, _, _, _, _, _, _, _, _, _, _, _, _, _, _, _, _, _, _, _, _, _, _, _, _, _, _, _, _, _, _, _, _, _, _, _, _, _, _, _, _, _, _, _, _, _, _, _, _, _, _, _, _, _, _, _, _, _, _, _, _, _, _, _, _, _, _, _, _, _, _, _, _, _, _, _, _, _, _, _, _, _, _, _, _, _, _, _, _, _, _, _, _, _, _, _, _, _, _, _, _, _, ⟨i + 1, ob ++ sb, tb ++ yb, pk ++ [y], _, by omega, by go_num, rfl, rfl, HOn.out⟩, rfl⟩
               | exact ⟨_, _, _, _, _, _, _, _, _, _, _, _, _, _, _, _, _, _, _, _, _, _, _, _, _, _, _, _, _, _, _, _, _, _, _, _, _, _, _, _, _, _, _, _, _, _, _, _, _, _, _, _, _, _, _, _, _, _, _, _, _, _, _, _, _, _, _, _, _, _, _, _, _, _, _, _, _, _, _, _, _, _, _, _, _, _, _, _, _, _, _, _, _, _, _, _, _, _, _, _, _, _, _, _, _, _, _, _, _, _, _, _, _, _, _, _, ⟨i + 1, ob ++ sb, tb ++ yb, pk ++ [y], _, by omega, by go_num, rfl, rfl, HOn.out⟩, rfl⟩
               | exact ⟨_, _, _, _, _, _, _, _, _, _, _, _, _, _, _, _, _, _, _, _, _, _, _, _, _, _, _, _, _, _, _, _, _, _, _, _, _, _, _, _, _, _, _, _, _, _, _, _, _, _, _, _, _, _, _, _, _, _, _, _, _, _, _, _, _, _, _, _, _, _, _, _, _, _, _, _, _, _, _, _, _, _, _, _, _, _, _, _, _, _, _, _, _, _, _, _, _, _, _, _, _, _, _, _, _, _, _, _, _, _, _, _, _, _, _, _, _, ⟨i + 1, ob ++ sb, tb ++ yb, pk ++ [y], _, by omega, by go_num, rfl, rfl, HOn.out⟩, rfl⟩
               | exact ⟨_, _, _, _, _, _, _, _, _, _, _, _, _, _, _, _, _, _, _, _, _, _, _, _, _, _, _, _, _, _, _, _, _, _, _, _, _, _, _, _, _, _, _, _, _, _, _, _, _, _, _, _, _, _, _, _, _, _, _, _, _, _, _, _, _, _, _, _, _, _, _, _, _, _, _, _, _, _, _, _, _, _, _, _, _, _, _, _, _, _, _, _, _, _, _, _, _, _, _, _, _, _, _, _, _, _, _, _, _, _, _, _, _, _, _, _, _, _, ⟨i + 1, ob ++ sb, tb ++ yb, pk ++ [y], _, by omega, by go_num, rfl, rfl, HOn.out⟩, rfl⟩
               | exact ⟨_, _, _, _, _, _, _, _, _, _, _, _, _, _, _, _, _, _, _, _, _, _, _, _, _, _, _, _, _, _, _, _, _, _, _, _, _, _, _, _, _, _, _, _, _, _, _, _, _, _, _, _, _, _, _, _, _, _, _, _, _, _, _, _, _, _, _, _, _, _, _, _, _, _, _, _, _, _, _, _, _, _, _, _, _, _, _, _, _, _, _, _, _, _, _, _, _, _, _, _, _, _, _, _, _, _, _, _, _, _, _, _, _, _, _, _, _, _, _, ⟨i + 1, ob ++ sb, tb ++ yb, pk ++ [y], _, by omega, by go_num, rfl, rfl, HOn.out⟩, rfl⟩
               | exact ⟨_, _, _, _, _, _, _, _, _, _, _, _, _, _, _, _, _, _, _, _, _, _, _, _, _, _, _, _, _, _, _, _, _, _, _, _, _, _, _, _, _, _, _, _, _, _, _, _, _, _, _, _, _, _, _, _, _, _, _, _, _, _, _, _, _, _, _, _, _, _, _, _, _, _, _, _, _, _, _, _, _, _, _, _, _, _, _, _, _, _, _, _, _, _, _, _, _, _, _, _, _, _, _, _, _, _, _, _, _, _, _, _, _, _, _, _, _, _, _, _, ⟨i + 1, ob ++ sb, tb ++ yb, pk ++ [y], _, by omega, by go_num, rfl, rfl, HOn.out⟩, rfl⟩
               | exact ⟨_, _, _, _, _, _, _, _, _, _, _, _, _, _, _, _, _, _, _, _, _, _, _, _, _, _, _, _, _, _, _, _, _, _, _, _, _, _, _, _, _, _, _, _, _, _, _, _, _, _, _, _, _, _, _, _, _, _, _, _, _, _, _, _, _, _, _, _, _, _, _, _, _, _, _, _, _, _, _, _, _, _, _, _, _, _, _, _, _, _, _, _, _, _, _, _, _, _, _, _, _, _, _, _, _, _, _, _, _, _, _, _, _, _, _, _, _, _, _, _, _, ⟨i + 1, ob ++ sb, tb ++ yb, pk ++ [y], _, by omega, by go_num, rfl, rfl, HOn.out⟩, rfl⟩
               | exact ⟨_, _, _, _, _, _, _, _, _, _, _, _, _, _, _, _, _, _, _, _, _, _, _, _, _, _, _, _, _, _, _, _, _, _, _, _, _, _, _, _, _, _, _, _, _, _, _, _, _, _, _, _, _, _, _, _, _, _, _, _, _, _, _, _, _, _, _, _, _, _, _, _, _, _, _, _, _, _, _, _, _, _, _, _, _, _, _, _, _, _, _, _, _, _, _, _, _, _, _, _, _, _, _, _, _, _, _, _, _, _, _, _, _, _, _, _, _, _, _, _, _, _, ⟨i + 1, ob ++ sb, tb ++ yb, pk ++ [y], _, by omega, by go_num, rfl, rfl, HOn.out⟩, rfl⟩
               | exact ⟨_, _, _, _, _, _, _, _, _, _, _, _, _, _, _, _, _, _, _, _, _, _, _, _, _, _, _, _, _, _, _, _, _, _, _, _, _, _, _, _, _, _, _, _, _, _, _, _, _, _, _, _, _, _, _, _, _, _, _, _, _, _, _, _, _, _, _, _, _, _, _, _, _, _, _, _, _, _, _, _, _, _, _, _, _, _, _, _, _, _, _, _, _, _, _, _, _, _, _, _, _, _, _, _, _, _, _, _, _, _, _, _, _, _, _, _, _, _, _, _, _, _, _, ⟨i + 1, ob ++ sb, tb ++ yb, pk ++ [y], _, by omega, by go_num, rfl, rfl, HOn.out⟩, rfl⟩
               | exact ⟨_, _, _, _, _, _, _, _, _, _, _, _, _, _, _, _, _, _, _, _, _, _, _, _, _, _, _, _, _, _, _, _, _, _, _, _, _, _, _, _, _, _, _, _, _, _, _, _, _, _, _, _, _, _, _, _, _, _, _, _, _, _, _, _, _, _, _, _, _, _, _, _, _, _, _, _, _, _, _, _, _, _, _, _, _, _, _, _, _, _, _, _, _, _, _, _, _, _, _, _, _, _, _, _, _, _, _, _, _, _, _, _, _, _, _, _, _, _, _, _, _, _, _, _, ⟨i + 1, ob ++ sb, tb ++ yb, pk ++ [y], _, by omega, by go_num, rfl, rfl, HOn.out⟩, rfl⟩
             case measure => simp [RowKit.intOf]; omega
   · obtain rfl : i = N := by omega
     have hlt' : ¬ ((i : Int) < (i : Int)) := by omega
     have HQ : Hid ((∀ x ∈ ls, WOk x) ∧ pk.Perm ls) := Lib.hid (by
       have h1 := HO.out.len
       have h2 : lf = [] := List.length_eq_zero_iff.1 (by rw [hN.out] at h1; omega)
       have h3 := HO.out.good
       have h4 := HO.out.perm
       rw [← hN.out, List.take_length] at h3
       rw [h2, List.append_nil] at h4
       exact ⟨h3, h4⟩)
     have HL1 : Hid (ob.data.toList.length ≤ 100000 ∧ tb.data.toList.length ≤ 100000) := Lib.hid (by
       have h1 := flat_len ls HQ.out.1
       have h2 := flat_len pk (fun x hx => HQ.out.1 x (HQ.out.2.mem_iff.1 hx))
       have h3 := HQ.out.2.length_eq
       have h4 := hN.out
       rw [HO.out.one, HO.out.other, ← hN.out, List.take_length]
       omega)
     have HS2 : Hid (prsS f ob.data.toList = prsS f tb.data.toList) := Lib.hid (by
       rw [HO.out.one, HO.out.other, ← hN.out, List.take_length]
       exact ord_end f HQ.out.1 HQ.out.2)
     have HEq := Lib.hid (prs_self HF.out ob.data.toList)
     have HPa : Hid (∀ W, T8 W → Calls Tryd.prog 13 #[.string ob] W fun e w' => e = .returned (.tuple #[.agg (pls (prsS f ob.data.toList).1).toArray, .int .i64 (prsS f ob.data.toList).2]) ∧ Below W.heap.size W w') := Lib.hid (fun W h => parse_any HF.out ob _ W h rfl HL1.out.1)
     have HPb : Hid (∀ W, T8 W → Calls Tryd.prog 13 #[.string tb] W fun e w' => e = .returned (.tuple #[.agg (pls (prsS f ob.data.toList).1).toArray, .int .i64 (prsS f ob.data.toList).2]) ∧ Below W.heap.size W w') := Lib.hid (fun W h => by
       have := parse_any HF.out tb _ W h rfl HL1.out.2
       rw [← HS2.out] at this
       exact this)
     have H0 : Hid (True ∧ Below w.heap.size w wr) := Lib.hid ⟨trivial, HO.out.bel⟩
     generalize (prsS f ob.data.toList).1 = q at *
     generalize (prsS f ob.data.toList).2 = er at *
     obtain ⟨W0, hW0⟩ : ∃ W0, W0 = wr := ⟨_, rfl⟩
     subst hW0
     clear HQ HL1 HS2 HO HA HB HF HLm HP HS
     go_upto_region 22 with fail
     refine wp_region_lit ?_
     refine wpList_moveY rfl 5 _ rfl rfl ?_
     simp only [Act.put, List.setIfInBounds_toArray, List.set_cons_succ, List.set_cons_zero]
     refine wpl_parseT rfl rfl rfl (HPa.out W0 (HT.out.later H0.out.2)) ?_
     rintro e X0 ⟨rfl, hb⟩
     refine ⟨_, rfl, ?_⟩
     simp only [Act.put, List.setIfInBounds_toArray, List.set_cons_succ, List.set_cons_zero]
     refine wpList_moveY rfl 128 _ rfl rfl ?_
     simp only [Act.put, List.setIfInBounds_toArray, List.set_cons_succ, List.set_cons_zero]
     refine wpl_extr (i := 0) rfl rfl rfl rfl ?_
     simp only [Act.put, List.setIfInBounds_toArray, List.set_cons_succ, List.set_cons_zero]
     refine wpl_extr (i := 1) rfl rfl rfl rfl ?_
     simp only [Act.put, List.setIfInBounds_toArray, List.set_cons_succ, List.set_cons_zero]
     refine wpList_allocP rfl rfl ?_
     intro Y0 hpy hby hsy
     simp only [Act.put, List.setIfInBounds_toArray, List.set_cons_succ, List.set_cons_zero]
     refine wpList_storeP rfl _ _ rfl X0.heap.size pz q rfl rfl hpy ?_
     intro W1 hpz hoz hsz
     obtain ⟨B1, hB1⟩ : ∃ b, X0.heap.size = b := ⟨_, rfl⟩
     have hbz : Below W0.heap.size W0 W1 := (hb.trans (hby.mono hb.size)).trans (hoz.below hb.size (Nat.le_trans hb.size hby.size))
     have H1 : Hid (Pl W1 B1 q ∧ Below w.heap.size w W1) := Lib.hid ⟨by rw [← hB1]; exact hpz, H0.out.2.trans (hbz.mono H0.out.2.size)⟩
     rw [hB1]
     clear hb hpy hby hsy hpz hoz hsz hbz hB1 H0 HPa
     go_upto_region 23 with fail
     refine wp_region_lit ?_
     refine wpList_moveY rfl 6 _ rfl rfl ?_
     simp only [Act.put, List.setIfInBounds_toArray, List.set_cons_succ, List.set_cons_zero]
     refine wpl_parseT rfl rfl rfl (HPb.out W1 (HT.out.later H1.out.2)) ?_
     rintro e X1 ⟨rfl, hb⟩
     refine ⟨_, rfl, ?_⟩
     simp only [Act.put, List.setIfInBounds_toArray, List.set_cons_succ, List.set_cons_zero]
     refine wpList_moveY rfl 133 _ rfl rfl ?_
     simp only [Act.put, List.setIfInBounds_toArray, List.set_cons_succ, List.set_cons_zero]
     refine wpl_extr (i := 0) rfl rfl rfl rfl ?_
     simp only [Act.put, List.setIfInBounds_toArray, List.set_cons_succ, List.set_cons_zero]
     refine wpl_extr (i := 1) rfl rfl rfl rfl ?_
     simp only [Act.put, List.setIfInBounds_toArray, List.set_cons_succ, List.set_cons_zero]
     refine wpList_allocP rfl rfl ?_
     intro Y1 hpy hby hsy
     simp only [Act.put, List.setIfInBounds_toArray, List.set_cons_succ, List.set_cons_zero]
     refine wpList_storeP rfl _ _ rfl X1.heap.size pz q rfl rfl hpy ?_
     intro W2 hpz hoz hsz
     obtain ⟨B2, hB2⟩ : ∃ b, X1.heap.size = b := ⟨_, rfl⟩
     have hbz : Below W1.heap.size W1 W2 := (hb.trans (hby.mono hb.size)).trans (hoz.below hb.size (Nat.le_trans hb.size hby.size))
     have H2 : Hid ((Pl W2 B1 q ∧ Pl W2 B2 q) ∧ Below w.heap.size w W2) := Lib.hid ⟨⟨CB.later H1.out.1 hbz, by rw [← hB2]; exact hpz⟩, H1.out.2.trans (hbz.mono H1.out.2.size)⟩
     rw [hB2]
     clear hb hpy hby hsy hpz hoz hsz hbz hB2 H1 HPb
     go_upto_region 24 with fail
     refine wp_region_lit ?_
     refine wpl_loadG (p := q) rfl rfl rfl H2.out.1.1 ?_
     simp only [Act.put, List.setIfInBounds_toArray, List.set_cons_succ, List.set_cons_zero]
     refine wpl_loadG (p := q) rfl rfl rfl H2.out.1.2 ?_
     simp only [Act.put, List.setIfInBounds_toArray, List.set_cons_succ, List.set_cons_zero]
     refine wpl_eqPG rfl rfl rfl rfl HEq.out ?_
     simp only [Act.put, List.setIfInBounds_toArray, List.set_cons_succ, List.set_cons_zero]
     refine wpList_moveY rfl 138 _ rfl rfl ?_
     simp only [Act.put, List.setIfInBounds_toArray, List.set_cons_succ, List.set_cons_zero]
     refine wpl_moveG rfl rfl rfl ?_
     simp only [Act.put, List.setIfInBounds_toArray, List.set_cons_succ, List.set_cons_zero]
     refine wpl_moveG rfl rfl rfl ?_
     simp only [Act.put, List.setIfInBounds_toArray, List.set_cons_succ, List.set_cons_zero]
     refine wpl_eqTG (b := true) rfl rfl rfl rfl (by simp) ?_
     simp only [Act.put, List.setIfInBounds_toArray, List.set_cons_succ, List.set_cons_zero]
     refine wpl_pick (b := true) rfl rfl rfl rfl ?_
     simp only [Act.put, List.setIfInBounds_toArray, List.set_cons_succ, List.set_cons_zero]
     go_wp2_with fail
     go_ret
     exact ⟨rfl, H2.out.2⟩
end
end Go.Proofs.YtkgnlobakicnjaaDoor
