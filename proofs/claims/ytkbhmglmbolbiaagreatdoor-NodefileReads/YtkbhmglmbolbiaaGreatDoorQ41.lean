/- Own texts, put together: Qh Qi Qia Qj Qk. -/
import Derived.Test.YtkbhmglmbolbiaaGreatDoorQ8
import Derived.Test.YtkbhmglmbolbiaaGreatDoorQ10
import Derived.Test.YtkbhmglmbolbiaaGreatDoorQ32
import Derived.Test.YtkbhmglmbolbiaaGreatDoorQ40
import Derived.Deep.DeepCutAuto
namespace Go.Proofs.YtkbhmglmbolbiaaGreatDoor
/- Package nodefile: the first number is asked of a closure; rowOf. -/
section
set_option maxRecDepth 100000
open Go.RowKit Go.Shelf Go.Lib
def stW (w : World) (Bf : Nat) (a : Option Addr) (i c : Nat) (z : Bool) (k : Int) (m : Bool) (n : Int) : World :=
 if i = 0 then (w.setCell ⟨Bf, 1, none⟩ (.bool (n == 0))).alloc (.cells (fcs a 0 c (n == 0) k m) 29) else w.alloc (.cells (fcs a i c z k m) 29)
set_option maxHeartbeats 1000000 in
theorem stand_any (Bf : Nat) (a : Option Addr) (i c : Nat) (z : Bool) (k : Int) (m : Bool) (n : Int) (w : World) (h : CB w Bf (fcs a i c z k m) 29) (hi : i ≤ 100000000) :
   Calls Tryz.prog 33 #[.int .i64 n, .pointer (some ⟨Bf, 0, none⟩)] w fun e w' => e = .returned (.bool (mayN i z n)) ∧ w' = stW w Bf a i c z k m n := by
 have c0 : w.cell? ⟨Bf, 0, none⟩ = some (.slice a i c) := h.cell 0 (by simp)
 have c1 : w.cell? ⟨Bf, 1, none⟩ = some (.bool z) := h.cell 1 (by simp)
 have c2 : w.cell? ⟨Bf, 2, none⟩ = some (.int .i64 k) := h.cell 2 (by simp)
 have c3 : w.cell? ⟨Bf, 3, none⟩ = some (.bool m) := h.cell 3 (by simp)
 have f1 : w.frozen? ⟨Bf, 1, none⟩ = false := h.frozen 1
 by_cases h0 : i = 0
 · subst h0
   unfold stW
   rw [if_pos rfl]
   have hs := h.set 1 (.bool (n == 0))
   have d0 : (w.setCell ⟨Bf, 1, none⟩ (.bool (n == 0))).cell? ⟨Bf, 0, none⟩ = some (.slice a 0 c) := hs.cell 0 (by simp)
   have d1 : (w.setCell ⟨Bf, 1, none⟩ (.bool (n == 0))).cell? ⟨Bf, 1, none⟩ = some (.bool (n == 0)) := hs.cell 1 (by simp)
   have d2 : (w.setCell ⟨Bf, 1, none⟩ (.bool (n == 0))).cell? ⟨Bf, 2, none⟩ = some (.int .i64 k) := hs.cell 2 (by simp)
   have d3 : (w.setCell ⟨Bf, 1, none⟩ (.bool (n == 0))).cell? ⟨Bf, 3, none⟩ = some (.bool m) := hs.cell 3 (by simp)
   have HM : Hid (mayN 0 z n = (n == (if (n == 0) = true then 0 else 0 + 1))) := Lib.hid (by
     unfold mayN
     by_cases e : n = 0
     · simp [e]
     · simp [e])
   have HN : Hid (∀ W, Calls Tryz.prog 34 #[.agg #[.slice a 0 c, .bool (n == 0), .int .i64 k, .bool m], .int .i64 0] W fun e w' => e = .returned (.int .i64 (if (n == 0) = true then 0 else 0 + 1)) ∧ w' = W.alloc (.cells #[.slice a 0 c, .bool (n == 0), .int .i64 k, .bool m] 29)) := Lib.hid fun W => number_any _ _ _ _ 0 W (by omega) (by omega)
   rw [HM.out]
   clear h hs HM hi
   obtain ⟨b, hb⟩ : ∃ b : Bool, (n == 0) = b := ⟨_, rfl⟩
   go_enter Tryz.func33, Tryz.ntmps33
   rw [hb] at d0 d1 d2 d3 HN ⊢
   go_wp2_with (first
     | (go_at_call 34; refine (HN.out _).mono ?_; rintro e w' ⟨rfl, rfl⟩))
   all_goals
     go_ret
     exact ⟨rfl, rfl⟩
 · unfold stW
   rw [if_neg h0]
   have h0' : ¬ ((i : Int) = 0) := by omega
   have HM : Hid (mayN i z n = (n == (if z = true then (i : Int) else (i : Int) + 1))) := Lib.hid (by unfold mayN; rw [if_neg h0])
   have HN : Hid (∀ W, Calls Tryz.prog 34 #[.agg #[.slice a i c, .bool z, .int .i64 k, .bool m], .int .i64 (i : Nat)] W fun e w' => e = .returned (.int .i64 (if z = true then (i : Int) else (i : Int) + 1)) ∧ w' = W.alloc (.cells #[.slice a i c, .bool z, .int .i64 k, .bool m] 29)) := Lib.hid fun W => number_any _ _ _ _ _ W (by omega) (by omega)
   rw [HM.out]
   clear h HM
   obtain ⟨q, hq⟩ : ∃ q : Int, (if z = true then (i : Int) else (i : Int) + 1) = q := ⟨_, rfl⟩
   rw [hq] at HN ⊢
   go_enter Tryz.func33, Tryz.ntmps33
   go_wp2_with (first
     | (go_at_call 34; refine (HN.out _).mono ?_; rintro e w' ⟨rfl, rfl⟩))
   go_ret
   exact ⟨rfl, rfl⟩
structure Ob2 (B C : Nat) (w w' : World) : Prop where
 os : w'.os = w.os
 tape : w'.tape = w.tape
 output : w'.output = w.output
 size : w.heap.size ≤ w'.heap.size
 block : ∀ k, k < w.heap.size → k ≠ B → k ≠ C → w'.heap[k]? = w.heap[k]?
theorem Ob.two {B C : Nat} {w w' : World} (h : Ob B w w') : Ob2 B C w w' := ⟨h.os, h.tape, h.output, h.size, fun k hk h1 _ => h.block k hk h1⟩
theorem Ob.two' {B C : Nat} {w w' : World} (h : Ob C w w') : Ob2 B C w w' := ⟨h.os, h.tape, h.output, h.size, fun k hk _ h1 => h.block k hk h1⟩
theorem Ob2.trans {B C : Nat} {a b c : World} (h : Ob2 B C a b) (k : Ob2 B C b c) : Ob2 B C a c := ⟨k.os.trans h.os, k.tape.trans h.tape, k.output.trans h.output, Nat.le_trans h.size k.size, fun i hi h1 h2 => (k.block i (Nat.lt_of_lt_of_le hi h.size) h1 h2).trans (h.block i hi h1 h2)⟩
theorem Ob2.cb {B C b t : Nat} {cs : Array Value} {w w' : World} (h : Ob2 B C w w') (hc : CB w b cs t) (h1 : b ≠ B) (h2 : b ≠ C) : CB w' b cs t := by
 unfold CB
 rw [h.block b hc.lt h1 h2]; exact hc
theorem stW_facts {w : World} {Bf : Nat} {a : Option Addr} {i c : Nat} {z : Bool} {k : Int} {m : Bool} (n : Int) (h : CB w Bf (fcs a i c z k m) 29) : CB (stW w Bf a i c z k m n) Bf (fcs a i c (if i = 0 then n == 0 else z) k m) 29 ∧ Ob Bf w (stW w Bf a i c z k m n) := by
 unfold stW
 by_cases h0 : i = 0
 · subst h0
   rw [if_pos rfl, if_pos rfl]
   have hs : CB (w.setCell ⟨Bf, 1, none⟩ (.bool (n == 0))) Bf (fcs a 0 c (n == 0) k m) 29 := by have := h.set 1 (.bool (n == 0)); simpa using this
   have hb : Below (w.setCell ⟨Bf, 1, none⟩ (.bool (n == 0))).heap.size (w.setCell ⟨Bf, 1, none⟩ (.bool (n == 0))) ((w.setCell ⟨Bf, 1, none⟩ (.bool (n == 0))).alloc (.cells (fcs a 0 c (n == 0) k m) 29)) := (Below.refl _ _).alloc (Nat.le_refl _) _
   exact ⟨hs.later hb, (Ob.set _ _ _ _).trans (Ob.of_below hb)⟩
 · rw [if_neg h0, if_neg h0]
   have hb : Below w.heap.size w (w.alloc (.cells (fcs a i c z k m) 29)) := (Below.refl _ _).alloc (Nat.le_refl _) _
   exact ⟨h.later hb, Ob.of_below hb⟩
set_option maxHeartbeats 2000000 in
theorem whole_stand {N : Nat} (B Bf : Nat) (ws : List Bs) (e : Int) (a : Option Addr) (i c : Nat) (z : Bool) (k : Int) (m : Bool) (w : World) (h : Rs N w B ws e) (hw : e = 0 → ∃ x r, ws = x :: r ∧ x.length ≤ 1000000) (hf : CB w Bf (fcs a i c z k m) 29) (hne : Bf ≠ B) (hi : i ≤ 100000000) :
   Calls Tryz.prog 57 #[.pointer (some ⟨B, 0, none⟩), .func (.func 33) #[] #[.pointer (some ⟨Bf, 0, none⟩)]] w fun v w' => (∃ q, v = .returned (.int .i64 q)) ∧ Rs N w' B ws.tail (nx e (intE (mayN i z) (ws.getD 0 []))) ∧ Ob2 B Bf w w' ∧ ∃ z', CB w' Bf (fcs a i c z' k m) 29 ∧ (nx e (intE (mayN i z) (ws.getD 0 [])) = 0 → z' = zN i z (ws.getD 0 [])) := by
 obtain ⟨l, h1, h2⟩ := h
 by_cases he : e = 0
 · subst he
   obtain ⟨x, r, rfl, hx⟩ := hw rfl
   have h1' : CB w B #[l, .nilIface] 125 := h1
   cases hn : rdInt x with
   | none =>
     obtain ⟨l', g1, gB, g2⟩ := whole_none B l x r (.func (.func 33) #[] #[.pointer (some ⟨Bf, 0, none⟩)]) w h1' (h2 rfl).1 hx hn
     refine g2.mono ?_
     rintro v w' ⟨rfl, rfl⟩
     have e4 : nx 0 (intE (mayN i z) ((x :: r).getD 0 [])) = 4 := by simp [nx, intE, hn]
     refine ⟨⟨0, rfl⟩, ⟨l', ?_, fun e0 => ?_⟩, ((Ob.set _ _ _ _).trans (Ob.set _ _ _ _)).two, z, (hf.other hne _).other hne _, fun e0 => ?_⟩
     · have := (h1.set 0 l').set 1 (erI 4)
       rw [e4]
       simpa [erV] using this
     · rw [e4] at e0; cases e0
     · rw [e4] at e0; cases e0
   | some n =>
     obtain ⟨l', g1, gB, _, g2⟩ := word_take B l x r w h1' (h2 rfl).1
     have HK : Hid (Bk N l') := Lib.hid (fun b hb => (h2 rfl).2 b (gB ▸ hb))
     have G2 := Lib.hid g2
     have HI := Lib.hid (fun w => int_x x n 0 w hx (Or.inl ⟨rfl, hn⟩))
     have hh : CB (w.setCell ⟨B, 0, none⟩ l') B #[l', .nilIface] 125 := by have := h1'.set 0 l'; simpa using this
     have hf1 := hf.other (i := 0) hne l'
     obtain ⟨hf2, ho2⟩ := stW_facts n hf1
     have hh2 : CB (stW (w.setCell ⟨B, 0, none⟩ l') Bf a i c z k m n) B #[l', .nilIface] 125 := ho2.cb hh (Ne.symm hne)
     have HO : Hid (Ob2 B Bf w (stW (w.setCell ⟨B, 0, none⟩ l') Bf a i c z k m n)) := Lib.hid ((Ob.set B 0 w l').two.trans ho2.two')
     have HF2 := Lib.hid hf2
     have HH := Lib.hid hh2
     have HZ : Hid ((if i = 0 then n == 0 else z) = zN i z x) := Lib.hid (by unfold zN; rw [hn]; split <;> simp)
     obtain ⟨b, hm⟩ : ∃ b : Bool, mayN i z n = b := ⟨_, rfl⟩
     have HF : Hid (Calls Tryz.prog 33 #[.int .i64 n, .pointer (some ⟨Bf, 0, none⟩)] (w.setCell ⟨B, 0, none⟩ l') fun e w' => e = .returned (.bool b) ∧ w' = stW (w.setCell ⟨B, 0, none⟩ l') Bf a i c z k m n) := Lib.hid (by rw [← hm]; exact stand_any Bf a i c z k m n _ hf1 hi)
     have HE : Hid (nx 0 (intE (mayN i z) ((x :: r).getD 0 [])) = if b then 0 else 4) := Lib.hid (by show nx 0 (intE (mayN i z) x) = _; unfold nx intE; rw [hn, ← hm]; rfl)
     have hlt : ∀ y, Sl (w.setCell ⟨B, 0, none⟩ y) l' r → Ob Bf (w.setCell ⟨B, 0, none⟩ y) (stW (w.setCell ⟨B, 0, none⟩ y) Bf a i c z k m n) → Sl (stW (w.setCell ⟨B, 0, none⟩ y) Bf a i c z k m n) l' r := fun y hs ho => by
       obtain ⟨⟨a1, c1, q1, q2, q3, q4⟩, q5⟩ := hs
       refine ⟨⟨a1, c1, q1, q2, q3, ?_⟩, q5⟩
       rcases q4 with q4 | ⟨g, off, q6, q7, q8⟩
       · exact Or.inl q4
       · refine Or.inr ⟨g, off, q6, Nat.lt_of_lt_of_le q7 ho.size, fun j s hj => ?_⟩
         have q9 := q8 j s hj
         refine ho.cell q9 (fun e => ?_)
         subst e
         have hc := hf.other (i := 0) hne y
         unfold CB at hc
         simp only [World.cell?, hc] at q9
         have h10 : (fcs a i c z k m)[off + j]? = some (sv s) := by simpa using q9
         rcases Nat.lt_or_ge (off + j) 4 with hlt | hge
         · have : off + j = 0 ∨ off + j = 1 ∨ off + j = 2 ∨ off + j = 3 := by omega
           rcases this with e | e | e | e <;> rw [e] at h10 <;> simp at h10
         · rw [Array.getElem?_eq_none (by simpa using hge)] at h10
           cases h10
     have HS := Lib.hid (hlt l' g1 ho2)
     obtain ⟨W1, hW1⟩ : ∃ W1, w.setCell ⟨B, 0, none⟩ l' = W1 := ⟨_, rfl⟩
     rw [hW1] at G2 HF HF2 HO HH HS
     obtain ⟨W2, hW2⟩ : ∃ W2, stW W1 Bf a i c z k m n = W2 := ⟨_, rfl⟩
     rw [hW2] at HF HF2 HO HH HS
     clear g1 g2 gB hm hn hx h1 h1' h2 hw hlt hh hh2 hf1 hf2 ho2 hf hW1 hW2
     cases b
     · go_enter Tryz.func57, Tryz.ntmps57
       go_wp2_with (first
         | (go_at_call 97; refine G2.out.mono ?_; rintro e w' ⟨rfl, rfl⟩)
         | (go_at_call 96; refine (HI.out _).mono ?_; rintro e w' ⟨rfl, rfl⟩)
         | (go_at_call 33; refine HF.out.mono ?_; rintro e w' ⟨rfl, rfl⟩)
         | (go_at_call 61; refine (hold_set B l' 4 _ HH.out).mono ?_; rintro e w' ⟨rfl, rfl⟩))
       go_ret
       have e4 : nx 0 (intE (mayN i z) ((x :: r).getD 0 [])) = 4 := HE.out
       refine ⟨⟨n, rfl⟩, ⟨l', ?_, fun e0 => ?_⟩, HO.out.trans (Ob.set _ _ _ _).two, _, HF2.out.other hne _, fun e0 => ?_⟩
       · have := HH.out.set 1 (erI 4)
         rw [e4]
         simpa [erV] using this
       · rw [e4] at e0; cases e0
       · rw [e4] at e0; cases e0
     · go_enter Tryz.func57, Tryz.ntmps57
       go_wp2_with (first
         | (go_at_call 97; refine G2.out.mono ?_; rintro e w' ⟨rfl, rfl⟩)
         | (go_at_call 96; refine (HI.out _).mono ?_; rintro e w' ⟨rfl, rfl⟩)
         | (go_at_call 33; refine HF.out.mono ?_; rintro e w' ⟨rfl, rfl⟩)
         | (go_at_call 61; refine (hold_ok B l' 4 _ HH.out).mono ?_; rintro e w' ⟨rfl, rfl⟩))
       go_ret
       have e4 : nx 0 (intE (mayN i z) ((x :: r).getD 0 [])) = 0 := HE.out
       refine ⟨⟨n, rfl⟩, ⟨l', ?_, fun e0 => ⟨HS.out, HK.out⟩⟩, HO.out, _, HF2.out, fun e0 => HZ.out⟩
       rw [e4]
       exact HH.out
 · rw [erV_no he] at h1
   refine (whole_was B l e _ w h1).mono ?_
   rintro v w' ⟨rfl, rfl⟩
   refine ⟨⟨0, rfl⟩, ⟨l, by simpa [nx, he, erV_no he] using h1, fun e0 => absurd e0 (by simp [nx, he])⟩, (Ob.refl _ _).two, z, hf, fun e0 => absurd e0 (by simp [nx, he])⟩
set_option maxHeartbeats 1000000 in
theorem rowOf_any {N : Nat} (l : Value) (ws : List Bs) (n : Nat) (w : World) (h : Sl w l ws) (hk : Bk N l) (hn : n ≤ 1000) :
   Calls Tryz.prog 56 #[l, .int .i64 (n : Nat)] w fun e w' => e = .returned (.pointer (some ⟨w.heap.size, 0, none⟩)) ∧ Rs N w' w.heap.size ws (if ws.length = n then 0 else 4) ∧ Below w.heap.size w w' := by
 have hb : Below w.heap.size w (w.alloc (.cells #[l, .nilIface] 125)) := (Below.refl _ _).alloc (Nat.le_refl _) _
 have HB := Lib.hid hb
 have HR : Hid (Rs N (w.alloc (.cells #[l, .nilIface] 125)) w.heap.size ws 0) := Lib.hid ⟨l, CB.new w _ _, fun _ => ⟨h.later hb, hk⟩⟩
 obtain ⟨⟨a, c, rfl, h1, h2, _⟩, _⟩ := h
 have l1 : (ws.length : Int) ≤ 9223372036854775807 := by omega
 have l2 : (n : Int) ≤ 1000 := by omega
 obtain ⟨b, hbb⟩ : ∃ b : Bool, decide (ws.length = n) = b := ⟨_, rfl⟩
 obtain ⟨W1, hW1⟩ : ∃ W1, w.alloc (.cells #[.slice a ws.length c, .nilIface] 125) = W1 := ⟨_, rfl⟩
 rw [hW1] at HR HB
 have HH : Hid (Calls Tryz.prog 61 #[.pointer (some ⟨w.heap.size, 0, none⟩), .bool b, .int .i64 4] W1 fun r w' => r = .returned (.tuple #[]) ∧ Rs N w' w.heap.size ws (nx 0 (if b then 0 else 4)) ∧ Ob w.heap.size W1 w') := Lib.hid (hold_step w.heap.size ws 0 4 b W1 HR.out (by omega))
 have hq : (((ws.length : Nat) : Int) == ((n : Nat) : Int)) = b := by
   rw [← hbb]
   by_cases e : ws.length = n
   · simp [e]
   · rw [decide_eq_false e, beq_eq_false_iff_ne]; omega
 obtain ⟨E, hE⟩ : ∃ E : Int, (if ws.length = n then 0 else 4) = E := ⟨_, rfl⟩
 rw [hE]
 have HE : Hid (nx 0 (if b then 0 else 4) = E) := Lib.hid (by
   rw [← hbb, ← hE]
   by_cases e : ws.length = n
   · simp [nx, e]
   · simp [nx, e])
 clear hbb hb hE
 obtain ⟨L, hN⟩ : ∃ L, ws.length = L := ⟨_, rfl⟩
 rw [hN] at hW1 hq l1 h1 ⊢
 go_enter Tryz.func56, Tryz.ntmps56
 go_wp2_with fail
 try rw [hW1]
 try rw [hq]
 refine HH.out.mono ?_
 rintro r W2 ⟨rfl, q1, q2⟩
 have Q1 := Lib.hid q1
 have Q2 := Lib.hid q2
 clear q1 q2
 go_wp2
 go_ret
 refine ⟨rfl, ?_, HB.out.trans (Q2.out.below (Nat.le_refl _) HB.out.size)⟩
 have := Q1.out
 rw [HE.out] at this
 exact this
end

/- Package nodefile: nodeOf. -/
section
set_option maxRecDepth 100000
open Go.RowKit Go.Shelf Go.Lib
attribute [local go_sem] run_store_float
theorem own_ob {w w' : World} {B base e size n : Nat} {v : Value} {xs : List Value} (h : w.ownsRow base e size v n xs) (ho : Ob B w w') (hB : B < base) : w'.ownsRow base e size v n xs := by
 refine ⟨h.1, ?_⟩
 rcases h.2 with h1 | ⟨g, cap, cur, h1, h2, h3, h4⟩
 · exact Or.inl h1
 · refine Or.inr ⟨g, cap, cur, h1, h2, ?_, h4⟩
   rw [ho.block g (Array.getElem?_eq_some_iff.1 h3).1 (by omega)]; exact h3
theorem Tab.lt {w : World} (h : Tab w) : 3 < w.heap.size := by
 have h0 := h 0 (by decide)
 rcases Nat.lt_or_ge 3 w.heap.size with h1 | h1
 · exact h1
 · simp [World.cell?, Array.getElem?_eq_none h1] at h0
theorem Tab.ne {w : World} {B t : Nat} {a : Option Addr} {n c : Nat} {cs : List Value} (h : Tab w) (hc : CB w B (.slice a n c :: cs).toArray t) : 3 ≠ B := by
 intro e
 have h0 := h 0 (by decide)
 rw [e, hc.cell 0 (by simp)] at h0
 simp at h0
theorem Tab.ob {w w' : World} {B : Nat} (h : Tab w) (ho : Ob B w w') (hn : 3 ≠ B) : Tab w' := fun j hj => ho.cell (h j hj) hn
abbrev nz : Array Value := #[.float .f64 0, .float .f64 0, .slice none 0 0, .int .i64 0]
structure No (w0 W : World) (Bf : Nat) (fc fx : Array Value) (x y : Nat) (av : Value) (ls : List Nat) (mk : Int) (ws : List Bs) (k : Nat) (m : Bool) (j : Nat) (e : Int) : Prop where
 ob : Ob Bf w0 W
 f4 : CB W w0.heap.size fc 29
 f6 : CB W (w0.heap.size + 1) nz 53
 f8 : CB W (w0.heap.size + 1 + 1) #[.float .f64 x, .float .f64 y, av, .int .i64 mk] 53
 rs : Rs w0.heap.size W (w0.heap.size + 1 + 1 + 1 + 1) (ws.drop j) e
 sz : w0.heap.size + 5 ≤ W.heap.size
 at' : Fr W (w0.heap.size + 5) av ls
 tab : Tab W
 tl : 3 < w0.heap.size
 len : e = 0 → ws.length = wid k m
 bl : Bf < w0.heap.size
 fb : CB W Bf fx 29
section
variable {w0 W W' : World} {Bf : Nat} {fc fx : Array Value} {x y : Nat} {av : Value} {ls : List Nat} {mk : Int} {ws : List Bs} {k : Nat} {m : Bool} {j : Nat} {e : Int}
theorem No.step (h : No w0 W Bf fc fx x y av ls mk ws k m j e) (ho : Ob (w0.heap.size + 1 + 1 + 1 + 1) W W') {f : Int} {j' : Nat} (hr : Rs w0.heap.size W' (w0.heap.size + 1 + 1 + 1 + 1) (ws.drop j') (nx e f)) : No w0 W' Bf fc fx x y av ls mk ws k m j' (nx e f) where
 ob := ⟨ho.os.trans h.ob.os, ho.tape.trans h.ob.tape, ho.output.trans h.ob.output, Nat.le_trans h.ob.size ho.size, fun k hk hn => (ho.block k (Nat.lt_of_lt_of_le hk h.ob.size) (by omega)).trans (h.ob.block k hk hn)⟩
 f4 := ho.cb h.f4 (by omega)
 f6 := ho.cb h.f6 (by omega)
 f8 := ho.cb h.f8 (by omega)
 rs := hr
 sz := Nat.le_trans h.sz ho.size
 at' := ⟨own_ob h.at'.own ho (by omega), h.at'.word⟩
 tab := h.tab.ob ho (by have := h.tl; omega)
 tl := h.tl
 len := fun e0 => h.len (by unfold nx at e0; split at e0 <;> assumption)
 bl := h.bl
 fb := ho.cb h.fb (by have := h.bl; omega)
theorem No.stand (h : No w0 W Bf fc fx x y av ls mk ws k m j e) (ho : Ob2 (w0.heap.size + 1 + 1 + 1 + 1) Bf W W') {f : Int} {j' : Nat} (hr : Rs w0.heap.size W' (w0.heap.size + 1 + 1 + 1 + 1) (ws.drop j') (nx e f)) {fy : Array Value} (hb : CB W' Bf fy 29) (hT : 3 ≠ Bf) : No w0 W' Bf fc fy x y av ls mk ws k m j' (nx e f) where
 ob := ⟨ho.os.trans h.ob.os, ho.tape.trans h.ob.tape, ho.output.trans h.ob.output, Nat.le_trans h.ob.size ho.size, fun k hk hn => (ho.block k (Nat.lt_of_lt_of_le hk h.ob.size) (by omega) hn).trans (h.ob.block k hk hn)⟩
 f4 := ho.cb h.f4 (by omega) (by have := h.bl; omega)
 f6 := ho.cb h.f6 (by omega) (by have := h.bl; omega)
 f8 := ho.cb h.f8 (by omega) (by have := h.bl; omega)
 rs := hr
 sz := Nat.le_trans h.sz ho.size
 at' := by
   have hbl := h.bl
   refine ⟨⟨h.at'.own.1, ?_⟩, h.at'.word⟩
   rcases h.at'.own.2 with h1 | ⟨g, cap, cur, h1, h2, h3, h4⟩
   · exact Or.inl h1
   · refine Or.inr ⟨g, cap, cur, h1, h2, ?_, h4⟩
     rw [ho.block g (Array.getElem?_eq_some_iff.1 h3).1 (by omega) (by omega)]; exact h3
 tab := fun q hq => by
   have h1 := h.tab q hq
   have htl := h.tl
   have hsz := h.sz
   rw [← h1]
   exact World.cell?_of_block (w := W) (ho.block 3 (by omega) (by omega) hT)
 tl := h.tl
 len := fun e0 => h.len (by unfold nx at e0; split at e0 <;> assumption)
 bl := h.bl
 fb := hb
theorem Rs.set {N B b i : Nat} {l : List Bs} {v : Value} (h : Rs N W B l e) (hn : B ≠ b) (hb : N ≤ b) : Rs N (W.setCell ⟨b, i, none⟩ v) B l e := by
 obtain ⟨q, h1, h2⟩ := h
 refine ⟨q, h1.other hn v, fun e0 => ⟨?_, (h2 e0).2⟩⟩
 exact (h2 e0).1.below (h2 e0).2 ((Below.refl N W).setCell (p := ⟨b, i, none⟩) hb v)
theorem Rs.below {N B : Nat} {l : List Bs} (h : Rs N W B l e) (hB : W'.heap[B]? = W.heap[B]?) (hb : Below N W W') : Rs N W' B l e := by
 obtain ⟨q, h1, h2⟩ := h
 refine ⟨q, ?_, fun e0 => ⟨(h2 e0).1.below (h2 e0).2 hb, (h2 e0).2⟩⟩
 unfold CB
 rw [hB]; exact h1
theorem No.node (h : No w0 W Bf fc fx x y av ls mk ws k m j e) (i : Nat) (v : Value) {x' y' : Nat} {av' : Value} {ls' : List Nat} {mk' : Int} (hc : #[Value.float .f64 x, .float .f64 y, av, .int .i64 mk].set! i v = #[.float .f64 x', .float .f64 y', av', .int .i64 mk']) (ha : Fr W (w0.heap.size + 5) av' ls') : No w0 (W.setCell ⟨w0.heap.size + 1 + 1, i, none⟩ v) Bf fc fx x' y' av' ls' mk' ws k m j e where
 ob := by
   have ho := Ob.set (w0.heap.size + 1 + 1) i W v
   exact ⟨ho.os.trans h.ob.os, ho.tape.trans h.ob.tape, ho.output.trans h.ob.output, Nat.le_trans h.ob.size ho.size, fun k hk hn => (ho.block k (Nat.lt_of_lt_of_le hk h.ob.size) (by omega)).trans (h.ob.block k hk hn)⟩
 f4 := h.f4.other (by omega) v
 f6 := h.f6.other (by omega) v
 f8 := by have := h.f8.set i v; rw [hc] at this; exact this
 rs := h.rs.set (by omega) (by omega)
 sz := by have := h.sz; simpa [World.setCell] using this
 at' := ha.low (by show w0.heap.size + 1 + 1 < _; omega) v
 tab := h.tab.ob (Ob.set _ _ _ _) (by have := h.tl; omega)
 tl := h.tl
 len := h.len
 bl := h.bl
 fb := h.fb.other (by have := h.bl; omega) v
theorem No.later (h : No w0 W Bf fc fx x y av ls mk ws k m j e) (hb : Below W.heap.size W W') : No w0 W' Bf fc fx x y av ls mk ws k m j e where
 ob := ⟨hb.os.trans h.ob.os, hb.tape.trans h.ob.tape, hb.output.trans h.ob.output, Nat.le_trans h.ob.size hb.size, fun k hk hn => (hb.block k (Nat.lt_of_lt_of_le hk h.ob.size)).trans (h.ob.block k hk hn)⟩
 f4 := h.f4.later hb
 f6 := h.f6.later hb
 f8 := h.f8.later hb
 rs := h.rs.below (hb.block _ (by have := h.sz; omega)) (hb.mono h.ob.size)
 sz := Nat.le_trans h.sz hb.size
 at' := h.at'.later hb
 tab := h.tab.later hb
 tl := h.tl
 len := h.len
 bl := h.bl
 fb := h.fb.later hb
theorem No.grew (h : No w0 W Bf fc fx x y av ls mk ws k m j e) {tmp : Obj} {av' : Value} {v : Nat} (hv : v < 18446744073709551616) (hown : W'.ownsRow (w0.heap.size + 5) 48 1 av' (ls.length + 1) (f64s ls ++ [.float .f64 v])) (hg : (W.alloc tmp).grownBy W' av.ownBlock) :
   (W'.cell? ⟨w0.heap.size + 1 + 1, 2, none⟩ = some av ∧ W'.frozen? ⟨w0.heap.size + 1 + 1, 2, none⟩ = false) ∧ No w0 (W'.setCell ⟨w0.heap.size + 1 + 1, 2, none⟩ av') Bf fc fx x y av' (ls ++ [v]) mk ws k m j e := by
 have hlow : ∀ b, av.ownBlock = some b → w0.heap.size + 5 ≤ b := fun b hb => (h.at'.own.lt b hb).1
 have hbl : ∀ b, b < w0.heap.size + 5 → W'.heap[b]? = W.heap[b]? := fun b hb => by
   have hsz := h.sz
   rw [hg.block b (by simp; omega) (fun e => by have := hlow b e.symm; omega), Below.heap_alloc _ _ _ (by omega)]
 have hsz' : W.heap.size + 1 ≤ W'.heap.size := by have := hg.size; simpa using this
 have hB : Below (w0.heap.size + 5) W W' := ⟨hg.os, hg.tape, hg.output, by omega, hbl⟩
 have cb : ∀ {b t : Nat} {cs : Array Value}, CB W b cs t → b < w0.heap.size + 5 → CB W' b cs t := fun hc hb => by unfold CB; rw [hbl _ hb]; exact hc
 have h8 := cb h.f8 (by omega)
 refine ⟨⟨h8.cell 2 (by simp), h8.frozen 2⟩, ?_⟩
 have key : No w0 (W'.setCell ⟨w0.heap.size + 1 + 1, 2, none⟩ av') Bf fc fx x y av' (ls ++ [v]) mk ws k m j e := by
   refine ⟨?_, (cb h.f4 (by omega)).other (by omega) _, (cb h.f6 (by omega)).other (by omega) _, ?_, ?_, ?_, ?_, ?_, h.tl, h.len, h.bl, (cb h.fb (by have := h.bl; omega)).other (by have := h.bl; omega) _⟩
   · have ho := Ob.set (w0.heap.size + 1 + 1) 2 W' av'
     have hs := h.sz
     exact ⟨(ho.os.trans hB.os).trans h.ob.os, (ho.tape.trans hB.tape).trans h.ob.tape, (ho.output.trans hB.output).trans h.ob.output, Nat.le_trans (Nat.le_trans h.ob.size hB.size) ho.size, fun k hk hn => ((ho.block k (by omega) (by omega)).trans (hB.block k (by omega))).trans (h.ob.block k hk hn)⟩
   · have := h8.set 2 av'; simpa using this
   · exact (h.rs.below (hbl _ (by omega)) (hB.mono (by omega))).set (by omega) (by omega)
   · have := h.sz; simp [World.setCell]; omega
   · refine Fr.low ⟨by rw [List.length_append]; simpa [f64s] using hown, fun b hb => ?_⟩ (by show w0.heap.size + 1 + 1 < _; omega) _
     rcases List.mem_append.1 hb with e | e
     · exact h.at'.word b e
     · rw [List.mem_singleton.1 e]; exact hv
   · refine Tab.ob (fun q hq => ?_) (Ob.set _ _ _ _) (by have := h.tl; omega)
     exact (hB.cell (p := ⟨3, q, none⟩) (by have := h.tl; show 3 < _; omega)).trans (h.tab q hq)
 exact key
end
theorem drop_cons {ws : List Bs} {j : Nat} (h : j < ws.length) : ∃ x r, ws.drop j = x :: r ∧ x ∈ ws := ⟨ws[j], ws.drop (j + 1), List.drop_eq_getElem_cons h, List.getElem_mem h⟩
theorem getD_drop0 (ws : List Bs) (j : Nat) : (ws.drop j).getD 0 [] = ws.getD j [] := by
 simp [List.getD]
end

/- Package nodefile: nodeOf, the walk. -/
section
set_option maxRecDepth 100000
open Go.RowKit Go.Shelf Go.Lib
attribute [local go_sem] run_store_float
theorem own_slice {w : World} {base e size n : Nat} {v : Value} {xs : List Value} (h : w.ownsRow base e size v n xs) : ∃ a c, v = .slice a n c := by
 rcases h.2 with ⟨h1, h2⟩ | ⟨g, cap, cur, h1, _⟩
 · exact ⟨none, 0, by rw [h1, h2]⟩
 · exact ⟨_, _, h1⟩
theorem fst0_5 (a b c d f : Int) : fst0 [a, b, c, d, f] = nx (nx (nx (nx a b) c) d) f := by
 unfold nx
 simp only [fst0]
 by_cases h1 : a = 0 <;> by_cases h2 : b = 0 <;> by_cases h3 : c = 0 <;> by_cases h4 : d = 0 <;> by_cases h5 : f = 0 <;> simp [h1, h2, h3, h4, h5]
def ndJ (p : Pm) (k : Nat) (m : Bool) (may : Int → Bool) (ws : List Bs) (j : Nat) : Int :=
 fst0 ([if ws.length = wid k m then 0 else 4, intE may (ws.getD 0 []), (p.rf (ws.getD 1 [])).2, (p.rf (ws.getD 2 [])).2, if p.pt (p.rf (ws.getD 1 [])).1 (p.rf (ws.getD 2 [])).1 then 0 else 10] ++ (((ws.drop 3).take j).map fun w => (p.rf w).2))
theorem ndJ_succ {p : Pm} {k : Nat} {m : Bool} {may : Int → Bool} {ws : List Bs} {j : Nat} (h : ndJ p k m may ws j = 0 → 3 + j < ws.length) : ndJ p k m may ws (j + 1) = nx (ndJ p k m may ws j) (p.rf (ws.getD (3 + j) [])).2 := by
 unfold ndJ at *
 by_cases he : j < (ws.drop 3).length
 · rw [List.take_succ_eq_append_getElem he, List.map_append, ← List.append_assoc, List.map_singleton, fst0_snoc]
   congr 2
   rw [List.length_drop] at he
   rw [List.getElem_drop, List.getD_eq_getElem?_getD, List.getElem?_eq_getElem (by omega)]
   rfl
 · have h0 : fst0 ([if ws.length = wid k m then 0 else 4, intE may (ws.getD 0 []), (p.rf (ws.getD 1 [])).2, (p.rf (ws.getD 2 [])).2, if p.pt (p.rf (ws.getD 1 [])).1 (p.rf (ws.getD 2 [])).1 then 0 else 10] ++ (((ws.drop 3).take j).map fun w => (p.rf w).2)) ≠ 0 := fun e => by
     have := h e
     rw [List.length_drop] at he
     omega
   have e1 : (ws.drop 3).take (j + 1) = (ws.drop 3).take j := by rw [List.take_of_length_le (by omega), List.take_of_length_le (by omega)]
   rw [e1]
   unfold nx
   rw [if_neg h0]
theorem ndJ_end (p : Pm) (k : Nat) (m : Bool) (may : Int → Bool) (ws : List Bs) : ndE p k m may ws = if m then nx (ndJ p k m may ws k) (intE (fun _ => true) (ws.getD (3 + k) [])) else ndJ p k m may ws k := by
 unfold ndE ndJ
 cases m
 · simp
 · rw [if_pos rfl, if_pos rfl, fst0_snoc]
theorem ndJ_len {p : Pm} {k : Nat} {m : Bool} {may : Int → Bool} {ws : List Bs} {j : Nat} (h : ndJ p k m may ws j = 0) : ws.length = wid k m := by
 unfold ndJ at h
 by_cases e : ws.length = wid k m
 · exact e
 · exfalso
   simp [e, fst0] at h
theorem nx_zero {e f : Int} (h : nx e f = 0) : e = 0 ∧ f = 0 := by
 unfold nx at h
 split at h
 · exact ⟨by assumption, h⟩
 · exact absurd h (by assumption)
theorem fst0_left {l r : List Int} (h : fst0 (l ++ r) = 0) : fst0 l = 0 := by
 rw [fst0_app] at h
 split at h
 · assumption
 · exact h
theorem ndJ_pre {p : Pm} {k : Nat} {m : Bool} {may : Int → Bool} {ws : List Bs} {j : Nat} (h : ndJ p k m may ws j = 0) : (if ws.length = wid k m then (0 : Int) else 4) = 0 ∧ intE may (ws.getD 0 []) = 0 ∧ (p.rf (ws.getD 1 [])).2 = 0 ∧ (p.rf (ws.getD 2 [])).2 = 0 := by
 have h5 := fst0_left h
 rw [fst0_5] at h5
 obtain ⟨h4, _⟩ := nx_zero h5
 obtain ⟨h3, g3⟩ := nx_zero h4
 obtain ⟨h2, g2⟩ := nx_zero h3
 obtain ⟨h1, g1⟩ := nx_zero h2
 exact ⟨h1, g1, g2, g3⟩
theorem ndJ_e1 {p : Pm} {k : Nat} {m : Bool} {may : Int → Bool} {ws : List Bs} {j : Nat} {e0 e1 : Int} (h1 : nx e0 (intE may (ws.getD 0 [])) = e1) (h0 : (if ws.length = wid k m then (0 : Int) else 4) = e0) (h : ndJ p k m may ws j = 0) : e1 = 0 := by
 obtain ⟨g0, g1, _⟩ := ndJ_pre h
 rw [← h1, ← h0, g0, g1]; rfl
theorem ndJ_e2 {p : Pm} {k : Nat} {m : Bool} {may : Int → Bool} {ws : List Bs} {j : Nat} (h : ndJ p k m may ws j = 0) : nx 0 (p.rf (ws.getD 1 [])).2 = 0 := (ndJ_pre h).2.2.1
theorem wid_gt (k : Nat) (m : Bool) : 3 + k ≤ wid k m := by unfold wid; split <;> omega
theorem CB.cells4 {W : World} {B t : Nat} {a b c d : Value} (h : CB W B #[a, b, c, d] t) : W.cell? ⟨B, 0, none⟩ = some a ∧ W.cell? ⟨B, 1, none⟩ = some b ∧ W.cell? ⟨B, 2, none⟩ = some c ∧ W.cell? ⟨B, 3, none⟩ = some d := ⟨h.cell 0 (by simp), h.cell 1 (by simp), h.cell 2 (by simp), h.cell 3 (by simp)⟩
section
variable {w0 W : World} {Bf : Nat} {fc fx : Array Value} {x y : Nat} {av : Value} {ls : List Nat} {mk : Int} {ws : List Bs} {k : Nat} {m : Bool} {j : Nat} {e : Int}
theorem No.word (h : No w0 W Bf fc fx x y av ls mk ws k m j e) (hl : ∀ x ∈ ws, x.length ≤ 900000) (hj : j < wid k m) : e = 0 → ∃ x r, ws.drop j = x :: r ∧ x.length ≤ 900000 := fun e0 => by
 obtain ⟨x, r, h1, h2⟩ := drop_cons (ws := ws) (j := j) (by rw [h.len e0]; exact hj)
 exact ⟨x, r, h1, hl x h2⟩
theorem No.float {p : Pm} (hp : p.Ok) (h : No w0 W Bf fc fx x y av ls mk ws k m j e) (hl : ∀ x ∈ ws, x.length ≤ 900000) (hj : j < wid k m) :
   Calls Tryz.prog 63 #[.pointer (some ⟨w0.heap.size + 1 + 1 + 1 + 1, 0, none⟩)] W fun v w' => ∃ q, v = .returned (.float .f64 q) ∧ q < 18446744073709551616 ∧ No w0 w' Bf fc fx x y av ls mk ws k m (j + 1) (nx e (p.rf (ws.getD j [])).2) ∧ (e = 0 → q = (p.rf (ws.getD j [])).1) := by
 refine (float_step hp _ (ws.drop j) e W h.rs (h.word hl hj) h.tab (by have := h.tl; omega)).mono ?_
 rintro v w' ⟨q, rfl, hq, h1, h2, h3⟩
 rw [List.tail_drop, getD_drop0] at h1
 rw [getD_drop0] at h3
 exact ⟨q, rfl, hq, h.step h2 h1, h3⟩
theorem No.mark (h : No w0 W Bf fc fx x y av ls mk ws k m j e) (hl : ∀ x ∈ ws, x.length ≤ 900000) (hj : j < wid k m) :
   Calls Tryz.prog 57 #[.pointer (some ⟨w0.heap.size + 1 + 1 + 1 + 1, 0, none⟩), .func (.func 66) #[] #[]] W fun v w' => ∃ q, v = .returned (.int .i64 q) ∧ No w0 w' Bf fc fx x y av ls mk ws k m (j + 1) (nx e (intE (fun _ => true) (ws.getD j []))) ∧ (e = 0 → q = (rdInt (ws.getD j [])).getD 0) := by
 refine (whole_any _ (ws.drop j) e W h.rs (fun e0 => ?_)).mono ?_
 · obtain ⟨x, r, h1, h2⟩ := h.word hl hj e0
   exact ⟨x, r, h1, by omega⟩
 · rintro v w' ⟨q, rfl, h1, h2, h3⟩
   rw [List.tail_drop, getD_drop0] at h1
   rw [getD_drop0] at h3
   exact ⟨q, rfl, h.step h2 h1, h3⟩
theorem No.hold (h : No w0 W Bf fc fx x y av ls mk ws k m j e) (right : Bool) (why : Int) (hw : why ≠ 0) :
   Calls Tryz.prog 61 #[.pointer (some ⟨w0.heap.size + 1 + 1 + 1 + 1, 0, none⟩), .bool right, .int .i64 why] W fun v w' => v = .returned (.tuple #[]) ∧ No w0 w' Bf fc fx x y av ls mk ws k m j (nx e (if right then 0 else why)) := by
 refine (hold_step _ (ws.drop j) e why right W h.rs (Or.inl hw)).mono ?_
 rintro v w' ⟨rfl, h1, h2⟩
 exact ⟨rfl, h.step h2 h1⟩
theorem No.first {a : Option Addr} {i c : Nat} {z : Bool} {k' : Int} {m' : Bool} (h : No w0 W Bf fc (fcs a i c z k' m') x y av ls mk ws k m 0 e) (hl : ∀ x ∈ ws, x.length ≤ 900000) (hi : i ≤ 1048576) (hT : 3 ≠ Bf) :
   Calls Tryz.prog 57 #[.pointer (some ⟨w0.heap.size + 1 + 1 + 1 + 1, 0, none⟩), .func (.func 33) #[] #[.pointer (some ⟨Bf, 0, none⟩)]] W fun v w' => (∃ q, v = .returned (.int .i64 q)) ∧ ∃ z', No w0 w' Bf fc (fcs a i c z' k' m') x y av ls mk ws k m 1 (nx e (intE (mayN i z) (ws.getD 0 []))) ∧ (nx e (intE (mayN i z) (ws.getD 0 [])) = 0 → z' = zN i z (ws.getD 0 [])) := by
 refine (whole_stand _ Bf (ws.drop 0) e a i c z k' m' W h.rs (fun e0 => ?_) h.fb (by have := h.bl; omega) (by omega)).mono ?_
 · obtain ⟨x, r, h1, h2⟩ := h.word hl (by have := wid_gt k m; omega) e0
   exact ⟨x, r, h1, by omega⟩
 · rintro v w' ⟨hq, h1, h2, z', h3, h4⟩
   rw [List.tail_drop, getD_drop0] at h1
   rw [getD_drop0] at h4
   exact ⟨hq, z', h.stand h2 h1 h3 hT, h4⟩
end
def NodeR (p : Pm) (w w' : World) (Bf : Nat) (a : Option Addr) (i c : Nat) (z : Bool) (k : Nat) (m : Bool) (ws : List Bs) (v : Ending) : Prop :=
 ∃ x y av ls mk, v = .returned (.tuple #[.agg #[.float .f64 x, .float .f64 y, av, .int .i64 mk], erV (ndE p k m (mayN i z) ws)]) ∧ Fr w' w.heap.size av ls ∧ x < 18446744073709551616 ∧ y < 18446744073709551616 ∧ Ob Bf w w' ∧ Tab w' ∧
   (∃ z', CB w' Bf (fcs a i c z' k m) 29 ∧ (ndE p k m (mayN i z) ws = 0 → z' = zN i z (ws.getD 0 []))) ∧ (ndE p k m (mayN i z) ws = 0 → ndV p k m ws = ⟨x, y, ls, mk⟩)
theorem set4 {W : World} {B t : Nat} {a b c d : Value} (h : CB W B #[a, b, c, d] t) (a' b' c' d' : Value) : CB ((((W.setCell ⟨B, 0, none⟩ a').setCell ⟨B, 1, none⟩ b').setCell ⟨B, 2, none⟩ c').setCell ⟨B, 3, none⟩ d') B #[a', b', c', d'] t := by
 have := (((h.set 0 a').set 1 b').set 2 c').set 3 d'
 simpa using this
theorem ob_set4 (W : World) (B : Nat) (a' b' c' d' : Value) : Ob B W ((((W.setCell ⟨B, 0, none⟩ a').setCell ⟨B, 1, none⟩ b').setCell ⟨B, 2, none⟩ c').setCell ⟨B, 3, none⟩ d') := (((Ob.set _ _ _ _).trans (Ob.set _ _ _ _)).trans (Ob.set _ _ _ _)).trans (Ob.set _ _ _ _)
theorem No.fin {p : Pm} {w0 W W' : World} {Bf : Nat} {a : Option Addr} {i c : Nat} {z z' : Bool} {fc : Array Value} {x y : Nat} {av : Value} {ls : List Nat} {mk : Int} {ws : List Bs} {k : Nat} {m : Bool} {j : Nat} {e : Int} (h : No w0 W Bf fc (fcs a i c z' (k : Nat) m) x y av ls mk ws k m j e) (ho : Ob (w0.heap.size + 1) W W') (he : e = ndE p k m (mayN i z) ws) (hx : x < 18446744073709551616) (hy : y < 18446744073709551616) (hz : e = 0 → z' = zN i z (ws.getD 0 [])) (hv : e = 0 → ndV p k m ws = ⟨x, y, ls, mk⟩) :
   NodeR p w0 W' Bf a i c z k m ws (.returned (.tuple #[.agg #[.float .f64 x, .float .f64 y, av, .int .i64 mk], erV e])) := by
 subst he
 have hbl := h.bl
 refine ⟨x, y, av, ls, mk, rfl, ⟨own_base (own_ob h.at'.own ho (by omega)) (by omega), h.at'.word⟩, hx, hy, ?_, h.tab.ob ho (by have := h.tl; omega), ⟨z', ho.cb h.fb (by omega), hz⟩, hv⟩
 exact ⟨ho.os.trans h.ob.os, ho.tape.trans h.ob.tape, ho.output.trans h.ob.output, Nat.le_trans h.ob.size ho.size, fun k hk hn => (ho.block k (Nat.lt_of_lt_of_le hk h.ob.size) (by omega)).trans (h.ob.block k hk hn)⟩
theorem res_node (W : World) (B x y : Nat) (av : Value) (mk : Int) (ev : Value) (tmps : Array Value) (h : CB W B #[.float .f64 x, .float .f64 y, av, .int .i64 mk] 53)
   (t6 : tmps[6]? = some (.pointer (some ⟨B, 0, none⟩))) (t7 : tmps[7]? = some ev) : (results Tryz.f36 tmps).run Tryz.prog W = .ok (.tuple #[.agg #[.float .f64 x, .float .f64 y, av, .int .i64 mk], ev]) W := by
 have c0 := h.cell 0 (by simp)
 have c1 := h.cell 1 (by simp)
 have c2 := h.cell 2 (by simp)
 have c3 := h.cell 3 (by simp)
 simp [results, Tryz.f36, go_sem, c0, c1, c2, c3, t6, t7]
set_option maxHeartbeats 16000000 in
theorem nodeOf_any {p : Pm} (hp : p.Ok) (wv : Value) (ws : List Bs) (Bf : Nat) (a : Option Addr) (i c : Nat) (z : Bool) (k : Nat) (m : Bool) (w : World)
   (hS : Sl w wv ws) (hK : Bk w.heap.size wv) (hl : ∀ x ∈ ws, x.length ≤ 900000) (hf : CB w Bf (fcs a i c z (k : Nat) m) 29) (hi : i ≤ 1048576) (hk : k ≤ 16) (hT : Tab w) :
   Calls Tryz.prog 36 #[wv, .agg (fcs a i c z (k : Nat) m), .func (.func 33) #[] #[.pointer (some ⟨Bf, 0, none⟩)]] w fun v w' => NodeR p w w' Bf a i c z k m ws v := by
 have HP := Lib.hid hp
 have hS0 := hS
 have HL := Lib.hid hl
 have hne : 3 ≠ Bf := hT.ne hf
 have htl := hT.lt
 have hbl := hf.lt
 obtain ⟨W0, hW0⟩ : ∃ W0, ((w.alloc (.cells (fcs a i c z (k : Nat) m) 29)).alloc (.cells nz 53)).alloc (.cells nz 53) = W0 := ⟨_, rfl⟩
 have bb0 : Below w.heap.size w W0 := by rw [← hW0]; exact (((Below.refl _ w).alloc (Nat.le_refl _) _).alloc (by simp) _).alloc (by simp; omega) _
 have z0 : W0.heap.size = w.heap.size + 3 := by rw [← hW0]; simp
 have q4 : CB W0 w.heap.size (fcs a i c z (k : Nat) m) 29 := by
   rw [← hW0]; exact ((CB.new w _ _).later ((Below.refl _ _).alloc (Nat.le_refl _) _)).later ((Below.refl _ _).alloc (Nat.le_refl _) _)
 obtain ⟨k40, k41, k42, k43⟩ := q4.cells4
 have q6 : CB W0 (w.heap.size + 1) nz 53 := by
   rw [← hW0]
   have := (CB.new (w.alloc (.cells (fcs a i c z (k : Nat) m) 29)) nz 53).later ((Below.refl _ _).alloc (Nat.le_refl _) (.cells nz 53))
   rwa [World.size_alloc] at this
 have q8 : CB W0 (w.heap.size + 1 + 1) nz 53 := by
   rw [← hW0]
   have := CB.new ((w.alloc (.cells (fcs a i c z (k : Nat) m) 29)).alloc (.cells nz 53)) nz 53
   rwa [World.size_alloc, World.size_alloc] at this
 obtain ⟨W1, hW1⟩ : ∃ W1, W0.alloc (.cells (fcs a i c z (k : Nat) m) 29) = W1 := ⟨_, rfl⟩
 have b1 : Below W0.heap.size W0 W1 := by rw [← hW1]; exact (Below.refl _ _).alloc (Nat.le_refl _) _
 have z1 : W1.heap.size = w.heap.size + 1 + 1 + 1 + 1 := by rw [← hW1, World.size_alloc, z0]
 have HWd : Hid (Calls Tryz.prog 62 #[.agg (fcs a i c z (k : Nat) m)] W0 fun e w' => e = .returned (.int .i64 (wid k m : Nat)) ∧ w' = W1) := Lib.hid (by rw [← hW1]; exact width_any _ z k m W0 hk)
 have bw1 : Below w.heap.size w W1 := bb0.trans (b1.mono (by omega))
 have HRo : Hid (Calls Tryz.prog 56 #[wv, .int .i64 (wid k m : Nat)] W1 fun e w' => e = .returned (.pointer (some ⟨w.heap.size + 1 + 1 + 1 + 1, 0, none⟩)) ∧ No w w' Bf (fcs a i c z (k : Nat) m) (fcs a i c z (k : Nat) m) 0 0 (.slice none 0 0) [] 0 ws k m 0 (if ws.length = wid k m then 0 else 4)) := Lib.hid (by
   refine (rowOf_any (N := w.heap.size) wv ws (wid k m) W1 (hS.later bw1) hK (by unfold wid; split <;> omega)).mono ?_
   rintro e w' ⟨rfl, hr, hb⟩
   rw [z1] at hr hb ⊢
   have hb' : Below W1.heap.size W1 w' := by rw [z1]; exact hb
   refine ⟨rfl, ?_⟩
   have hsz : w.heap.size + 5 ≤ w'.heap.size := by
     obtain ⟨l, hc, _⟩ := hr
     have := hc.lt
     omega
   exact ⟨Ob.of_below (bw1.trans (hb.mono (by omega))), (q4.later b1).later hb', (q6.later b1).later hb', (q8.later b1).later hb', hr, hsz, Fr.nil _ _, (hT.later bw1).later hb', htl, fun e0 => (by split at e0 <;> first | assumption | cases e0), hbl, (hf.later bw1).later hb'⟩)
 clear hS hf hT q4 q6 q8 bb0 z0 b1 z1 hW1 bw1 hp hl
 have hk' : (k : Int) ≤ 16 := by omega
 obtain ⟨sw, cw, rfl⟩ : ∃ sw cw, wv = .slice sw ws.length cw := by
   obtain ⟨⟨sw, cw, e, _⟩, _⟩ := hS0
   exact ⟨sw, cw, e⟩
 clear hS0
 obtain ⟨e0, he0⟩ : ∃ e : Int, (if ws.length = wid k m then 0 else 4) = e := ⟨_, rfl⟩
 rw [he0] at HRo
 have HE0 := Lib.hid he0
 clear he0
 obtain ⟨n, hn⟩ : ∃ n, Hid (ws.length = n) := ⟨_, Lib.hid rfl⟩
 rw [hn.out] at HRo hK ⊢
 go_enter Tryz.func36, Tryz.ntmps36
 go_wp2_with fail
 try rw [hW0]
 clear hW0 k40 k41 k42 k43
 refine HWd.out.mono ?_
 rintro e W2 ⟨rfl, rfl⟩
 clear HWd
 go_wp2_with fail
 refine HRo.out.mono ?_
 rintro e W3 ⟨rfl, h3⟩
 have H3 := Lib.hid (h3.first HL.out hi hne)
 clear h3 HRo
 go_wp2_with fail
 refine H3.out.mono ?_
 rintro e W4 ⟨⟨q0, rfl⟩, z', h4, hz'⟩
 obtain ⟨e1, he1⟩ : ∃ e : Int, Hid (nx e0 (intE (mayN i z) (ws.getD 0 [])) = e) := ⟨_, Lib.hid rfl⟩
 rw [he1.out] at h4 hz'
 have HZ := Lib.hid hz'
 have H4 := Lib.hid (h4.float HP.out HL.out (by have := wid_gt k m; omega))
 clear h4 hz' H3
 go_wp2_with fail
 refine H4.out.mono ?_
 rintro e W5 ⟨x, rfl, hx, h5, hx'⟩
 obtain ⟨e2, he2⟩ : ∃ e : Int, Hid (nx e1 (p.rf (ws.getD 1 [])).2 = e) := ⟨_, Lib.hid rfl⟩
 rw [he2.out] at h5
 have HX := Lib.hid hx
 have HX' := Lib.hid hx'
 have k80 := h5.f8.cell 0 (by simp)
 have f80 := h5.f8.frozen 0
 have h6 := h5.node 0 (.float .f64 x) (x' := x) (y' := 0) (av' := .slice none 0 0) (ls' := []) (mk' := 0) (by simp) (Fr.nil _ _)
 have H6 := Lib.hid (h6.float HP.out HL.out (by have := wid_gt k m; omega))
 clear h5 h6 H4 hx hx'
 go_wp2_with fail
 refine H6.out.mono ?_
 rintro e W6 ⟨y, rfl, hy, h7, hy'⟩
 clear k80 f80
 obtain ⟨e3, he3⟩ : ∃ e : Int, Hid (nx e2 (p.rf (ws.getD 2 [])).2 = e) := ⟨_, Lib.hid rfl⟩
 rw [he3.out] at h7
 have HY := Lib.hid hy
 have HY' := Lib.hid hy'
 have k81 := h7.f8.cell 1 (by simp)
 have f81 := h7.f8.frozen 1
 have h8 := h7.node 1 (.float .f64 y) (x' := x) (y' := y) (av' := .slice none 0 0) (ls' := []) (mk' := 0) (by simp) (Fr.nil _ _)
 obtain ⟨W7, hW7⟩ : ∃ W7, W6.setCell ⟨w.heap.size + 1 + 1, 1, none⟩ (.float .f64 y) = W7 := ⟨_, rfl⟩
 rw [hW7] at h8
 obtain ⟨k80, k81', k82, k83⟩ := h8.f8.cells4
 have H8 := Lib.hid h8
 have HM := Lib.hid (may1_any x y W7 ⟨HX.out, HY.out⟩)
 clear h7 h8 H6 hy hy'
 go_wp2_with fail
 refine HM.out.mono ?_
 rintro e W8 ⟨⟨t, rfl, ht⟩, hb8⟩
 have HTt := Lib.hid ht
 have H9 := Lib.hid ((H8.out.later hb8).hold t 10 (by decide))
 clear ht hb8 HM H8 hW7 k80 k81 k81' k82 k83 f81
 go_wp2_with fail
 refine H9.out.mono ?_
 rintro e W9 ⟨rfl, h9⟩
 have HE4 : Hid (nx e3 (if t then 0 else 10) = ndJ p k m (mayN i z) ws 0) := Lib.hid (by
   unfold ndJ
   rw [List.take_zero, List.map_nil, List.append_nil, fst0_5, HE0.out, he1.out, he2.out, he3.out]
   unfold nx
   split
   · rename_i h3
     have g2 := (nx_zero (he3.out.trans h3)).1
     have g1 := (nx_zero (he2.out.trans g2)).1
     rw [← HX'.out g1, ← HY'.out g2]
     have := HP.out.pt x y
     by_cases hpt : Pt x y
     · rw [HTt.out.2 hpt, this.2 hpt]
     · rw [show t = false by cases t; rfl; exact absurd (HTt.out.1 rfl) hpt, show p.pt x y = false by cases hq : p.pt x y; rfl; exact absurd (this.1 hq) hpt]
   · rfl)
 rw [HE4.out] at h9
 have k82 := h9.f8.cell 2 (by simp)
 have f82 := h9.f8.frozen 2
 obtain ⟨k40, k41, k42, k43⟩ := h9.f4.cells4
 have H9' := Lib.hid h9
 have HGr := Lib.hid (growF_any k W9 (by omega))
 clear h9 H9
 go_wp2_with fail
 refine HGr.out.mono ?_
 rintro e W10 ⟨ga, gc, rfl, hgo, hgb⟩
 have h10 := H9'.out.later hgb
 have h11 := h10.node 2 (.slice ga 0 gc) (x' := x) (y' := y) (av' := .slice ga 0 gc) (ls' := []) (mk' := 0) (by simp) ⟨own_base hgo H9'.out.sz, fun b hb => by cases hb⟩
 clear k82 f82 k40 k41 k42 k43
 have k82 := h10.f8.cell 2 (by simp)
 have f82 := h10.f8.frozen 2
 obtain ⟨W11, hW11⟩ : ∃ W11, W10.setCell ⟨w.heap.size + 1 + 1, 2, none⟩ (.slice ga 0 gc) = W11 := ⟨_, rfl⟩
 rw [hW11] at h11
 obtain ⟨k40, k41, k42, k43⟩ := h11.f4.cells4
 have H11 := Lib.hid h11
 clear h10 h11 hgo hgb HGr H9'
 go_wp2_with fail
 clear hW11 k82 f82 k40 k41 k42 k43
 obtain ⟨i0, hi0, hz0, hz1, hz2⟩ := info_parts infoF
 go_loopw [38] (fun s38 wr => ∃ (j : Nat) (av : Value) (ls : List Nat), s38 = .int .i64 (j : Nat) ∧ j ≤ k ∧ Hid (No w wr Bf (fcs a i c z (k : Nat) m) (fcs a i c z' (k : Nat) m) x y av ls 0 ws k m (3 + j) (ndJ p k m (mayN i z) ws j) ∧ ls.length = j ∧ (ndJ p k m (mayN i z) ws j = 0 → ls = ((ws.drop 3).take j).map fun w => (p.rf w).1))) (fun s38 _ => k - (RowKit.intOf s38).toNat)
 case atStart => exact ⟨0, _, _, rfl, by omega, H11.out, rfl, fun _ => by simp⟩
 case round =>
   obtain ⟨j, av, ls, rfl, hj, hI⟩ := hrel
   by_cases hlt : j < k
   · have hlt' : (j : Int) < (k : Int) := by omega
     obtain ⟨W, hW⟩ : ∃ W, wr.drew = W := ⟨_, rfl⟩
     have hN : No w W Bf (fcs a i c z (k : Nat) m) (fcs a i c z' (k : Nat) m) x y av ls 0 ws k m (3 + j) (ndJ p k m (mayN i z) ws j) := by rw [← hW]; exact hI.out.1.later (Below.refl _ wr).drew
     have HFl := Lib.hid (hN.float HP.out HL.out (by have := wid_gt k m; omega))
     have k82 : W.cell? ⟨w.heap.size + 1 + 1, 2, none⟩ = some av := hN.f8.cell 2 (by simp)
     have HLs : Hid (ls.length ≤ 16) := Lib.hid (by rw [hI.out.2.1]; omega)
     obtain ⟨ae, ac, hav⟩ : ∃ ae ac, Hid (av = .slice ae ls.length ac) := by
       obtain ⟨ae, ac, e, _⟩ := hN.at'.fs.form
       exact ⟨ae, ac, Lib.hid e⟩
     clear hN
     have HV0 := Lib.hid (hI.out.2.2)
     have HLj := Lib.hid (hI.out.2.1)
     clear hI
     go_wp2_with fail
     refine region8x10 (by kernel_rfl) (by kernel_rfl) ?_ ?_ ?_ ?_ ?_ ?_ ?_ ?_ ?_ ?_
     all_goals
      try rw [hW]
      clear hW
      go_wp2_with (first
       | (go_at_call 63; refine HFl.out.mono ?_; rintro e W1 ⟨q, rfl, hq, hN1, hq'⟩; have HQ := Lib.hid hq; have HQ' := Lib.hid hq'; have HN1 := Lib.hid hN1; have k1 : W1.cell? ⟨w.heap.size + 1 + 1, 2, none⟩ = some av := hN1.f8.cell 2 (by simp); have k2 : (W1.alloc (.cells #[.float .f64 q] 48)).cell? ⟨w.heap.size + 1 + 1, 2, none⟩ = some av := ((hN1.later ((Below.refl _ W1).alloc (Nat.le_refl _) _)).f8.cell 2 (by simp)); clear hq hq' hN1)
       | (at_builtin; refine wpList_append_own _ rfl _ _ _ rfl (w.heap.size + 5) 48 i0 _ 1 8 undF hi0 hz0 hz1 hz2 rfl (by omega) av ls.length (f64s ls) rfl (HN1.out.at'.own.alloc _) ⟨W1.heap.size, 0, none⟩ 1 1 [.float .f64 q] rfl rfl (World.news_of_block (cs := #[.float .f64 q]) (t := 48) (fr := (0, 0)) (heap_alloc_new W1 _)) (by simp [Value.oneCell']) (by unfold maxLen; have := HLs.out; omega) (by have := HLs.out; omega) (by have := HN1.out.sz; simp; omega) ?_; intro v' W4 hown hgrow _; obtain ⟨va, vc, rfl⟩ := own_slice hown; obtain ⟨⟨s1, s2⟩, hN4⟩ := HN1.out.grew HQ.out hown hgrow; have HN4 := Lib.hid hN4; clear hown hgrow hN4))
     all_goals
       have hsu : ndJ p k m (mayN i z) ws (j + 1) = nx (ndJ p k m (mayN i z) ws j) (p.rf (ws.getD (3 + j) [])).2 := ndJ_succ (fun e0 => by rw [ndJ_len e0]; have := wid_gt k m; omega)
       refine ⟨⟨j + 1, .slice va (ls.length + 1) vc, ls ++ [q], by go_num, by omega, ?_, ?_, fun e0 => ?_⟩, ?_⟩
       · rw [hsu]; exact HN4.out
       · rw [List.length_append, HLj.out]; rfl
       · rw [hsu] at e0
         obtain ⟨g1, g2⟩ := nx_zero e0
         have hl3 : 3 + j < ws.length := by rw [ndJ_len g1]; have := wid_gt k m; omega
         rw [HV0.out g1, HQ'.out g1, List.take_succ_eq_append_getElem (by rw [List.length_drop]; omega), List.map_append, List.getElem_drop, List.getD_eq_getElem?_getD, List.getElem?_eq_getElem hl3]
         rfl
       · simp [RowKit.intOf]; omega
   · obtain rfl : j = k := by omega
     have hN := hI.out.1
     obtain ⟨k40, k41, k42, k43⟩ := hN.f4.cells4
     have HV0 := Lib.hid (hI.out.2.2)
     have HN0 := Lib.hid hN
     clear hI hN
     cases m
     · go_wp2_with fail
       have HEE : Hid (ndE p j false (mayN i z) ws = ndJ p j false (mayN i z) ws j) := Lib.hid (by rw [ndJ_end]; rfl)
       have HZZ : Hid (ndJ p j false (mayN i z) ws j = 0 → z' = zN i z (ws.getD 0 [])) := Lib.hid (fun e0 => HZ.out (ndJ_e1 he1.out HE0.out e0))
       have HVV : Hid (ndJ p j false (mayN i z) ws j = 0 → ndV p j false ws = ⟨x, y, ls, 0⟩) := Lib.hid (fun e0 => by
         have g1 := ndJ_e1 he1.out HE0.out e0
         have g2 := ndJ_e2 e0
         unfold ndV
         rw [HV0.out e0, HX'.out g1, HY'.out (by rw [← he2.out, g1]; exact g2)]
         rfl)
       obtain ⟨W, hW⟩ : ∃ W, wr.drew = W := ⟨_, rfl⟩
       have hN' : No w W Bf (fcs a i c z (j : Nat) false) (fcs a i c z' (j : Nat) false) x y av ls 0 ws j false (3 + j) (ndJ p j false (mayN i z) ws j) := by rw [← hW]; exact HN0.out.later (Below.refl _ wr).drew
       obtain ⟨k80, k81, k82, k83⟩ := hN'.f8.cells4
       obtain ⟨k60, k61, k62, k63⟩ := hN'.f6.cells4
       have f60 := hN'.f6.frozen 0
       have f61 := hN'.f6.frozen 1
       have f62 := hN'.f6.frozen 2
       have f63 := hN'.f6.frozen 3
       obtain ⟨rl, hrl, _⟩ := hN'.rs
       have kr : W.cell? ⟨w.heap.size + 1 + 1 + 1 + 1, 1, none⟩ = some (erV (ndJ p j false (mayN i z) ws j)) := hrl.cell 1 (by simp)
       obtain ⟨ev, hev⟩ : ∃ ev, Hid (erV (ndJ p j false (mayN i z) ws j) = ev) := ⟨_, Lib.hid rfl⟩
       rw [hev.out] at kr
       have HN := Lib.hid hN'
       obtain ⟨ae, ac, hav⟩ : ∃ ae ac, av = .slice ae ls.length ac := by
         obtain ⟨ae, ac, e, _⟩ := hN'.at'.fs.form
         exact ⟨ae, ac, e⟩
       have hst := fun (w : World) (a : Addr) (md : Mode) => run_store Tryz.prog w a av md (by rw [hav]; rfl)
       clear hN' hrl hav
       go_region
       all_goals
         go_wp2
         refine bodyPost_ret (res_node _ (w.heap.size + 1) x y av 0 ev _ (set4 HN.out.f6 _ _ _ _) rfl rfl) rfl ?_
         rw [← hev.out]
         exact HN.out.fin (ob_set4 _ _ _ _ _ _) HEE.out.symm HX.out HY.out HZZ.out HVV.out
     · have HMk := Lib.hid (HN0.out.mark HL.out (by unfold wid; simp))
       clear HN0
       go_wp2_with fail
       refine HMk.out.mono ?_
       rintro e W1 ⟨q, rfl, h1, hq⟩
       obtain ⟨ex, hex⟩ : ∃ e : Int, Hid (nx (ndJ p j true (mayN i z) ws j) (intE (fun _ => true) (ws.getD (3 + j) [])) = e) := ⟨_, Lib.hid rfl⟩
       rw [hex.out] at h1
       have HEE : Hid (ndE p j true (mayN i z) ws = ex) := Lib.hid (by rw [ndJ_end]; exact hex.out)
       have k83 := h1.f8.cell 3 (by simp)
       have f83 := h1.f8.frozen 3
       have h2 := h1.node 3 (.int .i64 q) (x' := x) (y' := y) (av' := av) (ls' := ls) (mk' := q) (by simp) h1.at'
       obtain ⟨W2, hW2⟩ : ∃ W2, W1.setCell ⟨w.heap.size + 1 + 1, 3, none⟩ (.int .i64 q) = W2 := ⟨_, rfl⟩
       rw [hW2] at h2
       have HN0 := Lib.hid h2
       have HQ := Lib.hid hq
       clear h1 h2 hq HMk k40 k41 k42 k43
       go_wp2_with fail
       try rw [hW2]
       clear hW2 k83 f83
       have HZZ : Hid (ex = 0 → z' = zN i z (ws.getD 0 [])) := Lib.hid (fun e0 => HZ.out (ndJ_e1 he1.out HE0.out (nx_zero (hex.out.trans e0)).1))
       have HVV : Hid (ex = 0 → ndV p j true ws = ⟨x, y, ls, q⟩) := Lib.hid (fun e9 => by
         have e0 := (nx_zero (hex.out.trans e9)).1
         have g1 := ndJ_e1 he1.out HE0.out e0
         have g2 := ndJ_e2 e0
         unfold ndV
         rw [HV0.out e0, HX'.out g1, HY'.out (by rw [← he2.out, g1]; exact g2), HQ.out e0]
         rfl)
       obtain ⟨W, hW⟩ : ∃ W, W2.drew = W := ⟨_, rfl⟩
       have hN' : No w W Bf (fcs a i c z (j : Nat) true) (fcs a i c z' (j : Nat) true) x y av ls q ws j true (3 + j + 1) ex := by rw [← hW]; exact HN0.out.later (Below.refl _ W2).drew
       obtain ⟨k80, k81, k82, k83⟩ := hN'.f8.cells4
       obtain ⟨k60, k61, k62, k63⟩ := hN'.f6.cells4
       have f60 := hN'.f6.frozen 0
       have f61 := hN'.f6.frozen 1
       have f62 := hN'.f6.frozen 2
       have f63 := hN'.f6.frozen 3
       obtain ⟨rl, hrl, _⟩ := hN'.rs
       have kr : W.cell? ⟨w.heap.size + 1 + 1 + 1 + 1, 1, none⟩ = some (erV ex) := hrl.cell 1 (by simp)
       obtain ⟨ev, hev⟩ : ∃ ev, Hid (erV ex = ev) := ⟨_, Lib.hid rfl⟩
       rw [hev.out] at kr
       have HN := Lib.hid hN'
       obtain ⟨ae, ac, hav⟩ : ∃ ae ac, av = .slice ae ls.length ac := by
         obtain ⟨ae, ac, e, _⟩ := hN'.at'.fs.form
         exact ⟨ae, ac, e⟩
       have hst := fun (w : World) (a : Addr) (md : Mode) => run_store Tryz.prog w a av md (by rw [hav]; rfl)
       clear hN' hrl hav
       go_region
       all_goals
         go_wp2
         refine bodyPost_ret (res_node _ (w.heap.size + 1) x y av q ev _ (set4 HN.out.f6 _ _ _ _) rfl rfl) rfl ?_
         rw [← hev.out]
         exact HN.out.fin (ob_set4 _ _ _ _ _ _) HEE.out.symm HX.out HY.out HZZ.out HVV.out
end

/- Package nodefile: head. -/
section
set_option maxRecDepth 100000
open Go.RowKit Go.Shelf Go.Lib
def hd4 (ws : List Bs) : Int := nx (nx (nx (nx (if ws.length = 4 then 0 else 4) (intE (fun n => decide (0 ≤ n)) (ws.getD 0 []))) (intE (fun n => n == 2) (ws.getD 1 []))) (intE (fun n => decide (0 ≤ n)) (ws.getD 2 []))) (intE (fun n => n == 0 || n == 1) (ws.getD 3 []))
def hdO (oa ob oc od : Option Int) : Option (Nat × Nat × Bool) := match oa, ob, oc, od with
 | some n, some t, some k, some m => if 0 ≤ n ∧ t = 2 ∧ 0 ≤ k ∧ (m = 0 ∨ m = 1) then some (n.toNat, k.toNat, m == 1) else none
 | _, _, _, _ => none
theorem hdP_four (a b c d : Bs) : hdP [a, b, c, d] = hdO (rdInt a) (rdInt b) (rdInt c) (rdInt d) := rfl
theorem hd4_is (ws : List Bs) : hd4 ws = if (hdP ws).isSome then 0 else 4 := by
 by_cases hl : ws.length = 4
 · obtain ⟨a, b, c, d, rfl⟩ : ∃ a b c d, ws = [a, b, c, d] := by
     rcases ws with _ | ⟨a, _ | ⟨b, _ | ⟨c, _ | ⟨d, _ | ⟨e, r⟩⟩⟩⟩⟩ <;> simp at hl
     exact ⟨a, b, c, d, rfl⟩
   have g0 : ([a, b, c, d] : List Bs).getD 0 [] = a := rfl
   have g1 : ([a, b, c, d] : List Bs).getD 1 [] = b := rfl
   have g2 : ([a, b, c, d] : List Bs).getD 2 [] = c := rfl
   have g3 : ([a, b, c, d] : List Bs).getD 3 [] = d := rfl
   unfold hd4
   rw [g0, g1, g2, g3, if_pos hl]
   rw [hdP_four]
   unfold intE
   generalize rdInt a = oa
   generalize rdInt b = ob
   generalize rdInt c = oc
   generalize rdInt d = od
   clear g0 g1 g2 g3 hl
   rcases oa with _ | n
   · simp [hdO, nx]
   rcases ob with _ | t
   · by_cases h1 : 0 ≤ n <;> simp [hdO, nx, h1]
   rcases oc with _ | k
   · by_cases h1 : 0 ≤ n <;> by_cases h2 : t = 2 <;> simp [hdO, nx, h1, h2]
   rcases od with _ | m
   · by_cases h1 : 0 ≤ n <;> by_cases h2 : t = 2 <;> by_cases h3 : 0 ≤ k <;> simp [hdO, nx, h1, h2, h3]
   by_cases h1 : 0 ≤ n <;> by_cases h2 : t = 2 <;> by_cases h3 : 0 ≤ k <;> by_cases h4 : m = 0 ∨ m = 1 <;> simp [hdO, nx, h1, h2, h3, h4]
 · have h0 : hdP ws = none := by
     rcases ws with _ | ⟨a, _ | ⟨b, _ | ⟨c, _ | ⟨d, _ | ⟨e, r⟩⟩⟩⟩⟩ <;> first | rfl | (simp at hl)
   rw [h0]
   unfold hd4 nx
   rw [if_neg hl]
   simp
theorem hd4_some {ws : List Bs} {n1 n3 n4 : Int} (h : hd4 ws = 0) (h1 : n1 = (rdInt (ws.getD 0 [])).getD 0) (h3 : n3 = (rdInt (ws.getD 2 [])).getD 0) (h4 : n4 = (rdInt (ws.getD 3 [])).getD 0) : 0 ≤ n1 ∧ 0 ≤ n3 ∧ hdP ws = some (n1.toNat, n3.toNat, n4 == 1) := by
 rw [hd4_is] at h
 cases hp : hdP ws with
 | none => rw [hp] at h; simp at h
 | some q =>
   unfold hdP at hp
   split at hp
   · rename_i a b c d
     split at hp
     · rename_i n t k m ea eb ec ed
       split at hp
       · rename_i hc
         have e1 : n1 = n := by rw [h1]; show (rdInt a).getD 0 = n; rw [ea]; rfl
         have e3 : n3 = k := by rw [h3]; show (rdInt c).getD 0 = k; rw [ec]; rfl
         have e4 : n4 = m := by rw [h4]; show (rdInt d).getD 0 = m; rw [ed]; rfl
         rw [e1, e3, e4]
         exact ⟨hc.1, hc.2.2.1, hp.symm⟩
       · cases hp
     · cases hp
   · cases hp
structure Hs (w0 W : World) (ws : List Bs) (j : Nat) (e : Int) : Prop where
 bel : Below w0.heap.size w0 W
 f2 : CB W w0.heap.size #[.slice none 0 0, .bool false, .int .i64 0, .bool false] 29
 rs : Rs w0.heap.size W (w0.heap.size + 1) (ws.drop j) e
 len : e = 0 → ws.length = 4
theorem Hs.step {w0 W W' : World} {ws : List Bs} {j j' : Nat} {e f : Int} (h : Hs w0 W ws j e) (ho : Ob (w0.heap.size + 1) W W') (hr : Rs w0.heap.size W' (w0.heap.size + 1) (ws.drop j') (nx e f)) : Hs w0 W' ws j' (nx e f) :=
 ⟨h.bel.trans (ho.below (by omega) h.bel.size), ho.cb h.f2 (by omega), hr, fun e0 => h.len (by unfold nx at e0; split at e0 <;> assumption)⟩
theorem Hs.word {w0 W : World} {ws : List Bs} {j : Nat} {e : Int} (h : Hs w0 W ws j e) (hl : ∀ x ∈ ws, x.length ≤ 900000) (hj : j < 4) : e = 0 → ∃ x r, ws.drop j = x :: r ∧ x.length ≤ 1000000 := fun e0 => by
 have hlt : j < ws.length := by rw [h.len e0]; exact hj
 exact ⟨ws[j], ws.drop (j + 1), List.drop_eq_getElem_cons hlt, by have := hl _ (List.getElem_mem hlt); omega⟩
theorem Rs.drew {N B : Nat} {W : World} {l : List Bs} {e : Int} (h : Rs N W B l e) : Rs N W.drew B l e := by
 obtain ⟨q, h1, h2⟩ := h
 exact ⟨q, h1, fun e0 => ⟨(h2 e0).1.later (Below.refl _ W).drew, (h2 e0).2⟩⟩
theorem getD_dropH (ws : List Bs) (j : Nat) : (ws.drop j).getD 0 [] = ws.getD j [] := by simp [List.getD]
theorem Hs.fromNought {w0 W : World} {ws : List Bs} {j : Nat} {e : Int} (h : Hs w0 W ws j e) (hl : ∀ x ∈ ws, x.length ≤ 900000) (hj : j < 4) :
   Calls Tryz.prog 57 #[.pointer (some ⟨w0.heap.size + 1, 0, none⟩), .func (.func 58) #[] #[]] W fun v w' => ∃ q, v = .returned (.int .i64 q) ∧ Hs w0 w' ws (j + 1) (nx e (intE (fun n => decide (0 ≤ n)) (ws.getD j []))) ∧ (e = 0 → q = (rdInt (ws.getD j [])).getD 0) := by
 refine (whole_fromNought _ (ws.drop j) e W h.rs (h.word hl hj)).mono ?_
 rintro v w' ⟨q, rfl, h1, h2, h3⟩
 rw [List.tail_drop, getD_dropH] at h1
 rw [getD_dropH] at h3
 exact ⟨q, rfl, h.step h2 h1, h3⟩
theorem Hs.two {w0 W : World} {ws : List Bs} {j : Nat} {e : Int} (h : Hs w0 W ws j e) (hl : ∀ x ∈ ws, x.length ≤ 900000) (hj : j < 4) :
   Calls Tryz.prog 57 #[.pointer (some ⟨w0.heap.size + 1, 0, none⟩), .func (.func 59) #[] #[]] W fun v w' => ∃ q, v = .returned (.int .i64 q) ∧ Hs w0 w' ws (j + 1) (nx e (intE (fun n => n == 2) (ws.getD j []))) ∧ (e = 0 → q = (rdInt (ws.getD j [])).getD 0) := by
 refine (whole_two _ (ws.drop j) e W h.rs (h.word hl hj)).mono ?_
 rintro v w' ⟨q, rfl, h1, h2, h3⟩
 rw [List.tail_drop, getD_dropH] at h1
 rw [getD_dropH] at h3
 exact ⟨q, rfl, h.step h2 h1, h3⟩
theorem Hs.bit {w0 W : World} {ws : List Bs} {j : Nat} {e : Int} (h : Hs w0 W ws j e) (hl : ∀ x ∈ ws, x.length ≤ 900000) (hj : j < 4) :
   Calls Tryz.prog 57 #[.pointer (some ⟨w0.heap.size + 1, 0, none⟩), .func (.func 60) #[] #[]] W fun v w' => ∃ q, v = .returned (.int .i64 q) ∧ Hs w0 w' ws (j + 1) (nx e (intE (fun n => n == 0 || n == 1) (ws.getD j []))) ∧ (e = 0 → q = (rdInt (ws.getD j [])).getD 0) := by
 refine (whole_bit _ (ws.drop j) e W h.rs (h.word hl hj)).mono ?_
 rintro v w' ⟨q, rfl, h1, h2, h3⟩
 rw [List.tail_drop, getD_dropH] at h1
 rw [getD_dropH] at h3
 exact ⟨q, rfl, h.step h2 h1, h3⟩
theorem Hs.hold {w0 W : World} {ws : List Bs} {j : Nat} {e : Int} (h : Hs w0 W ws j e) (right : Bool) (why : Int) (hw : why ≠ 0) :
   Calls Tryz.prog 61 #[.pointer (some ⟨w0.heap.size + 1, 0, none⟩), .bool right, .int .i64 why] W fun v w' => v = .returned (.tuple #[]) ∧ Hs w0 w' ws j (nx e (if right then 0 else why)) := by
 refine (hold_step _ (ws.drop j) e why right W h.rs (Or.inl hw)).mono ?_
 rintro v w' ⟨rfl, h1, h2⟩
 exact ⟨rfl, h.step h2 h1⟩
theorem res_head (W : World) (B : Nat) (a b c d : Value) (n : Int) (ev : Value) (tmps : Array Value) (h : CB W B #[a, b, c, d] 29)
   (t2 : tmps[2]? = some (.pointer (some ⟨B, 0, none⟩))) (t3 : tmps[3]? = some (.int .i64 n)) (t4 : tmps[4]? = some ev) : (results Tryz.f32 tmps).run Tryz.prog W = .ok (.tuple #[.agg #[a, b, c, d], .int .i64 n, ev]) W := by
 have c0 := h.cell 0 (by simp)
 have c1 := h.cell 1 (by simp)
 have c2 := h.cell 2 (by simp)
 have c3 := h.cell 3 (by simp)
 simp [results, Tryz.f32, go_sem, c0, c1, c2, c3, t2, t3, t4]
def HeadR (w w' : World) (ws : List Bs) (v : Ending) : Prop :=
 ∃ (n k : Int) (b : Bool), v = .returned (.tuple #[.agg #[.slice none 0 0, .bool false, .int .i64 k, .bool b], .int .i64 n, erV (hdE ws : Nat)]) ∧ Below w.heap.size w w' ∧ (hdE ws = 0 → 0 ≤ n ∧ 0 ≤ k ∧ hdP ws = some (n.toNat, k.toNat, b))
set_option maxHeartbeats 8000000 in
theorem head_any (wv : Value) (ws : List Bs) (w : World) (hS : Sl w wv ws) (hK : Bk w.heap.size wv) (hl : ∀ x ∈ ws, x.length ≤ 900000) :
   Calls Tryz.prog 32 #[wv] w fun v w' => HeadR w w' ws v := by
 have HL := Lib.hid hl
 obtain ⟨W0, hW0⟩ : ∃ W0, w.alloc (.cells #[.slice none 0 0, .bool false, .int .i64 0, .bool false] 29) = W0 := ⟨_, rfl⟩
 have bb0 : Below w.heap.size w W0 := by rw [← hW0]; exact (Below.refl _ w).alloc (Nat.le_refl _) _
 have z0 : W0.heap.size = w.heap.size + 1 := by rw [← hW0]; simp
 have q2 : CB W0 w.heap.size #[.slice none 0 0, .bool false, .int .i64 0, .bool false] 29 := by rw [← hW0]; exact CB.new w _ _
 have HRo : Hid (Calls Tryz.prog 56 #[wv, .int .i64 4] W0 fun e w' => e = .returned (.pointer (some ⟨w.heap.size + 1, 0, none⟩)) ∧ Hs w w' ws 0 (if ws.length = 4 then 0 else 4)) := Lib.hid (by
   refine (rowOf_any (N := w.heap.size) wv ws 4 W0 (hS.later bb0) hK (by omega)).mono ?_
   rintro e w' ⟨rfl, hr, hb⟩
   rw [z0] at hr hb ⊢
   exact ⟨rfl, bb0.trans (hb.mono (by omega)), q2.later (by rw [z0]; exact hb), hr, fun e0 => by split at e0 <;> first | assumption | cases e0⟩)
 obtain ⟨sw, cw, hwv⟩ : ∃ sw cw, wv = .slice sw ws.length cw := by
   obtain ⟨⟨sw, cw, e, _⟩, _⟩ := hS
   exact ⟨sw, cw, e⟩
 obtain ⟨n, hn⟩ : ∃ n, Hid (ws.length = n) := ⟨_, Lib.hid rfl⟩
 rw [hn.out] at hwv
 subst hwv
 obtain ⟨e0, he0⟩ : ∃ e : Int, Hid ((if ws.length = 4 then 0 else 4) = e) := ⟨_, Lib.hid rfl⟩
 rw [he0.out] at HRo
 clear hS q2 bb0 z0 hl
 go_enter Tryz.func32, Tryz.ntmps32
 go_wp2_with fail
 try rw [hW0]
 clear hW0
 refine HRo.out.mono ?_
 rintro e W1 ⟨rfl, h1⟩
 have H1 := Lib.hid (h1.fromNought HL.out (by omega))
 clear h1 HRo
 go_wp2_with fail
 refine H1.out.mono ?_
 rintro e W2 ⟨n1, rfl, h2, g1⟩
 have G1 := Lib.hid g1
 obtain ⟨e1, he1⟩ : ∃ e : Int, Hid (nx e0 (intE (fun n => decide (0 ≤ n)) (ws.getD 0 [])) = e) := ⟨_, Lib.hid rfl⟩
 rw [he1.out] at h2
 have H2 := Lib.hid (h2.two HL.out (by omega))
 clear h2 H1 g1
 go_wp2_with fail
 refine H2.out.mono ?_
 rintro e W3 ⟨n2, rfl, h3, g2⟩
 obtain ⟨e2, he2⟩ : ∃ e : Int, Hid (nx e1 (intE (fun n => n == 2) (ws.getD 1 [])) = e) := ⟨_, Lib.hid rfl⟩
 rw [he2.out] at h3
 have H3 := Lib.hid (h3.fromNought HL.out (by omega))
 clear h3 H2 g2
 go_wp2_with fail
 refine H3.out.mono ?_
 rintro e W4 ⟨n3, rfl, h4, g3⟩
 have G3 := Lib.hid g3
 obtain ⟨e3, he3⟩ : ∃ e : Int, Hid (nx e2 (intE (fun n => decide (0 ≤ n)) (ws.getD 2 [])) = e) := ⟨_, Lib.hid rfl⟩
 rw [he3.out] at h4
 have H4 := Lib.hid (h4.bit HL.out (by omega))
 clear h4 H3 g3
 go_wp2_with fail
 refine H4.out.mono ?_
 rintro e W5 ⟨n4, rfl, h5, g4⟩
 have G4 := Lib.hid g4
 obtain ⟨e4, he4⟩ : ∃ e : Int, Hid (nx e3 (intE (fun n => n == 0 || n == 1) (ws.getD 3 [])) = e) := ⟨_, Lib.hid rfl⟩
 rw [he4.out] at h5
 have H5 := Lib.hid h5
 clear h5 H4 g4
 have HE4 : Hid (hd4 ws = e4) := Lib.hid (by unfold hd4; rw [he0.out, he1.out, he2.out, he3.out, he4.out])
 have HS4 : Hid (e4 = 0 → 0 ≤ n1 ∧ 0 ≤ n3 ∧ hdP ws = some (n1.toNat, n3.toNat, n4 == 1)) := Lib.hid (fun z4 => by
   have z3 : e3 = 0 := by have := he4.out; rw [z4] at this; unfold nx at this; split at this <;> assumption
   have z2 : e2 = 0 := by have := he3.out; rw [z3] at this; unfold nx at this; split at this <;> assumption
   have z1 : e1 = 0 := by have := he2.out; rw [z2] at this; unfold nx at this; split at this <;> assumption
   have z0 : e0 = 0 := by have := he1.out; rw [z1] at this; unfold nx at this; split at this <;> assumption
   exact hd4_some (HE4.out.trans z4) (G1.out z0) (G3.out z2) (G4.out z3))
 obtain ⟨rt, hrt⟩ : ∃ b : Bool, Hid ((decide (n1 ≤ 1048576) && decide (n3 ≤ 16)) = b) := ⟨_, Lib.hid rfl⟩
 have HH := Lib.hid (H5.out.hold rt 3 (by decide))
 have HEF : Hid (nx e4 (if rt then 0 else 3) = (hdE ws : Nat)) := Lib.hid (by
   have h4 := HE4.out
   rw [hd4_is] at h4
   unfold hdE
   cases hp : hdP ws with
   | none => rw [hp] at h4; simp at h4; subst h4; rfl
   | some q =>
     rw [hp] at h4
     simp at h4
     subst h4
     obtain ⟨p1, p3, e⟩ := HS4.out rfl
     rw [hp] at e
     cases e
     rw [← hrt.out]
     by_cases h1 : n1 ≤ 1048576 <;> by_cases h3 : n3 ≤ 16
     · have hc : n1.toNat ≤ 1048576 ∧ n3.toNat ≤ 16 := ⟨by omega, by omega⟩
       simp [nx, h1, h3, hc]
     · have hc : ¬ (n1.toNat ≤ 1048576 ∧ n3.toNat ≤ 16) := by omega
       simp only [if_neg hc]; simp [nx, h1, h3]
     · have hc : ¬ (n1.toNat ≤ 1048576 ∧ n3.toNat ≤ 16) := by omega
       simp only [if_neg hc]; simp [nx, h1, h3]
     · have hc : ¬ (n1.toNat ≤ 1048576 ∧ n3.toNat ≤ 16) := by omega
       simp only [if_neg hc]; simp [nx, h1, h3])
 have HZ : Hid (hdE ws = 0 → e4 = 0) := Lib.hid (fun h0 => by
   have := HEF.out
   rw [h0] at this
   unfold nx at this
   split at this
   · assumption
   · exact this)
 clear H5
 by_cases c1 : n1 ≤ 1048576
 · have hr1 : rt = decide (n3 ≤ 16) := by rw [← hrt.out]; simp [c1]
   subst hr1
   clear hrt
   go_wp2_with fail
   refine HH.out.mono ?_
   rintro e W6 ⟨rfl, h6⟩
   rw [HEF.out] at h6
   obtain ⟨W, hW⟩ : ∃ W, W6.drew = W := ⟨_, rfl⟩
   have h6' : Hs w W ws (0 + 1 + 1 + 1 + 1) (hdE ws : Nat) := by rw [← hW]; exact ⟨h6.bel.drew, h6.f2, h6.rs.drew, h6.len⟩
   have k0 := h6'.f2.cell 0 (by simp)
   have k1 := h6'.f2.cell 1 (by simp)
   have k2 := h6'.f2.cell 2 (by simp)
   have k3 := h6'.f2.cell 3 (by simp)
   have f0 := h6'.f2.frozen 0
   have f1 := h6'.f2.frozen 1
   have f2 := h6'.f2.frozen 2
   have f3 := h6'.f2.frozen 3
   obtain ⟨rl, hrl, _⟩ := h6'.rs
   obtain ⟨ev, hev⟩ : ∃ ev, Hid (erV (hdE ws : Nat) = ev) := ⟨_, Lib.hid rfl⟩
   have kr : W.cell? ⟨w.heap.size + 1, 1, none⟩ = some ev := by rw [← hev.out]; exact hrl.cell 1 (by simp)
   have HN := Lib.hid h6'
   clear h6 h6' hrl HH
   go_wp2_with fail
   go_region
   all_goals
     go_wp2
     have hcb := (((HN.out.f2.set 0 (.slice none 0 0)).set 1 (.bool false)).set 2 (.int .i64 n3)).set 3 (.bool (n4 == 1))
     refine bodyPost_ret (res_head _ w.heap.size (.slice none 0 0) (.bool false) (.int .i64 n3) (.bool (n4 == 1)) n1 ev _ (by simpa using hcb) rfl rfl rfl) rfl ?_
     rw [← hev.out]
     refine ⟨n1, n3, n4 == 1, rfl, ?_, fun h0 => HS4.out (HZ.out h0)⟩
     exact (((HN.out.bel.setCell (Nat.le_refl _) _).setCell (Nat.le_refl _) _).setCell (Nat.le_refl _) _).setCell (Nat.le_refl _) _
 · have hr1 : rt = false := by rw [← hrt.out]; simp [c1]
   have c1' : 1048576 < n1 := by omega
   subst hr1
   clear hrt
   go_wp2_with fail
   refine HH.out.mono ?_
   rintro e W6 ⟨rfl, h6⟩
   rw [HEF.out] at h6
   obtain ⟨W, hW⟩ : ∃ W, W6.drew = W := ⟨_, rfl⟩
   have h6' : Hs w W ws (0 + 1 + 1 + 1 + 1) (hdE ws : Nat) := by rw [← hW]; exact ⟨h6.bel.drew, h6.f2, h6.rs.drew, h6.len⟩
   have k0 := h6'.f2.cell 0 (by simp)
   have k1 := h6'.f2.cell 1 (by simp)
   have k2 := h6'.f2.cell 2 (by simp)
   have k3 := h6'.f2.cell 3 (by simp)
   have f0 := h6'.f2.frozen 0
   have f1 := h6'.f2.frozen 1
   have f2 := h6'.f2.frozen 2
   have f3 := h6'.f2.frozen 3
   obtain ⟨rl, hrl, _⟩ := h6'.rs
   obtain ⟨ev, hev⟩ : ∃ ev, Hid (erV (hdE ws : Nat) = ev) := ⟨_, Lib.hid rfl⟩
   have kr : W.cell? ⟨w.heap.size + 1, 1, none⟩ = some ev := by rw [← hev.out]; exact hrl.cell 1 (by simp)
   have HN := Lib.hid h6'
   clear h6 h6' hrl HH
   go_wp2_with fail
   go_region
   all_goals
     go_wp2
     have hcb := (((HN.out.f2.set 0 (.slice none 0 0)).set 1 (.bool false)).set 2 (.int .i64 n3)).set 3 (.bool (n4 == 1))
     refine bodyPost_ret (res_head _ w.heap.size (.slice none 0 0) (.bool false) (.int .i64 n3) (.bool (n4 == 1)) n1 ev _ (by simpa using hcb) rfl rfl rfl) rfl ?_
     rw [← hev.out]
     refine ⟨n1, n3, n4 == 1, rfl, ?_, fun h0 => HS4.out (HZ.out h0)⟩
     exact (((HN.out.bel.setCell (Nat.le_refl _) _).setCell (Nat.le_refl _) _).setCell (Nat.le_refl _) _).setCell (Nat.le_refl _) _
end

/- Package nodefile: nodes in memory; lines handed in. -/
section
set_option maxRecDepth 100000
open Go.RowKit Go.Shelf Go.Lib
abbrev Nt := Nd × Value
def ncs (ns : List Nt) : List Value := ns.flatMap fun p => [.float .f64 p.1.x, .float .f64 p.1.y, p.2, .int .i64 p.1.m]
theorem ncs_app (ns : List Nt) (p : Nt) : ncs (ns ++ [p]) = ncs ns ++ [.float .f64 p.1.x, .float .f64 p.1.y, p.2, .int .i64 p.1.m] := by simp [ncs]
theorem ncs_at : ∀ (ns : List Nt) (k : Nat) (p : Nt), ns[k]? = some p → (ncs ns)[k * 4]? = some (.float .f64 p.1.x) ∧ (ncs ns)[k * 4 + 1]? = some (.float .f64 p.1.y) ∧ (ncs ns)[k * 4 + 2]? = some p.2 ∧ (ncs ns)[k * 4 + 3]? = some (.int .i64 p.1.m) := by
 intro ns
 induction ns with
 | nil => intro k p h; simp at h
 | cons a r ih =>
   intro k p h
   have e : ncs (a :: r) = [.float .f64 a.1.x, .float .f64 a.1.y, a.2, .int .i64 a.1.m] ++ ncs r := rfl
   cases k with
   | zero =>
     obtain rfl : a = p := by simpa using h
     exact ⟨rfl, rfl, rfl, rfl⟩
   | succ k =>
     have := ih k p (by simpa using h)
     rw [e, show (k + 1) * 4 = k * 4 + 4 by omega]
     exact ⟨by simpa using this.1, by simpa using this.2.1, by simpa using this.2.2.1, by simpa using this.2.2.2⟩
def wdN (p : Nd) : Prop := p.x < 18446744073709551616 ∧ p.y < 18446744073709551616 ∧ InR p.m
theorem inR_nd {p : Pm} {k : Nat} {m : Bool} {ws : List Bs} {x y : Nat} {ls : List Nat} {mk : Int} (h : ndV p k m ws = ⟨x, y, ls, mk⟩) : InR mk := by
 unfold ndV at h
 have hm : (if m then (rdInt (ws.getD (3 + k) [])).getD 0 else 0) = mk := congrArg Nd.m h
 rw [← hm]
 split
 · cases hr : rdInt (ws.getD (3 + k) []) with
   | none => exact ⟨by decide, by decide⟩
   | some n => exact (itoa_rd hr).1
 · exact ⟨by decide, by decide⟩
structure Nr (W : World) (B : Nat) (v : Value) (ns : List Nt) : Prop where
 own : W.ownsRow B 53 4 v ns.length (ncs ns)
 sub : ∀ p ∈ ns, Fr W B p.2 p.1.a
 wrd : ∀ p ∈ ns, wdN p.1
theorem Nr.nil {W : World} {B : Nat} {v : Value} (h : W.ownsRow B 53 4 v 0 []) : Nr W B v [] := ⟨h, fun p hp => by simp at hp, fun p hp => by simp at hp⟩
theorem Nr.later {W W' : World} {B : Nat} {v : Value} {ns : List Nt} (h : Nr W B v ns) (hb : Below W.heap.size W W') : Nr W' B v ns := ⟨own_later h.own hb, fun p hp => (h.sub p hp).later hb, h.wrd⟩
theorem Nr.base {W : World} {B B' : Nat} {v : Value} {ns : List Nt} (h : Nr W B v ns) (hb : B' ≤ B) : Nr W B' v ns := ⟨own_base h.own hb, fun p hp => (h.sub p hp).mono hb, h.wrd⟩
theorem Nr.ob {W W' : World} {B C : Nat} {v : Value} {ns : List Nt} (h : Nr W B v ns) (ho : Ob C W W') (hC : C < B) : Nr W' B v ns := ⟨own_ob h.own ho hC, fun p hp => ⟨own_ob (h.sub p hp).own ho hC, (h.sub p hp).word⟩, h.wrd⟩
theorem Nr.form {W : World} {B : Nat} {v : Value} {ns : List Nt} (h : Nr W B v ns) : ∃ a c, v = .slice a ns.length c := own_slice h.own
theorem Fr.keptN {W W' : World} {B : Nat} {v : Value} {ls : List Nat} {base size n : Nat} {v2 : Value} {xs : List Value} (h : Fr W B v ls) (h2 : W.ownsRow base 53 size v2 n xs) (hg : W.grownBy W' v2.ownBlock) : Fr W' B v ls := by
 refine ⟨World.ownsRow.kept h.own hg ?_, h.word⟩
 rcases h.own.2 with ⟨rfl, _⟩ | ⟨g, cap, cur, rfl, _, hgb, _⟩
 · exact .inl rfl
 · refine .inr fun e' => ?_
   rcases h2.2 with ⟨rfl, _⟩ | ⟨g2, cap2, cur2, rfl, _, hgb2, _⟩
   · simp [Value.ownBlock] at e'
   · obtain rfl : g = g2 := by simpa [Value.ownBlock] using e'
     rw [hgb] at hgb2
     simp at hgb2
theorem Nr.grew {W W2 : World} {B : Nat} {v v' : Value} {ns : List Nt} {p : Nt} {tmp : Obj} (h : Nr W B v ns) (hp : Fr W B p.2 p.1.a) (hw : wdN p.1) (hown : W2.ownsRow B 53 4 v' (ns.length + 1) (ncs ns ++ [.float .f64 p.1.x, .float .f64 p.1.y, p.2, .int .i64 p.1.m])) (hg : (W.alloc tmp).grownBy W2 v.ownBlock) : Nr W2 B v' (ns ++ [p]) := by
 refine ⟨by rw [List.length_append, ncs_app]; exact hown, fun q hq => ?_, fun q hq => ?_⟩
 · have hs : Fr W B q.2 q.1.a := by
     rcases List.mem_append.1 hq with e | e
     · exact h.sub q e
     · rw [List.mem_singleton.1 e]; exact hp
   exact Fr.keptN ⟨World.ownsRow.alloc hs.own tmp, hs.word⟩ (h.own.alloc tmp) hg
 · rcases List.mem_append.1 hq with e | e
   · exact h.wrd q e
   · rw [List.mem_singleton.1 e]; exact hw
structure Lw (W : World) (v : Value) (ps : List Lt) : Prop where
 form : ∃ a c, v = .slice a ps.length c ∧ ps.length ≤ c ∧ c ≤ 9223372036854775807 ∧ (ps = [] ∨ ∃ g off, a = some ⟨g, off, none⟩ ∧ g < W.heap.size ∧ ∀ k p, ps[k]? = some p → W.cell? ⟨g, off + k * 2, none⟩ = some (.int .i64 (p.1 : Nat)) ∧ W.cell? ⟨g, off + k * 2 + 1, none⟩ = some p.2.2)
 sub : ∀ p ∈ ps, Sl W p.2.2 p.2.1 ∧ Bk W.heap.size p.2.2
theorem Lw.later {W W' : World} {v : Value} {ps : List Lt} (h : Lw W v ps) (hb : Below W.heap.size W W') : Lw W' v ps := by
 obtain ⟨⟨a, c, h1, h2, h3, h4⟩, h5⟩ := h
 refine ⟨⟨a, c, h1, h2, h3, ?_⟩, fun p hp => ⟨(h5 p hp).1.later hb, fun b hbb => Nat.lt_of_lt_of_le ((h5 p hp).2 b hbb) hb.size⟩⟩
 rcases h4 with h4 | ⟨g, off, h6, h7, h8⟩
 · exact Or.inl h4
 · exact Or.inr ⟨g, off, h6, Nat.lt_of_lt_of_le h7 hb.size, fun k p hp => ⟨cell_later hb h7 (h8 k p hp).1, cell_later hb h7 (h8 k p hp).2⟩⟩
theorem Lr.lw {e : TypeId} {W : World} {B : Nat} {v : Value} {ps : List Lt} (h : Lr e W B v ps) (hl : ∀ p ∈ ps, ∀ x ∈ p.2.1, x.length ≤ 900000) : Lw W v ps := by
 refine ⟨?_, fun p hp => ⟨(h.sub p hp).sl (fun x hx => by have := hl p hp x hx; omega), fun b hb => (World.ownsRow.lt (h.sub p hp) b hb).2⟩⟩
 have h0 := h.own
 rcases h.own.2 with ⟨h1, h2⟩ | ⟨g, cap, cur, rfl, _, h3, h4, h5, _⟩
 · have : ps = [] := List.length_eq_zero_iff.1 h2
   subst this
   exact ⟨none, 0, h1, by simp, by omega, Or.inl rfl⟩
 · refine ⟨_, cap, rfl, h4, by unfold maxLen at h5; omega, Or.inr ⟨g, 0, rfl, (World.ownsRow.lt h0 g rfl).2, fun k p hk => ?_⟩⟩
   obtain ⟨hlt, rfl⟩ := List.getElem?_eq_some_iff.1 hk
   have := lcs_at ps k hlt
   refine ⟨?_, ?_⟩
   · rw [show k * 2 = 2 * k by omega]; exact own_cellL h0 this.1
   · rw [Nat.add_assoc, show k * 2 + 1 = 2 * k + 1 by omega]; exact own_cellL h0 this.2
structure Tk (w0 W : World) (Bf : Nat) (nv : Value) (ns : List Nt) (z : Bool) (k : Nat) (m : Bool) : Prop where
 bel : Below w0.heap.size w0 W
 r0 : CB W w0.heap.size #[.slice none 0 0, .bool false, .int .i64 0, .bool false] 29
 fb : CB W Bf #[nv, .bool z, .int .i64 (k : Nat), .bool m] 29
 hB : w0.heap.size < Bf
 nr : Nr W (Bf + 1) nv ns
 tab : Tab W
 tl : 3 < w0.heap.size
theorem Tk.later {w0 W W' : World} {Bf : Nat} {nv : Value} {ns : List Nt} {z : Bool} {k : Nat} {m : Bool} (h : Tk w0 W Bf nv ns z k m) (hb : Below W.heap.size W W') : Tk w0 W' Bf nv ns z k m :=
 ⟨h.bel.trans (hb.mono h.bel.size), h.r0.later hb, h.fb.later hb, h.hB, h.nr.later hb, h.tab.later hb, h.tl⟩
theorem Tk.node {w0 W W' : World} {Bf : Nat} {nv : Value} {ns : List Nt} {z z' : Bool} {k : Nat} {m : Bool} (h : Tk w0 W Bf nv ns z k m) (ho : Ob Bf W W') (hf : CB W' Bf #[nv, .bool z', .int .i64 (k : Nat), .bool m] 29) (hT : Tab W') : Tk w0 W' Bf nv ns z' k m :=
 ⟨h.bel.trans (ho.below (Nat.le_of_lt h.hB) h.bel.size), ho.cb h.r0 (by have := h.hB; omega), hf, h.hB, h.nr.ob ho (by omega), hT, h.tl⟩
theorem Tk.set {w0 W W' : World} {Bf b : Nat} {nv : Value} {ns : List Nt} {z : Bool} {k : Nat} {m : Bool} (h : Tk w0 W Bf nv ns z k m) (ho : Ob b W W') (hb : Bf < b) (hn : ∀ q ∈ ns, q.2.ownBlock ≠ some b) (hv : nv.ownBlock ≠ some b) : Tk w0 W' Bf nv ns z k m := by
 have hB := h.hB
 have key : ∀ {base e size n : Nat} {v : Value} {xs : List Value}, W.ownsRow base e size v n xs → v.ownBlock ≠ some b → W'.ownsRow base e size v n xs := fun hr hne => by
   refine ⟨hr.1, ?_⟩
   rcases hr.2 with h1 | ⟨g, cap, cur, h1, h2, h3, h4⟩
   · exact Or.inl h1
   · refine Or.inr ⟨g, cap, cur, h1, h2, ?_, h4⟩
     rw [ho.block g (Array.getElem?_eq_some_iff.1 h3).1 (fun e => hne (by rw [h1, ← e]; rfl))]; exact h3
 refine ⟨h.bel.trans (ho.below (by omega) h.bel.size), ho.cb h.r0 (by omega), ho.cb h.fb (by omega), hB, ⟨key h.nr.own hv, fun q hq => ⟨key (h.nr.sub q hq).own (hn q hq), (h.nr.sub q hq).word⟩, h.nr.wrd⟩, h.tab.ob ho (by have := h.tl; omega), h.tl⟩
theorem Tk.boxA {w0 W W1 : World} {Bf : Nat} {nv : Value} {ns : List Nt} {z z' : Bool} {k : Nat} {m : Bool} {x y : Nat} {av : Value} {ls : List Nat} {mk : Int} (h : Tk w0 W Bf nv ns z k m) (ho : Ob Bf (W.alloc (.cells nz 53)) W1) (hf : CB W1 Bf #[nv, .bool z', .int .i64 (k : Nat), .bool m] 29) (hT : Tab W1) (ha : Fr W1 (W.alloc (.cells nz 53)).heap.size av ls) :
   CB W1 W.heap.size nz 53 ∧ Tk w0 W1 Bf nv ns z' k m ∧ ∀ W2, W2 = (((W1.setCell ⟨W.heap.size, 0, none⟩ (.float .f64 x)).setCell ⟨W.heap.size, 1, none⟩ (.float .f64 y)).setCell ⟨W.heap.size, 2, none⟩ av).setCell ⟨W.heap.size, 3, none⟩ (.int .i64 mk) → Tk w0 W2 Bf nv ns z' k m ∧ CB W2 W.heap.size #[.float .f64 x, .float .f64 y, av, .int .i64 mk] 53 ∧ Fr W2 (Bf + 1) av ls := by
 have hlt := h.fb.lt
 have hb : Below W.heap.size W (W.alloc (.cells nz 53)) := (Below.refl _ W).alloc (Nat.le_refl _) _
 have c1 : CB W1 W.heap.size nz 53 := ho.cb (CB.new W _ _) (by omega)
 have t1 := (h.later hb).node ho hf hT
 refine ⟨c1, t1, ?_⟩
 rintro W2 rfl
 have o2 := ob_set4 W1 W.heap.size (.float .f64 x) (.float .f64 y) av (.int .i64 mk)
 refine ⟨t1.set o2 hlt (fun q hq e => ?_) (fun e => ?_), set4 c1 _ _ _ _, ⟨own_base (own_ob ha.own o2 (by simp)) (by simp; omega), ha.word⟩⟩
 · have := ((h.nr.sub q hq).own.lt _ e).2; omega
 · have := (h.nr.own.lt _ e).2; omega
theorem Tk.boxC {w0 W W1 W2 : World} {Bf : Nat} {nv : Value} {ns : List Nt} {z z' : Bool} {k : Nat} {m : Bool} {x y : Nat} {av : Value} {ls : List Nat} {mk : Int} (h : Tk w0 W Bf nv ns z k m) (ho : Ob Bf W W1) (hf : CB W1 Bf #[nv, .bool z', .int .i64 (k : Nat), .bool m] 29) (hT : Tab W1) (ha : Fr W1 W.heap.size av ls) (hW : W1.alloc (.cells #[.float .f64 x, .float .f64 y, av, .int .i64 mk] 53) = W2) :
   Tk w0 W2 Bf nv ns z' k m ∧ CB W2 W1.heap.size #[.float .f64 x, .float .f64 y, av, .int .i64 mk] 53 ∧ Fr W2 (Bf + 1) av ls := by
 have hlt := h.fb.lt
 have hb : Below W1.heap.size W1 W2 := by rw [← hW]; exact (Below.refl _ W1).alloc (Nat.le_refl _) _
 exact ⟨(h.node ho hf hT).later hb, by rw [← hW]; exact CB.new W1 _ _, ⟨own_base (ha.later hb).own (by omega), ha.word⟩⟩
theorem Tk.append {w0 W W2 : World} {Bf : Nat} {nv nv' : Value} {ns : List Nt} {z : Bool} {k : Nat} {m : Bool} {p : Nt} {tmp : Obj} (h : Tk w0 W Bf nv ns z k m) (hp : Fr W (Bf + 1) p.2 p.1.a) (hw : wdN p.1) (hown : W2.ownsRow (Bf + 1) 53 4 nv' (ns.length + 1) (ncs ns ++ [.float .f64 p.1.x, .float .f64 p.1.y, p.2, .int .i64 p.1.m])) (hg : (W.alloc tmp).grownBy W2 nv.ownBlock) :
   (W2.cell? ⟨Bf, 0, none⟩ = some nv ∧ W2.frozen? ⟨Bf, 0, none⟩ = false) ∧ Tk w0 (W2.setCell ⟨Bf, 0, none⟩ nv') Bf nv' (ns ++ [p]) z k m := by
 have hB := h.hB
 have hlow : ∀ b, nv.ownBlock = some b → Bf + 1 ≤ b := fun b hb => (h.nr.own.lt b hb).1
 have hlt := h.fb.lt
 have hbl : ∀ b, b < Bf + 1 → W2.heap[b]? = W.heap[b]? := fun b hb => by
   rw [hg.block b (by simp; omega) (fun e => by have := hlow b e.symm; omega), Below.heap_alloc _ _ _ (by omega)]
 have hsz' : W.heap.size + 1 ≤ W2.heap.size := by have := hg.size; simpa using this
 have hBl : Below (Bf + 1) W W2 := ⟨hg.os, hg.tape, hg.output, by omega, hbl⟩
 have cb : ∀ {b t : Nat} {cs : Array Value}, CB W b cs t → b < Bf + 1 → CB W2 b cs t := fun hc hb => by unfold CB; rw [hbl _ hb]; exact hc
 have h8 := cb h.fb (by omega)
 have hn2 : Nr W2 (Bf + 1) nv' (ns ++ [p]) := h.nr.grew hp hw hown hg
 have ho := Ob.set Bf 0 W2 nv'
 refine ⟨⟨h8.cell 0 (by simp), h8.frozen 0⟩, ?_, (cb h.r0 (by omega)).other (by omega) _, by have := h8.set 0 nv'; simpa using this, hB, hn2.ob ho (by omega), ?_, h.tl⟩
 · exact (h.bel.trans (hBl.mono (by omega))).setCell (by show w0.heap.size ≤ Bf; omega) _
 · refine Tab.ob (fun q hq => ?_) ho (by have := h.tl; omega)
   exact (hBl.cell (p := ⟨3, q, none⟩) (by have := h.tl; show 3 < _; omega)).trans (h.tab q hq)
end
end Go.Proofs.YtkbhmglmbolbiaaGreatDoor
