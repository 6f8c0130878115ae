/- Own texts, put together: Qb Qc Qd. -/
import Derived.Test.YtkbhmglmbolbiaaGreatDoorQ4
import Derived.Test.YtkbhmglmbolbiaaGreatDoorQ26
import Derived.Test.YtkbhmglmbolbiaaGreatDoorQ36
import Derived.Test.YtkbhmglmbolbiaaGreatDoorQ37
namespace Go.Proofs.YtkbhmglmbolbiaaGreatDoor
/- Package nodefile: a line's words are taken one by one. -/
section
open Go.RowKit Go.Shelf Go.Lib
attribute [local go_sem] run_store_str
theorem run_store_iface (P : Program) (w : World) (a : Addr) (m : Mode) (t : TypeId) (v : Value) : (store a (.iface t v) m).run P w = stored P w a (.iface t v) m := run_store P w a _ m rfl
abbrev erI (e : Int) : Value := .iface 26 (.int .i64 e)
def erV (e : Int) : Value := if e = 0 then .nilIface else erI e
theorem erV_no {e : Int} (h : e ≠ 0) : erV e = erI e := if_neg h
theorem hold_ok (B : Nat) (l : Value) (why : Int) (w : World) (h : CB w B #[l, .nilIface] 125) :
   Calls Tryz.prog 61 #[.pointer (some ⟨B, 0, none⟩), .bool true, .int .i64 why] w fun e w' => e = .returned (.tuple #[]) ∧ w' = w := by
 have c1 : w.cell? ⟨B, 1, none⟩ = some .nilIface := h.cell 1 (by simp)
 clear h
 go_enter Tryz.func61, Tryz.ntmps61
 go_wp2
 refine bodyPost_end (results_none rfl _ _ _) rfl ?_
 exact ⟨rfl, rfl⟩
theorem hold_was (B : Nat) (l : Value) (e0 why : Int) (right : Bool) (w : World) (h : CB w B #[l, erI e0] 125) :
   Calls Tryz.prog 61 #[.pointer (some ⟨B, 0, none⟩), .bool right, .int .i64 why] w fun e w' => e = .returned (.tuple #[]) ∧ w' = w := by
 have c1 : w.cell? ⟨B, 1, none⟩ = some (erI e0) := h.cell 1 (by simp)
 clear h
 go_enter Tryz.func61, Tryz.ntmps61
 go_wp2
 refine bodyPost_end (results_none rfl _ _ _) rfl ?_
 exact ⟨rfl, rfl⟩
theorem hold_set (B : Nat) (l : Value) (why : Int) (w : World) (h : CB w B #[l, .nilIface] 125) :
   Calls Tryz.prog 61 #[.pointer (some ⟨B, 0, none⟩), .bool false, .int .i64 why] w fun e w' => e = .returned (.tuple #[]) ∧ w' = w.setCell ⟨B, 1, none⟩ (erI why) := by
 have c1 : w.cell? ⟨B, 1, none⟩ = some .nilIface := h.cell 1 (by simp)
 have f1 : w.frozen? ⟨B, 1, none⟩ = false := h.frozen 1
 have hst := fun (v : Value) m => run_store_iface Tryz.prog w ⟨B, 1, none⟩ m 26 v
 clear h
 go_enter Tryz.func61, Tryz.ntmps61
 go_wp2
 refine bodyPost_end (results_none rfl _ _ _) rfl ?_
 exact ⟨rfl, rfl⟩
theorem word_was (B : Nat) (l : Value) (e0 : Int) (w : World) (h : CB w B #[l, erI e0] 125) :
   Calls Tryz.prog 97 #[.pointer (some ⟨B, 0, none⟩)] w fun e w' => e = .returned (.string ⟨#[]⟩) ∧ w' = w := by
 have c1 : w.cell? ⟨B, 1, none⟩ = some (erI e0) := h.cell 1 (by simp)
 clear h
 go_enter Tryz.func97, Tryz.ntmps97
 go_wp2
 go_ret
 exact ⟨rfl, rfl⟩
theorem Sl.tail {W : World} {g off c : Nat} {x : Bs} {r : List Bs} (h : Sl W (.slice (some ⟨g, off, none⟩) (r.length + 1) c) (x :: r)) : Sl W (.slice (some (if c = 1 then ⟨g, off, none⟩ else ⟨g, off + 1, none⟩)) r.length (c - 1)) r := by
 obtain ⟨⟨a, c', e, h2, h3, h4⟩, h5⟩ := h
 cases e
 rcases h4 with h4 | ⟨g', o', e, hg, hc⟩
 · cases h4
 cases e
 simp only [List.length_cons] at h2
 refine ⟨⟨_, _, rfl, by omega, by omega, ?_⟩, fun y hy => h5 y (by simp [hy])⟩
 by_cases hr : r = []
 · exact Or.inl hr
 · refine Or.inr ⟨g, off + 1, ?_, hg, fun k y hk => ?_⟩
   · have : 0 < r.length := List.length_pos_iff.2 hr
     rw [if_neg (by omega)]
   · have := hc (k + 1) y (by simpa using hk)
     rwa [show off + (k + 1) = off + 1 + k by omega] at this
def Bk (N : Nat) (l : Value) : Prop := ∀ b, l.ownBlock = some b → b < N
theorem Sl.below {W W' : World} {N : Nat} {v : Value} {ws : List Bs} (h : Sl W v ws) (hk : Bk N v) (hb : Below N W W') : Sl W' v ws := by
 obtain ⟨⟨a, c, h1, h2, h3, h4⟩, h5⟩ := h
 refine ⟨⟨a, c, h1, h2, h3, ?_⟩, h5⟩
 rcases h4 with h4 | ⟨g, off, h6, h7, h8⟩
 · exact Or.inl h4
 · have hg : g < N := hk g (by rw [h1, h6]; rfl)
   exact Or.inr ⟨g, off, h6, Nat.lt_of_lt_of_le h7 hb.size, fun k x hx => cell_later hb hg (h8 k x hx)⟩
theorem Sl.set {W : World} {v : Value} {ws : List Bs} {p : Addr} {u : Value} (h : Sl W v ws) (hp : W.cell? p = some u) (hu : ∀ s, u ≠ .string s) (y : Value) : Sl (W.setCell p y) v ws := by
 obtain ⟨⟨a, c, h1, h2, h3, h4⟩, h5⟩ := h
 refine ⟨⟨a, c, h1, h2, h3, ?_⟩, h5⟩
 rcases h4 with h4 | ⟨g, off, h6, h7, h8⟩
 · exact Or.inl h4
 · refine Or.inr ⟨g, off, h6, by simpa [World.setCell] using h7, fun k x hk => ?_⟩
   have hc := h8 k x hk
   rw [World.cell?_setCell_other]
   · exact hc
   · intro e
     rw [← e] at hc
     rw [hc] at hp
     exact hu _ (Option.some.inj hp).symm
set_option maxHeartbeats 1000000 in
theorem word_take (B : Nat) (l : Value) (x : Bs) (r : List Bs) (w : World) (h : CB w B #[l, .nilIface] 125) (hS : Sl w l (x :: r)) :
   ∃ l', Sl (w.setCell ⟨B, 0, none⟩ l') l' r ∧ l'.ownBlock = l.ownBlock ∧ (∃ a c, l' = .slice a r.length c) ∧ Calls Tryz.prog 97 #[.pointer (some ⟨B, 0, none⟩)] w fun e w' => e = .returned (sv x) ∧ w' = w.setCell ⟨B, 0, none⟩ l' := by
 obtain ⟨a, c, rfl, h2, h3, h4⟩ := hS.form
 obtain ⟨g, off, rfl, hg, hc⟩ := h4.resolve_left (by simp)
 simp only [List.length_cons] at h2
 rw [List.length_cons] at hS
 have hT := hS.tail
 have c1 : w.cell? ⟨B, 1, none⟩ = some .nilIface := h.cell 1 (by simp)
 have c0 : w.cell? ⟨B, 0, none⟩ = some (.slice (some ⟨g, off, none⟩) (r.length + 1) c) := h.cell 0 (by simp)
 have f0 : w.frozen? ⟨B, 0, none⟩ = false := h.frozen 0
 have cx : w.cell? ⟨g, off, none⟩ = some (sv x) := hc 0 x rfl
 obtain ⟨ad, had⟩ : ∃ ad : Addr, (if c = 1 then (⟨g, off, none⟩ : Addr) else ⟨g, off + 1, none⟩) = ad := ⟨_, rfl⟩
 rw [had] at hT
 refine ⟨.slice (some ad) r.length (c - 1), hT.set c0 (by simp) _, by rw [← had]; split <;> rfl, ⟨_, _, rfl⟩, ?_⟩
 have l1 : (r.length : Int) + 1 ≤ c := by omega
 have l2 : (c : Int) ≤ 9223372036854775807 := by omega
 obtain ⟨n, hn⟩ : ∃ n, r.length = n := ⟨_, rfl⟩
 rw [hn] at c0 l1 h2 ⊢
 clear hS hT h hc h4 hn
 go_enter Tryz.func97, Tryz.ntmps97
 go_wp2
 all_goals
   go_ret
   refine ⟨rfl, ?_⟩
   rw [← had]
   simp_all
end

/- Package nodefile: the steps of a row. -/
section
set_option maxRecDepth 100000
open Go.RowKit Go.Shelf Go.Lib
structure Ob (B : Nat) (w w' : World) : Prop where
 os : w'.os = w.os
 tape : w'.tape = w.tape
 output : w'.output = w.output
 size : w.heap.size ≤ w'.heap.size
 block : ∀ k, k < w.heap.size → k ≠ B → w'.heap[k]? = w.heap[k]?
theorem Ob.refl (B : Nat) (w : World) : Ob B w w := ⟨rfl, rfl, rfl, Nat.le_refl _, fun _ _ _ => rfl⟩
theorem Ob.trans {B : Nat} {a b c : World} (h : Ob B a b) (k : Ob B b c) : Ob B a c := ⟨k.os.trans h.os, k.tape.trans h.tape, k.output.trans h.output, Nat.le_trans h.size k.size, fun i hi hn => (k.block i (Nat.lt_of_lt_of_le hi h.size) hn).trans (h.block i hi hn)⟩
theorem Ob.of_below {B : Nat} {w w' : World} (h : Below w.heap.size w w') : Ob B w w' := ⟨h.os, h.tape, h.output, h.size, fun k hk _ => h.block k hk⟩
theorem Ob.set (B i : Nat) (w : World) (v : Value) : Ob B w (w.setCell ⟨B, i, none⟩ v) := ⟨rfl, rfl, rfl, by simp [World.setCell], fun k _ hn => Below.heap_setCell w ⟨B, i, none⟩ v k hn⟩
theorem Ob.below {B N : Nat} {w w' : World} (h : Ob B w w') (h1 : N ≤ B) (h2 : N ≤ w.heap.size) : Below N w w' := ⟨h.os, h.tape, h.output, h.size, fun k hk => h.block k (by omega) (by omega)⟩
theorem Ob.cb {B b t : Nat} {cs : Array Value} {w w' : World} (h : Ob B w w') (hc : CB w b cs t) (hn : b ≠ B) : CB w' b cs t := by
 unfold CB
 rw [h.block b hc.lt hn]; exact hc
theorem Ob.cell {B g i : Nat} {w w' : World} {v : Value} (h : Ob B w w') (hc : w.cell? ⟨g, i, none⟩ = some v) (hn : g ≠ B) : w'.cell? ⟨g, i, none⟩ = some v := by
 have hl : g < w.heap.size := by
   rcases Nat.lt_or_ge g w.heap.size with h0 | h0
   · exact h0
   · simp [World.cell?, Array.getElem?_eq_none h0] at hc
 rw [← hc]
 exact World.cell?_of_block (w := w) (h.block g hl hn)
def nx (e f : Int) : Int := if e = 0 then f else e
theorem fst0_snoc (l : List Int) (f : Int) : fst0 (l ++ [f]) = nx (fst0 l) f := by
 rw [fst0_app]
 unfold nx
 split <;> simp [fst0]
 intro h; exact h.symm
def Rs (N : Nat) (W : World) (B : Nat) (ws : List Bs) (e : Int) : Prop := ∃ l, CB W B #[l, erV e] 125 ∧ (e = 0 → Sl W l ws ∧ Bk N l)
theorem hold_step {N : Nat} (B : Nat) (ws : List Bs) (e why : Int) (right : Bool) (w : World) (h : Rs N w B ws e) (hw : why ≠ 0 ∨ right = true) :
   Calls Tryz.prog 61 #[.pointer (some ⟨B, 0, none⟩), .bool right, .int .i64 why] w fun r w' => r = .returned (.tuple #[]) ∧ Rs N w' B ws (nx e (if right then 0 else why)) ∧ Ob B w w' := by
 obtain ⟨l, h1, h2⟩ := h
 by_cases he : e = 0
 · subst he
   cases right
   · have hw' : why ≠ 0 := by simpa using hw
     refine (hold_set B l why w h1).mono ?_
     rintro r w' ⟨rfl, rfl⟩
     refine ⟨rfl, ⟨l, ?_, fun e0 => ?_⟩, Ob.set _ _ _ _⟩
     · have := h1.set 1 (erI why)
       simpa [nx, erV_no hw'] using this
     · exact absurd e0 (by simpa [nx] using hw')
   · refine (hold_ok B l why w h1).mono ?_
     rintro r w' ⟨rfl, rfl⟩
     exact ⟨rfl, ⟨l, by simpa [nx] using h1, fun _ => h2 rfl⟩, Ob.refl _ _⟩
 · rw [erV_no he] at h1
   refine (hold_was B l e why right w h1).mono ?_
   rintro r w' ⟨rfl, rfl⟩
   refine ⟨rfl, ⟨l, by simpa [nx, he, erV_no he] using h1, fun e0 => absurd e0 (by simp [nx, he])⟩, Ob.refl _ _⟩
theorem Sl.ob {W W' : World} {B : Nat} {v l : Value} {ws : List Bs} {ev : Value} (h : Sl W v ws) (ho : Ob B W W') (hc : CB W B #[l, ev] 125) (hl : ∀ s, l ≠ .string s) (he : ∀ s, ev ≠ .string s) : Sl W' v ws := by
 obtain ⟨⟨a, c, h1, h2, h3, h4⟩, h5⟩ := h
 refine ⟨⟨a, c, h1, h2, h3, ?_⟩, h5⟩
 rcases h4 with h4 | ⟨g, off, h6, h7, h8⟩
 · exact Or.inl h4
 · refine Or.inr ⟨g, off, h6, Nat.lt_of_lt_of_le h7 ho.size, fun k x hk => ?_⟩
   have h9 := h8 k x hk
   refine ho.cell h9 (fun e => ?_)
   subst e
   unfold CB at hc
   simp only [World.cell?, hc] at h9
   have h10 : #[l, ev][off + k]? = some (sv x) := by simpa using h9
   rcases Nat.lt_or_ge (off + k) 2 with hlt | hge
   · have : off + k = 0 ∨ off + k = 1 := by omega
     rcases this with e | e <;> rw [e] at h10 <;> simp at h10
     · exact hl _ h10
     · exact he _ h10
   · rw [Array.getElem?_eq_none (by simpa using hge)] at h10
     cases h10
theorem int_nil (w : World) : Calls Tryz.prog 96 #[.string ⟨#[]⟩] w fun e w' => e = .returned (.tuple #[.int .i64 0, .int .i64 4]) ∧ w' = w := int_any ⟨#[]⟩ w (by decide)
theorem whole_was (B : Nat) (l : Value) (e0 : Int) (fv : Value) (w : World) (h : CB w B #[l, erI e0] 125) :
   Calls Tryz.prog 57 #[.pointer (some ⟨B, 0, none⟩), fv] w fun e w' => e = .returned (.int .i64 0) ∧ w' = w := by
 have HH := Lib.hid h
 clear h
 go_enter Tryz.func57, Tryz.ntmps57
 go_wp2_with (first
   | (go_at_call 97; refine (word_was B l e0 _ HH.out).mono ?_; rintro e w' ⟨rfl, rfl⟩)
   | (go_at_call 96; refine (int_nil _).mono ?_; rintro e w' ⟨rfl, rfl⟩)
   | (go_at_call 61; refine (hold_was B l e0 4 false _ HH.out).mono ?_; rintro e w' ⟨rfl, rfl⟩))
 go_ret
 exact ⟨rfl, rfl⟩
theorem int_x (x : Bs) (n er : Int) (w : World) (hx : x.length ≤ 1000000) (h : (er = 0 ∧ rdInt x = some n) ∨ (er = 4 ∧ n = 0 ∧ rdInt x = none)) : Calls Tryz.prog 96 #[sv x] w fun e w' => e = .returned (.tuple #[.int .i64 n, .int .i64 er]) ∧ w' = w := by
 have := int_any ⟨x.toArray⟩ w (by rw [Lib.size_eq]; simpa using hx)
 simp only [] at this
 rcases h with ⟨rfl, h⟩ | ⟨rfl, rfl, h⟩
 · rw [h] at this; exact this
 · rw [h] at this; exact this
theorem whole_none (B : Nat) (l : Value) (x : Bs) (r : List Bs) (fv : Value) (w : World) (h : CB w B #[l, .nilIface] 125) (hS : Sl w l (x :: r)) (hx : x.length ≤ 1000000) (hn : rdInt x = none) :
   ∃ l', Sl (w.setCell ⟨B, 0, none⟩ l') l' r ∧ l'.ownBlock = l.ownBlock ∧ Calls Tryz.prog 57 #[.pointer (some ⟨B, 0, none⟩), fv] w fun e w' => e = .returned (.int .i64 0) ∧ w' = (w.setCell ⟨B, 0, none⟩ l').setCell ⟨B, 1, none⟩ (erI 4) := by
 obtain ⟨l', h1, gB, _, h2⟩ := word_take B l x r w h hS
 refine ⟨l', h1, gB, ?_⟩
 have H2 := Lib.hid h2
 have HI := Lib.hid (fun w => int_x x 0 4 w hx (Or.inr ⟨rfl, rfl, hn⟩))
 have HH : Hid (CB (w.setCell ⟨B, 0, none⟩ l') B #[l', .nilIface] 125) := Lib.hid (by have := h.set 0 l'; simpa using this)
 clear h2 h1 hS h hx hn gB
 go_enter Tryz.func57, Tryz.ntmps57
 go_wp2_with (first
   | (go_at_call 97; refine H2.out.mono ?_; rintro e w' ⟨rfl, rfl⟩)
   | (go_at_call 96; refine (HI.out _).mono ?_; rintro e w' ⟨rfl, rfl⟩)
   | (go_at_call 61; refine (hold_set B l' 4 _ HH.out).mono ?_; rintro e w' ⟨rfl, rfl⟩))
 go_ret
 exact ⟨rfl, rfl⟩
theorem fromNought_is (n : Int) (w : World) : Calls Tryz.prog 58 #[.int .i64 n] w fun e w' => e = .returned (.bool (decide (0 ≤ n))) ∧ w' = w := by
 by_cases h : 0 ≤ n
 · rw [decide_eq_true h]
   go_enter Tryz.func58, Tryz.ntmps58
   go_wp2
   go_ret
   exact ⟨rfl, rfl⟩
 · rw [decide_eq_false h]
   have h' : n < 0 := by omega
   go_enter Tryz.func58, Tryz.ntmps58
   go_wp2
   go_ret
   exact ⟨rfl, rfl⟩
theorem whole_fromNought {N : Nat} (B : Nat) (ws : List Bs) (e : Int) (w : World) (h : Rs N w B ws e) (hw : e = 0 → ∃ x r, ws = x :: r ∧ x.length ≤ 1000000) :
   Calls Tryz.prog 57 #[.pointer (some ⟨B, 0, none⟩), .func (.func 58) #[] #[]] w fun v w' => ∃ k, v = .returned (.int .i64 k) ∧ Rs N w' B ws.tail (nx e (intE (fun n => decide (0 ≤ n)) (ws.getD 0 []))) ∧ Ob B w w' ∧ (e = 0 → k = (rdInt (ws.getD 0 [])).getD 0) := by
 obtain ⟨l, h1, h2⟩ := h
 by_cases he : e = 0
 · subst he
   obtain ⟨x, r, rfl, hx⟩ := hw rfl
   have h1' : CB w B #[l, .nilIface] 125 := h1
   cases hn : rdInt x with
   | none =>
     obtain ⟨l', g1, gB, g2⟩ := whole_none B l x r (.func (.func 58) #[] #[]) w h1' (h2 rfl).1 hx hn
     refine g2.mono ?_
     rintro v w' ⟨rfl, rfl⟩
     refine ⟨0, rfl, ⟨l', ?_, fun e0 => ?_⟩, (Ob.set _ _ _ _).trans (Ob.set _ _ _ _), fun _ => by simp [hn]⟩
     · have := (h1.set 0 l').set 1 (erI 4)
       simpa [nx, intE, hn, erV] using this
     · simp [nx, intE, hn] at e0
   | some n =>
     obtain ⟨l', g1, gB, _, g2⟩ := word_take B l x r w h1' (h2 rfl).1
     have HK : Hid (Bk N l') := Lib.hid (fun b hb => (h2 rfl).2 b (gB ▸ hb))
     have G2 := Lib.hid g2
     have HI := Lib.hid (fun w => int_x x n 0 w hx (Or.inl ⟨rfl, hn⟩))
     have HH : Hid (CB (w.setCell ⟨B, 0, none⟩ l') B #[l', .nilIface] 125) := Lib.hid (by have := h1'.set 0 l'; simpa using this)
     obtain ⟨m, hm⟩ : ∃ m : Bool, (decide (0 ≤ n)) = m := ⟨_, rfl⟩
     have HF : Hid (∀ w, Calls Tryz.prog 58 #[.int .i64 n] w fun e w' => e = .returned (.bool m) ∧ w' = w) := fun w => by rw [← hm]; exact fromNought_is n w
     have HE : Hid (intE (fun n => decide (0 ≤ n)) x = if m then 0 else 4) := (by unfold intE; rw [hn, ← hm] : intE (fun n => decide (0 ≤ n)) x = if m then 0 else 4)
     have HN : Hid (n = (rdInt x).getD 0) := (by rw [hn]; rfl : n = (rdInt x).getD 0)
     have HS := Lib.hid g1
     clear g1 g2 gB hm hn hx h1 h1' h2 hw
     cases m
     · go_enter Tryz.func57, Tryz.ntmps57
       go_wp2_with (first
         | (go_at_call 97; refine G2.out.mono ?_; rintro e w' ⟨rfl, rfl⟩)
         | (go_at_call 96; refine (HI.out _).mono ?_; rintro e w' ⟨rfl, rfl⟩)
         | (go_at_call 58; refine (HF.out _).mono ?_; rintro e w' ⟨rfl, rfl⟩)
         | (go_at_call 61; refine (hold_set B l' 4 _ HH.out).mono ?_; rintro e w' ⟨rfl, rfl⟩))
       go_ret
       refine ⟨n, rfl, ⟨l', ?_, fun e0 => ?_⟩, (Ob.set _ _ _ _).trans (Ob.set _ _ _ _), fun _ => HN.out⟩
       · have := HH.out.set 1 (erI 4)
         simpa [nx, HE.out, erV] using this
       · simp [nx, HE.out] at e0
     · go_enter Tryz.func57, Tryz.ntmps57
       go_wp2_with (first
         | (go_at_call 97; refine G2.out.mono ?_; rintro e w' ⟨rfl, rfl⟩)
         | (go_at_call 96; refine (HI.out _).mono ?_; rintro e w' ⟨rfl, rfl⟩)
         | (go_at_call 58; refine (HF.out _).mono ?_; rintro e w' ⟨rfl, rfl⟩)
         | (go_at_call 61; refine (hold_ok B l' 4 _ HH.out).mono ?_; rintro e w' ⟨rfl, rfl⟩))
       go_ret
       refine ⟨n, rfl, ⟨l', ?_, fun e0 => ⟨HS.out, HK.out⟩⟩, Ob.set _ _ _ _, fun _ => HN.out⟩
       simpa [nx, HE.out, erV] using HH.out
 · rw [erV_no he] at h1
   refine (whole_was B l e _ w h1).mono ?_
   rintro v w' ⟨rfl, rfl⟩
   exact ⟨0, rfl, ⟨l, by simpa [nx, he, erV_no he] using h1, fun e0 => absurd e0 (by simp [nx, he])⟩, Ob.refl _ _, fun e0 => absurd e0 he⟩
theorem two_is (n : Int) (w : World) : Calls Tryz.prog 59 #[.int .i64 n] w fun e w' => e = .returned (.bool (n == 2)) ∧ w' = w := by
 go_enter Tryz.func59, Tryz.ntmps59
 go_wp2
 go_ret
 exact ⟨rfl, rfl⟩
theorem whole_two {N : Nat} (B : Nat) (ws : List Bs) (e : Int) (w : World) (h : Rs N w B ws e) (hw : e = 0 → ∃ x r, ws = x :: r ∧ x.length ≤ 1000000) :
   Calls Tryz.prog 57 #[.pointer (some ⟨B, 0, none⟩), .func (.func 59) #[] #[]] w fun v w' => ∃ k, v = .returned (.int .i64 k) ∧ Rs N w' B ws.tail (nx e (intE (fun n => n == 2) (ws.getD 0 []))) ∧ Ob B w w' ∧ (e = 0 → k = (rdInt (ws.getD 0 [])).getD 0) := by
 obtain ⟨l, h1, h2⟩ := h
 by_cases he : e = 0
 · subst he
   obtain ⟨x, r, rfl, hx⟩ := hw rfl
   have h1' : CB w B #[l, .nilIface] 125 := h1
   cases hn : rdInt x with
   | none =>
     obtain ⟨l', g1, gB, g2⟩ := whole_none B l x r (.func (.func 59) #[] #[]) w h1' (h2 rfl).1 hx hn
     refine g2.mono ?_
     rintro v w' ⟨rfl, rfl⟩
     refine ⟨0, rfl, ⟨l', ?_, fun e0 => ?_⟩, (Ob.set _ _ _ _).trans (Ob.set _ _ _ _), fun _ => by simp [hn]⟩
     · have := (h1.set 0 l').set 1 (erI 4)
       simpa [nx, intE, hn, erV] using this
     · simp [nx, intE, hn] at e0
   | some n =>
     obtain ⟨l', g1, gB, _, g2⟩ := word_take B l x r w h1' (h2 rfl).1
     have HK : Hid (Bk N l') := Lib.hid (fun b hb => (h2 rfl).2 b (gB ▸ hb))
     have G2 := Lib.hid g2
     have HI := Lib.hid (fun w => int_x x n 0 w hx (Or.inl ⟨rfl, hn⟩))
     have HH : Hid (CB (w.setCell ⟨B, 0, none⟩ l') B #[l', .nilIface] 125) := Lib.hid (by have := h1'.set 0 l'; simpa using this)
     obtain ⟨m, hm⟩ : ∃ m : Bool, (n == 2) = m := ⟨_, rfl⟩
     have HF : Hid (∀ w, Calls Tryz.prog 59 #[.int .i64 n] w fun e w' => e = .returned (.bool m) ∧ w' = w) := fun w => by rw [← hm]; exact two_is n w
     have HE : Hid (intE (fun n => n == 2) x = if m then 0 else 4) := (by unfold intE; rw [hn, ← hm] : intE (fun n => n == 2) x = if m then 0 else 4)
     have HN : Hid (n = (rdInt x).getD 0) := (by rw [hn]; rfl : n = (rdInt x).getD 0)
     have HS := Lib.hid g1
     clear g1 g2 gB hm hn hx h1 h1' h2 hw
     cases m
     · go_enter Tryz.func57, Tryz.ntmps57
       go_wp2_with (first
         | (go_at_call 97; refine G2.out.mono ?_; rintro e w' ⟨rfl, rfl⟩)
         | (go_at_call 96; refine (HI.out _).mono ?_; rintro e w' ⟨rfl, rfl⟩)
         | (go_at_call 59; refine (HF.out _).mono ?_; rintro e w' ⟨rfl, rfl⟩)
         | (go_at_call 61; refine (hold_set B l' 4 _ HH.out).mono ?_; rintro e w' ⟨rfl, rfl⟩))
       go_ret
       refine ⟨n, rfl, ⟨l', ?_, fun e0 => ?_⟩, (Ob.set _ _ _ _).trans (Ob.set _ _ _ _), fun _ => HN.out⟩
       · have := HH.out.set 1 (erI 4)
         simpa [nx, HE.out, erV] using this
       · simp [nx, HE.out] at e0
     · go_enter Tryz.func57, Tryz.ntmps57
       go_wp2_with (first
         | (go_at_call 97; refine G2.out.mono ?_; rintro e w' ⟨rfl, rfl⟩)
         | (go_at_call 96; refine (HI.out _).mono ?_; rintro e w' ⟨rfl, rfl⟩)
         | (go_at_call 59; refine (HF.out _).mono ?_; rintro e w' ⟨rfl, rfl⟩)
         | (go_at_call 61; refine (hold_ok B l' 4 _ HH.out).mono ?_; rintro e w' ⟨rfl, rfl⟩))
       go_ret
       refine ⟨n, rfl, ⟨l', ?_, fun e0 => ⟨HS.out, HK.out⟩⟩, Ob.set _ _ _ _, fun _ => HN.out⟩
       simpa [nx, HE.out, erV] using HH.out
 · rw [erV_no he] at h1
   refine (whole_was B l e _ w h1).mono ?_
   rintro v w' ⟨rfl, rfl⟩
   exact ⟨0, rfl, ⟨l, by simpa [nx, he, erV_no he] using h1, fun e0 => absurd e0 (by simp [nx, he])⟩, Ob.refl _ _, fun e0 => absurd e0 he⟩
theorem bit_is (n : Int) (w : World) : Calls Tryz.prog 60 #[.int .i64 n] w fun e w' => e = .returned (.bool (n == 0 || n == 1)) ∧ w' = w := by
 by_cases h0 : n = 0
 · subst h0
   go_enter Tryz.func60, Tryz.ntmps60
   go_wp2
   go_ret
   exact ⟨rfl, rfl⟩
 go_enter Tryz.func60, Tryz.ntmps60
 go_wp2
 go_ret
 exact ⟨rfl, rfl⟩
theorem whole_bit {N : Nat} (B : Nat) (ws : List Bs) (e : Int) (w : World) (h : Rs N w B ws e) (hw : e = 0 → ∃ x r, ws = x :: r ∧ x.length ≤ 1000000) :
   Calls Tryz.prog 57 #[.pointer (some ⟨B, 0, none⟩), .func (.func 60) #[] #[]] w fun v w' => ∃ k, v = .returned (.int .i64 k) ∧ Rs N w' B ws.tail (nx e (intE (fun n => n == 0 || n == 1) (ws.getD 0 []))) ∧ Ob B w w' ∧ (e = 0 → k = (rdInt (ws.getD 0 [])).getD 0) := by
 obtain ⟨l, h1, h2⟩ := h
 by_cases he : e = 0
 · subst he
   obtain ⟨x, r, rfl, hx⟩ := hw rfl
   have h1' : CB w B #[l, .nilIface] 125 := h1
   cases hn : rdInt x with
   | none =>
     obtain ⟨l', g1, gB, g2⟩ := whole_none B l x r (.func (.func 60) #[] #[]) w h1' (h2 rfl).1 hx hn
     refine g2.mono ?_
     rintro v w' ⟨rfl, rfl⟩
     refine ⟨0, rfl, ⟨l', ?_, fun e0 => ?_⟩, (Ob.set _ _ _ _).trans (Ob.set _ _ _ _), fun _ => by simp [hn]⟩
     · have := (h1.set 0 l').set 1 (erI 4)
       simpa [nx, intE, hn, erV] using this
     · simp [nx, intE, hn] at e0
   | some n =>
     obtain ⟨l', g1, gB, _, g2⟩ := word_take B l x r w h1' (h2 rfl).1
     have HK : Hid (Bk N l') := Lib.hid (fun b hb => (h2 rfl).2 b (gB ▸ hb))
     have G2 := Lib.hid g2
     have HI := Lib.hid (fun w => int_x x n 0 w hx (Or.inl ⟨rfl, hn⟩))
     have HH : Hid (CB (w.setCell ⟨B, 0, none⟩ l') B #[l', .nilIface] 125) := Lib.hid (by have := h1'.set 0 l'; simpa using this)
     obtain ⟨m, hm⟩ : ∃ m : Bool, (n == 0 || n == 1) = m := ⟨_, rfl⟩
     have HF : Hid (∀ w, Calls Tryz.prog 60 #[.int .i64 n] w fun e w' => e = .returned (.bool m) ∧ w' = w) := fun w => by rw [← hm]; exact bit_is n w
     have HE : Hid (intE (fun n => n == 0 || n == 1) x = if m then 0 else 4) := (by unfold intE; rw [hn, ← hm] : intE (fun n => n == 0 || n == 1) x = if m then 0 else 4)
     have HN : Hid (n = (rdInt x).getD 0) := (by rw [hn]; rfl : n = (rdInt x).getD 0)
     have HS := Lib.hid g1
     clear g1 g2 gB hm hn hx h1 h1' h2 hw
     cases m
     · go_enter Tryz.func57, Tryz.ntmps57
       go_wp2_with (first
         | (go_at_call 97; refine G2.out.mono ?_; rintro e w' ⟨rfl, rfl⟩)
         | (go_at_call 96; refine (HI.out _).mono ?_; rintro e w' ⟨rfl, rfl⟩)
         | (go_at_call 60; refine (HF.out _).mono ?_; rintro e w' ⟨rfl, rfl⟩)
         | (go_at_call 61; refine (hold_set B l' 4 _ HH.out).mono ?_; rintro e w' ⟨rfl, rfl⟩))
       go_ret
       refine ⟨n, rfl, ⟨l', ?_, fun e0 => ?_⟩, (Ob.set _ _ _ _).trans (Ob.set _ _ _ _), fun _ => HN.out⟩
       · have := HH.out.set 1 (erI 4)
         simpa [nx, HE.out, erV] using this
       · simp [nx, HE.out] at e0
     · go_enter Tryz.func57, Tryz.ntmps57
       go_wp2_with (first
         | (go_at_call 97; refine G2.out.mono ?_; rintro e w' ⟨rfl, rfl⟩)
         | (go_at_call 96; refine (HI.out _).mono ?_; rintro e w' ⟨rfl, rfl⟩)
         | (go_at_call 60; refine (HF.out _).mono ?_; rintro e w' ⟨rfl, rfl⟩)
         | (go_at_call 61; refine (hold_ok B l' 4 _ HH.out).mono ?_; rintro e w' ⟨rfl, rfl⟩))
       go_ret
       refine ⟨n, rfl, ⟨l', ?_, fun e0 => ⟨HS.out, HK.out⟩⟩, Ob.set _ _ _ _, fun _ => HN.out⟩
       simpa [nx, HE.out, erV] using HH.out
 · rw [erV_no he] at h1
   refine (whole_was B l e _ w h1).mono ?_
   rintro v w' ⟨rfl, rfl⟩
   exact ⟨0, rfl, ⟨l, by simpa [nx, he, erV_no he] using h1, fun e0 => absurd e0 (by simp [nx, he])⟩, Ob.refl _ _, fun e0 => absurd e0 he⟩
theorem any_is (n : Int) (w : World) : Calls Tryz.prog 66 #[.int .i64 n] w fun e w' => e = .returned (.bool (true)) ∧ w' = w := by
 go_enter Tryz.func66, Tryz.ntmps66
 go_wp2
 go_ret
 exact ⟨rfl, rfl⟩
theorem whole_any {N : Nat} (B : Nat) (ws : List Bs) (e : Int) (w : World) (h : Rs N w B ws e) (hw : e = 0 → ∃ x r, ws = x :: r ∧ x.length ≤ 1000000) :
   Calls Tryz.prog 57 #[.pointer (some ⟨B, 0, none⟩), .func (.func 66) #[] #[]] w fun v w' => ∃ k, v = .returned (.int .i64 k) ∧ Rs N w' B ws.tail (nx e (intE (fun _ => true) (ws.getD 0 []))) ∧ Ob B w w' ∧ (e = 0 → k = (rdInt (ws.getD 0 [])).getD 0) := by
 obtain ⟨l, h1, h2⟩ := h
 by_cases he : e = 0
 · subst he
   obtain ⟨x, r, rfl, hx⟩ := hw rfl
   have h1' : CB w B #[l, .nilIface] 125 := h1
   cases hn : rdInt x with
   | none =>
     obtain ⟨l', g1, gB, g2⟩ := whole_none B l x r (.func (.func 66) #[] #[]) w h1' (h2 rfl).1 hx hn
     refine g2.mono ?_
     rintro v w' ⟨rfl, rfl⟩
     refine ⟨0, rfl, ⟨l', ?_, fun e0 => ?_⟩, (Ob.set _ _ _ _).trans (Ob.set _ _ _ _), fun _ => by simp [hn]⟩
     · have := (h1.set 0 l').set 1 (erI 4)
       simpa [nx, intE, hn, erV] using this
     · simp [nx, intE, hn] at e0
   | some n =>
     obtain ⟨l', g1, gB, _, g2⟩ := word_take B l x r w h1' (h2 rfl).1
     have HK : Hid (Bk N l') := Lib.hid (fun b hb => (h2 rfl).2 b (gB ▸ hb))
     have G2 := Lib.hid g2
     have HI := Lib.hid (fun w => int_x x n 0 w hx (Or.inl ⟨rfl, hn⟩))
     have HH : Hid (CB (w.setCell ⟨B, 0, none⟩ l') B #[l', .nilIface] 125) := Lib.hid (by have := h1'.set 0 l'; simpa using this)
     obtain ⟨m, hm⟩ : ∃ m : Bool, (true) = m := ⟨_, rfl⟩
     have HF : Hid (∀ w, Calls Tryz.prog 66 #[.int .i64 n] w fun e w' => e = .returned (.bool m) ∧ w' = w) := fun w => by rw [← hm]; exact any_is n w
     have HE : Hid (intE (fun _ => true) x = if m then 0 else 4) := (by unfold intE; rw [hn, ← hm] : intE (fun _ => true) x = if m then 0 else 4)
     have HN : Hid (n = (rdInt x).getD 0) := (by rw [hn]; rfl : n = (rdInt x).getD 0)
     have HS := Lib.hid g1
     clear g1 g2 gB hm hn hx h1 h1' h2 hw
     cases m
     · go_enter Tryz.func57, Tryz.ntmps57
       go_wp2_with (first
         | (go_at_call 97; refine G2.out.mono ?_; rintro e w' ⟨rfl, rfl⟩)
         | (go_at_call 96; refine (HI.out _).mono ?_; rintro e w' ⟨rfl, rfl⟩)
         | (go_at_call 66; refine (HF.out _).mono ?_; rintro e w' ⟨rfl, rfl⟩)
         | (go_at_call 61; refine (hold_set B l' 4 _ HH.out).mono ?_; rintro e w' ⟨rfl, rfl⟩))
       go_ret
       refine ⟨n, rfl, ⟨l', ?_, fun e0 => ?_⟩, (Ob.set _ _ _ _).trans (Ob.set _ _ _ _), fun _ => HN.out⟩
       · have := HH.out.set 1 (erI 4)
         simpa [nx, HE.out, erV] using this
       · simp [nx, HE.out] at e0
     · go_enter Tryz.func57, Tryz.ntmps57
       go_wp2_with (first
         | (go_at_call 97; refine G2.out.mono ?_; rintro e w' ⟨rfl, rfl⟩)
         | (go_at_call 96; refine (HI.out _).mono ?_; rintro e w' ⟨rfl, rfl⟩)
         | (go_at_call 66; refine (HF.out _).mono ?_; rintro e w' ⟨rfl, rfl⟩)
         | (go_at_call 61; refine (hold_ok B l' 4 _ HH.out).mono ?_; rintro e w' ⟨rfl, rfl⟩))
       go_ret
       refine ⟨n, rfl, ⟨l', ?_, fun e0 => ⟨HS.out, HK.out⟩⟩, Ob.set _ _ _ _, fun _ => HN.out⟩
       simpa [nx, HE.out, erV] using HH.out
 · rw [erV_no he] at h1
   refine (whole_was B l e _ w h1).mono ?_
   rintro v w' ⟨rfl, rfl⟩
   exact ⟨0, rfl, ⟨l, by simpa [nx, he, erV_no he] using h1, fun e0 => absurd e0 (by simp [nx, he])⟩, Ob.refl _ _, fun e0 => absurd e0 he⟩
end

/- Package nodefile: float, the closure that asks for the first number, rowOf, number, width. -/
section
set_option maxRecDepth 100000
open Go.RowKit Go.Shelf Go.Lib
theorem FloatR.word {l : Bs} {x : Nat} {er : Int} (h : FloatR l x er) : x < 18446744073709551616 := by
 rcases h with ⟨_, rfl, _⟩ | ⟨n, e, ok, _, ⟨_, _, h, _⟩ | ⟨_, rfl, _⟩, _⟩
 · omega
 · exact h
 · omega
theorem FloatR.uniq {l : Bs} {x y : Nat} {e f : Int} (h : FloatR l x e) (g : FloatR l y f) : x = y ∧ e = f := by
 rcases h with ⟨h1, rfl, rfl⟩ | ⟨n, k, ok, h1, ⟨rfl, h2, h3, h4, h5⟩ | ⟨rfl, rfl, h2⟩, rfl⟩
 · have := g.form h1
   exact ⟨this.1.symm, this.2.symm⟩
 · have := g.ok h1 h2 h3 h4 h5
   exact ⟨this.1.symm, by simpa using this.2.symm⟩
 · have := g.no h1 h2
   exact ⟨this.1.symm, by simpa using this.2.symm⟩
theorem float_is {p : Pm} (hp : p.Ok) (x : Bs) (hx : x.length ≤ 900000) (w : World) (hT : Tab w) : Calls Tryz.prog 98 #[sv x] w fun r w' => r = .returned (.tuple #[.float .f64 (p.rf x).1, .int .i64 (p.rf x).2]) ∧ Below w.heap.size w w' := by
 obtain ⟨v, er, h1, h2⟩ := float_any ⟨x.toArray⟩ (by rw [Lib.size_eq]; simpa using hx)
 have := FloatR.uniq (hp.rf x) (by simpa using h1)
 rw [this.1, this.2]
 exact h2 w hT
set_option maxHeartbeats 1000000 in
theorem float_was {p : Pm} (hp : p.Ok) (B : Nat) (l : Value) (e0 : Int) (w : World) (h : CB w B #[l, erI e0] 125) (hT : Tab w) :
   Calls Tryz.prog 63 #[.pointer (some ⟨B, 0, none⟩)] w fun e w' => (∃ x, e = .returned (.float .f64 x) ∧ x < 18446744073709551616) ∧ Below w.heap.size w w' := by
 obtain ⟨x, hx⟩ : ∃ x, (p.rf []).1 = x := ⟨_, rfl⟩
 obtain ⟨er, her⟩ : ∃ x, (p.rf []).2 = x := ⟨_, rfl⟩
 have HX : Hid (x < 18446744073709551616) := Lib.hid (by rw [← hx]; exact (hp.rf []).word)
 have HF : Hid (Calls Tryz.prog 98 #[.string ⟨#[]⟩] w fun r w' => r = .returned (.tuple #[.float .f64 x, .int .i64 er]) ∧ Below w.heap.size w w') := by
   have := float_is hp [] (by simp) w hT
   rw [hx, her] at this
   exact this
 have HH := Lib.hid h
 clear h hT hx her
 go_enter Tryz.func63, Tryz.ntmps63
 go_wp2_with (first
   | (go_at_call 97; refine (word_was B l e0 _ HH.out).mono ?_; rintro e w' ⟨rfl, rfl⟩)
   | (go_at_call 98; refine HF.out.mono ?_; rintro e w1 ⟨rfl, hb⟩; have HB := Lib.hid hb; have HC := Lib.hid (HH.out.later hb); clear hb)
   | (go_at_call 61; refine (hold_was B l e0 er _ _ HC.out).mono ?_; rintro e w' ⟨rfl, rfl⟩))
 go_ret
 exact ⟨⟨x, rfl, HX.out⟩, HB.out⟩
set_option maxHeartbeats 2000000 in
theorem float_step {N : Nat} {p : Pm} (hp : p.Ok) (B : Nat) (ws : List Bs) (e : Int) (w : World) (h : Rs N w B ws e) (hw : e = 0 → ∃ x r, ws = x :: r ∧ x.length ≤ 900000) (hT : Tab w) (hTB : 3 ≠ B) :
   Calls Tryz.prog 63 #[.pointer (some ⟨B, 0, none⟩)] w fun v w' => ∃ x, v = .returned (.float .f64 x) ∧ x < 18446744073709551616 ∧ Rs N w' B ws.tail (nx e (p.rf (ws.getD 0 [])).2) ∧ Ob B w w' ∧ (e = 0 → x = (p.rf (ws.getD 0 [])).1) := by
 obtain ⟨l, h1, h2⟩ := h
 by_cases he : e = 0
 · subst he
   obtain ⟨x, r, rfl, hx⟩ := hw rfl
   have h1' : CB w B #[l, .nilIface] 125 := h1
   obtain ⟨l', g1, gB, _, g2⟩ := word_take B l x r w h1' (h2 rfl).1
   have HK : Hid (Bk N l') := Lib.hid (fun b hb => (h2 rfl).2 b (gB ▸ hb))
   have G2 := Lib.hid g2
   have HH : Hid (CB (w.setCell ⟨B, 0, none⟩ l') B #[l', .nilIface] 125) := Lib.hid (by have := h1'.set 0 l'; simpa using this)
   have hT' : Tab (w.setCell ⟨B, 0, none⟩ l') := fun j hj => (Ob.set B 0 w l').cell (hT j hj) hTB
   obtain ⟨v, hv⟩ : ∃ v, (p.rf x).1 = v := ⟨_, rfl⟩
   obtain ⟨er, her⟩ : ∃ v, (p.rf x).2 = v := ⟨_, rfl⟩
   have HX : Hid (v < 18446744073709551616) := Lib.hid (by rw [← hv]; exact (hp.rf x).word)
   have HF : Hid (Calls Tryz.prog 98 #[sv x] (w.setCell ⟨B, 0, none⟩ l') fun r w' => r = .returned (.tuple #[.float .f64 v, .int .i64 er]) ∧ Below (w.setCell ⟨B, 0, none⟩ l').heap.size (w.setCell ⟨B, 0, none⟩ l') w') := by
     have := float_is hp x hx _ hT'
     rw [hv, her] at this
     exact this
   have HC : Hid (er = 0 ∨ er ≠ 0) := Lib.hid (by omega)
   have HV : Hid ((p.rf x).1 = v ∧ (p.rf x).2 = er) := Lib.hid ⟨hv, her⟩
   have HS := Lib.hid g1
   have HO := Lib.hid (Ob.set B 0 w l')
   obtain ⟨W1, hW1⟩ : ∃ W1, w.setCell ⟨B, 0, none⟩ l' = W1 := ⟨_, rfl⟩
   rw [hW1] at HF HH HS HO G2
   clear g1 g2 gB hv her hx h1 h1' h2 hw hT hT' hW1
   rcases HC.out with hz | hz
   · subst hz
     go_enter Tryz.func63, Tryz.ntmps63
     go_wp2_with (first
       | (go_at_call 97; refine G2.out.mono ?_; rintro e w' ⟨rfl, rfl⟩)
       | (go_at_call 98; refine HF.out.mono ?_; rintro e w2 ⟨rfl, hb⟩; have HB := Lib.hid hb; have HD := Lib.hid (HH.out.later hb); clear hb)
       | (go_at_call 61; refine (hold_ok B l' 0 _ HD.out).mono ?_; rintro e w' ⟨rfl, rfl⟩))
     go_ret
     refine ⟨v, rfl, HX.out, ⟨l', ?_, fun _ => ⟨HS.out.later HB.out, HK.out⟩⟩, HO.out.trans (Ob.of_below HB.out), fun _ => HV.out.1.symm⟩
     have e1 : nx 0 (p.rf ((x :: r).getD 0 [])).2 = 0 := HV.out.2
     rw [e1]
     exact HD.out
   · have hz' : (er == 0) = false := by simpa using hz
     go_enter Tryz.func63, Tryz.ntmps63
     go_wp2_with (first
       | (go_at_call 97; refine G2.out.mono ?_; rintro e w' ⟨rfl, rfl⟩)
       | (go_at_call 98; refine HF.out.mono ?_; rintro e w2 ⟨rfl, hb⟩; have HB := Lib.hid hb; have HD := Lib.hid (HH.out.later hb); clear hb)
       | (go_at_call 61; refine (hold_set B l' er _ HD.out).mono ?_; rintro e w' ⟨rfl, rfl⟩))
     go_ret
     have e1 : nx 0 (p.rf ((x :: r).getD 0 [])).2 = er := HV.out.2
     refine ⟨v, rfl, HX.out, ⟨l', ?_, fun e0 => ?_⟩, (HO.out.trans (Ob.of_below HB.out)).trans (Ob.set _ _ _ _), fun _ => HV.out.1.symm⟩
     · rw [e1, erV_no hz]
       have := HD.out.set 1 (erI er)
       simpa using this
     · rw [e1] at e0; exact absurd e0 hz
 · rw [erV_no he] at h1
   refine (float_was hp B l e w h1 hT).mono ?_
   rintro v w' ⟨⟨x, rfl, hx⟩, hb⟩
   exact ⟨x, rfl, hx, ⟨l, by simpa [nx, he, erV_no he] using h1.later hb, fun e0 => absurd e0 (by simp [nx, he])⟩, Ob.of_below hb, fun e0 => absurd e0 he⟩
abbrev fcs (a : Option Addr) (n c : Nat) (z : Bool) (k : Int) (m : Bool) : Array Value := #[.slice a n c, .bool z, .int .i64 k, .bool m]
theorem number_any (v : Value) (z : Bool) (k : Int) (m : Bool) (place : Int) (w : World) (h1 : -9223372036854775808 ≤ place) (h2 : place < 9223372036854775807) :
   Calls Tryz.prog 34 #[.agg #[v, .bool z, .int .i64 k, .bool m], .int .i64 place] w fun e w' => e = .returned (.int .i64 (if z then place else place + 1)) ∧ w' = w.alloc (.cells #[v, .bool z, .int .i64 k, .bool m] 29) := by
 have h3 : place + 1 ≤ 9223372036854775807 := by omega
 have h4 : -9223372036854775808 ≤ place + 1 := by omega
 cases z
 · go_enter Tryz.func34, Tryz.ntmps34
   go_wp2
   go_ret
   exact ⟨rfl, rfl⟩
 · go_enter Tryz.func34, Tryz.ntmps34
   go_wp2
   go_ret
   exact ⟨rfl, rfl⟩
theorem width_any (v : Value) (z : Bool) (k : Nat) (m : Bool) (w : World) (hk : k ≤ 16) :
   Calls Tryz.prog 62 #[.agg #[v, .bool z, .int .i64 (k : Nat), .bool m]] w fun e w' => e = .returned (.int .i64 (wid k m : Nat)) ∧ w' = w.alloc (.cells #[v, .bool z, .int .i64 (k : Nat), .bool m] 29) := by
 have h3 : (k : Int) ≤ 16 := by omega
 cases m
 · go_enter Tryz.func62, Tryz.ntmps62
   go_wp2
   go_ret
   exact ⟨by simp [wid], rfl⟩
 · go_enter Tryz.func62, Tryz.ntmps62
   go_wp2
   go_ret
   exact ⟨by simp [wid], rfl⟩
end
end Go.Proofs.YtkbhmglmbolbiaaGreatDoor
