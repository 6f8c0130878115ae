/- Own texts, put together: Qc Qd Qh. -/
import Derived.Test.YtofklahgpkmfmaaGreatDoorQ33
import Derived.Test.YtofklahgpkmfmaaGreatDoorQ36
namespace Go.Proofs.YtofklahgpkmfmaaGreatDoor
/- Package nodefile: the steps of a row. -/
section
set_option maxRecDepth 100000
open Go.RowKit Go.Shelf Go.Lib
structure Ob (B : Nat) (w w' : World) : Prop where
 os : w'.os = w.os
 tape : w'.tape = w.tape
 output : w'.output = w.output
 size : w.heap.size ≤ w'.heap.size
 block : ∀ k, k < w.heap.size → k ≠ B → w'.heap[k]? = w.heap[k]?
theorem Ob.refl (B : Nat) (w : World) : Ob B w w := ⟨rfl, rfl, rfl, Nat.le_refl _, fun _ _ _ => rfl⟩
theorem Ob.trans {B : Nat} {a b c : World} (h : Ob B a b) (k : Ob B b c) : Ob B a c := ⟨k.os.trans h.os, k.tape.trans h.tape, k.output.trans h.output, Nat.le_trans h.size k.size, fun i hi hn => (k.block i (Nat.lt_of_lt_of_le hi h.size) hn).trans (h.block i hi hn)⟩
theorem Ob.of_below {B : Nat} {w w' : World} (h : Below w.heap.size w w') : Ob B w w' := ⟨h.os, h.tape, h.output, h.size, fun k hk _ => h.block k hk⟩
theorem Ob.set (B i : Nat) (w : World) (v : Value) : Ob B w (w.setCell ⟨B, i, none⟩ v) := ⟨rfl, rfl, rfl, by simp [World.setCell], fun k _ hn => Below.heap_setCell w ⟨B, i, none⟩ v k hn⟩
theorem Ob.below {B N : Nat} {w w' : World} (h : Ob B w w') (h1 : N ≤ B) (h2 : N ≤ w.heap.size) : Below N w w' := ⟨h.os, h.tape, h.output, h.size, fun k hk => h.block k (by omega) (by omega)⟩
theorem Ob.cb {B b t : Nat} {cs : Array Value} {w w' : World} (h : Ob B w w') (hc : CB w b cs t) (hn : b ≠ B) : CB w' b cs t := by
 unfold CB
 rw [h.block b hc.lt hn]; exact hc
theorem Ob.cell {B g i : Nat} {w w' : World} {v : Value} (h : Ob B w w') (hc : w.cell? ⟨g, i, none⟩ = some v) (hn : g ≠ B) : w'.cell? ⟨g, i, none⟩ = some v := by
 have hl : g < w.heap.size := by
   rcases Nat.lt_or_ge g w.heap.size with h0 | h0
   · exact h0
   · simp [World.cell?, Array.getElem?_eq_none h0] at hc
 rw [← hc]
 exact World.cell?_of_block (w := w) (h.block g hl hn)
def nx (e f : Int) : Int := if e = 0 then f else e
theorem fst0_snoc (l : List Int) (f : Int) : fst0 (l ++ [f]) = nx (fst0 l) f := by
 rw [fst0_app]
 unfold nx
 split <;> simp [fst0]
 intro h; exact h.symm
def Rs (N : Nat) (W : World) (B : Nat) (ws : List Bs) (e : Int) : Prop := ∃ l, CB W B #[l, erV e] 150 ∧ (e = 0 → Sl W l ws ∧ Bk N l)
theorem hold_step {N : Nat} (B : Nat) (ws : List Bs) (e why : Int) (right : Bool) (w : World) (h : Rs N w B ws e) (hw : why ≠ 0 ∨ right = true) :
   Calls Tryz.prog 88 #[.pointer (some ⟨B, 0, none⟩), .bool right, .int .i64 why] w fun r w' => r = .returned (.tuple #[]) ∧ Rs N w' B ws (nx e (if right then 0 else why)) ∧ Ob B w w' := by
 obtain ⟨l, h1, h2⟩ := h
 by_cases he : e = 0
 · subst he
   cases right
   · have hw' : why ≠ 0 := by simpa using hw
     refine (hold_set B l why w h1).mono ?_
     rintro r w' ⟨rfl, rfl⟩
     refine ⟨rfl, ⟨l, ?_, fun e0 => ?_⟩, Ob.set _ _ _ _⟩
     · have := h1.set 1 (erI why)
       simpa [nx, erV_no hw'] using this
     · exact absurd e0 (by simpa [nx] using hw')
   · refine (hold_ok B l why w h1).mono ?_
     rintro r w' ⟨rfl, rfl⟩
     exact ⟨rfl, ⟨l, by simpa [nx] using h1, fun _ => h2 rfl⟩, Ob.refl _ _⟩
 · rw [erV_no he] at h1
   refine (hold_was B l e why right w h1).mono ?_
   rintro r w' ⟨rfl, rfl⟩
   refine ⟨rfl, ⟨l, by simpa [nx, he, erV_no he] using h1, fun e0 => absurd e0 (by simp [nx, he])⟩, Ob.refl _ _⟩
theorem Sl.ob {W W' : World} {B : Nat} {v l : Value} {ws : List Bs} {ev : Value} (h : Sl W v ws) (ho : Ob B W W') (hc : CB W B #[l, ev] 150) (hl : ∀ s, l ≠ .string s) (he : ∀ s, ev ≠ .string s) : Sl W' v ws := by
 obtain ⟨⟨a, c, h1, h2, h3, h4⟩, h5⟩ := h
 refine ⟨⟨a, c, h1, h2, h3, ?_⟩, h5⟩
 rcases h4 with h4 | ⟨g, off, h6, h7, h8⟩
 · exact Or.inl h4
 · refine Or.inr ⟨g, off, h6, Nat.lt_of_lt_of_le h7 ho.size, fun k x hk => ?_⟩
   have h9 := h8 k x hk
   refine ho.cell h9 (fun e => ?_)
   subst e
   unfold CB at hc
   simp only [World.cell?, hc] at h9
   have h10 : #[l, ev][off + k]? = some (sv x) := by simpa using h9
   rcases Nat.lt_or_ge (off + k) 2 with hlt | hge
   · have : off + k = 0 ∨ off + k = 1 := by omega
     rcases this with e | e <;> rw [e] at h10 <;> simp at h10
     · exact hl _ h10
     · exact he _ h10
   · rw [Array.getElem?_eq_none (by simpa using hge)] at h10
     cases h10
theorem int_nil (w : World) : Calls Tryz.prog 122 #[.string ⟨#[]⟩] w fun e w' => e = .returned (.tuple #[.int .i64 0, .int .i64 4]) ∧ w' = w := int_any ⟨#[]⟩ w (by decide)
theorem whole_was (B : Nat) (l : Value) (e0 : Int) (fv : Value) (w : World) (h : CB w B #[l, erI e0] 150) :
   Calls Tryz.prog 84 #[.pointer (some ⟨B, 0, none⟩), fv] w fun e w' => e = .returned (.int .i64 0) ∧ w' = w := by
 have HH := Lib.hid h
 clear h
 go_enter Tryz.func84, Tryz.ntmps84
 go_wp2_with (first
   | (go_at_call 123; refine (word_was B l e0 _ HH.out).mono ?_; rintro e w' ⟨rfl, rfl⟩)
   | (go_at_call 122; refine (int_nil _).mono ?_; rintro e w' ⟨rfl, rfl⟩)
   | (go_at_call 88; refine (hold_was B l e0 4 false _ HH.out).mono ?_; rintro e w' ⟨rfl, rfl⟩))
 go_ret
 exact ⟨rfl, rfl⟩
theorem int_x (x : Bs) (n er : Int) (w : World) (hx : x.length ≤ 1000000) (h : (er = 0 ∧ rdInt x = some n) ∨ (er = 4 ∧ n = 0 ∧ rdInt x = none)) : Calls Tryz.prog 122 #[sv x] w fun e w' => e = .returned (.tuple #[.int .i64 n, .int .i64 er]) ∧ w' = w := by
 have := int_any ⟨x.toArray⟩ w (by rw [Lib.size_eq]; simpa using hx)
 simp only [] at this
 rcases h with ⟨rfl, h⟩ | ⟨rfl, rfl, h⟩
 · rw [h] at this; exact this
 · rw [h] at this; exact this
theorem whole_none (B : Nat) (l : Value) (x : Bs) (r : List Bs) (fv : Value) (w : World) (h : CB w B #[l, .nilIface] 150) (hS : Sl w l (x :: r)) (hx : x.length ≤ 1000000) (hn : rdInt x = none) :
   ∃ l', Sl (w.setCell ⟨B, 0, none⟩ l') l' r ∧ l'.ownBlock = l.ownBlock ∧ Calls Tryz.prog 84 #[.pointer (some ⟨B, 0, none⟩), fv] w fun e w' => e = .returned (.int .i64 0) ∧ w' = (w.setCell ⟨B, 0, none⟩ l').setCell ⟨B, 1, none⟩ (erI 4) := by
 obtain ⟨l', h1, gB, _, h2⟩ := word_take B l x r w h hS
 refine ⟨l', h1, gB, ?_⟩
 have H2 := Lib.hid h2
 have HI := Lib.hid (fun w => int_x x 0 4 w hx (Or.inr ⟨rfl, rfl, hn⟩))
 have HH : Hid (CB (w.setCell ⟨B, 0, none⟩ l') B #[l', .nilIface] 150) := Lib.hid (by have := h.set 0 l'; simpa using this)
 clear h2 h1 hS h hx hn gB
 go_enter Tryz.func84, Tryz.ntmps84
 go_wp2_with (first
   | (go_at_call 123; refine H2.out.mono ?_; rintro e w' ⟨rfl, rfl⟩)
   | (go_at_call 122; refine (HI.out _).mono ?_; rintro e w' ⟨rfl, rfl⟩)
   | (go_at_call 88; refine (hold_set B l' 4 _ HH.out).mono ?_; rintro e w' ⟨rfl, rfl⟩))
 go_ret
 exact ⟨rfl, rfl⟩
theorem fromNought_is (n : Int) (w : World) : Calls Tryz.prog 85 #[.int .i64 n] w fun e w' => e = .returned (.bool (decide (0 ≤ n))) ∧ w' = w := by
 by_cases h : 0 ≤ n
 · rw [decide_eq_true h]
   go_enter Tryz.func85, Tryz.ntmps85
   go_wp2
   go_ret
   exact ⟨rfl, rfl⟩
 · rw [decide_eq_false h]
   have h' : n < 0 := by omega
   go_enter Tryz.func85, Tryz.ntmps85
   go_wp2
   go_ret
   exact ⟨rfl, rfl⟩
theorem whole_fromNought {N : Nat} (B : Nat) (ws : List Bs) (e : Int) (w : World) (h : Rs N w B ws e) (hw : e = 0 → ∃ x r, ws = x :: r ∧ x.length ≤ 1000000) :
   Calls Tryz.prog 84 #[.pointer (some ⟨B, 0, none⟩), .func (.func 85) #[] #[]] w fun v w' => ∃ k, v = .returned (.int .i64 k) ∧ Rs N w' B ws.tail (nx e (intE (fun n => decide (0 ≤ n)) (ws.getD 0 []))) ∧ Ob B w w' ∧ (e = 0 → k = (rdInt (ws.getD 0 [])).getD 0) := by
 obtain ⟨l, h1, h2⟩ := h
 by_cases he : e = 0
 · subst he
   obtain ⟨x, r, rfl, hx⟩ := hw rfl
   have h1' : CB w B #[l, .nilIface] 150 := h1
   cases hn : rdInt x with
   | none =>
     obtain ⟨l', g1, gB, g2⟩ := whole_none B l x r (.func (.func 85) #[] #[]) w h1' (h2 rfl).1 hx hn
     refine g2.mono ?_
     rintro v w' ⟨rfl, rfl⟩
     refine ⟨0, rfl, ⟨l', ?_, fun e0 => ?_⟩, (Ob.set _ _ _ _).trans (Ob.set _ _ _ _), fun _ => by simp [hn]⟩
     · have := (h1.set 0 l').set 1 (erI 4)
       simpa [nx, intE, hn, erV] using this
     · simp [nx, intE, hn] at e0
   | some n =>
     obtain ⟨l', g1, gB, _, g2⟩ := word_take B l x r w h1' (h2 rfl).1
     have HK : Hid (Bk N l') := Lib.hid (fun b hb => (h2 rfl).2 b (gB ▸ hb))
     have G2 := Lib.hid g2
     have HI := Lib.hid (fun w => int_x x n 0 w hx (Or.inl ⟨rfl, hn⟩))
     have HH : Hid (CB (w.setCell ⟨B, 0, none⟩ l') B #[l', .nilIface] 150) := Lib.hid (by have := h1'.set 0 l'; simpa using this)
     obtain ⟨m, hm⟩ : ∃ m : Bool, (decide (0 ≤ n)) = m := ⟨_, rfl⟩
     have HF : Hid (∀ w, Calls Tryz.prog 85 #[.int .i64 n] w fun e w' => e = .returned (.bool m) ∧ w' = w) := fun w => by rw [← hm]; exact fromNought_is n w
     have HE : Hid (intE (fun n => decide (0 ≤ n)) x = if m then 0 else 4) := (by unfold intE; rw [hn, ← hm] : intE (fun n => decide (0 ≤ n)) x = if m then 0 else 4)
     have HN : Hid (n = (rdInt x).getD 0) := (by rw [hn]; rfl : n = (rdInt x).getD 0)
     have HS := Lib.hid g1
     clear g1 g2 gB hm hn hx h1 h1' h2 hw
     cases m
     · go_enter Tryz.func84, Tryz.ntmps84
       go_wp2_with (first
         | (go_at_call 123; refine G2.out.mono ?_; rintro e w' ⟨rfl, rfl⟩)
         | (go_at_call 122; refine (HI.out _).mono ?_; rintro e w' ⟨rfl, rfl⟩)
         | (go_at_call 85; refine (HF.out _).mono ?_; rintro e w' ⟨rfl, rfl⟩)
         | (go_at_call 88; refine (hold_set B l' 4 _ HH.out).mono ?_; rintro e w' ⟨rfl, rfl⟩))
       go_ret
       refine ⟨n, rfl, ⟨l', ?_, fun e0 => ?_⟩, (Ob.set _ _ _ _).trans (Ob.set _ _ _ _), fun _ => HN.out⟩
       · have := HH.out.set 1 (erI 4)
         simpa [nx, HE.out, erV] using this
       · simp [nx, HE.out] at e0
     · go_enter Tryz.func84, Tryz.ntmps84
       go_wp2_with (first
         | (go_at_call 123; refine G2.out.mono ?_; rintro e w' ⟨rfl, rfl⟩)
         | (go_at_call 122; refine (HI.out _).mono ?_; rintro e w' ⟨rfl, rfl⟩)
         | (go_at_call 85; refine (HF.out _).mono ?_; rintro e w' ⟨rfl, rfl⟩)
         | (go_at_call 88; refine (hold_ok B l' 4 _ HH.out).mono ?_; rintro e w' ⟨rfl, rfl⟩))
       go_ret
       refine ⟨n, rfl, ⟨l', ?_, fun e0 => ⟨HS.out, HK.out⟩⟩, Ob.set _ _ _ _, fun _ => HN.out⟩
       simpa [nx, HE.out, erV] using HH.out
 · rw [erV_no he] at h1
   refine (whole_was B l e _ w h1).mono ?_
   rintro v w' ⟨rfl, rfl⟩
   exact ⟨0, rfl, ⟨l, by simpa [nx, he, erV_no he] using h1, fun e0 => absurd e0 (by simp [nx, he])⟩, Ob.refl _ _, fun e0 => absurd e0 he⟩
theorem two_is (n : Int) (w : World) : Calls Tryz.prog 86 #[.int .i64 n] w fun e w' => e = .returned (.bool (n == 2)) ∧ w' = w := by
 go_enter Tryz.func86, Tryz.ntmps86
 go_wp2
 go_ret
 exact ⟨rfl, rfl⟩
theorem whole_two {N : Nat} (B : Nat) (ws : List Bs) (e : Int) (w : World) (h : Rs N w B ws e) (hw : e = 0 → ∃ x r, ws = x :: r ∧ x.length ≤ 1000000) :
   Calls Tryz.prog 84 #[.pointer (some ⟨B, 0, none⟩), .func (.func 86) #[] #[]] w fun v w' => ∃ k, v = .returned (.int .i64 k) ∧ Rs N w' B ws.tail (nx e (intE (fun n => n == 2) (ws.getD 0 []))) ∧ Ob B w w' ∧ (e = 0 → k = (rdInt (ws.getD 0 [])).getD 0) := by
 obtain ⟨l, h1, h2⟩ := h
 by_cases he : e = 0
 · subst he
   obtain ⟨x, r, rfl, hx⟩ := hw rfl
   have h1' : CB w B #[l, .nilIface] 150 := h1
   cases hn : rdInt x with
   | none =>
     obtain ⟨l', g1, gB, g2⟩ := whole_none B l x r (.func (.func 86) #[] #[]) w h1' (h2 rfl).1 hx hn
     refine g2.mono ?_
     rintro v w' ⟨rfl, rfl⟩
     refine ⟨0, rfl, ⟨l', ?_, fun e0 => ?_⟩, (Ob.set _ _ _ _).trans (Ob.set _ _ _ _), fun _ => by simp [hn]⟩
     · have := (h1.set 0 l').set 1 (erI 4)
       simpa [nx, intE, hn, erV] using this
     · simp [nx, intE, hn] at e0
   | some n =>
     obtain ⟨l', g1, gB, _, g2⟩ := word_take B l x r w h1' (h2 rfl).1
     have HK : Hid (Bk N l') := Lib.hid (fun b hb => (h2 rfl).2 b (gB ▸ hb))
     have G2 := Lib.hid g2
     have HI := Lib.hid (fun w => int_x x n 0 w hx (Or.inl ⟨rfl, hn⟩))
     have HH : Hid (CB (w.setCell ⟨B, 0, none⟩ l') B #[l', .nilIface] 150) := Lib.hid (by have := h1'.set 0 l'; simpa using this)
     obtain ⟨m, hm⟩ : ∃ m : Bool, (n == 2) = m := ⟨_, rfl⟩
     have HF : Hid (∀ w, Calls Tryz.prog 86 #[.int .i64 n] w fun e w' => e = .returned (.bool m) ∧ w' = w) := fun w => by rw [← hm]; exact two_is n w
     have HE : Hid (intE (fun n => n == 2) x = if m then 0 else 4) := (by unfold intE; rw [hn, ← hm] : intE (fun n => n == 2) x = if m then 0 else 4)
     have HN : Hid (n = (rdInt x).getD 0) := (by rw [hn]; rfl : n = (rdInt x).getD 0)
     have HS := Lib.hid g1
     clear g1 g2 gB hm hn hx h1 h1' h2 hw
     cases m
     · go_enter Tryz.func84, Tryz.ntmps84
       go_wp2_with (first
         | (go_at_call 123; refine G2.out.mono ?_; rintro e w' ⟨rfl, rfl⟩)
         | (go_at_call 122; refine (HI.out _).mono ?_; rintro e w' ⟨rfl, rfl⟩)
         | (go_at_call 86; refine (HF.out _).mono ?_; rintro e w' ⟨rfl, rfl⟩)
         | (go_at_call 88; refine (hold_set B l' 4 _ HH.out).mono ?_; rintro e w' ⟨rfl, rfl⟩))
       go_ret
       refine ⟨n, rfl, ⟨l', ?_, fun e0 => ?_⟩, (Ob.set _ _ _ _).trans (Ob.set _ _ _ _), fun _ => HN.out⟩
       · have := HH.out.set 1 (erI 4)
         simpa [nx, HE.out, erV] using this
       · simp [nx, HE.out] at e0
     · go_enter Tryz.func84, Tryz.ntmps84
       go_wp2_with (first
         | (go_at_call 123; refine G2.out.mono ?_; rintro e w' ⟨rfl, rfl⟩)
         | (go_at_call 122; refine (HI.out _).mono ?_; rintro e w' ⟨rfl, rfl⟩)
         | (go_at_call 86; refine (HF.out _).mono ?_; rintro e w' ⟨rfl, rfl⟩)
         | (go_at_call 88; refine (hold_ok B l' 4 _ HH.out).mono ?_; rintro e w' ⟨rfl, rfl⟩))
       go_ret
       refine ⟨n, rfl, ⟨l', ?_, fun e0 => ⟨HS.out, HK.out⟩⟩, Ob.set _ _ _ _, fun _ => HN.out⟩
       simpa [nx, HE.out, erV] using HH.out
 · rw [erV_no he] at h1
   refine (whole_was B l e _ w h1).mono ?_
   rintro v w' ⟨rfl, rfl⟩
   exact ⟨0, rfl, ⟨l, by simpa [nx, he, erV_no he] using h1, fun e0 => absurd e0 (by simp [nx, he])⟩, Ob.refl _ _, fun e0 => absurd e0 he⟩
theorem bit_is (n : Int) (w : World) : Calls Tryz.prog 87 #[.int .i64 n] w fun e w' => e = .returned (.bool (n == 0 || n == 1)) ∧ w' = w := by
 by_cases h0 : n = 0
 · subst h0
   go_enter Tryz.func87, Tryz.ntmps87
   go_wp2
   go_ret
   exact ⟨rfl, rfl⟩
 go_enter Tryz.func87, Tryz.ntmps87
 go_wp2
 go_ret
 exact ⟨rfl, rfl⟩
theorem whole_bit {N : Nat} (B : Nat) (ws : List Bs) (e : Int) (w : World) (h : Rs N w B ws e) (hw : e = 0 → ∃ x r, ws = x :: r ∧ x.length ≤ 1000000) :
   Calls Tryz.prog 84 #[.pointer (some ⟨B, 0, none⟩), .func (.func 87) #[] #[]] w fun v w' => ∃ k, v = .returned (.int .i64 k) ∧ Rs N w' B ws.tail (nx e (intE (fun n => n == 0 || n == 1) (ws.getD 0 []))) ∧ Ob B w w' ∧ (e = 0 → k = (rdInt (ws.getD 0 [])).getD 0) := by
 obtain ⟨l, h1, h2⟩ := h
 by_cases he : e = 0
 · subst he
   obtain ⟨x, r, rfl, hx⟩ := hw rfl
   have h1' : CB w B #[l, .nilIface] 150 := h1
   cases hn : rdInt x with
   | none =>
     obtain ⟨l', g1, gB, g2⟩ := whole_none B l x r (.func (.func 87) #[] #[]) w h1' (h2 rfl).1 hx hn
     refine g2.mono ?_
     rintro v w' ⟨rfl, rfl⟩
     refine ⟨0, rfl, ⟨l', ?_, fun e0 => ?_⟩, (Ob.set _ _ _ _).trans (Ob.set _ _ _ _), fun _ => by simp [hn]⟩
     · have := (h1.set 0 l').set 1 (erI 4)
       simpa [nx, intE, hn, erV] using this
     · simp [nx, intE, hn] at e0
   | some n =>
     obtain ⟨l', g1, gB, _, g2⟩ := word_take B l x r w h1' (h2 rfl).1
     have HK : Hid (Bk N l') := Lib.hid (fun b hb => (h2 rfl).2 b (gB ▸ hb))
     have G2 := Lib.hid g2
     have HI := Lib.hid (fun w => int_x x n 0 w hx (Or.inl ⟨rfl, hn⟩))
     have HH : Hid (CB (w.setCell ⟨B, 0, none⟩ l') B #[l', .nilIface] 150) := Lib.hid (by have := h1'.set 0 l'; simpa using this)
     obtain ⟨m, hm⟩ : ∃ m : Bool, (n == 0 || n == 1) = m := ⟨_, rfl⟩
     have HF : Hid (∀ w, Calls Tryz.prog 87 #[.int .i64 n] w fun e w' => e = .returned (.bool m) ∧ w' = w) := fun w => by rw [← hm]; exact bit_is n w
     have HE : Hid (intE (fun n => n == 0 || n == 1) x = if m then 0 else 4) := (by unfold intE; rw [hn, ← hm] : intE (fun n => n == 0 || n == 1) x = if m then 0 else 4)
     have HN : Hid (n = (rdInt x).getD 0) := (by rw [hn]; rfl : n = (rdInt x).getD 0)
     have HS := Lib.hid g1
     clear g1 g2 gB hm hn hx h1 h1' h2 hw
     cases m
     · go_enter Tryz.func84, Tryz.ntmps84
       go_wp2_with (first
         | (go_at_call 123; refine G2.out.mono ?_; rintro e w' ⟨rfl, rfl⟩)
         | (go_at_call 122; refine (HI.out _).mono ?_; rintro e w' ⟨rfl, rfl⟩)
         | (go_at_call 87; refine (HF.out _).mono ?_; rintro e w' ⟨rfl, rfl⟩)
         | (go_at_call 88; refine (hold_set B l' 4 _ HH.out).mono ?_; rintro e w' ⟨rfl, rfl⟩))
       go_ret
       refine ⟨n, rfl, ⟨l', ?_, fun e0 => ?_⟩, (Ob.set _ _ _ _).trans (Ob.set _ _ _ _), fun _ => HN.out⟩
       · have := HH.out.set 1 (erI 4)
         simpa [nx, HE.out, erV] using this
       · simp [nx, HE.out] at e0
     · go_enter Tryz.func84, Tryz.ntmps84
       go_wp2_with (first
         | (go_at_call 123; refine G2.out.mono ?_; rintro e w' ⟨rfl, rfl⟩)
         | (go_at_call 122; refine (HI.out _).mono ?_; rintro e w' ⟨rfl, rfl⟩)
         | (go_at_call 87; refine (HF.out _).mono ?_; rintro e w' ⟨rfl, rfl⟩)
         | (go_at_call 88; refine (hold_ok B l' 4 _ HH.out).mono ?_; rintro e w' ⟨rfl, rfl⟩))
       go_ret
       refine ⟨n, rfl, ⟨l', ?_, fun e0 => ⟨HS.out, HK.out⟩⟩, Ob.set _ _ _ _, fun _ => HN.out⟩
       simpa [nx, HE.out, erV] using HH.out
 · rw [erV_no he] at h1
   refine (whole_was B l e _ w h1).mono ?_
   rintro v w' ⟨rfl, rfl⟩
   exact ⟨0, rfl, ⟨l, by simpa [nx, he, erV_no he] using h1, fun e0 => absurd e0 (by simp [nx, he])⟩, Ob.refl _ _, fun e0 => absurd e0 he⟩
theorem any_is (n : Int) (w : World) : Calls Tryz.prog 92 #[.int .i64 n] w fun e w' => e = .returned (.bool (true)) ∧ w' = w := by
 go_enter Tryz.func92, Tryz.ntmps92
 go_wp2
 go_ret
 exact ⟨rfl, rfl⟩
theorem whole_any {N : Nat} (B : Nat) (ws : List Bs) (e : Int) (w : World) (h : Rs N w B ws e) (hw : e = 0 → ∃ x r, ws = x :: r ∧ x.length ≤ 1000000) :
   Calls Tryz.prog 84 #[.pointer (some ⟨B, 0, none⟩), .func (.func 92) #[] #[]] w fun v w' => ∃ k, v = .returned (.int .i64 k) ∧ Rs N w' B ws.tail (nx e (intE (fun _ => true) (ws.getD 0 []))) ∧ Ob B w w' ∧ (e = 0 → k = (rdInt (ws.getD 0 [])).getD 0) := by
 obtain ⟨l, h1, h2⟩ := h
 by_cases he : e = 0
 · subst he
   obtain ⟨x, r, rfl, hx⟩ := hw rfl
   have h1' : CB w B #[l, .nilIface] 150 := h1
   cases hn : rdInt x with
   | none =>
     obtain ⟨l', g1, gB, g2⟩ := whole_none B l x r (.func (.func 92) #[] #[]) w h1' (h2 rfl).1 hx hn
     refine g2.mono ?_
     rintro v w' ⟨rfl, rfl⟩
     refine ⟨0, rfl, ⟨l', ?_, fun e0 => ?_⟩, (Ob.set _ _ _ _).trans (Ob.set _ _ _ _), fun _ => by simp [hn]⟩
     · have := (h1.set 0 l').set 1 (erI 4)
       simpa [nx, intE, hn, erV] using this
     · simp [nx, intE, hn] at e0
   | some n =>
     obtain ⟨l', g1, gB, _, g2⟩ := word_take B l x r w h1' (h2 rfl).1
     have HK : Hid (Bk N l') := Lib.hid (fun b hb => (h2 rfl).2 b (gB ▸ hb))
     have G2 := Lib.hid g2
     have HI := Lib.hid (fun w => int_x x n 0 w hx (Or.inl ⟨rfl, hn⟩))
     have HH : Hid (CB (w.setCell ⟨B, 0, none⟩ l') B #[l', .nilIface] 150) := Lib.hid (by have := h1'.set 0 l'; simpa using this)
     obtain ⟨m, hm⟩ : ∃ m : Bool, (true) = m := ⟨_, rfl⟩
     have HF : Hid (∀ w, Calls Tryz.prog 92 #[.int .i64 n] w fun e w' => e = .returned (.bool m) ∧ w' = w) := fun w => by rw [← hm]; exact any_is n w
     have HE : Hid (intE (fun _ => true) x = if m then 0 else 4) := (by unfold intE; rw [hn, ← hm] : intE (fun _ => true) x = if m then 0 else 4)
     have HN : Hid (n = (rdInt x).getD 0) := (by rw [hn]; rfl : n = (rdInt x).getD 0)
     have HS := Lib.hid g1
     clear g1 g2 gB hm hn hx h1 h1' h2 hw
     cases m
     · go_enter Tryz.func84, Tryz.ntmps84
       go_wp2_with (first
         | (go_at_call 123; refine G2.out.mono ?_; rintro e w' ⟨rfl, rfl⟩)
         | (go_at_call 122; refine (HI.out _).mono ?_; rintro e w' ⟨rfl, rfl⟩)
         | (go_at_call 92; refine (HF.out _).mono ?_; rintro e w' ⟨rfl, rfl⟩)
         | (go_at_call 88; refine (hold_set B l' 4 _ HH.out).mono ?_; rintro e w' ⟨rfl, rfl⟩))
       go_ret
       refine ⟨n, rfl, ⟨l', ?_, fun e0 => ?_⟩, (Ob.set _ _ _ _).trans (Ob.set _ _ _ _), fun _ => HN.out⟩
       · have := HH.out.set 1 (erI 4)
         simpa [nx, HE.out, erV] using this
       · simp [nx, HE.out] at e0
     · go_enter Tryz.func84, Tryz.ntmps84
       go_wp2_with (first
         | (go_at_call 123; refine G2.out.mono ?_; rintro e w' ⟨rfl, rfl⟩)
         | (go_at_call 122; refine (HI.out _).mono ?_; rintro e w' ⟨rfl, rfl⟩)
         | (go_at_call 92; refine (HF.out _).mono ?_; rintro e w' ⟨rfl, rfl⟩)
         | (go_at_call 88; refine (hold_ok B l' 4 _ HH.out).mono ?_; rintro e w' ⟨rfl, rfl⟩))
       go_ret
       refine ⟨n, rfl, ⟨l', ?_, fun e0 => ⟨HS.out, HK.out⟩⟩, Ob.set _ _ _ _, fun _ => HN.out⟩
       simpa [nx, HE.out, erV] using HH.out
 · rw [erV_no he] at h1
   refine (whole_was B l e _ w h1).mono ?_
   rintro v w' ⟨rfl, rfl⟩
   exact ⟨0, rfl, ⟨l, by simpa [nx, he, erV_no he] using h1, fun e0 => absurd e0 (by simp [nx, he])⟩, Ob.refl _ _, fun e0 => absurd e0 he⟩
end

/- Package nodefile: float, the closure that asks for the first number, rowOf, number, width. -/
section
set_option maxRecDepth 100000
open Go.RowKit Go.Shelf Go.Lib
theorem FloatR.word {l : Bs} {x : Nat} {er : Int} (h : FloatR l x er) : x < 18446744073709551616 := by
 rcases h with ⟨_, rfl, _⟩ | ⟨n, e, ok, _, ⟨_, _, h, _⟩ | ⟨_, rfl, _⟩, _⟩
 · omega
 · exact h
 · omega
theorem FloatR.uniq {l : Bs} {x y : Nat} {e f : Int} (h : FloatR l x e) (g : FloatR l y f) : x = y ∧ e = f := by
 rcases h with ⟨h1, rfl, rfl⟩ | ⟨n, k, ok, h1, ⟨rfl, h2, h3, h4, h5⟩ | ⟨rfl, rfl, h2⟩, rfl⟩
 · have := g.form h1
   exact ⟨this.1.symm, this.2.symm⟩
 · have := g.ok h1 h2 h3 h4 h5
   exact ⟨this.1.symm, by simpa using this.2.symm⟩
 · have := g.no h1 h2
   exact ⟨this.1.symm, by simpa using this.2.symm⟩
theorem float_is {p : Pm} (hp : p.Ok) (x : Bs) (hx : x.length ≤ 900000) (w : World) (hT : Tab w) : Calls Tryz.prog 124 #[sv x] w fun r w' => r = .returned (.tuple #[.float .f64 (p.rf x).1, .int .i64 (p.rf x).2]) ∧ Below w.heap.size w w' := by
 obtain ⟨v, er, h1, h2⟩ := float_any ⟨x.toArray⟩ (by rw [Lib.size_eq]; simpa using hx)
 have := FloatR.uniq (hp.rf x) (by simpa using h1)
 rw [this.1, this.2]
 exact h2 w hT
set_option maxHeartbeats 1000000 in
theorem float_was {p : Pm} (hp : p.Ok) (B : Nat) (l : Value) (e0 : Int) (w : World) (h : CB w B #[l, erI e0] 150) (hT : Tab w) :
   Calls Tryz.prog 89 #[.pointer (some ⟨B, 0, none⟩)] w fun e w' => (∃ x, e = .returned (.float .f64 x) ∧ x < 18446744073709551616) ∧ Below w.heap.size w w' := by
 obtain ⟨x, hx⟩ : ∃ x, (p.rf []).1 = x := ⟨_, rfl⟩
 obtain ⟨er, her⟩ : ∃ x, (p.rf []).2 = x := ⟨_, rfl⟩
 have HX : Hid (x < 18446744073709551616) := Lib.hid (by rw [← hx]; exact (hp.rf []).word)
 have HF : Hid (Calls Tryz.prog 124 #[.string ⟨#[]⟩] w fun r w' => r = .returned (.tuple #[.float .f64 x, .int .i64 er]) ∧ Below w.heap.size w w') := by
   have := float_is hp [] (by simp) w hT
   rw [hx, her] at this
   exact this
 have HH := Lib.hid h
 clear h hT hx her
 go_enter Tryz.func89, Tryz.ntmps89
 go_wp2_with (first
   | (go_at_call 123; refine (word_was B l e0 _ HH.out).mono ?_; rintro e w' ⟨rfl, rfl⟩)
   | (go_at_call 124; refine HF.out.mono ?_; rintro e w1 ⟨rfl, hb⟩; have HB := Lib.hid hb; have HC := Lib.hid (HH.out.later hb); clear hb)
   | (go_at_call 88; refine (hold_was B l e0 er _ _ HC.out).mono ?_; rintro e w' ⟨rfl, rfl⟩))
 go_ret
 exact ⟨⟨x, rfl, HX.out⟩, HB.out⟩
set_option maxHeartbeats 2000000 in
theorem float_step {N : Nat} {p : Pm} (hp : p.Ok) (B : Nat) (ws : List Bs) (e : Int) (w : World) (h : Rs N w B ws e) (hw : e = 0 → ∃ x r, ws = x :: r ∧ x.length ≤ 900000) (hT : Tab w) (hTB : 3 ≠ B) :
   Calls Tryz.prog 89 #[.pointer (some ⟨B, 0, none⟩)] w fun v w' => ∃ x, v = .returned (.float .f64 x) ∧ x < 18446744073709551616 ∧ Rs N w' B ws.tail (nx e (p.rf (ws.getD 0 [])).2) ∧ Ob B w w' ∧ (e = 0 → x = (p.rf (ws.getD 0 [])).1) := by
 obtain ⟨l, h1, h2⟩ := h
 by_cases he : e = 0
 · subst he
   obtain ⟨x, r, rfl, hx⟩ := hw rfl
   have h1' : CB w B #[l, .nilIface] 150 := h1
   obtain ⟨l', g1, gB, _, g2⟩ := word_take B l x r w h1' (h2 rfl).1
   have HK : Hid (Bk N l') := Lib.hid (fun b hb => (h2 rfl).2 b (gB ▸ hb))
   have G2 := Lib.hid g2
   have HH : Hid (CB (w.setCell ⟨B, 0, none⟩ l') B #[l', .nilIface] 150) := Lib.hid (by have := h1'.set 0 l'; simpa using this)
   have hT' : Tab (w.setCell ⟨B, 0, none⟩ l') := fun j hj => (Ob.set B 0 w l').cell (hT j hj) hTB
   obtain ⟨v, hv⟩ : ∃ v, (p.rf x).1 = v := ⟨_, rfl⟩
   obtain ⟨er, her⟩ : ∃ v, (p.rf x).2 = v := ⟨_, rfl⟩
   have HX : Hid (v < 18446744073709551616) := Lib.hid (by rw [← hv]; exact (hp.rf x).word)
   have HF : Hid (Calls Tryz.prog 124 #[sv x] (w.setCell ⟨B, 0, none⟩ l') fun r w' => r = .returned (.tuple #[.float .f64 v, .int .i64 er]) ∧ Below (w.setCell ⟨B, 0, none⟩ l').heap.size (w.setCell ⟨B, 0, none⟩ l') w') := by
     have := float_is hp x hx _ hT'
     rw [hv, her] at this
     exact this
   have HC : Hid (er = 0 ∨ er ≠ 0) := Lib.hid (by omega)
   have HV : Hid ((p.rf x).1 = v ∧ (p.rf x).2 = er) := Lib.hid ⟨hv, her⟩
   have HS := Lib.hid g1
   have HO := Lib.hid (Ob.set B 0 w l')
   obtain ⟨W1, hW1⟩ : ∃ W1, w.setCell ⟨B, 0, none⟩ l' = W1 := ⟨_, rfl⟩
   rw [hW1] at HF HH HS HO G2
   clear g1 g2 gB hv her hx h1 h1' h2 hw hT hT' hW1
   rcases HC.out with hz | hz
   · subst hz
     go_enter Tryz.func89, Tryz.ntmps89
     go_wp2_with (first
       | (go_at_call 123; refine G2.out.mono ?_; rintro e w' ⟨rfl, rfl⟩)
       | (go_at_call 124; refine HF.out.mono ?_; rintro e w2 ⟨rfl, hb⟩; have HB := Lib.hid hb; have HD := Lib.hid (HH.out.later hb); clear hb)
       | (go_at_call 88; refine (hold_ok B l' 0 _ HD.out).mono ?_; rintro e w' ⟨rfl, rfl⟩))
     go_ret
     refine ⟨v, rfl, HX.out, ⟨l', ?_, fun _ => ⟨HS.out.later HB.out, HK.out⟩⟩, HO.out.trans (Ob.of_below HB.out), fun _ => HV.out.1.symm⟩
     have e1 : nx 0 (p.rf ((x :: r).getD 0 [])).2 = 0 := HV.out.2
     rw [e1]
     exact HD.out
   · have hz' : (er == 0) = false := by simpa using hz
     go_enter Tryz.func89, Tryz.ntmps89
     go_wp2_with (first
       | (go_at_call 123; refine G2.out.mono ?_; rintro e w' ⟨rfl, rfl⟩)
       | (go_at_call 124; refine HF.out.mono ?_; rintro e w2 ⟨rfl, hb⟩; have HB := Lib.hid hb; have HD := Lib.hid (HH.out.later hb); clear hb)
       | (go_at_call 88; refine (hold_set B l' er _ HD.out).mono ?_; rintro e w' ⟨rfl, rfl⟩))
     go_ret
     have e1 : nx 0 (p.rf ((x :: r).getD 0 [])).2 = er := HV.out.2
     refine ⟨v, rfl, HX.out, ⟨l', ?_, fun e0 => ?_⟩, (HO.out.trans (Ob.of_below HB.out)).trans (Ob.set _ _ _ _), fun _ => HV.out.1.symm⟩
     · rw [e1, erV_no hz]
       have := HD.out.set 1 (erI er)
       simpa using this
     · rw [e1] at e0; exact absurd e0 hz
 · rw [erV_no he] at h1
   refine (float_was hp B l e w h1 hT).mono ?_
   rintro v w' ⟨⟨x, rfl, hx⟩, hb⟩
   exact ⟨x, rfl, hx, ⟨l, by simpa [nx, he, erV_no he] using h1.later hb, fun e0 => absurd e0 (by simp [nx, he])⟩, Ob.of_below hb, fun e0 => absurd e0 he⟩
abbrev fcs (a : Option Addr) (n c : Nat) (z : Bool) (k : Int) (m : Bool) : Array Value := #[.slice a n c, .bool z, .int .i64 k, .bool m]
theorem number_any (v : Value) (z : Bool) (k : Int) (m : Bool) (place : Int) (w : World) (h1 : -9223372036854775808 ≤ place) (h2 : place < 9223372036854775807) :
   Calls Tryz.prog 52 #[.agg #[v, .bool z, .int .i64 k, .bool m], .int .i64 place] w fun e w' => e = .returned (.int .i64 (if z then place else place + 1)) ∧ w' = w.alloc (.cells #[v, .bool z, .int .i64 k, .bool m] 29) := by
 have h3 : place + 1 ≤ 9223372036854775807 := by omega
 have h4 : -9223372036854775808 ≤ place + 1 := by omega
 cases z
 · go_enter Tryz.func52, Tryz.ntmps52
   go_wp2
   go_ret
   exact ⟨rfl, rfl⟩
 · go_enter Tryz.func52, Tryz.ntmps52
   go_wp2
   go_ret
   exact ⟨rfl, rfl⟩
theorem width_any (v : Value) (z : Bool) (k : Nat) (m : Bool) (w : World) (hk : k ≤ 16) :
   Calls Tryz.prog 72 #[.agg #[v, .bool z, .int .i64 (k : Nat), .bool m]] w fun e w' => e = .returned (.int .i64 (wid k m : Nat)) ∧ w' = w.alloc (.cells #[v, .bool z, .int .i64 (k : Nat), .bool m] 29) := by
 have h3 : (k : Int) ≤ 16 := by omega
 cases m
 · go_enter Tryz.func72, Tryz.ntmps72
   go_wp2
   go_ret
   exact ⟨by simp [wid], rfl⟩
 · go_enter Tryz.func72, Tryz.ntmps72
   go_wp2
   go_ret
   exact ⟨by simp [wid], rfl⟩
end

/- Package nodefile: the first number is asked of a closure; rowOf. -/
section
set_option maxRecDepth 100000
open Go.RowKit Go.Shelf Go.Lib
def stW (w : World) (Bf : Nat) (a : Option Addr) (i c : Nat) (z : Bool) (k : Int) (m : Bool) (n : Int) : World :=
 if i = 0 then (w.setCell ⟨Bf, 1, none⟩ (.bool (n == 0))).alloc (.cells (fcs a 0 c (n == 0) k m) 29) else w.alloc (.cells (fcs a i c z k m) 29)
set_option maxHeartbeats 1000000 in
theorem stand_any (Bf : Nat) (a : Option Addr) (i c : Nat) (z : Bool) (k : Int) (m : Bool) (n : Int) (w : World) (h : CB w Bf (fcs a i c z k m) 29) (hi : i ≤ 100000000) :
   Calls Tryz.prog 51 #[.int .i64 n, .pointer (some ⟨Bf, 0, none⟩)] w fun e w' => e = .returned (.bool (mayN i z n)) ∧ w' = stW w Bf a i c z k m n := by
 have c0 : w.cell? ⟨Bf, 0, none⟩ = some (.slice a i c) := h.cell 0 (by simp)
 have c1 : w.cell? ⟨Bf, 1, none⟩ = some (.bool z) := h.cell 1 (by simp)
 have c2 : w.cell? ⟨Bf, 2, none⟩ = some (.int .i64 k) := h.cell 2 (by simp)
 have c3 : w.cell? ⟨Bf, 3, none⟩ = some (.bool m) := h.cell 3 (by simp)
 have f1 : w.frozen? ⟨Bf, 1, none⟩ = false := h.frozen 1
 by_cases h0 : i = 0
 · subst h0
   unfold stW
   rw [if_pos rfl]
   have hs := h.set 1 (.bool (n == 0))
   have d0 : (w.setCell ⟨Bf, 1, none⟩ (.bool (n == 0))).cell? ⟨Bf, 0, none⟩ = some (.slice a 0 c) := hs.cell 0 (by simp)
   have d1 : (w.setCell ⟨Bf, 1, none⟩ (.bool (n == 0))).cell? ⟨Bf, 1, none⟩ = some (.bool (n == 0)) := hs.cell 1 (by simp)
   have d2 : (w.setCell ⟨Bf, 1, none⟩ (.bool (n == 0))).cell? ⟨Bf, 2, none⟩ = some (.int .i64 k) := hs.cell 2 (by simp)
   have d3 : (w.setCell ⟨Bf, 1, none⟩ (.bool (n == 0))).cell? ⟨Bf, 3, none⟩ = some (.bool m) := hs.cell 3 (by simp)
   have HM : Hid (mayN 0 z n = (n == (if (n == 0) = true then 0 else 0 + 1))) := Lib.hid (by
     unfold mayN
     by_cases e : n = 0
     · simp [e]
     · simp [e])
   have HN : Hid (∀ W, Calls Tryz.prog 52 #[.agg #[.slice a 0 c, .bool (n == 0), .int .i64 k, .bool m], .int .i64 0] W fun e w' => e = .returned (.int .i64 (if (n == 0) = true then 0 else 0 + 1)) ∧ w' = W.alloc (.cells #[.slice a 0 c, .bool (n == 0), .int .i64 k, .bool m] 29)) := Lib.hid fun W => number_any _ _ _ _ 0 W (by omega) (by omega)
   rw [HM.out]
   clear h hs HM hi
   obtain ⟨b, hb⟩ : ∃ b : Bool, (n == 0) = b := ⟨_, rfl⟩
   go_enter Tryz.func51, Tryz.ntmps51
   rw [hb] at d0 d1 d2 d3 HN ⊢
   go_wp2_with (first
     | (go_at_call 52; refine (HN.out _).mono ?_; rintro e w' ⟨rfl, rfl⟩))
   all_goals
     go_ret
     exact ⟨rfl, rfl⟩
 · unfold stW
   rw [if_neg h0]
   have h0' : ¬ ((i : Int) = 0) := by omega
   have HM : Hid (mayN i z n = (n == (if z = true then (i : Int) else (i : Int) + 1))) := Lib.hid (by unfold mayN; rw [if_neg h0])
   have HN : Hid (∀ W, Calls Tryz.prog 52 #[.agg #[.slice a i c, .bool z, .int .i64 k, .bool m], .int .i64 (i : Nat)] W fun e w' => e = .returned (.int .i64 (if z = true then (i : Int) else (i : Int) + 1)) ∧ w' = W.alloc (.cells #[.slice a i c, .bool z, .int .i64 k, .bool m] 29)) := Lib.hid fun W => number_any _ _ _ _ _ W (by omega) (by omega)
   rw [HM.out]
   clear h HM
   obtain ⟨q, hq⟩ : ∃ q : Int, (if z = true then (i : Int) else (i : Int) + 1) = q := ⟨_, rfl⟩
   rw [hq] at HN ⊢
   go_enter Tryz.func51, Tryz.ntmps51
   go_wp2_with (first
     | (go_at_call 52; refine (HN.out _).mono ?_; rintro e w' ⟨rfl, rfl⟩))
   go_ret
   exact ⟨rfl, rfl⟩
structure Ob2 (B C : Nat) (w w' : World) : Prop where
 os : w'.os = w.os
 tape : w'.tape = w.tape
 output : w'.output = w.output
 size : w.heap.size ≤ w'.heap.size
 block : ∀ k, k < w.heap.size → k ≠ B → k ≠ C → w'.heap[k]? = w.heap[k]?
theorem Ob.two {B C : Nat} {w w' : World} (h : Ob B w w') : Ob2 B C w w' := ⟨h.os, h.tape, h.output, h.size, fun k hk h1 _ => h.block k hk h1⟩
theorem Ob.two' {B C : Nat} {w w' : World} (h : Ob C w w') : Ob2 B C w w' := ⟨h.os, h.tape, h.output, h.size, fun k hk _ h1 => h.block k hk h1⟩
theorem Ob2.trans {B C : Nat} {a b c : World} (h : Ob2 B C a b) (k : Ob2 B C b c) : Ob2 B C a c := ⟨k.os.trans h.os, k.tape.trans h.tape, k.output.trans h.output, Nat.le_trans h.size k.size, fun i hi h1 h2 => (k.block i (Nat.lt_of_lt_of_le hi h.size) h1 h2).trans (h.block i hi h1 h2)⟩
theorem Ob2.cb {B C b t : Nat} {cs : Array Value} {w w' : World} (h : Ob2 B C w w') (hc : CB w b cs t) (h1 : b ≠ B) (h2 : b ≠ C) : CB w' b cs t := by
 unfold CB
 rw [h.block b hc.lt h1 h2]; exact hc
theorem stW_facts {w : World} {Bf : Nat} {a : Option Addr} {i c : Nat} {z : Bool} {k : Int} {m : Bool} (n : Int) (h : CB w Bf (fcs a i c z k m) 29) : CB (stW w Bf a i c z k m n) Bf (fcs a i c (if i = 0 then n == 0 else z) k m) 29 ∧ Ob Bf w (stW w Bf a i c z k m n) := by
 unfold stW
 by_cases h0 : i = 0
 · subst h0
   rw [if_pos rfl, if_pos rfl]
   have hs : CB (w.setCell ⟨Bf, 1, none⟩ (.bool (n == 0))) Bf (fcs a 0 c (n == 0) k m) 29 := by have := h.set 1 (.bool (n == 0)); simpa using this
   have hb : Below (w.setCell ⟨Bf, 1, none⟩ (.bool (n == 0))).heap.size (w.setCell ⟨Bf, 1, none⟩ (.bool (n == 0))) ((w.setCell ⟨Bf, 1, none⟩ (.bool (n == 0))).alloc (.cells (fcs a 0 c (n == 0) k m) 29)) := (Below.refl _ _).alloc (Nat.le_refl _) _
   exact ⟨hs.later hb, (Ob.set _ _ _ _).trans (Ob.of_below hb)⟩
 · rw [if_neg h0, if_neg h0]
   have hb : Below w.heap.size w (w.alloc (.cells (fcs a i c z k m) 29)) := (Below.refl _ _).alloc (Nat.le_refl _) _
   exact ⟨h.later hb, Ob.of_below hb⟩
set_option maxHeartbeats 2000000 in
theorem whole_stand {N : Nat} (B Bf : Nat) (ws : List Bs) (e : Int) (a : Option Addr) (i c : Nat) (z : Bool) (k : Int) (m : Bool) (w : World) (h : Rs N w B ws e) (hw : e = 0 → ∃ x r, ws = x :: r ∧ x.length ≤ 1000000) (hf : CB w Bf (fcs a i c z k m) 29) (hne : Bf ≠ B) (hi : i ≤ 100000000) :
   Calls Tryz.prog 84 #[.pointer (some ⟨B, 0, none⟩), .func (.func 51) #[] #[.pointer (some ⟨Bf, 0, none⟩)]] w fun v w' => (∃ q, v = .returned (.int .i64 q)) ∧ Rs N w' B ws.tail (nx e (intE (mayN i z) (ws.getD 0 []))) ∧ Ob2 B Bf w w' ∧ ∃ z', CB w' Bf (fcs a i c z' k m) 29 ∧ (nx e (intE (mayN i z) (ws.getD 0 [])) = 0 → z' = zN i z (ws.getD 0 [])) := by
 obtain ⟨l, h1, h2⟩ := h
 by_cases he : e = 0
 · subst he
   obtain ⟨x, r, rfl, hx⟩ := hw rfl
   have h1' : CB w B #[l, .nilIface] 150 := h1
   cases hn : rdInt x with
   | none =>
     obtain ⟨l', g1, gB, g2⟩ := whole_none B l x r (.func (.func 51) #[] #[.pointer (some ⟨Bf, 0, none⟩)]) w h1' (h2 rfl).1 hx hn
     refine g2.mono ?_
     rintro v w' ⟨rfl, rfl⟩
     have e4 : nx 0 (intE (mayN i z) ((x :: r).getD 0 [])) = 4 := by simp [nx, intE, hn]
     refine ⟨⟨0, rfl⟩, ⟨l', ?_, fun e0 => ?_⟩, ((Ob.set _ _ _ _).trans (Ob.set _ _ _ _)).two, z, (hf.other hne _).other hne _, fun e0 => ?_⟩
     · have := (h1.set 0 l').set 1 (erI 4)
       rw [e4]
       simpa [erV] using this
     · rw [e4] at e0; cases e0
     · rw [e4] at e0; cases e0
   | some n =>
     obtain ⟨l', g1, gB, _, g2⟩ := word_take B l x r w h1' (h2 rfl).1
     have HK : Hid (Bk N l') := Lib.hid (fun b hb => (h2 rfl).2 b (gB ▸ hb))
     have G2 := Lib.hid g2
     have HI := Lib.hid (fun w => int_x x n 0 w hx (Or.inl ⟨rfl, hn⟩))
     have hh : CB (w.setCell ⟨B, 0, none⟩ l') B #[l', .nilIface] 150 := by have := h1'.set 0 l'; simpa using this
     have hf1 := hf.other (i := 0) hne l'
     obtain ⟨hf2, ho2⟩ := stW_facts n hf1
     have hh2 : CB (stW (w.setCell ⟨B, 0, none⟩ l') Bf a i c z k m n) B #[l', .nilIface] 150 := ho2.cb hh (Ne.symm hne)
     have HO : Hid (Ob2 B Bf w (stW (w.setCell ⟨B, 0, none⟩ l') Bf a i c z k m n)) := Lib.hid ((Ob.set B 0 w l').two.trans ho2.two')
     have HF2 := Lib.hid hf2
     have HH := Lib.hid hh2
     have HZ : Hid ((if i = 0 then n == 0 else z) = zN i z x) := Lib.hid (by unfold zN; rw [hn]; split <;> simp)
     obtain ⟨b, hm⟩ : ∃ b : Bool, mayN i z n = b := ⟨_, rfl⟩
     have HF : Hid (Calls Tryz.prog 51 #[.int .i64 n, .pointer (some ⟨Bf, 0, none⟩)] (w.setCell ⟨B, 0, none⟩ l') fun e w' => e = .returned (.bool b) ∧ w' = stW (w.setCell ⟨B, 0, none⟩ l') Bf a i c z k m n) := Lib.hid (by rw [← hm]; exact stand_any Bf a i c z k m n _ hf1 hi)
     have HE : Hid (nx 0 (intE (mayN i z) ((x :: r).getD 0 [])) = if b then 0 else 4) := Lib.hid (by show nx 0 (intE (mayN i z) x) = _; unfold nx intE; rw [hn, ← hm]; rfl)
     have hlt : ∀ y, Sl (w.setCell ⟨B, 0, none⟩ y) l' r → Ob Bf (w.setCell ⟨B, 0, none⟩ y) (stW (w.setCell ⟨B, 0, none⟩ y) Bf a i c z k m n) → Sl (stW (w.setCell ⟨B, 0, none⟩ y) Bf a i c z k m n) l' r := fun y hs ho => by
       obtain ⟨⟨a1, c1, q1, q2, q3, q4⟩, q5⟩ := hs
       refine ⟨⟨a1, c1, q1, q2, q3, ?_⟩, q5⟩
       rcases q4 with q4 | ⟨g, off, q6, q7, q8⟩
       · exact Or.inl q4
       · refine Or.inr ⟨g, off, q6, Nat.lt_of_lt_of_le q7 ho.size, fun j s hj => ?_⟩
         have q9 := q8 j s hj
         refine ho.cell q9 (fun e => ?_)
         subst e
         have hc := hf.other (i := 0) hne y
         unfold CB at hc
         simp only [World.cell?, hc] at q9
         have h10 : (fcs a i c z k m)[off + j]? = some (sv s) := by simpa using q9
         rcases Nat.lt_or_ge (off + j) 4 with hlt | hge
         · have : off + j = 0 ∨ off + j = 1 ∨ off + j = 2 ∨ off + j = 3 := by omega
           rcases this with e | e | e | e <;> rw [e] at h10 <;> simp at h10
         · rw [Array.getElem?_eq_none (by simpa using hge)] at h10
           cases h10
     have HS := Lib.hid (hlt l' g1 ho2)
     obtain ⟨W1, hW1⟩ : ∃ W1, w.setCell ⟨B, 0, none⟩ l' = W1 := ⟨_, rfl⟩
     rw [hW1] at G2 HF HF2 HO HH HS
     obtain ⟨W2, hW2⟩ : ∃ W2, stW W1 Bf a i c z k m n = W2 := ⟨_, rfl⟩
     rw [hW2] at HF HF2 HO HH HS
     clear g1 g2 gB hm hn hx h1 h1' h2 hw hlt hh hh2 hf1 hf2 ho2 hf hW1 hW2
     cases b
     · go_enter Tryz.func84, Tryz.ntmps84
       go_wp2_with (first
         | (go_at_call 123; refine G2.out.mono ?_; rintro e w' ⟨rfl, rfl⟩)
         | (go_at_call 122; refine (HI.out _).mono ?_; rintro e w' ⟨rfl, rfl⟩)
         | (go_at_call 51; refine HF.out.mono ?_; rintro e w' ⟨rfl, rfl⟩)
         | (go_at_call 88; refine (hold_set B l' 4 _ HH.out).mono ?_; rintro e w' ⟨rfl, rfl⟩))
       go_ret
       have e4 : nx 0 (intE (mayN i z) ((x :: r).getD 0 [])) = 4 := HE.out
       refine ⟨⟨n, rfl⟩, ⟨l', ?_, fun e0 => ?_⟩, HO.out.trans (Ob.set _ _ _ _).two, _, HF2.out.other hne _, fun e0 => ?_⟩
       · have := HH.out.set 1 (erI 4)
         rw [e4]
         simpa [erV] using this
       · rw [e4] at e0; cases e0
       · rw [e4] at e0; cases e0
     · go_enter Tryz.func84, Tryz.ntmps84
       go_wp2_with (first
         | (go_at_call 123; refine G2.out.mono ?_; rintro e w' ⟨rfl, rfl⟩)
         | (go_at_call 122; refine (HI.out _).mono ?_; rintro e w' ⟨rfl, rfl⟩)
         | (go_at_call 51; refine HF.out.mono ?_; rintro e w' ⟨rfl, rfl⟩)
         | (go_at_call 88; refine (hold_ok B l' 4 _ HH.out).mono ?_; rintro e w' ⟨rfl, rfl⟩))
       go_ret
       have e4 : nx 0 (intE (mayN i z) ((x :: r).getD 0 [])) = 0 := HE.out
       refine ⟨⟨n, rfl⟩, ⟨l', ?_, fun e0 => ⟨HS.out, HK.out⟩⟩, HO.out, _, HF2.out, fun e0 => HZ.out⟩
       rw [e4]
       exact HH.out
 · rw [erV_no he] at h1
   refine (whole_was B l e _ w h1).mono ?_
   rintro v w' ⟨rfl, rfl⟩
   refine ⟨⟨0, rfl⟩, ⟨l, by simpa [nx, he, erV_no he] using h1, fun e0 => absurd e0 (by simp [nx, he])⟩, (Ob.refl _ _).two, z, hf, fun e0 => absurd e0 (by simp [nx, he])⟩
set_option maxHeartbeats 1000000 in
theorem rowOf_any {N : Nat} (l : Value) (ws : List Bs) (n : Nat) (w : World) (h : Sl w l ws) (hk : Bk N l) (hn : n ≤ 1000) :
   Calls Tryz.prog 83 #[l, .int .i64 (n : Nat)] w fun e w' => e = .returned (.pointer (some ⟨w.heap.size, 0, none⟩)) ∧ Rs N w' w.heap.size ws (if ws.length = n then 0 else 4) ∧ Below w.heap.size w w' := by
 have hb : Below w.heap.size w (w.alloc (.cells #[l, .nilIface] 150)) := (Below.refl _ _).alloc (Nat.le_refl _) _
 have HB := Lib.hid hb
 have HR : Hid (Rs N (w.alloc (.cells #[l, .nilIface] 150)) w.heap.size ws 0) := Lib.hid ⟨l, CB.new w _ _, fun _ => ⟨h.later hb, hk⟩⟩
 obtain ⟨⟨a, c, rfl, h1, h2, _⟩, _⟩ := h
 have l1 : (ws.length : Int) ≤ 9223372036854775807 := by omega
 have l2 : (n : Int) ≤ 1000 := by omega
 obtain ⟨b, hbb⟩ : ∃ b : Bool, decide (ws.length = n) = b := ⟨_, rfl⟩
 obtain ⟨W1, hW1⟩ : ∃ W1, w.alloc (.cells #[.slice a ws.length c, .nilIface] 150) = W1 := ⟨_, rfl⟩
 rw [hW1] at HR HB
 have HH : Hid (Calls Tryz.prog 88 #[.pointer (some ⟨w.heap.size, 0, none⟩), .bool b, .int .i64 4] W1 fun r w' => r = .returned (.tuple #[]) ∧ Rs N w' w.heap.size ws (nx 0 (if b then 0 else 4)) ∧ Ob w.heap.size W1 w') := Lib.hid (hold_step w.heap.size ws 0 4 b W1 HR.out (by omega))
 have hq : (((ws.length : Nat) : Int) == ((n : Nat) : Int)) = b := by
   rw [← hbb]
   by_cases e : ws.length = n
   · simp [e]
   · rw [decide_eq_false e, beq_eq_false_iff_ne]; omega
 obtain ⟨E, hE⟩ : ∃ E : Int, (if ws.length = n then 0 else 4) = E := ⟨_, rfl⟩
 rw [hE]
 have HE : Hid (nx 0 (if b then 0 else 4) = E) := Lib.hid (by
   rw [← hbb, ← hE]
   by_cases e : ws.length = n
   · simp [nx, e]
   · simp [nx, e])
 clear hbb hb hE
 obtain ⟨L, hN⟩ : ∃ L, ws.length = L := ⟨_, rfl⟩
 rw [hN] at hW1 hq l1 h1 ⊢
 go_enter Tryz.func83, Tryz.ntmps83
 go_wp2_with fail
 try rw [hW1]
 try rw [hq]
 refine HH.out.mono ?_
 rintro r W2 ⟨rfl, q1, q2⟩
 have Q1 := Lib.hid q1
 have Q2 := Lib.hid q2
 clear q1 q2
 go_wp2
 go_ret
 refine ⟨rfl, ?_, HB.out.trans (Q2.out.below (Nat.le_refl _) HB.out.size)⟩
 have := Q1.out
 rw [HE.out] at this
 exact this
end
end Go.Proofs.YtofklahgpkmfmaaGreatDoor
