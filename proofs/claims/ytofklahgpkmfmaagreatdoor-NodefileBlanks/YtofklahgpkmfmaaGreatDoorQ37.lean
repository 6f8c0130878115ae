/- Own texts, put together: Qc. -/
import Derived.Test.YtofklahgpkmfmaaGreatDoorQ33
import Derived.Test.YtofklahgpkmfmaaGreatDoorQ36
/- Package nodefile: the steps of a row. -/
namespace Go.Proofs.YtofklahgpkmfmaaGreatDoor
set_option maxRecDepth 100000
open Go.RowKit Go.Shelf Go.Lib
structure Ob (B : Nat) (w w' : World) : Prop where
 os : w'.os = w.os
 tape : w'.tape = w.tape
 output : w'.output = w.output
 size : w.heap.size ≤ w'.heap.size
 block : ∀ k, k < w.heap.size → k ≠ B → w'.heap[k]? = w.heap[k]?
theorem Ob.refl (B : Nat) (w : World) : Ob B w w := ⟨rfl, rfl, rfl, Nat.le_refl _, fun _ _ _ => rfl⟩
theorem Ob.trans {B : Nat} {a b c : World} (h : Ob B a b) (k : Ob B b c) : Ob B a c := ⟨k.os.trans h.os, k.tape.trans h.tape, k.output.trans h.output, Nat.le_trans h.size k.size, fun i hi hn => (k.block i (Nat.lt_of_lt_of_le hi h.size) hn).trans (h.block i hi hn)⟩
theorem Ob.of_below {B : Nat} {w w' : World} (h : Below w.heap.size w w') : Ob B w w' := ⟨h.os, h.tape, h.output, h.size, fun k hk _ => h.block k hk⟩
theorem Ob.set (B i : Nat) (w : World) (v : Value) : Ob B w (w.setCell ⟨B, i, none⟩ v) := ⟨rfl, rfl, rfl, by simp [World.setCell], fun k _ hn => Below.heap_setCell w ⟨B, i, none⟩ v k hn⟩
theorem Ob.below {B N : Nat} {w w' : World} (h : Ob B w w') (h1 : N ≤ B) (h2 : N ≤ w.heap.size) : Below N w w' := ⟨h.os, h.tape, h.output, h.size, fun k hk => h.block k (by omega) (by omega)⟩
theorem Ob.cb {B b t : Nat} {cs : Array Value} {w w' : World} (h : Ob B w w') (hc : CB w b cs t) (hn : b ≠ B) : CB w' b cs t := by
 unfold CB
 rw [h.block b hc.lt hn]; exact hc
theorem Ob.cell {B g i : Nat} {w w' : World} {v : Value} (h : Ob B w w') (hc : w.cell? ⟨g, i, none⟩ = some v) (hn : g ≠ B) : w'.cell? ⟨g, i, none⟩ = some v := by
 have hl : g < w.heap.size := by
   rcases Nat.lt_or_ge g w.heap.size with h0 | h0
   · exact h0
   · simp [World.cell?, Array.getElem?_eq_none h0] at hc
 rw [← hc]
 exact World.cell?_of_block (w := w) (h.block g hl hn)
def nx (e f : Int) : Int := if e = 0 then f else e
theorem fst0_snoc (l : List Int) (f : Int) : fst0 (l ++ [f]) = nx (fst0 l) f := by
 rw [fst0_app]
 unfold nx
 split <;> simp [fst0]
 intro h; exact h.symm
def Rs (N : Nat) (W : World) (B : Nat) (ws : List Bs) (e : Int) : Prop := ∃ l, CB W B #[l, erV e] 150 ∧ (e = 0 → Sl W l ws ∧ Bk N l)
theorem hold_step {N : Nat} (B : Nat) (ws : List Bs) (e why : Int) (right : Bool) (w : World) (h : Rs N w B ws e) (hw : why ≠ 0 ∨ right = true) :
   Calls Tryz.prog 88 #[.pointer (some ⟨B, 0, none⟩), .bool right, .int .i64 why] w fun r w' => r = .returned (.tuple #[]) ∧ Rs N w' B ws (nx e (if right then 0 else why)) ∧ Ob B w w' := by
 obtain ⟨l, h1, h2⟩ := h
 by_cases he : e = 0
 · subst he
   cases right
   · have hw' : why ≠ 0 := by simpa using hw
     refine (hold_set B l why w h1).mono ?_
     rintro r w' ⟨rfl, rfl⟩
     refine ⟨rfl, ⟨l, ?_, fun e0 => ?_⟩, Ob.set _ _ _ _⟩
     · have := h1.set 1 (erI why)
       simpa [nx, erV_no hw'] using this
     · exact absurd e0 (by simpa [nx] using hw')
   · refine (hold_ok B l why w h1).mono ?_
     rintro r w' ⟨rfl, rfl⟩
     exact ⟨rfl, ⟨l, by simpa [nx] using h1, fun _ => h2 rfl⟩, Ob.refl _ _⟩
 · rw [erV_no he] at h1
   refine (hold_was B l e why right w h1).mono ?_
   rintro r w' ⟨rfl, rfl⟩
   refine ⟨rfl, ⟨l, by simpa [nx, he, erV_no he] using h1, fun e0 => absurd e0 (by simp [nx, he])⟩, Ob.refl _ _⟩
theorem Sl.ob {W W' : World} {B : Nat} {v l : Value} {ws : List Bs} {ev : Value} (h : Sl W v ws) (ho : Ob B W W') (hc : CB W B #[l, ev] 150) (hl : ∀ s, l ≠ .string s) (he : ∀ s, ev ≠ .string s) : Sl W' v ws := by
 obtain ⟨⟨a, c, h1, h2, h3, h4⟩, h5⟩ := h
 refine ⟨⟨a, c, h1, h2, h3, ?_⟩, h5⟩
 rcases h4 with h4 | ⟨g, off, h6, h7, h8⟩
 · exact Or.inl h4
 · refine Or.inr ⟨g, off, h6, Nat.lt_of_lt_of_le h7 ho.size, fun k x hk => ?_⟩
   have h9 := h8 k x hk
   refine ho.cell h9 (fun e => ?_)
   subst e
   unfold CB at hc
   simp only [World.cell?, hc] at h9
   have h10 : #[l, ev][off + k]? = some (sv x) := by simpa using h9
   rcases Nat.lt_or_ge (off + k) 2 with hlt | hge
   · have : off + k = 0 ∨ off + k = 1 := by omega
     rcases this with e | e <;> rw [e] at h10 <;> simp at h10
     · exact hl _ h10
     · exact he _ h10
   · rw [Array.getElem?_eq_none (by simpa using hge)] at h10
     cases h10
theorem int_nil (w : World) : Calls Tryz.prog 122 #[.string ⟨#[]⟩] w fun e w' => e = .returned (.tuple #[.int .i64 0, .int .i64 4]) ∧ w' = w := int_any ⟨#[]⟩ w (by decide)
theorem whole_was (B : Nat) (l : Value) (e0 : Int) (fv : Value) (w : World) (h : CB w B #[l, erI e0] 150) :
   Calls Tryz.prog 84 #[.pointer (some ⟨B, 0, none⟩), fv] w fun e w' => e = .returned (.int .i64 0) ∧ w' = w := by
 have HH := Lib.hid h
 clear h
 go_enter Tryz.func84, Tryz.ntmps84
 go_wp2_with (first
   | (go_at_call 123; refine (word_was B l e0 _ HH.out).mono ?_; rintro e w' ⟨rfl, rfl⟩)
   | (go_at_call 122; refine (int_nil _).mono ?_; rintro e w' ⟨rfl, rfl⟩)
   | (go_at_call 88; refine (hold_was B l e0 4 false _ HH.out).mono ?_; rintro e w' ⟨rfl, rfl⟩))
 go_ret
 exact ⟨rfl, rfl⟩
theorem int_x (x : Bs) (n er : Int) (w : World) (hx : x.length ≤ 1000000) (h : (er = 0 ∧ rdInt x = some n) ∨ (er = 4 ∧ n = 0 ∧ rdInt x = none)) : Calls Tryz.prog 122 #[sv x] w fun e w' => e = .returned (.tuple #[.int .i64 n, .int .i64 er]) ∧ w' = w := by
 have := int_any ⟨x.toArray⟩ w (by rw [Lib.size_eq]; simpa using hx)
 simp only [] at this
 rcases h with ⟨rfl, h⟩ | ⟨rfl, rfl, h⟩
 · rw [h] at this; exact this
 · rw [h] at this; exact this
theorem whole_none (B : Nat) (l : Value) (x : Bs) (r : List Bs) (fv : Value) (w : World) (h : CB w B #[l, .nilIface] 150) (hS : Sl w l (x :: r)) (hx : x.length ≤ 1000000) (hn : rdInt x = none) :
   ∃ l', Sl (w.setCell ⟨B, 0, none⟩ l') l' r ∧ l'.ownBlock = l.ownBlock ∧ Calls Tryz.prog 84 #[.pointer (some ⟨B, 0, none⟩), fv] w fun e w' => e = .returned (.int .i64 0) ∧ w' = (w.setCell ⟨B, 0, none⟩ l').setCell ⟨B, 1, none⟩ (erI 4) := by
 obtain ⟨l', h1, gB, _, h2⟩ := word_take B l x r w h hS
 refine ⟨l', h1, gB, ?_⟩
 have H2 := Lib.hid h2
 have HI := Lib.hid (fun w => int_x x 0 4 w hx (Or.inr ⟨rfl, rfl, hn⟩))
 have HH : Hid (CB (w.setCell ⟨B, 0, none⟩ l') B #[l', .nilIface] 150) := Lib.hid (by have := h.set 0 l'; simpa using this)
 clear h2 h1 hS h hx hn gB
 go_enter Tryz.func84, Tryz.ntmps84
 go_wp2_with (first
   | (go_at_call 123; refine H2.out.mono ?_; rintro e w' ⟨rfl, rfl⟩)
   | (go_at_call 122; refine (HI.out _).mono ?_; rintro e w' ⟨rfl, rfl⟩)
   | (go_at_call 88; refine (hold_set B l' 4 _ HH.out).mono ?_; rintro e w' ⟨rfl, rfl⟩))
 go_ret
 exact ⟨rfl, rfl⟩
theorem fromNought_is (n : Int) (w : World) : Calls Tryz.prog 85 #[.int .i64 n] w fun e w' => e = .returned (.bool (decide (0 ≤ n))) ∧ w' = w := by
 by_cases h : 0 ≤ n
 · rw [decide_eq_true h]
   go_enter Tryz.func85, Tryz.ntmps85
   go_wp2
   go_ret
   exact ⟨rfl, rfl⟩
 · rw [decide_eq_false h]
   have h' : n < 0 := by omega
   go_enter Tryz.func85, Tryz.ntmps85
   go_wp2
   go_ret
   exact ⟨rfl, rfl⟩
theorem whole_fromNought {N : Nat} (B : Nat) (ws : List Bs) (e : Int) (w : World) (h : Rs N w B ws e) (hw : e = 0 → ∃ x r, ws = x :: r ∧ x.length ≤ 1000000) :
   Calls Tryz.prog 84 #[.pointer (some ⟨B, 0, none⟩), .func (.func 85) #[] #[]] w fun v w' => ∃ k, v = .returned (.int .i64 k) ∧ Rs N w' B ws.tail (nx e (intE (fun n => decide (0 ≤ n)) (ws.getD 0 []))) ∧ Ob B w w' ∧ (e = 0 → k = (rdInt (ws.getD 0 [])).getD 0) := by
 obtain ⟨l, h1, h2⟩ := h
 by_cases he : e = 0
 · subst he
   obtain ⟨x, r, rfl, hx⟩ := hw rfl
   have h1' : CB w B #[l, .nilIface] 150 := h1
   cases hn : rdInt x with
   | none =>
     obtain ⟨l', g1, gB, g2⟩ := whole_none B l x r (.func (.func 85) #[] #[]) w h1' (h2 rfl).1 hx hn
     refine g2.mono ?_
     rintro v w' ⟨rfl, rfl⟩
     refine ⟨0, rfl, ⟨l', ?_, fun e0 => ?_⟩, (Ob.set _ _ _ _).trans (Ob.set _ _ _ _), fun _ => by simp [hn]⟩
     · have := (h1.set 0 l').set 1 (erI 4)
       simpa [nx, intE, hn, erV] using this
     · simp [nx, intE, hn] at e0
   | some n =>
     obtain ⟨l', g1, gB, _, g2⟩ := word_take B l x r w h1' (h2 rfl).1
     have HK : Hid (Bk N l') := Lib.hid (fun b hb => (h2 rfl).2 b (gB ▸ hb))
     have G2 := Lib.hid g2
     have HI := Lib.hid (fun w => int_x x n 0 w hx (Or.inl ⟨rfl, hn⟩))
     have HH : Hid (CB (w.setCell ⟨B, 0, none⟩ l') B #[l', .nilIface] 150) := Lib.hid (by have := h1'.set 0 l'; simpa using this)
     obtain ⟨m, hm⟩ : ∃ m : Bool, (decide (0 ≤ n)) = m := ⟨_, rfl⟩
     have HF : Hid (∀ w, Calls Tryz.prog 85 #[.int .i64 n] w fun e w' => e = .returned (.bool m) ∧ w' = w) := fun w => by rw [← hm]; exact fromNought_is n w
     have HE : Hid (intE (fun n => decide (0 ≤ n)) x = if m then 0 else 4) := (by unfold intE; rw [hn, ← hm] : intE (fun n => decide (0 ≤ n)) x = if m then 0 else 4)
     have HN : Hid (n = (rdInt x).getD 0) := (by rw [hn]; rfl : n = (rdInt x).getD 0)
     have HS := Lib.hid g1
     clear g1 g2 gB hm hn hx h1 h1' h2 hw
     cases m
     · go_enter Tryz.func84, Tryz.ntmps84
       go_wp2_with (first
         | (go_at_call 123; refine G2.out.mono ?_; rintro e w' ⟨rfl, rfl⟩)
         | (go_at_call 122; refine (HI.out _).mono ?_; rintro e w' ⟨rfl, rfl⟩)
         | (go_at_call 85; refine (HF.out _).mono ?_; rintro e w' ⟨rfl, rfl⟩)
         | (go_at_call 88; refine (hold_set B l' 4 _ HH.out).mono ?_; rintro e w' ⟨rfl, rfl⟩))
       go_ret
       refine ⟨n, rfl, ⟨l', ?_, fun e0 => ?_⟩, (Ob.set _ _ _ _).trans (Ob.set _ _ _ _), fun _ => HN.out⟩
       · have := HH.out.set 1 (erI 4)
         simpa [nx, HE.out, erV] using this
       · simp [nx, HE.out] at e0
     · go_enter Tryz.func84, Tryz.ntmps84
       go_wp2_with (first
         | (go_at_call 123; refine G2.out.mono ?_; rintro e w' ⟨rfl, rfl⟩)
         | (go_at_call 122; refine (HI.out _).mono ?_; rintro e w' ⟨rfl, rfl⟩)
         | (go_at_call 85; refine (HF.out _).mono ?_; rintro e w' ⟨rfl, rfl⟩)
         | (go_at_call 88; refine (hold_ok B l' 4 _ HH.out).mono ?_; rintro e w' ⟨rfl, rfl⟩))
       go_ret
       refine ⟨n, rfl, ⟨l', ?_, fun e0 => ⟨HS.out, HK.out⟩⟩, Ob.set _ _ _ _, fun _ => HN.out⟩
       simpa [nx, HE.out, erV] using HH.out
 · rw [erV_no he] at h1
   refine (whole_was B l e _ w h1).mono ?_
   rintro v w' ⟨rfl, rfl⟩
   exact ⟨0, rfl, ⟨l, by simpa [nx, he, erV_no he] using h1, fun e0 => absurd e0 (by simp [nx, he])⟩, Ob.refl _ _, fun e0 => absurd e0 he⟩
theorem two_is (n : Int) (w : World) : Calls Tryz.prog 86 #[.int .i64 n] w fun e w' => e = .returned (.bool (n == 2)) ∧ w' = w := by
 go_enter Tryz.func86, Tryz.ntmps86
 go_wp2
 go_ret
 exact ⟨rfl, rfl⟩
theorem whole_two {N : Nat} (B : Nat) (ws : List Bs) (e : Int) (w : World) (h : Rs N w B ws e) (hw : e = 0 → ∃ x r, ws = x :: r ∧ x.length ≤ 1000000) :
   Calls Tryz.prog 84 #[.pointer (some ⟨B, 0, none⟩), .func (.func 86) #[] #[]] w fun v w' => ∃ k, v = .returned (.int .i64 k) ∧ Rs N w' B ws.tail (nx e (intE (fun n => n == 2) (ws.getD 0 []))) ∧ Ob B w w' ∧ (e = 0 → k = (rdInt (ws.getD 0 [])).getD 0) := by
 obtain ⟨l, h1, h2⟩ := h
 by_cases he : e = 0
 · subst he
   obtain ⟨x, r, rfl, hx⟩ := hw rfl
   have h1' : CB w B #[l, .nilIface] 150 := h1
   cases hn : rdInt x with
   | none =>
     obtain ⟨l', g1, gB, g2⟩ := whole_none B l x r (.func (.func 86) #[] #[]) w h1' (h2 rfl).1 hx hn
     refine g2.mono ?_
     rintro v w' ⟨rfl, rfl⟩
     refine ⟨0, rfl, ⟨l', ?_, fun e0 => ?_⟩, (Ob.set _ _ _ _).trans (Ob.set _ _ _ _), fun _ => by simp [hn]⟩
     · have := (h1.set 0 l').set 1 (erI 4)
       simpa [nx, intE, hn, erV] using this
     · simp [nx, intE, hn] at e0
   | some n =>
     obtain ⟨l', g1, gB, _, g2⟩ := word_take B l x r w h1' (h2 rfl).1
     have HK : Hid (Bk N l') := Lib.hid (fun b hb => (h2 rfl).2 b (gB ▸ hb))
     have G2 := Lib.hid g2
     have HI := Lib.hid (fun w => int_x x n 0 w hx (Or.inl ⟨rfl, hn⟩))
     have HH : Hid (CB (w.setCell ⟨B, 0, none⟩ l') B #[l', .nilIface] 150) := Lib.hid (by have := h1'.set 0 l'; simpa using this)
     obtain ⟨m, hm⟩ : ∃ m : Bool, (n == 2) = m := ⟨_, rfl⟩
     have HF : Hid (∀ w, Calls Tryz.prog 86 #[.int .i64 n] w fun e w' => e = .returned (.bool m) ∧ w' = w) := fun w => by rw [← hm]; exact two_is n w
     have HE : Hid (intE (fun n => n == 2) x = if m then 0 else 4) := (by unfold intE; rw [hn, ← hm] : intE (fun n => n == 2) x = if m then 0 else 4)
     have HN : Hid (n = (rdInt x).getD 0) := (by rw [hn]; rfl : n = (rdInt x).getD 0)
     have HS := Lib.hid g1
     clear g1 g2 gB hm hn hx h1 h1' h2 hw
     cases m
     · go_enter Tryz.func84, Tryz.ntmps84
       go_wp2_with (first
         | (go_at_call 123; refine G2.out.mono ?_; rintro e w' ⟨rfl, rfl⟩)
         | (go_at_call 122; refine (HI.out _).mono ?_; rintro e w' ⟨rfl, rfl⟩)
         | (go_at_call 86; refine (HF.out _).mono ?_; rintro e w' ⟨rfl, rfl⟩)
         | (go_at_call 88; refine (hold_set B l' 4 _ HH.out).mono ?_; rintro e w' ⟨rfl, rfl⟩))
       go_ret
       refine ⟨n, rfl, ⟨l', ?_, fun e0 => ?_⟩, (Ob.set _ _ _ _).trans (Ob.set _ _ _ _), fun _ => HN.out⟩
       · have := HH.out.set 1 (erI 4)
         simpa [nx, HE.out, erV] using this
       · simp [nx, HE.out] at e0
     · go_enter Tryz.func84, Tryz.ntmps84
       go_wp2_with (first
         | (go_at_call 123; refine G2.out.mono ?_; rintro e w' ⟨rfl, rfl⟩)
         | (go_at_call 122; refine (HI.out _).mono ?_; rintro e w' ⟨rfl, rfl⟩)
         | (go_at_call 86; refine (HF.out _).mono ?_; rintro e w' ⟨rfl, rfl⟩)
         | (go_at_call 88; refine (hold_ok B l' 4 _ HH.out).mono ?_; rintro e w' ⟨rfl, rfl⟩))
       go_ret
       refine ⟨n, rfl, ⟨l', ?_, fun e0 => ⟨HS.out, HK.out⟩⟩, Ob.set _ _ _ _, fun _ => HN.out⟩
       simpa [nx, HE.out, erV] using HH.out
 · rw [erV_no he] at h1
   refine (whole_was B l e _ w h1).mono ?_
   rintro v w' ⟨rfl, rfl⟩
   exact ⟨0, rfl, ⟨l, by simpa [nx, he, erV_no he] using h1, fun e0 => absurd e0 (by simp [nx, he])⟩, Ob.refl _ _, fun e0 => absurd e0 he⟩
theorem bit_is (n : Int) (w : World) : Calls Tryz.prog 87 #[.int .i64 n] w fun e w' => e = .returned (.bool (n == 0 || n == 1)) ∧ w' = w := by
 by_cases h0 : n = 0
 · subst h0
   go_enter Tryz.func87, Tryz.ntmps87
   go_wp2
   go_ret
   exact ⟨rfl, rfl⟩
 go_enter Tryz.func87, Tryz.ntmps87
 go_wp2
 go_ret
 exact ⟨rfl, rfl⟩
theorem whole_bit {N : Nat} (B : Nat) (ws : List Bs) (e : Int) (w : World) (h : Rs N w B ws e) (hw : e = 0 → ∃ x r, ws = x :: r ∧ x.length ≤ 1000000) :
   Calls Tryz.prog 84 #[.pointer (some ⟨B, 0, none⟩), .func (.func 87) #[] #[]] w fun v w' => ∃ k, v = .returned (.int .i64 k) ∧ Rs N w' B ws.tail (nx e (intE (fun n => n == 0 || n == 1) (ws.getD 0 []))) ∧ Ob B w w' ∧ (e = 0 → k = (rdInt (ws.getD 0 [])).getD 0) := by
 obtain ⟨l, h1, h2⟩ := h
 by_cases he : e = 0
 · subst he
   obtain ⟨x, r, rfl, hx⟩ := hw rfl
   have h1' : CB w B #[l, .nilIface] 150 := h1
   cases hn : rdInt x with
   | none =>
     obtain ⟨l', g1, gB, g2⟩ := whole_none B l x r (.func (.func 87) #[] #[]) w h1' (h2 rfl).1 hx hn
     refine g2.mono ?_
     rintro v w' ⟨rfl, rfl⟩
     refine ⟨0, rfl, ⟨l', ?_, fun e0 => ?_⟩, (Ob.set _ _ _ _).trans (Ob.set _ _ _ _), fun _ => by simp [hn]⟩
     · have := (h1.set 0 l').set 1 (erI 4)
       simpa [nx, intE, hn, erV] using this
     · simp [nx, intE, hn] at e0
   | some n =>
     obtain ⟨l', g1, gB, _, g2⟩ := word_take B l x r w h1' (h2 rfl).1
     have HK : Hid (Bk N l') := Lib.hid (fun b hb => (h2 rfl).2 b (gB ▸ hb))
     have G2 := Lib.hid g2
     have HI := Lib.hid (fun w => int_x x n 0 w hx (Or.inl ⟨rfl, hn⟩))
     have HH : Hid (CB (w.setCell ⟨B, 0, none⟩ l') B #[l', .nilIface] 150) := Lib.hid (by have := h1'.set 0 l'; simpa using this)
     obtain ⟨m, hm⟩ : ∃ m : Bool, (n == 0 || n == 1) = m := ⟨_, rfl⟩
     have HF : Hid (∀ w, Calls Tryz.prog 87 #[.int .i64 n] w fun e w' => e = .returned (.bool m) ∧ w' = w) := fun w => by rw [← hm]; exact bit_is n w
     have HE : Hid (intE (fun n => n == 0 || n == 1) x = if m then 0 else 4) := (by unfold intE; rw [hn, ← hm] : intE (fun n => n == 0 || n == 1) x = if m then 0 else 4)
     have HN : Hid (n = (rdInt x).getD 0) := (by rw [hn]; rfl : n = (rdInt x).getD 0)
     have HS := Lib.hid g1
     clear g1 g2 gB hm hn hx h1 h1' h2 hw
     cases m
     · go_enter Tryz.func84, Tryz.ntmps84
       go_wp2_with (first
         | (go_at_call 123; refine G2.out.mono ?_; rintro e w' ⟨rfl, rfl⟩)
         | (go_at_call 122; refine (HI.out _).mono ?_; rintro e w' ⟨rfl, rfl⟩)
         | (go_at_call 87; refine (HF.out _).mono ?_; rintro e w' ⟨rfl, rfl⟩)
         | (go_at_call 88; refine (hold_set B l' 4 _ HH.out).mono ?_; rintro e w' ⟨rfl, rfl⟩))
       go_ret
       refine ⟨n, rfl, ⟨l', ?_, fun e0 => ?_⟩, (Ob.set _ _ _ _).trans (Ob.set _ _ _ _), fun _ => HN.out⟩
       · have := HH.out.set 1 (erI 4)
         simpa [nx, HE.out, erV] using this
       · simp [nx, HE.out] at e0
     · go_enter Tryz.func84, Tryz.ntmps84
       go_wp2_with (first
         | (go_at_call 123; refine G2.out.mono ?_; rintro e w' ⟨rfl, rfl⟩)
         | (go_at_call 122; refine (HI.out _).mono ?_; rintro e w' ⟨rfl, rfl⟩)
         | (go_at_call 87; refine (HF.out _).mono ?_; rintro e w' ⟨rfl, rfl⟩)
         | (go_at_call 88; refine (hold_ok B l' 4 _ HH.out).mono ?_; rintro e w' ⟨rfl, rfl⟩))
       go_ret
       refine ⟨n, rfl, ⟨l', ?_, fun e0 => ⟨HS.out, HK.out⟩⟩, Ob.set _ _ _ _, fun _ => HN.out⟩
       simpa [nx, HE.out, erV] using HH.out
 · rw [erV_no he] at h1
   refine (whole_was B l e _ w h1).mono ?_
   rintro v w' ⟨rfl, rfl⟩
   exact ⟨0, rfl, ⟨l, by simpa [nx, he, erV_no he] using h1, fun e0 => absurd e0 (by simp [nx, he])⟩, Ob.refl _ _, fun e0 => absurd e0 he⟩
theorem any_is (n : Int) (w : World) : Calls Tryz.prog 92 #[.int .i64 n] w fun e w' => e = .returned (.bool (true)) ∧ w' = w := by
 go_enter Tryz.func92, Tryz.ntmps92
 go_wp2
 go_ret
 exact ⟨rfl, rfl⟩
theorem whole_any {N : Nat} (B : Nat) (ws : List Bs) (e : Int) (w : World) (h : Rs N w B ws e) (hw : e = 0 → ∃ x r, ws = x :: r ∧ x.length ≤ 1000000) :
   Calls Tryz.prog 84 #[.pointer (some ⟨B, 0, none⟩), .func (.func 92) #[] #[]] w fun v w' => ∃ k, v = .returned (.int .i64 k) ∧ Rs N w' B ws.tail (nx e (intE (fun _ => true) (ws.getD 0 []))) ∧ Ob B w w' ∧ (e = 0 → k = (rdInt (ws.getD 0 [])).getD 0) := by
 obtain ⟨l, h1, h2⟩ := h
 by_cases he : e = 0
 · subst he
   obtain ⟨x, r, rfl, hx⟩ := hw rfl
   have h1' : CB w B #[l, .nilIface] 150 := h1
   cases hn : rdInt x with
   | none =>
     obtain ⟨l', g1, gB, g2⟩ := whole_none B l x r (.func (.func 92) #[] #[]) w h1' (h2 rfl).1 hx hn
     refine g2.mono ?_
     rintro v w' ⟨rfl, rfl⟩
     refine ⟨0, rfl, ⟨l', ?_, fun e0 => ?_⟩, (Ob.set _ _ _ _).trans (Ob.set _ _ _ _), fun _ => by simp [hn]⟩
     · have := (h1.set 0 l').set 1 (erI 4)
       simpa [nx, intE, hn, erV] using this
     · simp [nx, intE, hn] at e0
   | some n =>
     obtain ⟨l', g1, gB, _, g2⟩ := word_take B l x r w h1' (h2 rfl).1
     have HK : Hid (Bk N l') := Lib.hid (fun b hb => (h2 rfl).2 b (gB ▸ hb))
     have G2 := Lib.hid g2
     have HI := Lib.hid (fun w => int_x x n 0 w hx (Or.inl ⟨rfl, hn⟩))
     have HH : Hid (CB (w.setCell ⟨B, 0, none⟩ l') B #[l', .nilIface] 150) := Lib.hid (by have := h1'.set 0 l'; simpa using this)
     obtain ⟨m, hm⟩ : ∃ m : Bool, (true) = m := ⟨_, rfl⟩
     have HF : Hid (∀ w, Calls Tryz.prog 92 #[.int .i64 n] w fun e w' => e = .returned (.bool m) ∧ w' = w) := fun w => by rw [← hm]; exact any_is n w
     have HE : Hid (intE (fun _ => true) x = if m then 0 else 4) := (by unfold intE; rw [hn, ← hm] : intE (fun _ => true) x = if m then 0 else 4)
     have HN : Hid (n = (rdInt x).getD 0) := (by rw [hn]; rfl : n = (rdInt x).getD 0)
     have HS := Lib.hid g1
     clear g1 g2 gB hm hn hx h1 h1' h2 hw
     cases m
     · go_enter Tryz.func84, Tryz.ntmps84
       go_wp2_with (first
         | (go_at_call 123; refine G2.out.mono ?_; rintro e w' ⟨rfl, rfl⟩)
         | (go_at_call 122; refine (HI.out _).mono ?_; rintro e w' ⟨rfl, rfl⟩)
         | (go_at_call 92; refine (HF.out _).mono ?_; rintro e w' ⟨rfl, rfl⟩)
         | (go_at_call 88; refine (hold_set B l' 4 _ HH.out).mono ?_; rintro e w' ⟨rfl, rfl⟩))
       go_ret
       refine ⟨n, rfl, ⟨l', ?_, fun e0 => ?_⟩, (Ob.set _ _ _ _).trans (Ob.set _ _ _ _), fun _ => HN.out⟩
       · have := HH.out.set 1 (erI 4)
         simpa [nx, HE.out, erV] using this
       · simp [nx, HE.out] at e0
     · go_enter Tryz.func84, Tryz.ntmps84
       go_wp2_with (first
         | (go_at_call 123; refine G2.out.mono ?_; rintro e w' ⟨rfl, rfl⟩)
         | (go_at_call 122; refine (HI.out _).mono ?_; rintro e w' ⟨rfl, rfl⟩)
         | (go_at_call 92; refine (HF.out _).mono ?_; rintro e w' ⟨rfl, rfl⟩)
         | (go_at_call 88; refine (hold_ok B l' 4 _ HH.out).mono ?_; rintro e w' ⟨rfl, rfl⟩))
       go_ret
       refine ⟨n, rfl, ⟨l', ?_, fun e0 => ⟨HS.out, HK.out⟩⟩, Ob.set _ _ _ _, fun _ => HN.out⟩
       simpa [nx, HE.out, erV] using HH.out
 · rw [erV_no he] at h1
   refine (whole_was B l e _ w h1).mono ?_
   rintro v w' ⟨rfl, rfl⟩
   exact ⟨0, rfl, ⟨l, by simpa [nx, he, erV_no he] using h1, fun e0 => absurd e0 (by simp [nx, he])⟩, Ob.refl _ _, fun e0 => absurd e0 he⟩
end Go.Proofs.YtofklahgpkmfmaaGreatDoor
