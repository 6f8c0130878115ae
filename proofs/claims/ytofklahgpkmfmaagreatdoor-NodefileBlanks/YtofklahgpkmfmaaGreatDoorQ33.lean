/- Own texts, put together: Qm Bu Pe Pf. -/
import Derived.Test.YtofklahgpkmfmaaGreatDoorQ25
import Derived.Test.YtofklahgpkmfmaaGreatDoorQ28
import Derived.Test.YtofklahgpkmfmaaGreatDoorQ30
namespace Go.Proofs.YtofklahgpkmfmaaGreatDoor
/- Which points may be: admit.May. -/
section
open Go.RowKit Go.Shelf
attribute [local go_sem ↓] Go.wp_at_zero Go.wp_at_succ
attribute [local go_sem] run_store_float
def WdP (p : Nat × Nat) : Prop := p.1 < 18446744073709551616 ∧ p.2 < 18446744073709551616
theorem has1 (ax ay : Nat) (w : World) (hw : WdP (ax, ay)) :
   Calls Tryz.prog 125 #[.slice (some ⟨w.heap.size, 0, none⟩) 1 1] (w.alloc (.cells #[.float .f64 ax, .float .f64 ay] 59)) fun e w' => (∃ t, e = .returned (.bool t) ∧ (t = true ↔ Pt ax ay)) ∧ Below w.heap.size w w' := by
 have hb : Below w.heap.size w (w.alloc (.cells #[.float .f64 ax, .float .f64 ay] 59)) := (Below.refl _ w).alloc (Nat.le_refl _) _
 refine (has_walk w.heap.size 1 1 (fun _ => ax) (fun _ => ay) _ (fun k hk => ?_) (fun k => hw) (by omega)).mono ?_
 · obtain rfl : k = 0 := by omega
   exact ⟨by go_simp, by go_simp⟩
 · rintro e w' ⟨⟨t, rfl, ht⟩, hb'⟩
   refine ⟨⟨t, rfl, ?_⟩, below_step hb hb'⟩
   rw [ht]
   exact ⟨fun h => h 0 (by omega), fun h j hj => h⟩
set_option maxRecDepth 100000 in
theorem may1_any (x y : Nat) (w : World) (hw : WdP (x, y)) : Calls Tryz.prog 90 #[pv x y] w fun e w' => (∃ t, e = .returned (.bool t) ∧ (t = true ↔ Pt x y)) ∧ Below w.heap.size w w' := by
 have HW : Hid (WdP (x, y)) := hw
 clear hw
 go_enter Tryz.func90, Tryz.ntmps90
 go_wp2_with fail
 have hb : Below w.heap.size w (w.alloc (.cells #[.float .f64 x, .float .f64 y] 59)) := (Below.refl _ w).alloc (Nat.le_refl _) _
 have hh := has1 x y (w.alloc (.cells #[.float .f64 x, .float .f64 y] 59)) HW.out
 have e1 : (w.alloc (.cells #[.float .f64 x, .float .f64 y] 59)).heap.size = w.heap.size + 1 := by simp
 rw [e1] at hh
 refine hh.mono ?_
 rintro e w' ⟨⟨t, rfl, ht⟩, hb'⟩
 have HT : Hid (t = true ↔ Pt x y) := ht
 have HB : Hid (Below w.heap.size w w') := hb.trans (hb'.mono (by simp))
 clear ht hb hb' hh e1
 go_wp2
 go_ret
 exact ⟨⟨t, rfl, HT.out⟩, HB.out⟩
end

/- More blanks, remarks, lines without words: plain facts. -/
section
open Go.RowKit Go.Shelf Go.Lib
theorem toks_blanks {b : Bs} (hb : ∀ c ∈ b, bl c = true) (l : Bs) : toks (b ++ l) = toks l := by
 induction b with
 | nil => rfl
 | cons c r ih => rw [List.cons_append, toks_cons (hb c (by simp)), ih (fun x hx => hb x (by simp [hx]))]
theorem toks_snoc {c : UInt8} (hc : bl c = true) : ∀ (l a : Bs), (∀ c ∈ a, bl c = false) → toks (a ++ (l ++ [c])) = toks (a ++ l) := by
 intro l
 induction l with
 | nil =>
   intro a ha
   rw [List.nil_append, toks_app ha hc, List.append_nil, toks_none ha]
   show one a ++ [] = one a
   rw [List.append_nil]
 | cons d r ih =>
   intro a ha
   by_cases hd : bl d = true
   · have h0 := ih [] (fun c hc => by simp at hc)
     rw [List.cons_append, toks_app ha hd, toks_app ha hd]
     rw [List.nil_append, List.nil_append] at h0
     rw [h0]
   · have hd' : bl d = false := by simpa using hd
     have := ih (a ++ [d]) (fun x hx => by
       rcases List.mem_append.1 hx with e | e
       · exact ha x e
       · rw [List.mem_singleton.1 e]; exact hd')
     simpa using this
theorem bl_ne {c : UInt8} (h : bl c = true) : c ≠ 35 ∧ c ≠ 10 := by
 refine ⟨fun e => ?_, fun e => ?_⟩ <;> (rw [e] at h; cases h)
theorem line_blank {b : Bs} (hb : ∀ c ∈ b, bl c = true) (hbl : b.length ≤ 8) : lineW b = [] ∧ lineE b = 0 := by
 have h1 : lineW b = [] := by
   unfold lineW ahd
   rw [(cut_none (fun h => (bl_ne (hb _ h)).1 rfl)).1]
   have := toks_blanks hb []
   rw [List.append_nil] at this
   rw [this]; rfl
 refine ⟨h1, ?_⟩
 rw [lineE_zero, h1]
 exact ⟨by omega, rfl⟩
end

/- Package expand: squeezed, with whatever is so from round to round (for lists that are written out). -/
section
open Go.RowKit Go.Shelf
attribute [local go_sem] Oper.semAt_some
attribute [local go_sem] run_store_float
end

/- A copy of a list: append to a list of none. -/
section
open Go.RowKit Go.Shelf
theorem wpList_copy (w : World) {ops : Array Oper} {rest : List Oper} {o : Oper} {a : Act} {Q : Exit → Act → World → Prop} (hg : o.guard = none) (s x : Operand)
   (hop : o.op = Op.call { callee := Callee.builtin Builtin.append, args := #[s, x], argTypes := #[60, 60] })
   (B g : Nat) (hs : a.eval s = .slice (some ⟨g, 0, none⟩) 0 0) (hown : w.ownsRow B 57 1 (.slice (some ⟨g, 0, none⟩) 0 0) 0 []) (v : Value) (bs : List Nat) (hx : a.eval x = v) (hf : Fs w v bs) (hnil : ∀ n c, v = .slice none n c → n = 0 ∧ c = 0) (hl : bs.length ≤ 1000) (hB : B ≤ w.heap.size)
   (hK : ∀ v' w', Fr w' B v' bs → Below B w w' → wpList Tryz.prog ops Q rest (a.put o.dst v') w') : wpList Tryz.prog ops Q (o :: rest) a w := by
 obtain ⟨i0, hi0, hz0, hz1, hz2⟩ := info_parts infoF
 obtain ⟨⟨ao, c, rfl, hc, hm, hf'⟩, hw⟩ := hf
 have hBg : B ≤ g := (hown.lt g rfl).1
 have h1c : ∀ u ∈ f64s bs, u.oneCell' = true := fun u hu => by obtain ⟨b, _, rfl⟩ := List.mem_map.1 hu; rfl
 by_cases h0 : bs = []
 · subst h0
   refine wpList_append_fits_any w hg s x 60 hop B 57 i0 1 undF hi0 hz1 g 0 0 [] hs hown ao 0 c [] hx rfl (fun e => by subst e; exact hnil _ _ rfl) (fun ad _ j u hj => by simp at hj) (by simp) (by omega) ?_
   intro w' h1 h2
   exact hK _ _ ⟨by simpa [f64s] using h1, by simp⟩ ((Below.refl _ w).grown h2 hB (fun k hk => by cases hk; exact hBg))
 · rcases hf' with hf' | ⟨g', off, rfl, hf'⟩
   · exact absurd hf' h0
   · refine wpList_append_own w hg s x 60 hop B 57 i0 (.float .f64 0) 1 8 undF hi0 hz0 hz1 hz2 rfl (by omega) _ 0 [] hs hown ⟨g', off, none⟩ bs.length c (f64s bs) hx (by simp [f64s]) (fun j u hj => ?_) h1c (by unfold maxLen; omega) (by omega) hB ?_
     · have hj' : j < bs.length := by
         have := (List.getElem?_eq_some_iff.1 hj).1
         simpa [f64s] using this
       have e : u = .float .f64 (bs.getD j 0) := by
         simp [f64s, hj'] at hj
         rw [← hj]
         simp [List.getD, hj']
       rw [e, Addr.add_lit]
       exact hf' j hj'
     · intro v' w' h1 h2 _
       exact hK v' w' ⟨by simpa [f64s] using h1, hw⟩ ((Below.refl _ w).grown h2 hB (fun k hk => (hown.lt k hk).1))
end
end Go.Proofs.YtofklahgpkmfmaaGreatDoor
