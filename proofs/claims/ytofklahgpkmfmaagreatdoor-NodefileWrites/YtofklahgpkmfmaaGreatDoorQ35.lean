/- Own texts, put together: Pb Pc Pd Pe Pf. -/
import Derived.Test.YtofklahgpkmfmaaGreatDoorQ31
namespace Go.Proofs.YtofklahgpkmfmaaGreatDoor
/- The laws' helpers of package expand: near. -/
section
open Go.RowKit Go.Shelf
attribute [local go_sem ↓] Go.wp_at_zero Go.wp_at_succ
theorem Bd.ab {h l : Int} {q : Rat} (hb : Bd h l q) : Bd h l (if q < 0 then -q else q) := by
 split
 · exact hb.neg
 · exact hb
end

/- The laws' helpers of package expand: has. -/
section
open Go.RowKit Go.Shelf
attribute [local go_sem ↓] Go.wp_at_zero Go.wp_at_succ
end

/- Package expand: joined, with whatever is so from round to round (for lists that are written out). -/
section
open Go.RowKit
end

/- Package expand: squeezed, with whatever is so from round to round (for lists that are written out). -/
section
open Go.RowKit Go.Shelf
attribute [local go_sem] Oper.semAt_some
attribute [local go_sem] run_store_float
end

/- A copy of a list: append to a list of none. -/
section
open Go.RowKit Go.Shelf
theorem wpList_copy (w : World) {ops : Array Oper} {rest : List Oper} {o : Oper} {a : Act} {Q : Exit → Act → World → Prop} (hg : o.guard = none) (s x : Operand)
   (hop : o.op = Op.call { callee := Callee.builtin Builtin.append, args := #[s, x], argTypes := #[60, 60] })
   (B g : Nat) (hs : a.eval s = .slice (some ⟨g, 0, none⟩) 0 0) (hown : w.ownsRow B 57 1 (.slice (some ⟨g, 0, none⟩) 0 0) 0 []) (v : Value) (bs : List Nat) (hx : a.eval x = v) (hf : Fs w v bs) (hnil : ∀ n c, v = .slice none n c → n = 0 ∧ c = 0) (hl : bs.length ≤ 1000) (hB : B ≤ w.heap.size)
   (hK : ∀ v' w', Fr w' B v' bs → Below B w w' → wpList Tryz.prog ops Q rest (a.put o.dst v') w') : wpList Tryz.prog ops Q (o :: rest) a w := by
 obtain ⟨i0, hi0, hz0, hz1, hz2⟩ := info_parts infoF
 obtain ⟨⟨ao, c, rfl, hc, hm, hf'⟩, hw⟩ := hf
 have hBg : B ≤ g := (hown.lt g rfl).1
 have h1c : ∀ u ∈ f64s bs, u.oneCell' = true := fun u hu => by obtain ⟨b, _, rfl⟩ := List.mem_map.1 hu; rfl
 by_cases h0 : bs = []
 · subst h0
   refine wpList_append_fits_any w hg s x 60 hop B 57 i0 1 undF hi0 hz1 g 0 0 [] hs hown ao 0 c [] hx rfl (fun e => by subst e; exact hnil _ _ rfl) (fun ad _ j u hj => by simp at hj) (by simp) (by omega) ?_
   intro w' h1 h2
   exact hK _ _ ⟨by simpa [f64s] using h1, by simp⟩ ((Below.refl _ w).grown h2 hB (fun k hk => by cases hk; exact hBg))
 · rcases hf' with hf' | ⟨g', off, rfl, hf'⟩
   · exact absurd hf' h0
   · refine wpList_append_own w hg s x 60 hop B 57 i0 (.float .f64 0) 1 8 undF hi0 hz0 hz1 hz2 rfl (by omega) _ 0 [] hs hown ⟨g', off, none⟩ bs.length c (f64s bs) hx (by simp [f64s]) (fun j u hj => ?_) h1c (by unfold maxLen; omega) (by omega) hB ?_
     · have hj' : j < bs.length := by
         have := (List.getElem?_eq_some_iff.1 hj).1
         simpa [f64s] using this
       have e : u = .float .f64 (bs.getD j 0) := by
         simp [f64s, hj'] at hj
         rw [← hj]
         simp [List.getD, hj']
       rw [e, Addr.add_lit]
       exact hf' j hj'
     · intro v' w' h1 h2 _
       exact hK v' w' ⟨by simpa [f64s] using h1, hw⟩ ((Below.refl _ w).grown h2 hB (fun k hk => (hown.lt k hk).1))
end
end Go.Proofs.YtofklahgpkmfmaaGreatDoor
