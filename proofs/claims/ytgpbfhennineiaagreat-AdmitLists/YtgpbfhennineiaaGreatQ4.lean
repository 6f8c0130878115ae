/- Own texts, put together: Lk Tk Ln. -/
import Derived.Deep.RegionHeld3
import Derived.KernelRfl
import Derived.Tactics
import Derived.Below
namespace Go.Proofs.YtgpbfhennineiaaGreat
/- A drawn region, operation by operation, where some are not wanted. -/
section
open Go
section
variable {P : Program} {ops : Array Oper} {Q : Exit → Act → World → Prop} {md : Region.Mode} {S : World → Prop}
theorem take_at {i : Nat} {d : Option Tmp} {v : Value} {fuel : Nat} {listed : Array Bool} {a : Act} {w : World} (hd : (ops[i]?).map (·.dst) = some d)
   (hs : Region.noSelect ops = true) (hf : Region.free md ops listed i = true) (hr : (Region.ready md ops listed).contains i = true)
   (hQ : ∀ c a w, Q (.panic c) (a.put d v) w → Q (.panic c) a w) (hy : ∀ oi, ops[i]? = some oi → YieldsIf P ops S oi v a) (hS : S w)
   (h : wpAnyH P md ops Q S fuel (listed.setIfInBounds i true) (a.put d v) w) : wpAnyH P md ops Q S (fuel + 1) listed a w := by
 cases ho : ops[i]? with
 | none => rw [ho] at hd; cases hd
 | some oi =>
   rw [ho] at hd
   have e : oi.dst = d := Option.some.inj hd
   subst e
   exact wpAnyH_take ho hs hf hr hQ (hy oi ho) hS h
theorem skip_at (i : Nat) {d : Option Tmp} {fuel : Nat} {listed : Array Bool} {a : Act} {w : World} (hd : (ops[i]?).map (·.dst) = some d)
   (hs : Region.noSelect ops = true) (hf : Region.free md ops listed i = true) (hr : (Region.ready md ops listed).contains i = true)
   (hQ : ∀ c a w, Q (.panic c) (a.put d undef) w → Q (.panic c) a w) (hw : (ops[i]?).map (fun o => Region.wanted o (yielded ops a.tmps)) = some false) (hS : S w)
   (h : wpAnyH P md ops Q S fuel (listed.setIfInBounds i true) (a.put d undef) w) : wpAnyH P md ops Q S (fuel + 1) listed a w :=
 take_at hd hs hf hr hQ (fun oi ho => Or.inr ⟨by rw [ho] at hw; exact Option.some.inj hw, rfl⟩) hS h
theorem call_at (i : Nat) {fuel : Nat} {listed : Array Bool} {a : Act} {w : World} (hr : Region.ready md ops listed = [i])
   (hi : (ops[i]?).isSome = true)
   (h : ∀ o, ops[i]? = some o → ∀ K' : Act → World → Prop, Shut (∀ a w, S w → (S w → wpAnyH P md ops Q S fuel (listed.setIfInBounds i true) a w) → K' a w) → if Region.wanted o (yielded ops a.tmps) = true then Oper.wp P o a w K' Q else K' (a.put o.dst undef) w) :
   wpAnyH P md ops Q S (fuel + 1) listed a w := by
 obtain ⟨o, ho⟩ := Option.isSome_iff_exists.1 hi
 exact wpAnyH_ready hr (by simp) (AllReadyH.cons ho (h o ho) AllReadyH.nil)
end
end

/- A drawn region's operations in fewer words. -/
section
open Go
section
variable {P : Program} {ops : Array Oper} {Q : Exit → Act → World → Prop} {md : Region.Mode} {S : World → Prop}
theorem takA {i : Nat} {d : Option Tmp} {v : Value} {fuel : Nat} {listed : Array Bool} {a : Act} {w : World} (hS : S w)
   (h : wpAnyH P md ops Q S fuel (listed.setIfInBounds i true) (a.put d v) w)
   (hd : (ops[i]?).map (·.dst) = some d := by kernel_rfl) (hs : Region.noSelect ops = true := by kernel_rfl)
   (hf : Region.free md ops listed i = true := by kernel_rfl) (hr : (Region.ready md ops listed).contains i = true := by kernel_rfl)
   (hQ : ∀ c a w, Q (.panic c) (a.put d v) w → Q (.panic c) a w := by exact fun _ _ _ h => h)
   (hy : ∀ oi, ops[i]? = some oi → YieldsIf P ops S oi v a := by
     intro o ho
     simp only [List.getElem?_toArray, List.getElem?_cons_succ, List.getElem?_cons_zero, Option.some.injEq] at ho
     subst ho
     refine Or.inl ⟨by rfl, ?_⟩
     intro w hSw
     (try dsimp only at hSw)
     go_simp) : wpAnyH P md ops Q S (fuel + 1) listed a w := take_at hd hs hf hr hQ hy hS h
theorem calA (i : Nat) {o : Oper} {fuel : Nat} {listed : Array Bool} {a : Act} {w : World}
   (h : ∀ K' : Act → World → Prop, Shut (∀ a w, S w → (S w → wpAnyH P md ops Q S fuel (listed.setIfInBounds i true) a w) → K' a w) → if Region.wanted o (yielded ops a.tmps) = true then Oper.wp P o a w K' Q else K' (a.put o.dst undef) w)
   (hr : Region.ready md ops listed = [i] := by kernel_rfl)
   (ho : ops[i]? = some o := by
     simp only [List.getElem?_toArray, List.getElem?_cons_succ, List.getElem?_cons_zero]
     rfl) :
   wpAnyH P md ops Q S (fuel + 1) listed a w :=
 call_at i hr (by rw [ho]; rfl) (fun o' ho' => by rw [ho] at ho'; cases ho'; exact h)
end
theorem AP : (∀ (a : Act) (t : Tmp) (v : Value), a.put (some t) v = { a with tmps := a.tmps.setIfInBounds t v }) ∧ (∀ (a : Act) (v : Value), a.put none v = a) ∧ (∀ {α : Type} (l : List α) (i : Nat) (x : α), l.toArray.setIfInBounds i x = (l.set i x).toArray) ∧ (∀ {α : Type} (x y : α) (l : List α), (x :: l).set 0 y = y :: l) ∧ (∀ {α : Type} (x y : α) (l : List α) (i : Nat), (x :: l).set (i + 1) y = x :: l.set i y) :=
 ⟨fun _ _ _ => rfl, fun _ _ => rfl, fun _ _ _ => List.setIfInBounds_toArray .., fun _ _ _ => rfl, fun _ _ _ _ => rfl⟩
end

/- A drawn region in which one box is laid while a chain of operations goes on. -/
section
open Go Go.RowKit
section
variable {P : Program} {ops : Array Oper} {Q : Exit → Act → World → Prop} {md : Region.Mode} {S : World → Prop}
def Step1 (P : Program) (ops : Array Oper) (Q : Exit → Act → World → Prop) (S : World → Prop) (I I' : Act → World → Prop) (i : Nat) : Prop :=
 ∃ o, ops[i]? = some o ∧ ∀ a w, I a w → ∀ K' : Act → World → Prop, Shut (∀ a' w', S w' → I' a' w' → K' a' w') → if Region.wanted o (yielded ops a.tmps) = true then Oper.wp P o a w K' Q else K' (a.put o.dst undef) w
theorem draw1 {n f al : Nat} (c : Nat → Nat) (L : Bool → Nat → Array Bool) (I : Bool → Nat → Act → World → Prop)
   (hr : ∀ x k, k ≤ n → (x = true → k < n) → Region.ready md ops (L x k) = (if k < n then [c k] else []) ++ (if x then [] else [al]))
   (hLc : ∀ x k, k < n → (L x k).setIfInBounds (c k) true = L x (k + 1))
   (hLa : ∀ k, k ≤ n → (L false k).setIfInBounds al true = L true k)
   (hc : ∀ x k, k < n → Step1 P ops Q S (I x k) (I x (k + 1)) (c k))
   (ha : ∀ k, k ≤ n → Step1 P ops Q S (I false k) (I true k) al)
   (hfin : ∀ a w, I true n a w → wpAnyH P md ops Q S f (L true n) a w) :
   ∀ d x k a w, k ≤ n → x.toNat + k + d = 1 + n → I x k a w → wpAnyH P md ops Q S (f + d) (L x k) a w := by
 intro d
 induction d with
 | zero =>
   intro x k a w hk hd hI
   have hx : x = true ∧ k = n := by
     cases x <;> simp at hd ⊢ <;> omega
   obtain ⟨rfl, rfl⟩ := hx
   exact hfin a w hI
 | succ d ih =>
   intro x k a w hk hd hI
   have h1 : x = true → k < n := by
     intro h; subst h; simp at hd; omega
   refine wpAnyH_ready (fuel := f + d) (hr x k hk h1) ?_ (fun i hi => ?_)
   · cases x
     · simp
     · have := h1 rfl; simp [this]
   · have hcase : (k < n ∧ i = c k) ∨ (x = false ∧ i = al) := by
       rcases List.mem_append.1 hi with h | h
       · split at h
         · rename_i hl; exact Or.inl ⟨hl, by simpa using h⟩
         · cases h
       · cases x
         · exact Or.inr ⟨rfl, by simpa using h⟩
         · simp at h
     rcases hcase with ⟨hl, rfl⟩ | ⟨rfl, rfl⟩
     · obtain ⟨o, ho, hw⟩ := hc x k hl
       refine (AllReadyH.cons (rs := []) ho (fun K' hK => hw a w hI K' ?_) AllReadyH.nil) _ (by simp)
       intro a' w' hS' hI'
       refine hK.out a' w' hS' (fun _ => ?_)
       rw [hLc x k hl]
       exact ih x (k + 1) a' w' (by omega) (by omega) hI'
     · obtain ⟨o, ho, hw⟩ := ha k hk
       refine (AllReadyH.cons (rs := []) ho (fun K' hK => hw a w hI K' ?_) AllReadyH.nil) _ (by simp)
       intro a' w' hS' hI'
       refine hK.out a' w' hS' (fun _ => ?_)
       rw [hLa k hk]
       exact ih true k a' w' hk (by simp at hd ⊢; omega) hI'
end
def CB (W : World) (b : Nat) (cs : Array Value) (t : Nat) : Prop := W.heap[b]? = some (.cells cs t (0, 0))
theorem CB.lt {W : World} {b t : Nat} {cs : Array Value} (h : CB W b cs t) : b < W.heap.size := (Array.getElem?_eq_some_iff.1 h).1
theorem CB.later {W W' : World} {b t : Nat} {cs : Array Value} (h : CB W b cs t) (hb : Below W.heap.size W W') : CB W' b cs t := by
 unfold CB
 rw [hb.block b h.lt]; exact h
theorem CB.new (W : World) (cs : Array Value) (t : Nat) : CB (W.alloc (.cells cs t)) W.heap.size cs t := heap_alloc_new W _
theorem CB.cell {W : World} {b t : Nat} {cs : Array Value} (h : CB W b cs t) (i : Nat) (hi : i < cs.size) : W.cell? ⟨b, i, none⟩ = some cs[i] := by
 unfold CB at h
 simp [World.cell?, h, hi]
theorem CB.frozen {W : World} {b t : Nat} {cs : Array Value} (h : CB W b cs t) (i : Nat) : W.frozen? ⟨b, i, none⟩ = false := by
 unfold CB at h
 simp [World.frozen?, h]
theorem CB.set {W : World} {b t : Nat} {cs : Array Value} (h : CB W b cs t) (i : Nat) (v : Value) : CB (W.setCell ⟨b, i, none⟩ v) b (cs.set! i v) t := by
 unfold CB at h ⊢
 simp [World.setCell, Array.getElem?_modify, h]
theorem CB.other {W : World} {b t g i : Nat} {cs : Array Value} (h : CB W b cs t) (hn : b ≠ g) (v : Value) : CB (W.setCell ⟨g, i, none⟩ v) b cs t := by
 unfold CB at h ⊢
 rw [Below.heap_setCell _ ⟨g, i, none⟩ v b hn]; exact h
theorem CB.drew {W : World} {b t : Nat} {cs : Array Value} (h : CB W b cs t) : CB W.drew b cs t := h
theorem CB.set3 {W : World} {b t : Nat} {u0 u1 u2 : Value} (h : CB W b #[u0, u1, u2] t) (v0 v1 v2 : Value) : CB (((W.setCell ⟨b, 0, none⟩ v0).setCell ⟨b, 1, none⟩ v1).setCell ⟨b, 2, none⟩ v2) b #[v0, v1, v2] t := by
 simpa using (((h.set 0 v0).set 1 v1).set 2 v2)
theorem CB.other3 {W : World} {g t b : Nat} {cs : Array Value} (h : CB W g cs t) (hn : g ≠ b) (v0 v1 v2 : Value) : CB (((W.setCell ⟨b, 0, none⟩ v0).setCell ⟨b, 1, none⟩ v1).setCell ⟨b, 2, none⟩ v2) g cs t := (((h.other hn v0).other hn v1).other hn v2)
theorem below_set3 {N : Nat} {w W : World} {b : Nat} (h : Below N w W) (hn : N ≤ b) (v0 v1 v2 : Value) : Below N w (((W.setCell ⟨b, 0, none⟩ v0).setCell ⟨b, 1, none⟩ v1).setCell ⟨b, 2, none⟩ v2) := (((h.setCell hn v0).setCell hn v1).setCell hn v2)
theorem cell_set3 {W : World} {g i b : Nat} {x : Value} (h : W.cell? ⟨g, i, none⟩ = some x) (hn : g ≠ b) (v0 v1 v2 : Value) : (((W.setCell ⟨b, 0, none⟩ v0).setCell ⟨b, 1, none⟩ v1).setCell ⟨b, 2, none⟩ v2).cell? ⟨g, i, none⟩ = some x := by
 rw [World.cell?_setCell_other _ _ _ v2 (by intro e; cases e; exact hn rfl), World.cell?_setCell_other _ _ _ v1 (by intro e; cases e; exact hn rfl), World.cell?_setCell_other _ _ _ v0 (by intro e; cases e; exact hn rfl)]; exact h
theorem CB.cells3 {W : World} {b t : Nat} {u0 u1 u2 : Value} (h : CB W b #[u0, u1, u2] t) : W.cell? ⟨b, 0, none⟩ = some u0 ∧ W.cell? ⟨b, 1, none⟩ = some u1 ∧ W.cell? ⟨b, 2, none⟩ = some u2 := ⟨h.cell 0 (by simp), h.cell 1 (by simp), h.cell 2 (by simp)⟩
theorem frame_named {P : Program} {md : Region.Mode} {ops : Array Oper} {Q : Exit → Act → World → Prop} {S : World → Prop} {f : Nat} {l : Array Bool} {a : Act} {w : World} (h : ∀ A, A = a → wpAnyH P md ops Q S f l A w) : wpAnyH P md ops Q S f l a w := h a rfl
end
end Go.Proofs.YtgpbfhennineiaaGreat
