/- Own texts, put together: Ln Mc. -/
import Derived.Test.YtcgbnjoajieggaaGreatQ3
import Derived.Below
import Derived.WalkSmall
namespace Go.Proofs.YtcgbnjoajieggaaGreat
/- A drawn region in which one box is laid while a chain of operations goes on. -/
section
open Go Go.RowKit
section
variable {P : Program} {ops : Array Oper} {Q : Exit → Act → World → Prop} {md : Region.Mode} {S : World → Prop}
end
def CB (W : World) (b : Nat) (cs : Array Value) (t : Nat) : Prop := W.heap[b]? = some (.cells cs t (0, 0))
theorem CB.lt {W : World} {b t : Nat} {cs : Array Value} (h : CB W b cs t) : b < W.heap.size := (Array.getElem?_eq_some_iff.1 h).1
theorem CB.later {W W' : World} {b t : Nat} {cs : Array Value} (h : CB W b cs t) (hb : Below W.heap.size W W') : CB W' b cs t := by
 unfold CB
 rw [hb.block b h.lt]; exact h
theorem CB.new (W : World) (cs : Array Value) (t : Nat) : CB (W.alloc (.cells cs t)) W.heap.size cs t := heap_alloc_new W _
theorem CB.cell {W : World} {b t : Nat} {cs : Array Value} (h : CB W b cs t) (i : Nat) (hi : i < cs.size) : W.cell? ⟨b, i, none⟩ = some cs[i] := by
 unfold CB at h
 simp [World.cell?, h, hi]
theorem CB.frozen {W : World} {b t : Nat} {cs : Array Value} (h : CB W b cs t) (i : Nat) : W.frozen? ⟨b, i, none⟩ = false := by
 unfold CB at h
 simp [World.frozen?, h]
theorem CB.set {W : World} {b t : Nat} {cs : Array Value} (h : CB W b cs t) (i : Nat) (v : Value) : CB (W.setCell ⟨b, i, none⟩ v) b (cs.set! i v) t := by
 unfold CB at h ⊢
 simp [World.setCell, Array.getElem?_modify, h]
theorem CB.other {W : World} {b t g i : Nat} {cs : Array Value} (h : CB W b cs t) (hn : b ≠ g) (v : Value) : CB (W.setCell ⟨g, i, none⟩ v) b cs t := by
 unfold CB at h ⊢
 rw [Below.heap_setCell _ ⟨g, i, none⟩ v b hn]; exact h
theorem CB.drew {W : World} {b t : Nat} {cs : Array Value} (h : CB W b cs t) : CB W.drew b cs t := h
end

/- Package mesh: what a mesh has in memory. -/
section
open Go.RowKit
structure Frm (S : Nat → Prop) (W W' : World) : Prop where
 os : W'.os = W.os
 tape : W'.tape = W.tape
 output : W'.output = W.output
 size : W.heap.size ≤ W'.heap.size
 keep : ∀ k, k < W.heap.size → ¬ S k → W'.heap[k]? = W.heap[k]?
def Upx (S : Nat → Prop) (W W' : World) : Nat → Prop := fun k => S k ∨ (W.heap.size ≤ k ∧ k < W'.heap.size)
theorem Frm.refl (S : Nat → Prop) (W : World) : Frm S W W := ⟨rfl, rfl, rfl, Nat.le_refl _, fun _ _ _ => rfl⟩
theorem Frm.trans {S : Nat → Prop} {W V U : World} (h : Frm S W V) (g : Frm (Upx S W V) V U) : Frm S W U :=
 ⟨g.os.trans h.os, g.tape.trans h.tape, g.output.trans h.output, Nat.le_trans h.size g.size, fun k hk hs => (g.keep k (Nat.lt_of_lt_of_le hk h.size) (fun e => by rcases e with e | e; exact hs e; omega)).trans (h.keep k hk hs)⟩
theorem Frm.mono {S T : Nat → Prop} {W V : World} (h : Frm S W V) (hs : ∀ k, S k → T k) : Frm T W V := ⟨h.os, h.tape, h.output, h.size, fun k hk hn => h.keep k hk (fun e => hn (hs k e))⟩
theorem Frm.later {S : Nat → Prop} {W V : World} (h : Below W.heap.size W V) : Frm S W V := ⟨h.os, h.tape, h.output, h.size, fun k hk _ => h.block k hk⟩
theorem Frm.grown {S : Nat → Prop} {W V : World} {row : Option Nat} (h : W.grownBy V row) (hr : ∀ g, row = some g → S g) : Frm S W V := ⟨h.os, h.tape, h.output, h.size, fun k hk hn => h.block k hk (fun e => hn (hr k e.symm))⟩
theorem Frm.below {S : Nat → Prop} {B : Nat} {W V : World} (h : Frm S W V) (hB : B ≤ W.heap.size) (hS : ∀ k, S k → B ≤ k) : Below B W V := ⟨h.os, h.tape, h.output, h.size, fun k hk => h.keep k (by omega) (fun e => by have := hS k e; omega)⟩
theorem Upx.old {S : Nat → Prop} {W V : World} {k : Nat} (h : S k) : Upx S W V k := Or.inl h
theorem Upx.up {S : Nat → Prop} {W V U : World} (h1 : W.heap.size ≤ V.heap.size) (h2 : V.heap.size ≤ U.heap.size) : ∀ k, Upx (Upx S W V) V U k → Upx S W U k := fun k h => by
 rcases h with (h | h) | h
 · exact Or.inl h
 · exact Or.inr ⟨h.1, by omega⟩
 · exact Or.inr ⟨by omega, h.2⟩
theorem own_same {W W' : World} {B e s n : Nat} {v : Value} {xs : List Value} (h : W.ownsRow B e s v n xs) (hb : ∀ g, v.ownBlock = some g → W'.heap[g]? = W.heap[g]?) : W'.ownsRow B e s v n xs := by
 refine ⟨h.1, ?_⟩
 rcases h.2 with h0 | ⟨g, cap, cur, rfl, h1, h2, h3⟩
 · exact Or.inl h0
 · exact Or.inr ⟨g, cap, cur, rfl, h1, (hb g rfl).trans h2, h3⟩
theorem own_type {W : World} {B B' e e' s s' n n' : Nat} {v v' : Value} {xs xs' : List Value} (h : W.ownsRow B e s v n xs) (h' : W.ownsRow B' e' s' v' n' xs') (he : e ≠ e') {g : Nat} (hg : v.ownBlock = some g) : v'.ownBlock ≠ some g := by
 intro hg'
 rcases h.2 with ⟨rfl, _⟩ | ⟨g1, cap, cur, rfl, h1, h2, h3⟩
 · cases hg
 · rcases h'.2 with ⟨rfl, _⟩ | ⟨g2, cap', cur', rfl, h1', h2', h3'⟩
   · cases hg'
   · have e1 : g1 = g := by simpa [Value.ownBlock] using hg
     have e2 : g2 = g := by simpa [Value.ownBlock] using hg'
     rw [e1] at h2
     rw [e2] at h2'
     rw [h2] at h2'
     injection Option.some.inj h2' with _ e3 _
     exact he e3
theorem own_cb {W : World} {B e s n b t : Nat} {v : Value} {xs : List Value} {cs : Array Value} (h : W.ownsRow B e s v n xs) (h' : CB W b cs t) (he : e ≠ t) : v.ownBlock ≠ some b := by
 intro hg
 rcases h.2 with ⟨rfl, _⟩ | ⟨g1, cap, cur, rfl, h1, h2, h3⟩
 · cases hg
 · have e1 : g1 = b := by simpa [Value.ownBlock] using hg
   rw [e1] at h2
   unfold CB at h'
   rw [h2] at h'
   injection Option.some.inj h' with _ e3 _
   exact he e3
theorem own_mp {W : World} {B e s n b k : Nat} {v : Value} {xs : List Value} {f : Int → Int → Option Int} (h : W.ownsRow B e s v n xs) (h' : MapF W b f k) : v.ownBlock ≠ some b := by
 intro hg
 obtain ⟨es, clock, L, hm, _⟩ := h'
 rcases h.2 with ⟨rfl, _⟩ | ⟨g1, cap, cur, rfl, h1, h2, h3⟩
 · cases hg
 · have e1 : g1 = b := by simpa [Value.ownBlock] using hg
   rw [e1] at h2
   rw [h2] at hm
   cases hm
theorem cb_mp {W : World} {b b' t k : Nat} {cs : Array Value} {f : Int → Int → Option Int} (h : CB W b cs t) (h' : MapF W b' f k) : b ≠ b' := by
 rintro rfl
 obtain ⟨es, clock, L, hm, _⟩ := h'
 unfold CB at h
 rw [h] at hm
 cases hm
def wcs (fan : List Wg) : List Value := fan.flatMap fun w => [.int .i64 (w.1 : Nat), .int .i64 (w.2 : Nat)]
def qcs (P : List (Nat × Nat)) : List Value := P.flatMap fun p => [.float .f64 p.1, .float .f64 p.2]
theorem pairs_len {α : Type} (f g : α → Value) : ∀ l : List α, (l.flatMap fun w => [f w, g w]).length = l.length * 2 := by
 intro l
 induction l with
 | nil => rfl
 | cons a r ih => simp only [List.flatMap_cons, List.length_append, ih, List.length_cons, List.length_nil]; omega
theorem pairs_at {α : Type} (f g : α → Value) : ∀ (l : List α) (i : Nat) (x : α), l[i]? = some x → (l.flatMap fun w => [f w, g w])[i * 2]? = some (f x) ∧ (l.flatMap fun w => [f w, g w])[i * 2 + 1]? = some (g x) := by
 intro l
 induction l with
 | nil => intro i x h; simp at h
 | cons a r ih =>
   intro i x h
   cases i with
   | zero =>
     simp at h; subst h
     exact ⟨rfl, rfl⟩
   | succ i =>
     have := ih i x (by simpa using h)
     rw [show (i + 1) * 2 = i * 2 + 1 + 1 by omega]
     simp only [List.flatMap_cons, List.cons_append, List.nil_append, List.getElem?_cons_succ]
     exact this
theorem pairs_set {α : Type} (f g : α → Value) : ∀ (l : List α) (i : Nat) (x : α), i < l.length → ((l.flatMap fun w => [f w, g w]).set (i * 2) (f x)).set (i * 2 + 1) (g x) = (l.set i x).flatMap fun w => [f w, g w] := by
 intro l
 induction l with
 | nil => intro i x h; simp at h
 | cons a r ih =>
   intro i x h
   cases i with
   | zero => rfl
   | succ i =>
     have := ih i x (by simpa using h)
     rw [show (i + 1) * 2 = i * 2 + 1 + 1 by omega]
     simp only [List.flatMap_cons, List.cons_append, List.nil_append, List.set_cons_succ, List.set_cons_succ]
     rw [this]
theorem wcs_len (fan : List Wg) : (wcs fan).length = fan.length * 2 := pairs_len _ _ fan
theorem wcs_at {fan : List Wg} {i : Nat} {w : Wg} (h : fan[i]? = some w) : (wcs fan)[i * 2]? = some (.int .i64 (w.1 : Nat)) ∧ (wcs fan)[i * 2 + 1]? = some (.int .i64 (w.2 : Nat)) := pairs_at _ _ fan i w h
theorem qcs_len (P : List (Nat × Nat)) : (qcs P).length = P.length * 2 := pairs_len _ _ P
theorem qcs_at {P : List (Nat × Nat)} {i : Nat} {p : Nat × Nat} (h : P[i]? = some p) : (qcs P)[i * 2]? = some (.float .f64 p.1) ∧ (qcs P)[i * 2 + 1]? = some (.float .f64 p.2) := pairs_at _ _ P i p h
structure Gx where
 gB : Nat
 pv : Value
 av : Value
 pm : Nat
 fm : Nat
def PRow (S : Nat → Prop) (W : World) (v : Value) (P : List (Nat × Nat)) : Prop := (P = [] ∧ ∃ a c, v = .slice a 0 c) ∨ (W.ownsRow 0 36 2 v P.length (qcs P) ∧ ∀ g, v.ownBlock = some g → S g)
structure Gm (S : Nat → Prop) (W : World) (x : Gx) (P : List (Nat × Nat)) (A : List (List Wg)) (f : Int → Int → Option Int) (c : Nat) (F : Int → Int → Option Int) (vs : List Value) : Prop where
 box : CB W x.gB #[x.pv, x.av, .map (some x.pm), .map (some x.fm)] 87
 pts : PRow S W x.pv P
 row : W.ownsRow 0 94 1 x.av A.length vs
 fans : ∀ (i : Nat) (v : Value), vs[i]? = some v → W.ownsRow 0 90 2 v (A.getD i []).length (wcs (A.getD i []))
 apart : ∀ (i j : Nat) (v u : Value) (g : Nat), vs[i]? = some v → vs[j]? = some u → v.ownBlock = some g → u.ownBlock = some g → i = j
 map : MapF W x.pm f c
 fmap : ∃ nf, MapF W x.fm F nf
 mne : x.pm ≠ x.fm
 sB : S x.gB
 sP : S x.pm
 sF : S x.fm
 sA : ∀ g, x.av.ownBlock = some g → S g
 sV : ∀ (i : Nat) (v : Value) (g : Nat), vs[i]? = some v → v.ownBlock = some g → S g
section
variable {S : Nat → Prop} {W W' : World} {x : Gx} {P : List (Nat × Nat)} {A : List (List Wg)} {f F : Int → Int → Option Int} {c : Nat} {vs : List Value}
theorem Gm.len (h : Gm S W x P A f c F vs) : vs.length = A.length := by have := h.row.1; omega
theorem Gm.same (h : Gm S W x P A f c F vs) (T : Nat → Prop) (hb : ∀ k, S k → k < W.heap.size → W'.heap[k]? = W.heap[k]?) (hT : ∀ k, S k → k < W.heap.size → T k) : Gm T W' x P A f c F vs := by
 obtain ⟨nf, hF⟩ := h.fmap
 have o : ∀ {e s n : Nat} {v : Value} {xs : List Value}, W.ownsRow 0 e s v n xs → (∀ g, v.ownBlock = some g → S g) → W'.ownsRow 0 e s v n xs := fun ho hs => own_same ho (fun g hg => hb g (hs g hg) (ho.lt g hg).2)
 exact
 { box := by have := h.box; unfold CB at this ⊢; rw [hb _ h.sB h.box.lt]; exact this
   pts := by
     rcases h.pts with h1 | ⟨h1, h2⟩
     · exact Or.inl h1
     · exact Or.inr ⟨o h1 h2, fun g hg => hT g (h2 g hg) (h1.lt g hg).2⟩
   row := o h.row h.sA
   fans := fun i v hv => o (h.fans i v hv) (fun g hg => h.sV i v g hv hg)
   apart := h.apart
   map := h.map.same (hb _ h.sP h.map.lt)
   fmap := ⟨nf, hF.same (hb _ h.sF hF.lt)⟩
   mne := h.mne
   sB := hT _ h.sB h.box.lt
   sP := hT _ h.sP h.map.lt
   sF := hT _ h.sF hF.lt
   sA := fun g hg => hT g (h.sA g hg) (h.row.lt g hg).2
   sV := fun i v g hv hg => hT g (h.sV i v g hv hg) ((h.fans i v hv).lt g hg).2 }
theorem Gm.later (h : Gm S W x P A f c F vs) (hb : Below W.heap.size W W') : Gm S W' x P A f c F vs := h.same S (fun k _ hk => hb.block k hk) (fun _ hk _ => hk)
theorem Gm.more {T : Nat → Prop} (h : Gm S W x P A f c F vs) (hT : ∀ k, S k → T k) : Gm T W x P A f c F vs := h.same T (fun _ _ _ => rfl) (fun k hk _ => hT k hk)
theorem Gm.put (h : Gm S W x P A f c F vs) {f' : Int → Int → Option Int} {c' : Nat} (hm : MapF W' x.pm f' c') (ho : ObM x.pm W W') : Gm S W' x P A f' c' F vs := by
 obtain ⟨nf, hF⟩ := h.fmap
 have o : ∀ {e s n : Nat} {v : Value} {xs : List Value}, W.ownsRow 0 e s v n xs → W'.ownsRow 0 e s v n xs := fun hr => own_same hr (fun g hg => ho.keep g (fun e => own_mp hr h.map (by rw [← e]; exact hg)))
 exact
 { box := by have := h.box; unfold CB at this ⊢; rw [ho.keep _ (cb_mp h.box h.map)]; exact this
   pts := by
     rcases h.pts with h1 | ⟨h1, h2⟩
     · exact Or.inl h1
     · exact Or.inr ⟨o h1, h2⟩
   row := o h.row
   fans := fun i v hv => o (h.fans i v hv)
   apart := h.apart
   map := hm
   fmap := ⟨nf, hF.same (ho.keep _ (Ne.symm h.mne))⟩
   mne := h.mne
   sB := h.sB
   sP := h.sP
   sF := h.sF
   sA := h.sA
   sV := h.sV }
theorem Gm.fan (h : Gm S W x P A f c F vs) {a : Nat} {v v' : Value} {fan : List Wg} (hv : vs[a]? = some v)
   (hk : ∀ k, k < W.heap.size → x.av.ownBlock ≠ some k → v.ownBlock ≠ some k → W'.heap[k]? = W.heap[k]?)
   (hn : W'.ownsRow 0 90 2 v' fan.length (wcs fan)) (hb : v'.ownBlock = v.ownBlock ∨ ∀ g, v'.ownBlock = some g → W.heap.size ≤ g)
   (hr : W'.ownsRow 0 94 1 x.av A.length (vs.set a v')) : Gm (Upx S W W') W' x P (A.set a fan) f c F (vs.set a v') := by
 obtain ⟨nf, hF⟩ := h.fmap
 have hal : a < vs.length := (List.getElem?_eq_some_iff.1 hv).1
 have hl := h.len
 have hvr := h.fans a v hv
 have ow : ∀ {e s n : Nat} {u : Value} {xs : List Value}, W.ownsRow 0 e s u n xs → e ≠ 94 → e ≠ 90 → W'.ownsRow 0 e s u n xs := fun hu h1 h2 =>
   own_same hu (fun g hg => hk g (hu.lt g hg).2 (own_type hu h.row h1 hg) (own_type hu hvr h2 hg))
 have gt : ∀ i u, vs[i]? = some u → i ≠ a → W'.ownsRow 0 90 2 u (A.getD i []).length (wcs (A.getD i [])) := fun i u hu hne =>
   own_same (h.fans i u hu) (fun g hg => hk g ((h.fans i u hu).lt g hg).2 (own_type (h.fans i u hu) h.row (by decide) hg) (fun e => hne (h.apart i a u v g hu hv hg e)))
 exact
 { box := by
     have := h.box; unfold CB at this ⊢
     rw [hk _ h.box.lt (own_cb h.row h.box (by decide)) (own_cb hvr h.box (by decide))]; exact this
   pts := by
     rcases h.pts with h1 | ⟨h1, h2⟩
     · exact Or.inl h1
     · exact Or.inr ⟨ow h1 (by decide) (by decide), fun g hg => Or.inl (h2 g hg)⟩
   row := by rw [List.length_set]; exact hr
   fans := fun i u hu => by
     rw [List.getElem?_set] at hu
     by_cases e : a = i
     · subst e
       rw [if_pos rfl, if_pos hal] at hu
       cases hu
       rw [List.getD_eq_getElem?_getD, List.getElem?_set, if_pos rfl, if_pos (by omega)]
       exact hn
     · rw [if_neg e] at hu
       rw [List.getD_eq_getElem?_getD, List.getElem?_set_ne e, ← List.getD_eq_getElem?_getD]
       exact gt i u hu (Ne.symm e)
   apart := fun i j u w g hu hw gu gw => by
     rw [List.getElem?_set] at hu hw
     by_cases e1 : a = i
     · by_cases e2 : a = j
       · omega
       · subst e1
         rw [if_pos rfl, if_pos hal] at hu
         rw [if_neg e2] at hw
         cases hu
         rcases hb with hb | hb
         · exact h.apart a j v w g hv hw (by rw [← hb]; exact gu) gw
         · have := hb g gu
           have := ((h.fans j w hw).lt g gw).2
           omega
     · by_cases e2 : a = j
       · subst e2
         rw [if_pos rfl, if_pos hal] at hw
         rw [if_neg e1] at hu
         cases hw
         rcases hb with hb | hb
         · exact h.apart i a u v g hu hv gu (by rw [← hb]; exact gw)
         · have := hb g gw
           have := ((h.fans i u hu).lt g gu).2
           omega
       · rw [if_neg e1] at hu
         rw [if_neg e2] at hw
         exact h.apart i j u w g hu hw gu gw
   map := h.map.same (hk _ h.map.lt (own_mp h.row h.map) (own_mp hvr h.map))
   fmap := ⟨nf, hF.same (hk _ hF.lt (own_mp h.row hF) (own_mp hvr hF))⟩
   mne := h.mne
   sB := Or.inl h.sB
   sP := Or.inl h.sP
   sF := Or.inl h.sF
   sA := fun g hg => Or.inl (h.sA g hg)
   sV := fun i u g hu hg => by
     rw [List.getElem?_set] at hu
     by_cases e : a = i
     · rw [if_pos e, if_pos (by omega)] at hu
       cases hu
       rcases hb with hb | hb
       · exact Or.inl (h.sV a v g hv (by rw [← hb]; exact hg))
       · exact Or.inr ⟨hb g hg, (hn.lt g hg).2⟩
     · rw [if_neg e] at hu
       exact Or.inl (h.sV i u g hu hg) }
end
end
end Go.Proofs.YtcgbnjoajieggaaGreat
