/- Own texts, put together: Yg Yma. -/
import Derived.Test.YtkgnlobakicnjaaDoorQ10
import Derived.Test.YtkgnlobakicnjaaDoorQ21
namespace Go.Proofs.YtkgnlobakicnjaaDoor
/- Package switches: letters: a map is filled in whatever order. (gen_yg.py) -/
section
set_option maxRecDepth 100000
open Go.RowKit Go.Shelf Go.Lib
inductive Kd where
 | pt (off : Nat)
 | fn (j : Nat)
 | me (k : Int)
 | mp
def Fk (w0 w : World) (R M : Nat) : Kd → Value → Prop
 | .pt off, v => v = .pointer (some ⟨R, off, none⟩)
 | .fn j, v => ∃ b, v = .func (.func 89) #[] #[.pointer (some ⟨b, 0, none⟩)] ∧ CB w b #[.pointer (some ⟨R, j, none⟩)] 133 ∧ w0.heap.size ≤ b
 | .me k, v => v = methY R k
 | .mp, v => v = .map (some M)
def tblY : List (Nat × Nat × Kd) := [(0, 3, .mp), (1, 4, .pt 0), (2, 5, .pt 0), (3, 6, .pt 0), (4, 7, .pt 0), (5, 8, .fn 0), (7, 9, .pt 0), (8, 10, .pt 0), (9, 11, .pt 0), (10, 12, .pt 1), (11, 13, .fn 1), (13, 14, .pt 0), (14, 15, .me 113), (16, 16, .pt 0), (17, 17, .me 97), (19, 18, .pt 0), (20, 19, .pt 0), (21, 20, .pt 0), (22, 21, .pt 7), (23, 22, .fn 7), (25, 23, .pt 0), (26, 24, .pt 0), (27, 25, .pt 0), (28, 26, .pt 8), (29, 27, .fn 8), (31, 28, .pt 0), (32, 29, .pt 0), (33, 30, .pt 0), (34, 31, .pt 9), (35, 32, .fn 9), (37, 33, .pt 0), (38, 34, .pt 0), (39, 35, .pt 0), (40, 36, .pt 10), (41, 37, .fn 10), (43, 38, .pt 0), (44, 39, .me 83), (46, 40, .pt 0), (47, 41, .pt 0), (48, 42, .pt 21), (49, 43, .fn 21), (51, 44, .pt 0), (52, 45, .pt 0), (53, 46, .pt 22), (54, 47, .fn 22), (56, 48, .pt 0), (57, 49, .pt 0), (58, 50, .pt 0), (59, 51, .pt 13), (60, 52, .fn 13), (62, 53, .pt 0), (63, 54, .pt 0), (64, 55, .pt 0), (65, 56, .pt 14), (66, 57, .fn 14), (68, 58, .pt 0), (69, 59, .pt 0), (70, 60, .pt 0), (71, 61, .pt 15), (72, 62, .fn 15), (74, 63, .pt 0), (75, 64, .pt 0), (76, 65, .pt 0), (77, 66, .pt 16), (78, 67, .fn 16), (80, 68, .pt 0), (81, 69, .pt 0), (82, 70, .pt 0), (83, 71, .pt 17), (84, 72, .fn 17), (86, 73, .pt 0), (87, 74, .me 111), (89, 75, .pt 0), (90, 76, .pt 0), (91, 77, .pt 0), (92, 78, .pt 19), (93, 79, .fn 19), (95, 80, .pt 0), (96, 81, .pt 0), (97, 82, .pt 0), (98, 83, .pt 20), (99, 84, .fn 20), (101, 85, .mp), (102, 2, .mp)]
def insT : List (Nat × Int) := [(6, 112), (12, 114), (15, 113), (18, 97), (24, 68), (30, 99), (36, 79), (42, 89), (45, 83), (50, 105), (55, 70), (61, 108), (67, 101), (73, 110), (79, 118), (85, 122), (88, 111), (94, 106), (100, 65)]
theorem inj_mapY {α β : Type} {f : α → β} : ∀ {l : List α}, (l.map f).Nodup → ∀ {x y : α}, x ∈ l → y ∈ l → f x = f y → x = y := by
 intro l
 induction l with
 | nil => intro _ x y hx; cases hx
 | cons a r ih =>
   intro h x y hx hy e
   rw [List.map_cons, List.nodup_cons] at h
   rcases List.mem_cons.1 hx with hx1 | hx1 <;> rcases List.mem_cons.1 hy with hy1 | hy1
   · rw [hx1, hy1]
   · exact absurd (List.mem_map.2 ⟨y, hy1, by rw [← e, hx1]⟩) h.1
   · exact absurd (List.mem_map.2 ⟨x, hx1, by rw [e, hy1]⟩) h.1
   · exact ih h.2 hx1 hy1 e
theorem tbl_ops : (tblY.map (·.1)).Nodup := by decide +kernel
theorem tbl_slots : (tblY.map (·.2.1)).Nodup := by decide +kernel
theorem tbl_lt : ∀ x ∈ tblY.map (fun x => (x.1, x.2.1)), x.2 < 86 ∧ x.2 ≠ 0 ∧ ∀ y ∈ insT, y.1 ≠ x.1 := by decide +kernel
theorem ins_keys : (insT.map (·.2)).Nodup := by decide +kernel
theorem ins_ops : (insT.map (·.1)).Nodup := by decide +kernel
theorem ins_lts : insT.map (·.2) = lts := by decide +kernel
theorem ins_pos : ∀ x ∈ insT, x.1 ≠ 0 ∧ x.1 ≠ 101 ∧ x.1 ≠ 102 ∧ x.1 < 103 := by decide +kernel
def isMp : Kd → Bool
 | .mp => true
 | _ => false
theorem mp_tbl : ∀ x ∈ tblY.map (fun x => (x.1, isMp x.2.2)), x.2 = true → x.1 = 101 ∨ x.1 = 102 ∨ x.1 = 0 := by decide +kernel
theorem mp_ops (j s : Nat) (h : (j, s, Kd.mp) ∈ tblY) : j = 101 ∨ j = 102 ∨ j = 0 := mp_tbl (j, true) (List.mem_map.2 ⟨_, h, rfl⟩) rfl
theorem put_eval (a : Act) (s t : Nat) (v : Value) (hs : s < a.tmps.size) : (a.put (some s) v).eval (.tmp t) = if t = s then v else a.eval (.tmp t) := by
 show (a.tmps.setIfInBounds s v).getD t undef = _
 rw [Array.getD_eq_getD_getElem?, Array.getElem?_setIfInBounds]
 by_cases h : s = t
 · subst h; simp [hs]
 · rw [if_neg h, if_neg (fun e => h e.symm)]
   show _ = a.tmps.getD t undef
   rw [Array.getD_eq_getD_getElem?]
structure IyM (w0 : World) (R M : Nat) (d : Nat → Bool) (a : Act) (w : World) : Prop where
 dfr : a.defers = []
 sz : a.tmps.size = 86
 t0 : a.eval (.tmp 0) = .pointer (some ⟨R, 0, none⟩)
 bel : Below w0.heap.size w0 w
 ls : d 0 = true → ∃ ks, Ls w0 w R M ks ∧ (∀ k ∈ ks, k ∈ lts) ∧ ∀ x ∈ insT, d x.1 = true ↔ x.2 ∈ ks
 late : ∀ j, (j = 101 ∨ j = 102 ∨ ∃ x ∈ insT, x.1 = j) → d j = true → d 0 = true
 fct : ∀ x ∈ tblY, d x.1 = true → Fk w0 w R M x.2.2 (a.eval (.tmp x.2.1))
theorem Fk.later {w0 w w' : World} {R M : Nat} {k : Kd} {v : Value} (h : Fk w0 w R M k v) (hb : Below w.heap.size w w') : Fk w0 w' R M k v := by
 cases k with
 | fn j => obtain ⟨b, h1, h2, h3⟩ := h; exact ⟨b, h1, h2.later hb, h3⟩
 | _ => exact h
theorem IyM.put {w0 w w' : World} {R M j s i : Nat} {k : Kd} {d : Nat → Bool} {a : Act} {v : Value} (h : IyM w0 R M d a w) (hx : tblY[i]? = some (j, s, k)) (hn : j ≠ 0) (hl : j = 101 ∨ j = 102 → d 0 = true) (hb : Below w.heap.size w w') (hv : Fk w0 w' R M k v) :
   IyM w0 R M (fun i => d i || i == j) (a.put (some s) v) w' := by
 have hm := List.mem_of_getElem? hx
 obtain ⟨h1, h2, h3⟩ := tbl_lt (j, s) (List.mem_map.2 ⟨_, hm, rfl⟩)
 have hs : s < a.tmps.size := by rw [h.sz]; exact h1
 have d0 : (d 0 || 0 == j) = d 0 := by
   have : (0 == j) = false := by simpa using fun e => hn e.symm
   rw [this, Bool.or_false]
 refine ⟨h.dfr, by simp [Act.put, h.sz], by rw [put_eval _ _ _ _ hs, if_neg (fun e => h2 e.symm)]; exact h.t0, h.bel.trans (hb.mono h.bel.size), ?_, ?_, ?_⟩
 · intro e
   simp only [d0] at e
   obtain ⟨ks, g1, g2, g3⟩ := h.ls e
   refine ⟨ks, g1.later hb, g2, fun x hx => ?_⟩
   have : (x.1 == j) = false := by simpa using h3 x hx
   rw [this, Bool.or_false]; exact g3 x hx
 · intro i hi e
   simp only [d0]
   by_cases hij : i = j
   · subst hij
     rcases hi with rfl | rfl | ⟨x, hx', rfl⟩
     · exact hl (Or.inl rfl)
     · exact hl (Or.inr rfl)
     · exact absurd rfl (h3 x hx')
   · have : (i == j) = false := by simpa using hij
     rw [this, Bool.or_false] at e
     exact h.late i hi e
 · intro x hxm e
   rw [put_eval _ _ _ _ hs]
   by_cases hxs : x.2.1 = s
   · have : x = (j, s, k) := inj_mapY tbl_slots hxm hm hxs
     subst this
     rw [if_pos rfl]; exact hv
   · rw [if_neg hxs]
     have : (x.1 == j) = false := by
       rw [beq_eq_false_iff_ne]
       intro e2
       exact hxs (congrArg (·.2.1) (inj_mapY tbl_ops hxm hm e2))
     rw [this, Bool.or_false] at e
     exact (h.fct x hxm e).later hb
section
variable {a : Act} {W : World} {o : Oper} {K : Act → World → Prop} {Q : Exit → Act → World → Prop} {t R f : Nat}
theorem oy_move {v : Value} (ho : o.op = .move (.tmp t)) (hv : a.eval (.tmp t) = v) (h : K (a.put o.dst v) W) : Oper.wp Tryd.prog o a W K Q := by
 unfold Oper.wp execOp
 rw [ho]
 simp only [hv]
 exact h
theorem oy_assign {v : Value} (ho : o.op = .assign (.tmp t)) (hv : a.eval (.tmp t) = v) (h : K (a.put o.dst v) W) : Oper.wp Tryd.prog o a W K Q := by
 unfold Oper.wp execOp
 rw [ho]
 simp only [hv]
 exact h
theorem oy_nil (ho : o.op = .nilCheck (.tmp t)) (hv : a.eval (.tmp t) = .pointer (some ⟨R, f, none⟩)) (h : K (a.put o.dst (.pointer (some ⟨R, f, none⟩))) W) : Oper.wp Tryd.prog o a W K Q := by
 unfold Oper.wp execOp
 rw [ho]
 simp only [hv]
 go_simp
 exact h
theorem oy_call (ho : o.op = .call { callee := .value (.func 63), args := #[.tmp t], argTypes := #[133] }) (hv : a.eval (.tmp t) = .pointer (some ⟨R, f, none⟩))
   (h : ∀ b W', CB W' b #[.pointer (some ⟨R, f, none⟩)] 133 → W.heap.size ≤ b → Below W.heap.size W W' → K (a.put o.dst (.func (.func 89) #[] #[.pointer (some ⟨b, 0, none⟩)])) W') : Oper.wp Tryd.prog o a W K Q := by
 have hv' : (a.tmps[t]?).getD undef = .pointer (some ⟨R, f, none⟩) := by rw [← Array.getD_eq_getD_getElem?]; exact hv
 unfold Oper.wp execOp
 rw [ho]
 go_simp
 refine (once_is R f W).mono ?_
 rintro e w' ⟨b, rfl, h1, h2, h3⟩
 exact h b w' h1 h2 h3
theorem oy_mk {g : Nat} (ho : o.op = .makeFunc (.func g) #[.tmp t] #[]) (hv : a.eval (.tmp t) = .pointer (some ⟨R, 0, none⟩)) (h : K (a.put o.dst (.func (.func g) #[.pointer (some ⟨R, 0, none⟩)] #[])) W) : Oper.wp Tryd.prog o a W K Q := by
 have hv' : (a.tmps[t]?).getD undef = .pointer (some ⟨R, 0, none⟩) := by rw [← Array.getD_eq_getD_getElem?]; exact hv
 unfold Oper.wp execOp
 rw [ho]
 go_simp
 exact h
end
def Sy (w0 : World) (R j : Nat) (o : Oper) : Prop := ∀ (Q' : Exit → Act → World → Prop) (d : Nat → Bool) (a : Act) (w : World), d j = false → (∀ e ∈ o.after, Region.binds .any e = true → d e.on = true) → (∃ M, IyM w0 R M d a w) → Oper.wp Tryd.prog o a w (fun a' w' => ∃ M, IyM w0 R M (fun i => d i || i == j) a' w') Q'
def depY (o : Oper) (i : Nat) : Bool := o.after.any fun e => Region.binds .any e && e.on == i
theorem depY_at {o : Oper} {i : Nat} {d : Nat → Bool} (h : depY o i = true) (hd : ∀ e ∈ o.after, Region.binds .any e = true → d e.on = true) : d i = true := by
 obtain ⟨e, he, hb⟩ := Array.any_eq_true'.1 h
 simp only [Bool.and_eq_true, beq_iff_eq] at hb
 rw [← hb.2]; exact hd e he hb.1
section
variable {w0 : World} {R j s i i2 j2 u : Nat} {o : Oper}
theorem sy_move (ho : o.op = .move (.tmp 0)) (hd : o.dst = some s) (hx : tblY[i]? = some (j, s, .pt 0)) (hn : j ≠ 0 ∧ j ≠ 101 ∧ j ≠ 102) : Sy w0 R j o := by
 intro Q' d a w _ hdep ⟨M, h⟩
 refine oy_move ho h.t0 ?_
 rw [hd]
 exact ⟨M, h.put hx hn.1 (fun e => by omega) (Below.refl _ _) rfl⟩
theorem sy_nil {f : Nat} (ho : o.op = .nilCheck (.tmp u)) (hd : o.dst = some s) (hx : tblY[i]? = some (j, s, .pt f)) (hn : j ≠ 0 ∧ j ≠ 101 ∧ j ≠ 102) (hy : tblY[i2]? = some (j2, u, .pt f)) (he : depY o j2 = true) : Sy w0 R j o := by
 intro Q' d a w _ hdep ⟨M, h⟩
 have hu : a.eval (.tmp u) = .pointer (some ⟨R, f, none⟩) := h.fct _ (List.mem_of_getElem? hy) (depY_at he hdep)
 refine oy_nil ho hu ?_
 rw [hd]
 exact ⟨M, h.put hx hn.1 (fun e => by omega) (Below.refl _ _) rfl⟩
def FaOk (T f add : Nat) : Prop := ∀ (o : Oper) (a : Act) (W : World) (K : Act → World → Prop) (Q : Exit → Act → World → Prop) (t B : Nat), o.op = .fieldAddr T (.tmp t) f → a.eval (.tmp t) = .pointer (some ⟨B, 0, none⟩) → K (a.put o.dst (.pointer (some ⟨B, add, none⟩))) W → Oper.wp Tryd.prog o a W K Q
theorem sy_fa {T f add : Nat} (hfa : FaOk T f add) (ho : o.op = .fieldAddr T (.tmp u) f) (hd : o.dst = some s) (hx : tblY[i]? = some (j, s, .pt add)) (hn : j ≠ 0 ∧ j ≠ 101 ∧ j ≠ 102) (hy : tblY[i2]? = some (j2, u, .pt 0)) (he : depY o j2 = true) : Sy w0 R j o := by
 intro Q' d a w _ hdep ⟨M, h⟩
 have hu : a.eval (.tmp u) = .pointer (some ⟨R, 0, none⟩) := h.fct _ (List.mem_of_getElem? hy) (depY_at he hdep)
 refine hfa o a w _ _ u R ho hu ?_
 rw [hd]
 exact ⟨M, h.put hx hn.1 (fun e => by omega) (Below.refl _ _) rfl⟩
theorem sy_call {f : Nat} (ho : o.op = .call { callee := .value (.func 63), args := #[.tmp u], argTypes := #[133] }) (hd : o.dst = some s) (hx : tblY[i]? = some (j, s, .fn f)) (hn : j ≠ 0 ∧ j ≠ 101 ∧ j ≠ 102) (hy : tblY[i2]? = some (j2, u, .pt f)) (he : depY o j2 = true) : Sy w0 R j o := by
 intro Q' d a w _ hdep ⟨M, h⟩
 have hu : a.eval (.tmp u) = .pointer (some ⟨R, f, none⟩) := h.fct _ (List.mem_of_getElem? hy) (depY_at he hdep)
 refine oy_call ho hu fun b w' h1 h2 h3 => ?_
 rw [hd]
 exact ⟨M, h.put hx hn.1 (fun e => by omega) h3 ⟨b, rfl, h1, Nat.le_trans h.bel.size h2⟩⟩
theorem sy_mk {g : Nat} {k : Int} (ho : o.op = .makeFunc (.func g) #[.tmp u] #[]) (hg : methY R k = .func (.func g) #[.pointer (some ⟨R, 0, none⟩)] #[]) (hd : o.dst = some s) (hx : tblY[i]? = some (j, s, .me k)) (hn : j ≠ 0 ∧ j ≠ 101 ∧ j ≠ 102) (hy : tblY[i2]? = some (j2, u, .pt 0)) (he : depY o j2 = true) : Sy w0 R j o := by
 intro Q' d a w _ hdep ⟨M, h⟩
 have hu : a.eval (.tmp u) = .pointer (some ⟨R, 0, none⟩) := h.fct _ (List.mem_of_getElem? hy) (depY_at he hdep)
 refine oy_mk ho hu ?_
 rw [hd]
 exact ⟨M, h.put hx hn.1 (fun e => by omega) (Below.refl _ _) hg.symm⟩
theorem sy_mv {u : Nat} (ho : o.op = .move (.tmp u) ∨ o.op = .assign (.tmp u)) (hd : o.dst = some s) (hx : tblY[i]? = some (j, s, .mp)) (hn : j ≠ 0) (hy : tblY[i2]? = some (j2, u, .mp)) (he : depY o j2 = true) (hj : j2 = 0 ∨ j2 = 101) : Sy w0 R j o := by
 intro Q' d a w _ hdep ⟨M, h⟩
 have hdj := depY_at he hdep
 have hu : a.eval (.tmp u) = .map (some M) := h.fct _ (List.mem_of_getElem? hy) hdj
 have h0 : d 0 = true := by
   rcases hj with rfl | rfl
   · exact hdj
   · exact h.late 101 (Or.inl rfl) hdj
 rcases ho with ho | ho
 · refine oy_move ho hu ?_
   rw [hd]
   exact ⟨M, h.put hx hn (fun _ => h0) (Below.refl _ _) rfl⟩
 · refine oy_assign ho hu ?_
   rw [hd]
   exact ⟨M, h.put hx hn (fun _ => h0) (Below.refl _ _) rfl⟩
theorem sy_map (ho : o.op = .makeMap 88 none) (hd : o.dst = some 3) : Sy w0 R 0 o := by
 intro Q' d a w h0 hdep ⟨M, h⟩
 have hno : ∀ j, (j = 101 ∨ j = 102 ∨ ∃ x ∈ insT, x.1 = j) → d j = false := fun j hj => by
   cases hc : d j with
   | false => rfl
   | true => rw [h.late j hj hc] at h0; cases h0
 have hm : (0, 3, Kd.mp) ∈ tblY := List.mem_of_getElem? (i := 0) rfl
 have hs : 3 < a.tmps.size := by rw [h.sz]; omega
 have hmm : (Instr.makeMap 88 none).run Tryd.prog w = .ok (.map (some w.heap.size)) (w.alloc (.map #[] 0)) := run_makeMap _ _
 have hbl : Below w.heap.size w (w.alloc (.map #[] 0)) := (Below.refl _ w).alloc (Nat.le_refl _) _
 unfold Oper.wp execOp
 rw [ho]
 simp only [Option.map_none, Sem.run_bind, hmm, Result.andThen_ok, Sem.run_pure, Oper.upon_value]
 rw [hd]
 refine ⟨w.heap.size, h.dfr, by simp [Act.put, h.sz], by rw [put_eval _ _ _ _ hs, if_neg (by decide)]; exact h.t0, h.bel.trans (hbl.mono h.bel.size), fun _ => ?_, ?_, ?_⟩
 · refine ⟨[], ⟨h.bel.trans (hbl.mono h.bel.size), h.bel.size, by simp, [], fun k => by simp, ⟨#[], 0, heap_alloc_new w _, rfl⟩, fun q hq => (by cases hq)⟩, fun k hk => (by cases hk), fun x hx => ?_⟩
   have h1 : (x.1 == 0) = false := by simpa using (ins_pos x hx).1
   rw [hno x.1 (Or.inr (Or.inr ⟨x, hx, rfl⟩)), h1]
   simp
 · intro i _ _; simp
 · intro x hxm e
   rw [put_eval _ _ _ _ hs]
   by_cases hxs : x.2.1 = 3
   · have : x = (0, 3, Kd.mp) := inj_mapY tbl_slots hxm hm hxs
     subst this
     rw [if_pos rfl]; rfl
   · rw [if_neg hxs]
     have : (x.1 == 0) = false := by
       rw [beq_eq_false_iff_ne]
       intro e2
       exact hxs (congrArg (·.2.1) (inj_mapY tbl_ops hxm hm e2))
     rw [this, Bool.or_false] at e
     have hf := (h.fct x hxm e).later hbl
     obtain ⟨xj, xs, xk⟩ := x
     cases xk with
     | mp =>
       have : xj = 101 ∨ xj = 102 ∨ xj = 0 := mp_ops xj xs hxm
       rcases this with rfl | rfl | rfl
       · rw [hno 101 (Or.inl rfl)] at e; cases e
       · rw [hno 102 (Or.inr (Or.inl rfl))] at e; cases e
       · exact absurd (congrArg (·.2.1) (inj_mapY tbl_ops hxm hm rfl)) hxs
     | _ => exact hf
theorem sy_ins {kk : Int} {kd : Kd} (ho : o.op = .insert 88 (.tmp 3) (.const (.int .u8 kk)) (.tmp u)) (hd : o.dst = none) (hi : insT[i]? = some (j, kk)) (hy : tblY[i2]? = some (j2, u, kd)) (he : depY o j2 = true) (he0 : depY o 0 = true)
   (hk : (∃ f, kd = .fn f ∧ letIx (UInt8.ofNat kk.toNat) = some f) ∨ (kd = .me kk ∧ letIx (UInt8.ofNat kk.toNat) = none)) : Sy w0 R j o := by
 intro Q' d a w hdj hdep ⟨M, h⟩
 have him := List.mem_of_getElem? hi
 have h0 := depY_at he0 hdep
 have hf := h.fct _ (List.mem_of_getElem? hy) (depY_at he hdep)
 have hm3 : a.eval (.tmp 3) = .map (some M) := h.fct (0, 3, .mp) (List.mem_of_getElem? (i := 0) rfl) h0
 obtain ⟨ks, g1, g2, g3⟩ := h.ls h0
 have hn : kk ∉ ks := fun e => by
   have := (g3 _ him).2 e
   rw [hdj] at this; cases this
 have hent : entY w0 w R M (kk, a.eval (.tmp u)) := by
   rcases hk with ⟨f, rfl, hl⟩ | ⟨rfl, hl⟩
   · obtain ⟨b, h1, h2, h3⟩ := hf
     exact Or.inl ⟨f, b, hl, h1, h2, h3, g1.cb h2⟩
   · exact Or.inr ⟨hl, hf⟩
 refine op_insY (.tmp 3) (.const (.int .u8 kk)) (.tmp u) ho hm3 kk rfl _ rfl g1 hn hent ?_
 intro w' hl' hoy
 rw [hd]
 have hp := ins_pos _ him
 have d0 : (d 0 || 0 == j) = d 0 := by
   have : (0 == j) = false := by simpa using fun e => hp.1 e.symm
   rw [this, Bool.or_false]
 have hcb : ∀ b t cs, CB w b cs t → CB w' b cs t := fun b t cs hc => hoy.cb hc (g1.cb hc)
 refine ⟨M, h.dfr, h.sz, h.t0, hl'.bel, fun _ => ⟨ks ++ [kk], hl', ?_, ?_⟩, ?_, ?_⟩
 · intro k hk
   rcases List.mem_append.1 hk with hk | hk
   · exact g2 k hk
   · rw [List.mem_singleton.1 hk, ← ins_lts]
     exact List.mem_map.2 ⟨_, him, rfl⟩
 · intro x hx
   rw [List.mem_append, List.mem_singleton, ← g3 x hx, Bool.or_eq_true, beq_iff_eq]
   constructor
   · rintro (e | e)
     · exact Or.inl e
     · exact Or.inr (congrArg (·.2) (inj_mapY ins_ops hx him e))
   · rintro (e | e)
     · exact Or.inl e
     · exact Or.inr (congrArg (·.1) (inj_mapY ins_keys hx him e))
 · intro q hq e
   simp only [d0]
   exact h0
 · intro x hxm e
   have hne : (x.1 == j) = false := by
     have := (tbl_lt (x.1, x.2.1) (List.mem_map.2 ⟨_, hxm, rfl⟩)).2.2 _ him
     simpa using fun e => this e.symm
   rw [hne, Bool.or_false] at e
   have hf := h.fct x hxm e
   show Fk w0 w' R M x.2.2 (a.eval (.tmp x.2.1))
   revert hf
   cases x.2.2 with
   | fn f => rintro ⟨b, h1, h2, h3⟩; exact ⟨b, h1, hcb _ _ _ h2, h3⟩
   | _ => exact fun h => h
end
def AllIx (S : Nat → Oper → Prop) : Nat → List Oper → Prop
 | _, [] => True
 | i, o :: r => S i o ∧ AllIx S (i + 1) r
theorem allIx_cons {S : Nat → Oper → Prop} {i : Nat} {o : Oper} {r : List Oper} (h : S i o) (k : AllIx S (i + 1) r) : AllIx S i (o :: r) := ⟨h, k⟩
theorem allIx_at {S : Nat → Oper → Prop} : ∀ {l : List Oper} {i : Nat}, AllIx S i l → ∀ {j : Nat} {o : Oper}, l[j]? = some o → S (i + j) o := by
 intro l
 induction l with
 | nil => intro i _ j o h; simp at h
 | cons x r ih =>
   intro i h j o ho
   cases j with
   | zero => simp at ho; subst ho; exact h.1
   | succ j =>
     have := ih h.2 (j := j) (by simpa using ho)
     rw [show i + 1 + j = i + (j + 1) by omega] at this
     exact this
theorem fa_24_0 : FaOk 42 0 0 := by
 intro o a W K Q t B ho hv h
 unfold Oper.wp execOp
 rw [ho]
 simp only [hv]
 go_simp
 exact h
theorem fa_24_1 : FaOk 42 1 1 := by
 intro o a W K Q t B ho hv h
 unfold Oper.wp execOp
 rw [ho]
 simp only [hv]
 go_simp
 exact h
theorem fa_24_7 : FaOk 42 7 7 := by
 intro o a W K Q t B ho hv h
 unfold Oper.wp execOp
 rw [ho]
 simp only [hv]
 go_simp
 exact h
theorem fa_24_8 : FaOk 42 8 8 := by
 intro o a W K Q t B ho hv h
 unfold Oper.wp execOp
 rw [ho]
 simp only [hv]
 go_simp
 exact h
theorem fa_24_9 : FaOk 42 9 9 := by
 intro o a W K Q t B ho hv h
 unfold Oper.wp execOp
 rw [ho]
 simp only [hv]
 go_simp
 exact h
theorem fa_24_10 : FaOk 42 10 10 := by
 intro o a W K Q t B ho hv h
 unfold Oper.wp execOp
 rw [ho]
 simp only [hv]
 go_simp
 exact h
theorem fa_24_13 : FaOk 42 13 13 := by
 intro o a W K Q t B ho hv h
 unfold Oper.wp execOp
 rw [ho]
 simp only [hv]
 go_simp
 exact h
theorem fa_24_14 : FaOk 42 14 14 := by
 intro o a W K Q t B ho hv h
 unfold Oper.wp execOp
 rw [ho]
 simp only [hv]
 go_simp
 exact h
theorem fa_24_15 : FaOk 42 15 15 := by
 intro o a W K Q t B ho hv h
 unfold Oper.wp execOp
 rw [ho]
 simp only [hv]
 go_simp
 exact h
theorem fa_24_16 : FaOk 42 16 16 := by
 intro o a W K Q t B ho hv h
 unfold Oper.wp execOp
 rw [ho]
 simp only [hv]
 go_simp
 exact h
theorem fa_24_17 : FaOk 42 17 17 := by
 intro o a W K Q t B ho hv h
 unfold Oper.wp execOp
 rw [ho]
 simp only [hv]
 go_simp
 exact h
theorem fa_24_19 : FaOk 42 19 19 := by
 intro o a W K Q t B ho hv h
 unfold Oper.wp execOp
 rw [ho]
 simp only [hv]
 go_simp
 exact h
theorem fa_24_20 : FaOk 42 20 20 := by
 intro o a W K Q t B ho hv h
 unfold Oper.wp execOp
 rw [ho]
 simp only [hv]
 go_simp
 exact h
theorem fa_57_0 : FaOk 87 0 0 := by
 intro o a W K Q t B ho hv h
 unfold Oper.wp execOp
 rw [ho]
 simp only [hv]
 go_simp
 exact h
theorem fa_57_1 : FaOk 87 1 21 := by
 intro o a W K Q t B ho hv h
 unfold Oper.wp execOp
 rw [ho]
 simp only [hv]
 go_simp
 exact h
theorem fa_57_2 : FaOk 87 2 22 := by
 intro o a W K Q t B ho hv h
 unfold Oper.wp execOp
 rw [ho]
 simp only [hv]
 go_simp
 exact h
theorem res_letters (W : World) (M : Nat) (tmps : Array Value) (t2 : tmps[2]? = some (.map (some M))) : (results Tryd.f32 tmps).run Tryd.prog W = .ok (.map (some M)) W := by
 simp [results, Tryd.f32, go_sem, t2]
set_option maxHeartbeats 4000000 in
theorem letters_any (R : Nat) (w : World) : Calls Tryd.prog 32 #[.pointer (some ⟨R, 0, none⟩)] w fun e w' => ∃ M, e = .returned (.map (some M)) ∧ Ls w w' R M lts := by
 go_enter Tryd.func32, Tryd.ntmps32
 go_wp2_with fail
 refine region_inv 103 (fun d a W => ∃ M, IyM w R M d a W) (by kernel_rfl) (by rfl) (by kernel_rfl) ?_ ?_ ?_
 · exact ⟨0, rfl, rfl, rfl, (Below.refl _ w).drew, fun h => (by cases h), fun _ _ h => (by cases h), fun _ _ h => (by cases h)⟩
 · intro Q' j o d a W hj ho hdj hdep hI
   rw [← Array.getElem?_toList] at ho
   refine (show Sy w R j o from (Nat.zero_add j) ▸ allIx_at ?_ ho) Q' d a W hdj hdep hI
   refine allIx_cons (sy_map rfl rfl) ?_
   refine allIx_cons (sy_move (i := 1) rfl rfl rfl (by decide)) ?_
   refine allIx_cons (sy_nil (i := 2) (i2 := 1) rfl rfl rfl (by decide) rfl (by kernel_rfl)) ?_
   refine allIx_cons (sy_fa (i := 3) (i2 := 2) fa_57_0 rfl rfl rfl (by decide) rfl (by kernel_rfl)) ?_
   refine allIx_cons (sy_fa (i := 4) (i2 := 3) fa_24_0 rfl rfl rfl (by decide) rfl (by kernel_rfl)) ?_
   refine allIx_cons (sy_call (i := 5) (i2 := 4) rfl rfl rfl (by decide) rfl (by kernel_rfl)) ?_
   refine allIx_cons (sy_ins (i := 0) (i2 := 5) rfl rfl rfl rfl (by kernel_rfl) (by kernel_rfl) (Or.inl ⟨_, rfl, by decide⟩)) ?_
   refine allIx_cons (sy_move (i := 6) rfl rfl rfl (by decide)) ?_
   refine allIx_cons (sy_nil (i := 7) (i2 := 6) rfl rfl rfl (by decide) rfl (by kernel_rfl)) ?_
   refine allIx_cons (sy_fa (i := 8) (i2 := 7) fa_57_0 rfl rfl rfl (by decide) rfl (by kernel_rfl)) ?_
   refine allIx_cons (sy_fa (i := 9) (i2 := 8) fa_24_1 rfl rfl rfl (by decide) rfl (by kernel_rfl)) ?_
   refine allIx_cons (sy_call (i := 10) (i2 := 9) rfl rfl rfl (by decide) rfl (by kernel_rfl)) ?_
   refine allIx_cons (sy_ins (i := 1) (i2 := 10) rfl rfl rfl rfl (by kernel_rfl) (by kernel_rfl) (Or.inl ⟨_, rfl, by decide⟩)) ?_
   refine allIx_cons (sy_move (i := 11) rfl rfl rfl (by decide)) ?_
   refine allIx_cons (sy_mk (i := 12) (i2 := 11) (k := 113) rfl (by rfl) rfl rfl (by decide) rfl (by kernel_rfl)) ?_
   refine allIx_cons (sy_ins (i := 2) (i2 := 12) rfl rfl rfl rfl (by kernel_rfl) (by kernel_rfl) (Or.inr ⟨rfl, by decide⟩)) ?_
   refine allIx_cons (sy_move (i := 13) rfl rfl rfl (by decide)) ?_
   refine allIx_cons (sy_mk (i := 14) (i2 := 13) (k := 97) rfl (by rfl) rfl rfl (by decide) rfl (by kernel_rfl)) ?_
   refine allIx_cons (sy_ins (i := 3) (i2 := 14) rfl rfl rfl rfl (by kernel_rfl) (by kernel_rfl) (Or.inr ⟨rfl, by decide⟩)) ?_
   refine allIx_cons (sy_move (i := 15) rfl rfl rfl (by decide)) ?_
   refine allIx_cons (sy_nil (i := 16) (i2 := 15) rfl rfl rfl (by decide) rfl (by kernel_rfl)) ?_
   refine allIx_cons (sy_fa (i := 17) (i2 := 16) fa_57_0 rfl rfl rfl (by decide) rfl (by kernel_rfl)) ?_
   refine allIx_cons (sy_fa (i := 18) (i2 := 17) fa_24_7 rfl rfl rfl (by decide) rfl (by kernel_rfl)) ?_
   refine allIx_cons (sy_call (i := 19) (i2 := 18) rfl rfl rfl (by decide) rfl (by kernel_rfl)) ?_
   refine allIx_cons (sy_ins (i := 4) (i2 := 19) rfl rfl rfl rfl (by kernel_rfl) (by kernel_rfl) (Or.inl ⟨_, rfl, by decide⟩)) ?_
   refine allIx_cons (sy_move (i := 20) rfl rfl rfl (by decide)) ?_
   refine allIx_cons (sy_nil (i := 21) (i2 := 20) rfl rfl rfl (by decide) rfl (by kernel_rfl)) ?_
   refine allIx_cons (sy_fa (i := 22) (i2 := 21) fa_57_0 rfl rfl rfl (by decide) rfl (by kernel_rfl)) ?_
   refine allIx_cons (sy_fa (i := 23) (i2 := 22) fa_24_8 rfl rfl rfl (by decide) rfl (by kernel_rfl)) ?_
   refine allIx_cons (sy_call (i := 24) (i2 := 23) rfl rfl rfl (by decide) rfl (by kernel_rfl)) ?_
   refine allIx_cons (sy_ins (i := 5) (i2 := 24) rfl rfl rfl rfl (by kernel_rfl) (by kernel_rfl) (Or.inl ⟨_, rfl, by decide⟩)) ?_
   refine allIx_cons (sy_move (i := 25) rfl rfl rfl (by decide)) ?_
   refine allIx_cons (sy_nil (i := 26) (i2 := 25) rfl rfl rfl (by decide) rfl (by kernel_rfl)) ?_
   refine allIx_cons (sy_fa (i := 27) (i2 := 26) fa_57_0 rfl rfl rfl (by decide) rfl (by kernel_rfl)) ?_
   refine allIx_cons (sy_fa (i := 28) (i2 := 27) fa_24_9 rfl rfl rfl (by decide) rfl (by kernel_rfl)) ?_
   refine allIx_cons (sy_call (i := 29) (i2 := 28) rfl rfl rfl (by decide) rfl (by kernel_rfl)) ?_
   refine allIx_cons (sy_ins (i := 6) (i2 := 29) rfl rfl rfl rfl (by kernel_rfl) (by kernel_rfl) (Or.inl ⟨_, rfl, by decide⟩)) ?_
   refine allIx_cons (sy_move (i := 30) rfl rfl rfl (by decide)) ?_
   refine allIx_cons (sy_nil (i := 31) (i2 := 30) rfl rfl rfl (by decide) rfl (by kernel_rfl)) ?_
   refine allIx_cons (sy_fa (i := 32) (i2 := 31) fa_57_0 rfl rfl rfl (by decide) rfl (by kernel_rfl)) ?_
   refine allIx_cons (sy_fa (i := 33) (i2 := 32) fa_24_10 rfl rfl rfl (by decide) rfl (by kernel_rfl)) ?_
   refine allIx_cons (sy_call (i := 34) (i2 := 33) rfl rfl rfl (by decide) rfl (by kernel_rfl)) ?_
   refine allIx_cons (sy_ins (i := 7) (i2 := 34) rfl rfl rfl rfl (by kernel_rfl) (by kernel_rfl) (Or.inl ⟨_, rfl, by decide⟩)) ?_
   refine allIx_cons (sy_move (i := 35) rfl rfl rfl (by decide)) ?_
   refine allIx_cons (sy_mk (i := 36) (i2 := 35) (k := 83) rfl (by rfl) rfl rfl (by decide) rfl (by kernel_rfl)) ?_
   refine allIx_cons (sy_ins (i := 8) (i2 := 36) rfl rfl rfl rfl (by kernel_rfl) (by kernel_rfl) (Or.inr ⟨rfl, by decide⟩)) ?_
   refine allIx_cons (sy_move (i := 37) rfl rfl rfl (by decide)) ?_
   refine allIx_cons (sy_nil (i := 38) (i2 := 37) rfl rfl rfl (by decide) rfl (by kernel_rfl)) ?_
   refine allIx_cons (sy_fa (i := 39) (i2 := 38) fa_57_1 rfl rfl rfl (by decide) rfl (by kernel_rfl)) ?_
   refine allIx_cons (sy_call (i := 40) (i2 := 39) rfl rfl rfl (by decide) rfl (by kernel_rfl)) ?_
   refine allIx_cons (sy_ins (i := 9) (i2 := 40) rfl rfl rfl rfl (by kernel_rfl) (by kernel_rfl) (Or.inl ⟨_, rfl, by decide⟩)) ?_
   refine allIx_cons (sy_move (i := 41) rfl rfl rfl (by decide)) ?_
   refine allIx_cons (sy_nil (i := 42) (i2 := 41) rfl rfl rfl (by decide) rfl (by kernel_rfl)) ?_
   refine allIx_cons (sy_fa (i := 43) (i2 := 42) fa_57_2 rfl rfl rfl (by decide) rfl (by kernel_rfl)) ?_
   refine allIx_cons (sy_call (i := 44) (i2 := 43) rfl rfl rfl (by decide) rfl (by kernel_rfl)) ?_
   refine allIx_cons (sy_ins (i := 10) (i2 := 44) rfl rfl rfl rfl (by kernel_rfl) (by kernel_rfl) (Or.inl ⟨_, rfl, by decide⟩)) ?_
   refine allIx_cons (sy_move (i := 45) rfl rfl rfl (by decide)) ?_
   refine allIx_cons (sy_nil (i := 46) (i2 := 45) rfl rfl rfl (by decide) rfl (by kernel_rfl)) ?_
   refine allIx_cons (sy_fa (i := 47) (i2 := 46) fa_57_0 rfl rfl rfl (by decide) rfl (by kernel_rfl)) ?_
   refine allIx_cons (sy_fa (i := 48) (i2 := 47) fa_24_13 rfl rfl rfl (by decide) rfl (by kernel_rfl)) ?_
   refine allIx_cons (sy_call (i := 49) (i2 := 48) rfl rfl rfl (by decide) rfl (by kernel_rfl)) ?_
   refine allIx_cons (sy_ins (i := 11) (i2 := 49) rfl rfl rfl rfl (by kernel_rfl) (by kernel_rfl) (Or.inl ⟨_, rfl, by decide⟩)) ?_
   refine allIx_cons (sy_move (i := 50) rfl rfl rfl (by decide)) ?_
   refine allIx_cons (sy_nil (i := 51) (i2 := 50) rfl rfl rfl (by decide) rfl (by kernel_rfl)) ?_
   refine allIx_cons (sy_fa (i := 52) (i2 := 51) fa_57_0 rfl rfl rfl (by decide) rfl (by kernel_rfl)) ?_
   refine allIx_cons (sy_fa (i := 53) (i2 := 52) fa_24_14 rfl rfl rfl (by decide) rfl (by kernel_rfl)) ?_
   refine allIx_cons (sy_call (i := 54) (i2 := 53) rfl rfl rfl (by decide) rfl (by kernel_rfl)) ?_
   refine allIx_cons (sy_ins (i := 12) (i2 := 54) rfl rfl rfl rfl (by kernel_rfl) (by kernel_rfl) (Or.inl ⟨_, rfl, by decide⟩)) ?_
   refine allIx_cons (sy_move (i := 55) rfl rfl rfl (by decide)) ?_
   refine allIx_cons (sy_nil (i := 56) (i2 := 55) rfl rfl rfl (by decide) rfl (by kernel_rfl)) ?_
   refine allIx_cons (sy_fa (i := 57) (i2 := 56) fa_57_0 rfl rfl rfl (by decide) rfl (by kernel_rfl)) ?_
   refine allIx_cons (sy_fa (i := 58) (i2 := 57) fa_24_15 rfl rfl rfl (by decide) rfl (by kernel_rfl)) ?_
   refine allIx_cons (sy_call (i := 59) (i2 := 58) rfl rfl rfl (by decide) rfl (by kernel_rfl)) ?_
   refine allIx_cons (sy_ins (i := 13) (i2 := 59) rfl rfl rfl rfl (by kernel_rfl) (by kernel_rfl) (Or.inl ⟨_, rfl, by decide⟩)) ?_
   refine allIx_cons (sy_move (i := 60) rfl rfl rfl (by decide)) ?_
   refine allIx_cons (sy_nil (i := 61) (i2 := 60) rfl rfl rfl (by decide) rfl (by kernel_rfl)) ?_
   refine allIx_cons (sy_fa (i := 62) (i2 := 61) fa_57_0 rfl rfl rfl (by decide) rfl (by kernel_rfl)) ?_
   refine allIx_cons (sy_fa (i := 63) (i2 := 62) fa_24_16 rfl rfl rfl (by decide) rfl (by kernel_rfl)) ?_
   refine allIx_cons (sy_call (i := 64) (i2 := 63) rfl rfl rfl (by decide) rfl (by kernel_rfl)) ?_
   refine allIx_cons (sy_ins (i := 14) (i2 := 64) rfl rfl rfl rfl (by kernel_rfl) (by kernel_rfl) (Or.inl ⟨_, rfl, by decide⟩)) ?_
   refine allIx_cons (sy_move (i := 65) rfl rfl rfl (by decide)) ?_
   refine allIx_cons (sy_nil (i := 66) (i2 := 65) rfl rfl rfl (by decide) rfl (by kernel_rfl)) ?_
   refine allIx_cons (sy_fa (i := 67) (i2 := 66) fa_57_0 rfl rfl rfl (by decide) rfl (by kernel_rfl)) ?_
   refine allIx_cons (sy_fa (i := 68) (i2 := 67) fa_24_17 rfl rfl rfl (by decide) rfl (by kernel_rfl)) ?_
   refine allIx_cons (sy_call (i := 69) (i2 := 68) rfl rfl rfl (by decide) rfl (by kernel_rfl)) ?_
   refine allIx_cons (sy_ins (i := 15) (i2 := 69) rfl rfl rfl rfl (by kernel_rfl) (by kernel_rfl) (Or.inl ⟨_, rfl, by decide⟩)) ?_
   refine allIx_cons (sy_move (i := 70) rfl rfl rfl (by decide)) ?_
   refine allIx_cons (sy_mk (i := 71) (i2 := 70) (k := 111) rfl (by rfl) rfl rfl (by decide) rfl (by kernel_rfl)) ?_
   refine allIx_cons (sy_ins (i := 16) (i2 := 71) rfl rfl rfl rfl (by kernel_rfl) (by kernel_rfl) (Or.inr ⟨rfl, by decide⟩)) ?_
   refine allIx_cons (sy_move (i := 72) rfl rfl rfl (by decide)) ?_
   refine allIx_cons (sy_nil (i := 73) (i2 := 72) rfl rfl rfl (by decide) rfl (by kernel_rfl)) ?_
   refine allIx_cons (sy_fa (i := 74) (i2 := 73) fa_57_0 rfl rfl rfl (by decide) rfl (by kernel_rfl)) ?_
   refine allIx_cons (sy_fa (i := 75) (i2 := 74) fa_24_19 rfl rfl rfl (by decide) rfl (by kernel_rfl)) ?_
   refine allIx_cons (sy_call (i := 76) (i2 := 75) rfl rfl rfl (by decide) rfl (by kernel_rfl)) ?_
   refine allIx_cons (sy_ins (i := 17) (i2 := 76) rfl rfl rfl rfl (by kernel_rfl) (by kernel_rfl) (Or.inl ⟨_, rfl, by decide⟩)) ?_
   refine allIx_cons (sy_move (i := 77) rfl rfl rfl (by decide)) ?_
   refine allIx_cons (sy_nil (i := 78) (i2 := 77) rfl rfl rfl (by decide) rfl (by kernel_rfl)) ?_
   refine allIx_cons (sy_fa (i := 79) (i2 := 78) fa_57_0 rfl rfl rfl (by decide) rfl (by kernel_rfl)) ?_
   refine allIx_cons (sy_fa (i := 80) (i2 := 79) fa_24_20 rfl rfl rfl (by decide) rfl (by kernel_rfl)) ?_
   refine allIx_cons (sy_call (i := 81) (i2 := 80) rfl rfl rfl (by decide) rfl (by kernel_rfl)) ?_
   refine allIx_cons (sy_ins (i := 18) (i2 := 81) rfl rfl rfl rfl (by kernel_rfl) (by kernel_rfl) (Or.inl ⟨_, rfl, by decide⟩)) ?_
   refine allIx_cons (sy_mv (i := 82) (i2 := 0) (Or.inl rfl) rfl rfl (by decide) rfl (by kernel_rfl) (Or.inl rfl)) ?_
   refine allIx_cons (sy_mv (i := 83) (i2 := 82) (Or.inr rfl) rfl rfl (by decide) rfl (by kernel_rfl) (Or.inr rfl)) ?_
   trivial
 · rintro d a W hd ⟨M, h⟩
   obtain ⟨ks, g1, g2, g3⟩ := h.ls (hd 0 (by omega))
   have e2 : a.eval (.tmp 2) = .map (some M) := h.fct (102, 2, .mp) (List.mem_of_getElem? (i := 83) rfl) (hd 102 (by omega))
   have t2 : a.tmps[2]? = some (.map (some M)) := by
     have hs : 2 < a.tmps.size := by rw [h.sz]; omega
     have : a.tmps.getD 2 undef = .map (some M) := e2
     rw [Array.getD_eq_getD_getElem?, Array.getElem?_eq_getElem hs] at this
     rw [Array.getElem?_eq_getElem hs]
     exact congrArg some this
   have HF : Hid (Ls w W R M lts) := Lib.hid (g1.congr fun k => ⟨g2 k, fun hk => ?_⟩)
   rotate_left
   · rw [← ins_lts] at hk
     obtain ⟨x, hx, rfl⟩ := List.mem_map.1 hk
     exact (g3 x hx).1 (hd x.1 (ins_pos x hx).2.2.2)
   obtain ⟨tm, df⟩ := a
   obtain rfl : df = [] := h.dfr
   try dsimp only at t2
   clear hd h g1 g2 g3 e2
   go_wp2
   exact bodyPost_ret (res_letters W M tm t2) rfl ⟨M, rfl, HF.out⟩
end

/- Package switches: what Parse hands back. -/
section
set_option maxRecDepth 100000
open Go.RowKit Go.Shelf Go.Lib
theorem res_parseY (W : World) (B : Nat) (p : Pn) (e : Int) (tmps : Array Value) (h : Pl W B p) (t2 : tmps[2]? = some (.pointer (some ⟨B, 0, none⟩))) (t3 : tmps[3]? = some (.int .i64 e)) :
   (results Tryd.f13 tmps).run Tryd.prog W = .ok (.tuple #[.agg (pls p).toArray, .int .i64 e]) W := by
 have hl : (loadVar 42 ⟨B, 0, none⟩).run Tryd.prog W = .ok (.agg (pls p).toArray) W := run_loadVar_mid W B 0 42 (pls p) _ h.range Tryd.underlying42 rfl (by rw [pls_len]; kernel_rfl)
 have ha : (asAddr (.pointer (some ⟨B, 0, none⟩))).run Tryd.prog W = .ok ⟨B, 0, none⟩ W := rfl
 simp only [results, Tryd.f13]
 simp [t2, t3, ha, hl]
end
end Go.Proofs.YtkgnlobakicnjaaDoor
