/- Own texts, put together: Ym Yn. -/
import Derived.Test.YtkgnlobakicnjaaDoorQ22
import Derived.Test.YtkgnlobakicnjaaDoorQ23
import Derived.Test.YtkgnlobakicnjaaDoorQ24
import Derived.Laws.CopyOwn
import Derived.Deep.DeepCutAuto
namespace Go.Proofs.YtkgnlobakicnjaaDoor
/- Package switches: what a letter's entry is; build; plans laid and stored. -/
section
set_option maxRecDepth 100000
open Go.RowKit Go.Shelf Go.Lib
attribute [local go_sem] run_store_float
structure Ms (w2 W : World) (R M : Nat) : Prop where
 hM : w2.heap.size ≤ M
 lt : M < W.heap.size
 ent : ∃ L, (∀ k, k ∈ L.map (·.1) ↔ k ∈ lts) ∧ MpB W M L ∧ ∀ q ∈ L, entY w2 W R M q
theorem Ls.ms {w2 W : World} {R M : Nat} (h : Ls w2 W R M lts) : Ms w2 W R M := ⟨h.hM, h.lt, h.ent⟩
theorem Ms.oy {w2 W W' : World} {R M : Nat} (h : Ms w2 W R M) (ho : Oy R W W') (hR : R < w2.heap.size) : Ms w2 W' R M := by
 obtain ⟨L, h1, h2, h3⟩ := h.ent
 have hM := h.hM
 exact ⟨hM, Nat.lt_of_lt_of_le h.lt ho.size, L, h1, h2.keep (ho.block M h.lt (by omega)), fun q hq => (h3 q hq).keep fun b hb _ hlt => ho.block b hlt (by omega)⟩
def look1 (M : Nat) (W : World) (c : UInt8) (v : Value) : Prop := (Instr.lookup 88 (.map (some M)) (.int .u8 ((c.toNat : Nat) : Int)) false).run Tryd.prog W = .ok v W
theorem Ms.look {w2 W : World} {R M : Nat} (h : Ms w2 W R M) (c : UInt8) :
   (∃ j b, letIx c = some j ∧ look1 M W c (.func (.func 89) #[] #[.pointer (some ⟨b, 0, none⟩)]) ∧ CB W b #[.pointer (some ⟨R, j, none⟩)] 133) ∨
   (letIx c = none ∧ (c = 113 ∨ c = 97 ∨ c = 83 ∨ c = 111) ∧ look1 M W c (methY R ((c.toNat : Nat) : Int))) ∨
   (letIx c = none ∧ ¬ (c = 113 ∨ c = 97 ∨ c = 83 ∨ c = 111) ∧ look1 M W c .nilFunc) := by
 obtain ⟨L, h1, h2, h3⟩ := h.ent
 have hl := h2.look ((c.toNat : Nat) : Int)
 have hof : UInt8.ofNat (((c.toNat : Nat) : Int)).toNat = c := by simp
 cases hf : L.find? (·.1 == ((c.toNat : Nat) : Int)) with
 | none =>
   rw [hf] at hl
   have hno : ((c.toNat : Nat) : Int) ∉ lts := by
     rw [← h1]
     intro hm
     obtain ⟨q, hq, e⟩ := List.mem_map.1 hm
     have := List.find?_eq_none.1 hf q hq
     simp [e] at this
   have hix : letIx c = none := by
     cases hc : letIx c with
     | none => rfl
     | some j =>
       exfalso
       have ha : ∀ q ∈ ltab, ((q.1.toNat : Nat) : Int) ∈ lts := by decide
       unfold letIx at hc
       obtain ⟨q, hq, _⟩ := Option.map_eq_some_iff.1 hc
       have e : q.1 = c := by simpa using List.find?_some hq
       exact hno (e ▸ ha q (List.mem_of_find?_eq_some hq))
   refine Or.inr (Or.inr ⟨hix, ?_, hl⟩)
   rintro (rfl | rfl | rfl | rfl) <;> exact hno (by decide)
 | some q =>
   rw [hf] at hl
   have hq := List.mem_of_find?_eq_some hf
   have e : q.1 = ((c.toNat : Nat) : Int) := by simpa using List.find?_some hf
   rcases h3 q hq with ⟨j, b, g1, g2, g3, _⟩ | ⟨g1, g2⟩
   · rw [e, hof] at g1
     refine Or.inl ⟨j, b, g1, ?_, g3⟩
     show _ = Result.ok _ W
     rw [← g2]; exact hl
   · have hm : q.1 ∈ lts := (h1 _).1 (List.mem_map.2 ⟨q, hq, rfl⟩)
     have ha : ∀ k ∈ lts, letIx (UInt8.ofNat k.toNat) = none → k = 113 ∨ k = 97 ∨ k = 83 ∨ k = 111 := by decide
     have hk := ha _ hm g1
     rw [e, hof] at g1
     rw [e] at hk
     refine Or.inr (Or.inl ⟨g1, ?_, ?_⟩)
     · have key : ∀ n : Nat, n < 256 → ((c.toNat : Nat) : Int) = (n : Nat) → c = UInt8.ofNat n := fun n hn he => by
         apply UInt8.toNat_inj.1
         rw [UInt8.toNat_ofNat']
         omega
       rcases hk with hk | hk | hk | hk
       · exact Or.inl (key 113 (by omega) hk)
       · exact Or.inr (Or.inl (key 97 (by omega) hk))
       · exact Or.inr (Or.inr (Or.inl (key 83 (by omega) hk)))
       · exact Or.inr (Or.inr (Or.inr (key 111 (by omega) hk)))
     · show _ = Result.ok _ W
       rw [← e, ← g2]; rw [← e] at hl; exact hl
theorem bld_yes {p : Pn} (h1 : p.fl 21 = true) : bldS p = { p with bd := 3 } := by unfold bldS; rw [if_pos h1]
theorem bld_two {p : Pn} (h1 : p.fl 21 = false) (h2 : p.fl 22 = true) : bldS p = { p with bd := 2 } := by unfold bldS; rw [if_neg (by rw [h1]; decide), if_pos h2]
theorem bld_no {p : Pn} (h1 : p.fl 21 = false) (h2 : p.fl 22 = false) : bldS p = p := by unfold bldS; rw [if_neg (by rw [h1]; decide), if_neg (by rw [h2]; decide)]
set_option maxHeartbeats 2000000 in
theorem build_any (R : Nat) (p : Pn) (w : World) (hR : Rw w R p) : Calls Tryd.prog 33 #[.pointer (some ⟨R, 0, none⟩)] w fun e w' =>
   ((p.fl 21 = true ∧ p.fl 22 = true ∧ e = .returned (.int .i64 16)) ∨ ((p.fl 21 && p.fl 22) = false ∧ e = .returned (.int .i64 0) ∧ Rw w' R (bldS p))) ∧ Oy R w w' := by
 have k1 : w.cell? ⟨R, 21, none⟩ = some (.bool (p.fl 21)) := hR.at (by omega)
 have k2 : w.cell? ⟨R, 22, none⟩ = some (.bool (p.fl 22)) := hR.at (by omega)
 have kb : w.cell? ⟨R, 12, none⟩ = some (.int .u8 (p.bd : Nat)) := hR.at (by omega)
 have fb := CB.frozen hR 12
 have HR := Lib.hid hR
 clear hR
 cases h1 : p.fl 21 with
 | true =>
   rw [h1] at k1
   cases h2 : p.fl 22 with
   | true =>
     rw [h2] at k2
     go_enter Tryd.func33, Tryd.ntmps33
     go_wp2
     go_ret
     exact ⟨Or.inl ⟨by trivial, by trivial, rfl⟩, Oy.refl _ _⟩
   | false =>
     rw [h2] at k2
     rw [bld_yes h1]
     go_enter Tryd.func33, Tryd.ntmps33
     go_wp2
     go_ret
     exact ⟨Or.inr ⟨rfl, rfl, HR.out.bd⟩, Oy.set _ _ _ _⟩
 | false =>
   rw [h1] at k1
   cases h2 : p.fl 22 with
   | true =>
     rw [h2] at k2
     rw [bld_two h1 h2]
     go_enter Tryd.func33, Tryd.ntmps33
     go_wp2
     go_ret
     exact ⟨Or.inr ⟨rfl, rfl, HR.out.bd⟩, Oy.set _ _ _ _⟩
   | false =>
     rw [h2] at k2
     rw [bld_no h1 h2]
     go_enter Tryd.func33, Tryd.ntmps33
     go_wp2
     go_ret
     exact ⟨Or.inr ⟨rfl, rfl, HR.out⟩, Oy.refl _ _⟩
section
variable {ops : Array Oper} {rest : List Oper} {o : Oper} {a : Act} {w : World} {Q : Exit → Act → World → Prop}
theorem wpList_buildY (hg : o.guard = none) (t : TypeId) (parts : Array (Nat × Operand)) (ho : o.op = .build t parts) (cells : Array Value) (hb : Tryd.prog.built t (parts.map fun (i, x) => (i, a.eval x)).toList = some cells)
   (h : wpList Tryd.prog ops Q rest (a.put o.dst (.agg cells)) w) : wpList Tryd.prog ops Q (o :: rest) a w :=
 wpList_build hg t parts ho (by rw [hb]; rfl) (by rw [hb]; exact h)
theorem oy_allocR {K : Act → World → Prop} (ho : o.op = .alloc 87) (h : K (a.put o.dst (.pointer (some ⟨w.heap.size, 0, none⟩))) (w.alloc (.cells (rws pz).toArray 87))) : Oper.wp Tryd.prog o a w K Q := by
 unfold Oper.wp execOp
 rw [ho]
 go_simp
 exact h
theorem oy_allocP {K : Act → World → Prop} (ho : o.op = .alloc 42) (h : K (a.put o.dst (.pointer (some ⟨w.heap.size, 0, none⟩))) (w.alloc (.cells (pls pz).toArray 42))) : Oper.wp Tryd.prog o a w K Q := by
 unfold Oper.wp execOp
 rw [ho]
 go_simp
 exact h
theorem wpList_allocR (hg : o.guard = none) (ho : o.op = .alloc 87) (h : ∀ w', Rw w' w.heap.size pz → Below w.heap.size w w' → w'.heap.size = w.heap.size + 1 → wpList Tryd.prog ops Q rest (a.put o.dst (.pointer (some ⟨w.heap.size, 0, none⟩))) w') : wpList Tryd.prog ops Q (o :: rest) a w :=
 wpList_plain hg fun _ hK => oy_allocR ho (hK _ _ (h _ (CB.new w _ _) ((Below.refl _ w).alloc (Nat.le_refl _) _) (by simp)))
theorem wpList_allocP (hg : o.guard = none) (ho : o.op = .alloc 42) (h : ∀ w', Pl w' w.heap.size pz → Below w.heap.size w w' → w'.heap.size = w.heap.size + 1 → wpList Tryd.prog ops Q rest (a.put o.dst (.pointer (some ⟨w.heap.size, 0, none⟩))) w') : wpList Tryd.prog ops Q (o :: rest) a w :=
 wpList_plain hg fun _ hK => oy_allocP ho (hK _ _ (h _ (CB.new w _ _) ((Below.refl _ w).alloc (Nat.le_refl _) _) (by simp)))
theorem rws_one (p : Pn) : (rws p).toArray.all (·.oneCell') = true := by
 rw [Array.all_eq_true_iff_forall_mem]
 intro v hv
 simp [rws] at hv
 obtain ⟨j, _, rfl⟩ := hv
 exact pcell_one p j
theorem wpList_storeR (hg : o.guard = none) (x y : Operand) (ho : o.op = .store 87 x y) (R : Nat) (p q : Pn) (hx : a.eval x = .pointer (some ⟨R, 0, none⟩)) (hy : a.eval y = .agg (rws q).toArray) (hR : Rw w R p)
   (h : ∀ w', Rw w' R q → Oy R w w' → w'.heap.size = w.heap.size → wpList Tryd.prog ops Q rest (a.put o.dst undef) w') : wpList Tryd.prog ops Q (o :: rest) a w :=
 wpList_store_row hg 87 x y ho R (rws q).toArray hx hy 87 (rws p).toArray hR (by rw [List.size_toArray, rws_len]; kernel_rfl) (by rw [List.size_toArray, List.size_toArray, rws_len, rws_len]) (rws_one q)
   (h _ (setRow_heap w R _ _ _ _ hR) ⟨rfl, rfl, rfl, by rw [setRow_size]; exact Nat.le_refl _, fun k _ hk => setRow_other w R k _ hk⟩ (setRow_size _ _ _))
theorem wpList_storeP (hg : o.guard = none) (x y : Operand) (ho : o.op = .store 42 x y) (R : Nat) (p q : Pn) (hx : a.eval x = .pointer (some ⟨R, 0, none⟩)) (hy : a.eval y = .agg (pls q).toArray) (hR : Pl w R p)
   (h : ∀ w', Pl w' R q → Oy R w w' → w'.heap.size = w.heap.size → wpList Tryd.prog ops Q rest (a.put o.dst undef) w') : wpList Tryd.prog ops Q (o :: rest) a w :=
 wpList_store_row hg 42 x y ho R (pls q).toArray hx hy 42 (pls p).toArray hR (by rw [List.size_toArray, pls_len]; kernel_rfl) (by rw [List.size_toArray, List.size_toArray, pls_len, pls_len]) (pls_one q)
   (h _ (setRow_heap w R _ _ _ _ hR) ⟨rfl, rfl, rfl, by rw [setRow_size]; exact Nat.le_refl _, fun k _ hk => setRow_other w R k _ hk⟩ (setRow_size _ _ _))
end
end

/- Package switches: Parse. (gen_yn.py) -/
section
set_option maxRecDepth 100000
open Go.RowKit Go.Shelf Go.Lib
def endS : Option Pn → Pn × Int
 | none => (pz, 4)
 | some p => if p.fl 21 && p.fl 22 then (pz, 16) else if chkS (bldS p) = 0 then (bldS p, 0) else (pz, chkS (bldS p))
theorem prsS_is (f : Fp) (s : List UInt8) : prsS f s = endS (goS f (trS s).length p0 (trS s)) := by
 unfold prsS endS
 rfl
structure Ps (w W2 W : World) (B R M : Nat) (p : Pn) : Prop where
 rw : Rw W R p
 pl : Pl W B pz
 bel : Below w.heap.size w W
 ms : Ms W2 W R M
 hB : B = w.heap.size
 hBR : B < R
 hR : R < W2.heap.size
theorem Ps.act {w W2 W W' : World} {B R M : Nat} {p : Pn} {e : Ending} {o : Option (Pn × List UInt8)} (h : Ps w W2 W B R M p) (ha : ActR W W' R e o) : Oy R W W' ∧ Pl W' B pz ∧ Below w.heap.size w W' ∧ Ms W2 W' R M := by
 have ho : Oy R W W' := by
   cases o with
   | none => exact ha.elim fun _ h => h.2
   | some q => exact ha.2.2
 have h1 := h.hB
 have h2 := h.hBR
 exact ⟨ho, ho.cb h.pl (by omega), h.bel.trans ((ho.below (N := w.heap.size) (by omega) h.bel.size)), h.ms.oy ho h.hR⟩
theorem Ps.some {w W2 W W' : World} {B R M : Nat} {p : Pn} {e : Ending} {q : Pn × List UInt8} (h : Ps w W2 W B R M p) (ha : ActR W W' R e (some q)) : Ps w W2 W' B R M q.1 := by
 obtain ⟨_, h1, h2, h3⟩ := h.act ha
 exact ⟨ha.2.1, h1, h2, h3, h.hB, h.hBR, h.hR⟩
section
variable {ops : Array Oper} {rest : List Oper} {o : Oper} {a : Act} {w : World} {Q : Exit → Act → World → Prop}
theorem wpList_moveY (hg : o.guard = none) (t : Nat) (v : Value) (ho : o.op = .move (.tmp t)) (hv : a.eval (.tmp t) = v) (h : wpList Tryd.prog ops Q rest (a.put o.dst v) w) : wpList Tryd.prog ops Q (o :: rest) a w :=
 wpList_plain hg fun _ hK => oy_move ho hv (hK _ _ h)
theorem wpList_faY {T f add : Nat} (hfa : FaOk T f add) (hg : o.guard = none) (t B : Nat) (ho : o.op = .fieldAddr T (.tmp t) f) (hv : a.eval (.tmp t) = .pointer (some ⟨B, 0, none⟩)) (h : wpList Tryd.prog ops Q rest (a.put o.dst (.pointer (some ⟨B, add, none⟩))) w) : wpList Tryd.prog ops Q (o :: rest) a w :=
 wpList_plain hg fun _ hK => hfa o a w _ _ t B ho hv (hK _ _ h)
end
theorem eqFn (W : World) (f : Fn) (x y : Array Value) : (binOp .eql 91 (.func f x y) .nilFunc).run Tryd.prog W = .ok (.bool false) W := by
 kernel_rfl
theorem eqNil (W : World) : (binOp .eql 91 .nilFunc .nilFunc).run Tryd.prog W = .ok (.bool true) W := by
 kernel_rfl
def strLen : Value → Nat
 | .string s => s.size
 | _ => 0
set_option maxHeartbeats 16000000 in
theorem parse_any {f : Fp} (hf : f.Ok) (s : ByteArray) (t : List UInt8) (w : World) (hT : T8 w) (ht : s.data.toList = t) (hl : t.length ≤ 100000) :
   Calls Tryd.prog 13 #[.string s] w fun e w' => e = .returned (.tuple #[.agg (pls (prsS f t).1).toArray, .int .i64 (prsS f t).2]) ∧ Below w.heap.size w w' := by
 have HTp := Lib.hid (fun W => trimPrefix_any s ⟨#[45]⟩ W)
 rw [prsS_is]
 rw [show (⟨#[45]⟩ : ByteArray).data.toList = [45] from rfl, ht, show trimPrefix t [45] = trS t from rfl] at HTp
 have hlt : (trS t).length ≤ 100000 := by
   have : (trS t).length ≤ t.length := by
     unfold trS trimPrefix
     split
     · simp
     · exact Nat.le_refl _
   omega
 obtain ⟨T, hTT⟩ : ∃ T, trS t = T := ⟨_, rfl⟩
 rw [hTT] at HTp hlt ⊢
 obtain ⟨GG, hG⟩ : ∃ g, goS f T.length p0 T = g := ⟨_, rfl⟩
 rw [hG]
 have HG := Lib.hid hG
 have HT := Lib.hid hT
 have HF := Lib.hid hf
 clear hT hf hG hTT ht hl
 have qF := eqFn
 have qN := eqNil
 go_enter Tryd.func13, Tryd.ntmps13
 go_upto_region 0 with fail
 refine wp_region_lit ?_
 refine wpList_allocP rfl rfl ?_
 intro W0 hp0 hb0 hs0
 have HP0 := Lib.hid hp0
 have HB0 := Lib.hid hb0
 obtain ⟨B, hB⟩ : ∃ B, w.heap.size = B := ⟨_, rfl⟩
 have HBe := Lib.hid hB
 have HS0 := Lib.hid hs0
 clear hp0 hb0 hs0
 rw [hB]
 clear hB
 go_upto_region 2 with (go_at_call 31; refine (HTp.out _).mono ?_; rintro e w' ⟨rfl, hw9⟩; obtain rfl := hw9.symm)
 refine wp_region_lit ?_
 refine wpList_buildY rfl 42 _ rfl (pls p0).toArray (by kernel_rfl) ?_
 refine wpList_buildY rfl 87 _ rfl (rws p0).toArray (by kernel_rfl) ?_
 refine wpList_allocR rfl rfl ?_
 intro W1 hr1 hb1 hs1
 refine wpList_storeR rfl _ _ rfl W0.heap.size pz p0 rfl rfl hr1 ?_
 intro W2 hr2 ho2 hs2
 obtain ⟨R, hR⟩ : ∃ R, W0.heap.size = R := ⟨_, rfl⟩
 rw [hR] at hr1 hr2 ho2 hb1 hs1 ⊢
 have HX : Hid (Rw W2 R p0 ∧ Pl W2 B pz ∧ Below w.heap.size w W2 ∧ B = w.heap.size ∧ B < R ∧ R < W2.heap.size) := Lib.hid (by
   have e1 := HBe.out
   have e2 := HS0.out
   have hBR : B < R := by omega
   have hb1' : Below W0.heap.size W0 W1 := by rw [hR]; exact hb1
   have hp1 : Pl W1 B pz := CB.later (by rw [← e1]; exact HP0.out) hb1'
   have h1 : Below w.heap.size w W1 := HB0.out.trans (hb1'.mono HB0.out.size)
   exact ⟨hr2, ho2.cb hp1 (by omega), h1.trans (ho2.below (by omega) h1.size), e1.symm, hBR, by omega⟩)
 clear hr1 hb1 hs1 hr2 ho2 hs2 hR HP0 HB0 HS0 HTp
 go_wp2_with fail
 refine (letters_any R W2).mono ?_
 rintro e W3 ⟨M, rfl, hLs⟩
 have H3 : Hid (Ps w W2 W3 B R M p0) := Lib.hid (by
   obtain ⟨g1, g2, g3, g4, g5, g6⟩ := HX.out
   have hb := hLs.bel
   exact ⟨CB.later g1 hb, CB.later g2 hb, g3.trans (hb.mono g3.size), hLs.ms, g4, g5, g6⟩)
 clear hLs HX
 go_wp2_with fail
 go_loopw [4] (fun s4 wr => ∃ (s' : ByteArray) (t' : List UInt8) (p : Pn) (n : Nat), s4 = .string s' ∧ s'.data.toList = t' ∧ t'.length ≤ n ∧ n ≤ 100000 ∧ Hid (goS f n p t' = GG) ∧ Hid (Ps w W2 wr B R M p)) (fun s4 _ => strLen s4)
 case atStart => exact ⟨⟨T.toArray⟩, T, p0, T.length, rfl, rfl, Nat.le_refl _, hlt, HG, H3⟩
 case round =>
   clear HG H3
   obtain ⟨s', t', p, n, rfl, hst, hn1, hn2, HG, HP⟩ := hrel
   have hsz : s'.size = t'.length := by rw [← hst, Lib.size_eq]
   cases t' with
   | nil =>
     have e0 : s'.toList = [] := by rw [Lib.toList_data]; exact hst
     have e1 : (s'.toList == []) = true := by rw [e0]; rfl
     have e2 : (s'.toList != []) = false := by rw [e0]; rfl
     have hGe : GG = some p := by rw [← HG.out]; cases n <;> rfl
     subst hGe
     clear e0 HG hst hsz hn1 hn2
     go_wp2_with fail
     refine (build_any R p wr HP.out.rw).mono ?_
     rintro e W5 ⟨hbd, ho5⟩
     have HP5 : Hid (Pl W5 B pz ∧ Below w.heap.size w W5) := Lib.hid (by
       have h1 := HP.out.hB
       have h2 := HP.out.hBR
       exact ⟨ho5.cb HP.out.pl (by omega), HP.out.bel.trans (ho5.below (by omega) HP.out.bel.size)⟩)
     have HBR := Lib.hid (And.intro HP.out.hB HP.out.hBR)
     clear ho5 HP
     rcases hbd with ⟨q1, q2, rfl⟩ | ⟨q1, rfl, hr5⟩
     · have HE : Hid (endS (some p) = (pz, 16)) := Lib.hid (by simp only [endS, q1, q2]; rfl)
       clear q1 q2
       go_upto_region 14 with fail
       refine wp_region_lit ?_
       refine wpList_buildY rfl 42 _ rfl (pls pz).toArray (by kernel_rfl) ?_
       refine wpList_moveY rfl 10 _ rfl rfl ?_
       refine wpList_storeP rfl _ _ rfl B pz pz rfl rfl HP5.out.1 ?_
       intro W8 hp8 ho8 _
       go_wp2
       refine bodyPost_ret (res_parseY W8 B pz 16 _ hp8 rfl rfl) rfl ?_
       rw [HE.out]
       exact ⟨rfl, HP5.out.2.trans (ho8.below (by have := HBR.out; omega) HP5.out.2.size)⟩
     · obtain ⟨ce, hce⟩ : ∃ ce, chkS (bldS p) = ce := ⟨_, rfl⟩
       have HE : Hid (endS (some p) = if ce = 0 then (bldS p, 0) else (pz, ce)) := Lib.hid (by rw [← hce]; simp only [endS, q1]; rfl)
       have HC := Lib.hid (fun W => checkS_any (bldS p) W)
       rw [hce] at HC
       have HR5 := Lib.hid hr5
       clear q1 hce hr5
       go_upto_region 15 with fail
       refine wp_region_lit ?_
       refine wpList_faY fa_57_0 rfl 5 R rfl rfl ?_
       refine wpList_load_mid rfl 42 _ rfl R 0 (by rfl) (pls (bldS p)) _ HR5.out.plan Tryd.underlying42 rfl (by rw [pls_len]; kernel_rfl) ?_
       by_cases h0 : ce = 0
       · subst h0
         go_upto_region 18 with (go_at_call 12; refine (HC.out _).mono ?_; rintro e W6 ⟨rfl, hb6⟩)
         refine wp_region_lit ?_
         refine wpList_faY fa_57_0 rfl 5 R rfl rfl ?_
         refine wpList_load_mid rfl 42 _ rfl R 0 (by rfl) (pls (bldS p)) _ (Rw.plan (CB.later HR5.out hb6)) Tryd.underlying42 rfl (by rw [pls_len]; kernel_rfl) ?_
         refine wpList_storeP rfl _ _ rfl B pz (bldS p) rfl rfl (CB.later HP5.out.1 hb6) ?_
         intro W7 hp7 ho7 _
         go_wp2
         refine bodyPost_ret (res_parseY W7 B (bldS p) 0 _ hp7 rfl rfl) rfl ?_
         rw [HE.out]
         exact ⟨rfl, (HP5.out.2.trans (hb6.mono HP5.out.2.size)).trans (ho7.below (by have := HBR.out; omega) (HP5.out.2.trans (hb6.mono HP5.out.2.size)).size)⟩
       · have h1 : (ce == 0) = false := by simpa using h0
         have h2 : (ce != 0) = true := by simpa using h0
         have HE2 : Hid (endS (some p) = (pz, ce)) := Lib.hid (by rw [HE.out, if_neg h0])
         go_upto_region 17 with (go_at_call 12; refine (HC.out _).mono ?_; rintro e W6 ⟨rfl, hb6⟩)
         refine wp_region_lit ?_
         refine wpList_buildY rfl 42 _ rfl (pls pz).toArray (by kernel_rfl) ?_
         refine wpList_moveY rfl 11 _ rfl rfl ?_
         refine wpList_storeP rfl _ _ rfl B pz pz rfl rfl (CB.later HP5.out.1 hb6) ?_
         intro W8 hp8 ho8 _
         go_wp2
         refine bodyPost_ret (res_parseY W8 B pz ce _ hp8 rfl rfl) rfl ?_
         rw [HE2.out]
         exact ⟨rfl, (HP5.out.2.trans (hb6.mono HP5.out.2.size)).trans (ho8.below (by have := HBR.out; omega) (HP5.out.2.trans (hb6.mono HP5.out.2.size)).size)⟩
   | cons c r =>
     have h0 : 0 < s'.size := by rw [hsz]; simp
     have hc0 : s'[0]'h0 = c := by
       have : s'.data.toList[0]? = some c := by rw [hst]; rfl
       simpa [ByteArray.getElem_eq_getElem_data, h0] using this
     have e1 : (s'.toList == []) = false := by rw [Lib.toList_data, hst]; rfl
     have e2 : (s'.toList != []) = true := by rw [Lib.toList_data, hst]; rfl
     obtain ⟨m, rfl⟩ : ∃ m, n = m + 1 := ⟨n - 1, by simp at hn1; omega⟩
     have hrl : r.length ≤ m := by simp at hn1; omega
     obtain ⟨sr, hsr, hsrl⟩ : ∃ sr : ByteArray, s'.extract 1 s'.size = sr ∧ sr.data.toList = r := by
       refine ⟨_, rfl, ?_⟩
       rw [ByteArray.data_extract, Array.toList_extract, hst, hsz]
       show ((c :: r).drop 1).take ((c :: r).length - 1) = r
       rw [List.drop_succ_cons, List.drop_zero, List.take_of_length_le (by simp)]
     have hrs : sv r = .string sr := by
       unfold sv
       rw [← hsrl]
     have HGo : Hid (goS f (m + 1) p (c :: r) = GG) := HG
     have h0i : (0 : Int) < (s'.size : Nat) := by omega
     have h1i : (1 : Int) ≤ (s'.size : Nat) := by omega
     have hsi : ((s'.size : Nat) : Int) ≤ 100001 := by rw [hsz]; simp; simp at hn1; omega
     have HST := Lib.hid hst
     have HSZ := Lib.hid hsz
     have HN := Lib.hid (And.intro hn2 hrl)
     obtain ⟨os, hos⟩ : ∃ os, stepS f c p r = os := ⟨_, rfl⟩
     have HGn : Hid (os = none → GG = none) := Lib.hid (fun e => by rw [← HGo.out, goS, hos, e])
     have HGs : Hid (∀ q, os = some q → goS f m q.1 q.2 = GG ∧ q.2.length ≤ r.length) := Lib.hid (fun q e => ⟨by rw [← HGo.out, goS, hos, e], stepS_len (q := q.1) (r := q.2) (by rw [hos, e])⟩)
     clear hst hsz hn1 hn2 hrl HG HGo hsrl
     have HL := HP.out.ms.look c
     rcases HL with ⟨j, b, g1, g2, g3⟩ | ⟨g1, g2, g3⟩ | ⟨g1, g2, g3⟩
     · have hss : stepS f c p r = finS j p r := by unfold stepS; rw [g1]
       have HO := Lib.hid (once1_any R j b p r wr HP.out.rw (letIx_fl g1) g3)
       rw [← hss, hos, hrs] at HO
       unfold look1 at g2
       rw [← hc0] at g2
       clear hss g1 g3 hos hc0 hrs
       go_wp2_with fail
       try rw [hsr]
       refine HO.out.mono ?_
       intro e W5 ha
       have HA := Lib.hid ha
       have HM := Lib.hid (HP.out.act ha)
       have HBR := Lib.hid (And.intro HP.out.hB HP.out.hBR)
       clear ha HO
       cases os with
       | none =>
         obtain ⟨s9, rfl, _⟩ := HA.out
         have hGn := HGn.out rfl
         subst hGn
         have HE : Hid (endS none = (pz, 4)) := Lib.hid rfl
         have HP5 : Hid (Pl W5 B pz ∧ Below w.heap.size w W5) := Lib.hid ⟨HM.out.2.1, HM.out.2.2.1⟩
         go_upto_region 10 with fail
         refine wp_region_lit ?_
         refine wpList_buildY rfl 42 _ rfl (pls pz).toArray (by kernel_rfl) ?_
         refine wpList_storeP rfl _ _ rfl B pz pz rfl rfl HP5.out.1 ?_
         intro W8 hp8 ho8 _
         go_wp2
         refine bodyPost_ret (res_parseY W8 B pz 4 _ hp8 rfl rfl) rfl ?_
         rw [HE.out]
         exact ⟨rfl, HP5.out.2.trans (ho8.below (by have := HBR.out; omega) HP5.out.2.size)⟩
       | some q =>
         have HQ := Lib.hid (HP.out.some HA.out)
         obtain ⟨rfl, _, _⟩ := HA.out
         obtain ⟨hq1, hq2⟩ := HGs.out q rfl
         have HGq := Lib.hid hq1
         clear hq1 HA HM HGs HGn HP
         go_wp2_with fail
         go_roundw
         case rel => exact ⟨⟨q.2.toArray⟩, q.2, q.1, m, rfl, rfl, by have := HN.out; omega, by have := HN.out; omega, HGq, HQ⟩
         case measure =>
           show (⟨q.2.toArray⟩ : ByteArray).size < s'.size
           rw [HSZ.out, Lib.size_eq]
           simp
           omega
     · unfold look1 at g3
       have hrl2 : r.length ≤ 100000 := by have := HN.out; omega
       have hw0 : w.heap.size ≤ R := by have := HP.out.hB; have := HP.out.hBR; omega
       rcases g2 with h | h | h | h
       all_goals
         obtain ⟨c', hcc⟩ : ∃ c', c = c' := ⟨_, rfl⟩
         first
           | (have HO := Lib.hid (angle_any HF.out R p r w wr HT.out HP.out.bel hw0 HP.out.rw hrl2); rw [show stepS f 113 p r = os by rw [← hos, h], hrs] at HO; rw [show methY R (((c.toNat : Nat) : Int)) = .func (.func 64) #[.pointer (some ⟨R, 0, none⟩)] #[] by rw [h]; rfl] at g3)
           | (have HO := Lib.hid (area_any HF.out R p r w wr HT.out HP.out.bel hw0 HP.out.rw hrl2); rw [show stepS f 97 p r = os by rw [← hos, h], hrs] at HO; rw [show methY R (((c.toNat : Nat) : Int)) = .func (.func 65) #[.pointer (some ⟨R, 0, none⟩)] #[] by rw [h]; rfl] at g3)
           | (have HO := Lib.hid (steiner_any HF.out R p r w wr HT.out HP.out.bel hw0 HP.out.rw hrl2); rw [show stepS f 83 p r = os by rw [← hos, h], hrs] at HO; rw [show methY R (((c.toNat : Nat) : Int)) = .func (.func 66) #[.pointer (some ⟨R, 0, none⟩)] #[] by rw [h]; rfl] at g3)
           | (have HO := Lib.hid (second_any (f := f) R p r w wr HP.out.bel HP.out.rw); rw [show stepS f 111 p r = os by rw [← hos, h], hrs] at HO; rw [show methY R (((c.toNat : Nat) : Int)) = .func (.func 67) #[.pointer (some ⟨R, 0, none⟩)] #[] by rw [h]; rfl] at g3)
         rw [← hc0] at g3
         clear hcc g1 h hos hc0 hrs hrl2 hw0
         go_wp2_with fail
         try rw [hsr]
         refine HO.out.mono ?_
         intro e W5 ha
         have HA := Lib.hid ha
         have HM := Lib.hid (HP.out.act ha)
         have HBR := Lib.hid (And.intro HP.out.hB HP.out.hBR)
         clear ha HO
         cases os with
         | none =>
           obtain ⟨s9, rfl, _⟩ := HA.out
           have hGn := HGn.out rfl
           subst hGn
           have HE : Hid (endS none = (pz, 4)) := Lib.hid rfl
           have HP5 : Hid (Pl W5 B pz ∧ Below w.heap.size w W5) := Lib.hid ⟨HM.out.2.1, HM.out.2.2.1⟩
           go_upto_region 10 with fail
           refine wp_region_lit ?_
           refine wpList_buildY rfl 42 _ rfl (pls pz).toArray (by kernel_rfl) ?_
           refine wpList_storeP rfl _ _ rfl B pz pz rfl rfl HP5.out.1 ?_
           intro W8 hp8 ho8 _
           go_wp2
           refine bodyPost_ret (res_parseY W8 B pz 4 _ hp8 rfl rfl) rfl ?_
           rw [HE.out]
           exact ⟨rfl, HP5.out.2.trans (ho8.below (by have := HBR.out; omega) HP5.out.2.size)⟩
         | some q =>
           have HQ := Lib.hid (HP.out.some HA.out)
           obtain ⟨rfl, _, _⟩ := HA.out
           obtain ⟨hq1, hq2⟩ := HGs.out q rfl
           have HGq := Lib.hid hq1
           clear hq1 HA HM HGs HGn HP
           go_wp2_with fail
           go_roundw
           case rel => exact ⟨⟨q.2.toArray⟩, q.2, q.1, m, rfl, rfl, by have := HN.out; omega, by have := HN.out; omega, HGq, HQ⟩
           case measure =>
             show (⟨q.2.toArray⟩ : ByteArray).size < s'.size
             rw [HSZ.out, Lib.size_eq]
             simp
             omega
     · have hnone : os = none := by
         rw [← hos]
         unfold stepS
         rw [g1]
         simp only []
         rw [if_neg (fun e => g2 (Or.inl e)), if_neg (fun e => g2 (Or.inr (Or.inl e))), if_neg (fun e => g2 (Or.inr (Or.inr (Or.inl e)))), if_neg (fun e => g2 (Or.inr (Or.inr (Or.inr e))))]
       have hGn := HGn.out hnone
       subst hGn
       unfold look1 at g3
       rw [← hc0] at g3
       have HE : Hid (endS none = (pz, 4)) := Lib.hid rfl
       have HP5 : Hid (Pl wr B pz ∧ Below w.heap.size w wr) := Lib.hid ⟨HP.out.pl, HP.out.bel⟩
       have HBR := Lib.hid (And.intro HP.out.hB HP.out.hBR)
       clear g1 g2 hnone hos hc0 hrs
       go_upto_region 7 with fail
       refine wp_region_lit ?_
       refine wpList_buildY rfl 42 _ rfl (pls pz).toArray (by kernel_rfl) ?_
       refine wpList_storeP rfl _ _ rfl B pz pz rfl rfl HP5.out.1 ?_
       intro W8 hp8 ho8 _
       go_wp2
       refine bodyPost_ret (res_parseY W8 B pz 4 _ hp8 rfl rfl) rfl ?_
       rw [HE.out]
       exact ⟨rfl, HP5.out.2.trans (ho8.below (by have := HBR.out; omega) HP5.out.2.size)⟩
end
end Go.Proofs.YtkgnlobakicnjaaDoor
