/- Own texts, put together: Qf Qg. -/
import Derived.Test.YtkbhmglmbolbiaaGreatDoorQ4
namespace Go.Proofs.YtkbhmglmbolbiaaGreatDoor
/- errors.As at the two targets; what told tells. -/
section
open Go.RowKit Go.Extern.Stop Go.Stop Go.Extern
def Ety (w : World) : Prop := w.cell? ⟨0, 0, none⟩ = some (.iface 166 (.agg #[.pointer (some ⟨6, 67, none⟩)]))
theorem Ety.lt {w : World} (h : Ety w) : 0 < w.heap.size := by
 rcases Nat.lt_or_ge 0 w.heap.size with h0 | h0
 · exact h0
 · exfalso
   have h := h
   simp [Ety, World.cell?, Array.getElem?_eq_none h0] at h
theorem Ety.later {w w' : World} (h : Ety w) (hb : Below w.heap.size w w') : Ety w' := (hb.cell (p := ⟨0, 0, none⟩) h.lt).trans h
theorem Ety.alloc {w : World} (h : Ety w) (o : Obj) : Ety (w.alloc o) := h.later ((Below.refl _ w).alloc (Nat.le_refl _) o)
theorem as_setF (B g : Nat) (n : Int) (v o0 o1 : Value) (W : World) (hb0 : W.cell? ⟨g, 0, none⟩ = some (.int .i64 n)) (hb1 : W.cell? ⟨g, 1, none⟩ = some (.iface 26 v)) (h : CB W B #[o0, o1] 87) :
   (ReflectliteValue.set #[.agg #[.pointer (some ⟨6, 87, none⟩), .pointer (some ⟨B, 0, none⟩), .int .u64 409], .agg #[.pointer (some ⟨6, 87, none⟩), .pointer (some ⟨g, 0, none⟩), .int .u64 153]]).run Tryz.prog W
     = .ok (.tuple #[]) ((W.setCell ⟨B, 0, none⟩ (.int .i64 n)).setCell ⟨B, 1, none⟩ (.iface 26 v)) := by
 have c0 := h.cell 0 (by simp)
 have f0 := h.frozen 0
 have h2 := h.set 0 (.int .i64 n)
 have c1 : (W.setCell ⟨B, 0, none⟩ (.int .i64 n)).cell? ⟨B, 1, none⟩ = some o1 := h2.cell 1 (by simp)
 have f1 : (W.setCell ⟨B, 0, none⟩ (.int .i64 n)).frozen? ⟨B, 1, none⟩ = false := h2.frozen 1
 have s0 := run_store Tryz.prog W ⟨B, 0, none⟩ (.int .i64 n) .plain (by rfl)
 have s1 := run_store Tryz.prog (W.setCell ⟨B, 0, none⟩ (.int .i64 n)) ⟨B, 1, none⟩ (.iface 26 v) .plain (by rfl)
 rw [rls]
 simp only [Sem.run_bind, as_partsFa, as_partsF, Result.andThen]
 simp [ReflectliteValue.flagAddr, loadVar, isAgg, underlying, Tryz.underlying87, hb0, hb1, Result.andThen, as_directF, storeVar, Value.cells, storeCells, Addr.add, loadCells, loadCellsFrom, s0, s1, c0, f0, c1, f1]
def h3 (t b : Nat) : Array Value := #[.pointer (some ⟨6, t, none⟩), .pointer (some ⟨b, 0, none⟩), .int .u64 150]
def asW1 (w : World) (p B : Nat) : World := w.alloc (.cells #[.pointer (some ⟨B, 0, none⟩)] p)
def asW2 (w : World) (p B : Nat) : World := (asW1 w p B).alloc (.cells #[.pointer (some ⟨6, p, none⟩), .pointer (some ⟨w.heap.size, 0, none⟩), .int .u64 150] 132)
def asW3 (w : World) (p B : Nat) : World := (asW2 w p B).alloc (.cells #[.pointer (some ⟨6, p, none⟩), .pointer (some ⟨w.heap.size, 0, none⟩), .int .u64 150] 132)
theorem asW_facts (w : World) (p B : Nat) : (asW3 w p B).heap.size = w.heap.size + 3 ∧ (asW2 w p B).cell? ⟨w.heap.size, 0, none⟩ = some (.pointer (some ⟨B, 0, none⟩)) ∧ (asW3 w p B).cell? ⟨w.heap.size, 0, none⟩ = some (.pointer (some ⟨B, 0, none⟩)) ∧ Below w.heap.size w (asW2 w p B) ∧ Below w.heap.size w (asW3 w p B) := by
 have b1 : Below w.heap.size w (asW1 w p B) := (Below.refl _ w).alloc (Nat.le_refl _) _
 have s1 : (asW1 w p B).heap.size = w.heap.size + 1 := by simp [asW1]
 have c1 : CB (asW1 w p B) w.heap.size #[.pointer (some ⟨B, 0, none⟩)] p := CB.new w _ _
 have b2 : Below (asW1 w p B).heap.size (asW1 w p B) (asW2 w p B) := (Below.refl _ _).alloc (Nat.le_refl _) _
 have c2 := c1.later b2
 have s2 : (asW2 w p B).heap.size = w.heap.size + 2 := by simp [asW2, s1]
 have b3 : Below (asW2 w p B).heap.size (asW2 w p B) (asW3 w p B) := (Below.refl _ _).alloc (Nat.le_refl _) _
 have c3 := c2.later b3
 exact ⟨by simp [asW3, s2], c2.cell 0 (by simp), c3.cell 0 (by simp), b1.trans (b2.mono (by omega)), (b1.trans (b2.mono (by omega))).trans (b3.mono (by omega))⟩
set_option maxRecDepth 100000 in
set_option maxHeartbeats 4000000 in
theorem as_hitF (B : Nat) (n : Int) (v o0 o1 : Value) (w : World) (hg : Ety w) (ht : CB w B #[o0, o1] 87) :
   Calls Tryz.prog 37 #[.iface 87 (.agg #[.int .i64 n, .iface 26 v]), .iface 96 (.pointer (some ⟨B, 0, none⟩))] w fun ev w' => ev = .returned (.bool true) ∧ w' = (((asW3 w 96 B).alloc (.cells #[.int .i64 n, .iface 26 v] 87)).setCell ⟨B, 0, none⟩ (.int .i64 n)).setCell ⟨B, 1, none⟩ (.iface 26 v) := by
 have x0 := @run_callFunc_extern Tryz.prog 67 _ (fun args => ReflectliteValue.unpack (args.getD 0 (.tuple #[]))) Tryz.func67 (by kernel_rfl) (by kernel_rfl) (by kernel_rfl) (by kernel_rfl)
 have x1 := @run_callFunc_extern Tryz.prog 68 _ (ReflectliteValue.methodAny (ReflectliteValue.valueError "reflectlite.Value.Type" 0) (fun t _ _ _ => ReflectliteType.toType t)) Tryz.func68 (by kernel_rfl) (by kernel_rfl) (by kernel_rfl) (by kernel_rfl)
 have x2 := @run_callFunc_extern Tryz.prog 69 _ (ReflectliteValue.method (ReflectliteValue.valueError "reflectlite.Value.IsNil" 0) ReflectliteValue.isNil) Tryz.func69 (by kernel_rfl) (by kernel_rfl) (by kernel_rfl) (by kernel_rfl)
 have x3 := @run_callFunc_extern Tryz.prog 165 _ (ReflectliteType.abiMethod fun t => do pure (.int .u8 (← Rtype.kind t))) Tryz.func165 (by kernel_rfl) (by kernel_rfl) (by kernel_rfl) (by kernel_rfl)
 have x4 := @run_callFunc_extern Tryz.prog 178 _ (ReflectliteType.method ReflectliteType.elem) Tryz.func178 (by kernel_rfl) (by kernel_rfl) (by kernel_rfl) (by kernel_rfl)
 have x5 := @run_callFunc_extern Tryz.prog 179 _ (ReflectliteType.relation "Implements" ReflectliteType.implements_) Tryz.func179 (by kernel_rfl) (by kernel_rfl) (by kernel_rfl) (by kernel_rfl)
 have x6 := @run_callFunc_extern Tryz.prog 100 _ ReflectliteType.typeOf Tryz.func100 (by kernel_rfl) (by kernel_rfl) (by kernel_rfl) (by kernel_rfl)
 have x7 := @run_callFunc_extern Tryz.prog 176 _ (ReflectliteType.relation "AssignableTo" ReflectliteType.assignableTo) Tryz.func176 (by kernel_rfl) (by kernel_rfl) (by kernel_rfl) (by kernel_rfl)
 have x8 := @run_callFunc_extern Tryz.prog 101 _ (ReflectliteValue.method (ReflectliteValue.valueError "reflectlite.Value.Elem" 0) ReflectliteValue.elem) Tryz.func101 (by kernel_rfl) (by kernel_rfl) (by kernel_rfl) (by kernel_rfl)
 have x9 := @run_callFunc_extern Tryz.prog 102 _ ReflectliteValue.set Tryz.func102 (by kernel_rfl) (by kernel_rfl) (by kernel_rfl) (by kernel_rfl)
 have tO := as_typeOfF
 have mA := as_methodAssignableTo
 have a25 := as_assignableF
 have v25 := as_valueOfF
 have f6 := as_valueOfFp
 have f7 := as_typeFp
 have mK := as_methodKind
 have mE := as_methodElem
 have mI := as_methodImplements
 have k27 := as_kindFp
 have k25 := as_kindF
 have e27 := as_elemFp
 have i25 := as_implementsF
 obtain ⟨z3, n2, n3, b2, b3⟩ := asW_facts w 96 B
 have n8 := as_isNilFp ⟨w.heap.size, 0, none⟩ ⟨B, 0, none⟩ _ n2
 have hg2 : (asW2 w 96 B).cell? ⟨0, 0, none⟩ = _ := hg.later b2
 have el := as_elemVFp ⟨w.heap.size, 0, none⟩ ⟨B, 0, none⟩ _ n3
 have cn := CB.new (asW3 w 96 B) #[.int .i64 n, .iface 26 v] 87
 rw [z3] at cn
 have hlt := ht.lt
 have b4 : Below w.heap.size w ((asW3 w 96 B).alloc (.cells #[.int .i64 n, .iface 26 v] 87)) := b3.alloc (by omega) _
 have st := as_setF B (w.heap.size + 3) n v o0 o1 _ (cn.cell 0 (by simp)) (cn.cell 1 (by simp)) (ht.later b4)
 clear cn ht hg b2 b3 b4 n2 n3 z3
 simp only [asW3, asW2, asW1] at n8 hg2 el st ⊢
 go_enter Tryz.func37, Tryz.ntmps37
 go_wp2
 refine wp_loop_rounds 1 ?_
 rw [rounds_succ]
 go_wp2
 go_ret
 exact ⟨rfl, rfl⟩
end

/- errors.As at a target of type Errno; told. -/
section
set_option maxRecDepth 100000
open Go.RowKit Go.Extern.Stop Go.Stop Go.Extern
theorem unwrap_any (n : Int) (v : Value) (w : World) : Calls Tryz.prog 170 #[.agg #[.int .i64 n, .iface 26 v]] w fun e w' => e = .returned (.iface 26 v) ∧ w' = w.alloc (.cells #[.int .i64 n, .iface 26 v] 87) := by
 go_enter Tryz.func170, Tryz.ntmps170
 go_wp2
 go_ret
 exact ⟨rfl, rfl⟩
set_option maxHeartbeats 8000000 in
theorem as_hitE (B : Nat) (n k : Int) (o0 : Value) (w : World) (hg : Ety w) (ht : CB w B #[o0] 26) :
   Calls Tryz.prog 37 #[.iface 87 (.agg #[.int .i64 n, .iface 26 (.int .i64 k)]), .iface 97 (.pointer (some ⟨B, 0, none⟩))] w fun ev w' => ev = .returned (.bool true) ∧ w' = (((asW3 w 97 B).alloc (.cells #[.int .i64 n, .iface 26 (.int .i64 k)] 87)).alloc (.cells #[.int .i64 k] 26)).setCell ⟨B, 0, none⟩ (.int .i64 k) := by
 have x0 := @run_callFunc_extern Tryz.prog 67 _ (fun args => ReflectliteValue.unpack (args.getD 0 (.tuple #[]))) Tryz.func67 (by kernel_rfl) (by kernel_rfl) (by kernel_rfl) (by kernel_rfl)
 have x1 := @run_callFunc_extern Tryz.prog 68 _ (ReflectliteValue.methodAny (ReflectliteValue.valueError "reflectlite.Value.Type" 0) (fun t _ _ _ => ReflectliteType.toType t)) Tryz.func68 (by kernel_rfl) (by kernel_rfl) (by kernel_rfl) (by kernel_rfl)
 have x2 := @run_callFunc_extern Tryz.prog 69 _ (ReflectliteValue.method (ReflectliteValue.valueError "reflectlite.Value.IsNil" 0) ReflectliteValue.isNil) Tryz.func69 (by kernel_rfl) (by kernel_rfl) (by kernel_rfl) (by kernel_rfl)
 have x3 := @run_callFunc_extern Tryz.prog 165 _ (ReflectliteType.abiMethod fun t => do pure (.int .u8 (← Rtype.kind t))) Tryz.func165 (by kernel_rfl) (by kernel_rfl) (by kernel_rfl) (by kernel_rfl)
 have x4 := @run_callFunc_extern Tryz.prog 178 _ (ReflectliteType.method ReflectliteType.elem) Tryz.func178 (by kernel_rfl) (by kernel_rfl) (by kernel_rfl) (by kernel_rfl)
 have x5 := @run_callFunc_extern Tryz.prog 179 _ (ReflectliteType.relation "Implements" ReflectliteType.implements_) Tryz.func179 (by kernel_rfl) (by kernel_rfl) (by kernel_rfl) (by kernel_rfl)
 have x6 := @run_callFunc_extern Tryz.prog 100 _ ReflectliteType.typeOf Tryz.func100 (by kernel_rfl) (by kernel_rfl) (by kernel_rfl) (by kernel_rfl)
 have x7 := @run_callFunc_extern Tryz.prog 176 _ (ReflectliteType.relation "AssignableTo" ReflectliteType.assignableTo) Tryz.func176 (by kernel_rfl) (by kernel_rfl) (by kernel_rfl) (by kernel_rfl)
 have x8 := @run_callFunc_extern Tryz.prog 101 _ (ReflectliteValue.method (ReflectliteValue.valueError "reflectlite.Value.Elem" 0) ReflectliteValue.elem) Tryz.func101 (by kernel_rfl) (by kernel_rfl) (by kernel_rfl) (by kernel_rfl)
 have x9 := @run_callFunc_extern Tryz.prog 102 _ ReflectliteValue.set Tryz.func102 (by kernel_rfl) (by kernel_rfl) (by kernel_rfl) (by kernel_rfl)
 have tO := as_typeOfF
 have tE := as_typeOfE
 have mA := as_methodAssignableTo
 have a25 := as_assignableE
 have a26 := as_notFE
 have v25 := as_valueOfE
 have f6 := as_valueOfEp
 have f7 := as_typeEp
 have mK := as_methodKind
 have mE := as_methodElem
 have mI := as_methodImplements
 have mU := as_methodUnwrap
 have nA := as_noAs
 have hU := as_hasUnwrap
 have k27 := as_kindEp
 have k25 := as_kindE
 have e27 := as_elemEp
 have i25 := as_implementsE
 obtain ⟨z3, n2, n3, b2, b3⟩ := asW_facts w 97 B
 have n8 := as_isNilEp ⟨w.heap.size, 0, none⟩ ⟨B, 0, none⟩ _ n2
 have hg2 : (asW2 w 97 B).cell? ⟨0, 0, none⟩ = _ := hg.later b2
 have hlt := ht.lt
 have q1 := (Below.refl _ (asW3 w 97 B)).alloc (Nat.le_refl _) (.cells #[.int .i64 n, .iface 26 (.int .i64 k)] 87)
 have n4 : ((asW3 w 97 B).alloc (.cells #[.int .i64 n, .iface 26 (.int .i64 k)] 87)).cell? ⟨w.heap.size, 0, none⟩ = some (.pointer (some ⟨B, 0, none⟩)) := (q1.cell (p := ⟨w.heap.size, 0, none⟩) (by show w.heap.size < _; omega)).trans n3
 have el := as_elemVEp ⟨w.heap.size, 0, none⟩ ⟨B, 0, none⟩ _ n4
 have cn := CB.new ((asW3 w 97 B).alloc (.cells #[.int .i64 n, .iface 26 (.int .i64 k)] 87)) #[.int .i64 k] 26
 have z4 : ((asW3 w 97 B).alloc (.cells #[.int .i64 n, .iface 26 (.int .i64 k)] 87)).heap.size = w.heap.size + 4 := by simp [z3]
 rw [z4] at cn
 have b4 : Below w.heap.size w (((asW3 w 97 B).alloc (.cells #[.int .i64 n, .iface 26 (.int .i64 k)] 87)).alloc (.cells #[.int .i64 k] 26)) := (b3.alloc (by omega) _).alloc (by rw [z4]; omega) _
 have ht4 := ht.later b4
 have st := as_setE ⟨B, 0, none⟩ ⟨w.heap.size + 4, 0, none⟩ k o0 _ (cn.cell 0 (by simp)) (ht4.cell 0 (by simp)) (ht4.frozen 0)
 clear cn ht hg b2 b3 b4 n2 n3 z3 ht4 n4 q1 z4
 simp only [asW3, asW2, asW1] at n8 hg2 el st ⊢
 go_enter Tryz.func37, Tryz.ntmps37
 go_wp2
 refine wp_loop_rounds 2 ?_
 rw [rounds_succ]
 go_wp2_with (go_at_call 170; refine (unwrap_any _ _ _).mono ?_; rintro e w' ⟨rfl, rfl⟩)
 rw [rounds_succ]
 go_wp2
 go_ret
 exact ⟨rfl, rfl⟩
set_option maxHeartbeats 4000000 in
theorem told10_any (n k : Int) (w : World) (hg : Ety w) : Calls Tryz.prog 21 #[.iface 87 (.agg #[.int .i64 n, .iface 26 (.int .i64 k)])] w fun e w' => e = .returned (.tuple #[.int .i64 n, .int .i64 k]) ∧ Below w.heap.size w w' := by
 have HG := Lib.hid hg
 have c0 := CB.new w #[.int .i64 0, .nilIface] 87
 have bb0 : Below w.heap.size w (w.alloc (.cells #[.int .i64 0, .nilIface] 87)) := (Below.refl _ w).alloc (Nat.le_refl _) _
 have c1 := CB.new (w.alloc (.cells #[.int .i64 0, .nilIface] 87)) #[.int .i64 0] 26
 have bb1 := (Below.refl _ (w.alloc (.cells #[.int .i64 0, .nilIface] 87))).alloc (Nat.le_refl _) (.cells #[.int .i64 0] 26)
 have d0 := c0.later bb1
 rw [World.size_alloc] at c1 bb1
 have bb : Below w.heap.size w ((w.alloc (.cells #[.int .i64 0, .nilIface] 87)).alloc (.cells #[.int .i64 0] 26)) := bb0.trans (bb1.mono (by omega))
 have H1 := Lib.hid (And.intro d0 (And.intro c1 bb))
 have e2 := hg.later bb
 obtain ⟨W2, hW2⟩ : ∃ W2, (w.alloc (.cells #[.int .i64 0, .nilIface] 87)).alloc (.cells #[.int .i64 0] 26) = W2 := ⟨_, rfl⟩
 have hz2 : W2.heap.size = w.heap.size + 2 := by rw [← hW2]; simp
 rw [hW2] at H1 e2
 have HF : Hid (Calls Tryz.prog 37 #[.iface 87 (.agg #[.int .i64 n, .iface 26 (.int .i64 k)]), .iface 96 (.pointer (some ⟨w.heap.size, 0, none⟩))] W2 fun ev w' => ev = .returned (.bool true) ∧ CB w' w.heap.size #[.int .i64 n, .iface 26 (.int .i64 k)] 87 ∧ CB w' (w.heap.size + 1) #[.int .i64 0] 26 ∧ Below w.heap.size w w' ∧ Ety w') := by
   refine (as_hitF w.heap.size n (.int .i64 k) _ _ W2 e2 H1.out.1).mono ?_
   rintro ev w' ⟨rfl, rfl⟩
   obtain ⟨z3, _, _, _, b3⟩ := asW_facts W2 96 w.heap.size
   have b4 : Below W2.heap.size W2 ((asW3 W2 96 w.heap.size).alloc (.cells #[.int .i64 n, .iface 26 (.int .i64 k)] 87)) := b3.alloc (by omega) _
   have g0 := e2.later b4
   refine ⟨rfl, (H1.out.1.later b4).set2 _ _, (H1.out.2.1.later b4).other2 (by omega) _ _, ?_, ?_⟩
   · exact ((H1.out.2.2.trans (b4.mono (by omega))).setCell (Nat.le_refl _) _).setCell (Nat.le_refl _) _
   · have hl : 0 < w.heap.size := HG.out.lt
     exact cell_set2 g0 (by omega) _ _
 have HE : Hid (∀ W3, CB W3 w.heap.size #[.int .i64 n, .iface 26 (.int .i64 k)] 87 → CB W3 (w.heap.size + 1) #[.int .i64 0] 26 → Below w.heap.size w W3 → Ety W3 → Calls Tryz.prog 37 #[.iface 87 (.agg #[.int .i64 n, .iface 26 (.int .i64 k)]), .iface 97 (.pointer (some ⟨w.heap.size + 1, 0, none⟩))] W3 fun ev w' => ev = .returned (.bool true) ∧ CB w' w.heap.size #[.int .i64 n, .iface 26 (.int .i64 k)] 87 ∧ CB w' (w.heap.size + 1) #[.int .i64 k] 26 ∧ Below w.heap.size w w') := fun W3 q0 q1 q2 q3 => by
   refine (as_hitE (w.heap.size + 1) n k _ W3 q3 q1).mono ?_
   rintro ev w' ⟨rfl, rfl⟩
   obtain ⟨z3, _, _, _, b3⟩ := asW_facts W3 97 (w.heap.size + 1)
   have b4 : Below W3.heap.size W3 (((asW3 W3 97 (w.heap.size + 1)).alloc (.cells #[.int .i64 n, .iface 26 (.int .i64 k)] 87)).alloc (.cells #[.int .i64 k] 26)) := (b3.alloc (by omega) _).alloc (by rw [World.size_alloc]; omega) _
   refine ⟨rfl, (q0.later b4).other (by omega) _, (q1.later b4).set 0 _, (q2.trans (b4.mono q2.size)).setCell (by show w.heap.size ≤ w.heap.size + 1; omega) _⟩
 clear c0 bb0 c1 bb1 d0 bb hg e2 hz2 H1 HG
 go_enter Tryz.func21, Tryz.ntmps21
 go_wp2_with fail
 try rw [hW2]
 clear hW2
 refine HF.out.mono ?_
 rintro ev W3 ⟨rfl, q0, q1, q2, q3⟩
 have Q := Lib.hid (HE.out W3 q0 q1 q2 q3)
 clear q0 q1 q2 q3 HE HF
 go_wp2_with fail
 refine Q.out.mono ?_
 rintro ev W4 ⟨rfl, q0, q1, q2⟩
 have k0 : W4.cell? ⟨w.heap.size, 0, none⟩ = some (.int .i64 n) := q0.cell 0 (by simp)
 have k1 : W4.cell? ⟨w.heap.size + 1, 0, none⟩ = some (.int .i64 k) := q1.cell 0 (by simp)
 have HB := Lib.hid q2
 clear q0 q1 q2 Q
 go_wp2
 go_region
 go_wp2
 go_ret2
 exact ⟨rfl, HB.out.drew⟩
end
end Go.Proofs.YtkbhmglmbolbiaaGreatDoor
