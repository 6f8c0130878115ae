/- Own texts, put together: Qf. -/
import Derived.Test.YtofklahgpkmfmaaGreatDoorQ3
import Derived.Test.YtofklahgpkmfmaaGreatDoorQ9
/- errors.As at the two targets; what told tells. -/
namespace Go.Proofs.YtofklahgpkmfmaaGreatDoor
open Go.RowKit Go.Extern.Stop Go.Stop Go.Extern
def Ety (w : World) : Prop := w.cell? ⟨0, 0, none⟩ = some (.iface 187 (.agg #[.pointer (some ⟨6, 80, none⟩)]))
theorem Ety.lt {w : World} (h : Ety w) : 0 < w.heap.size := by
 rcases Nat.lt_or_ge 0 w.heap.size with h0 | h0
 · exact h0
 · exfalso
   have h := h
   simp [Ety, World.cell?, Array.getElem?_eq_none h0] at h
theorem Ety.later {w w' : World} (h : Ety w) (hb : Below w.heap.size w w') : Ety w' := (hb.cell (p := ⟨0, 0, none⟩) h.lt).trans h
theorem Ety.alloc {w : World} (h : Ety w) (o : Obj) : Ety (w.alloc o) := h.later ((Below.refl _ w).alloc (Nat.le_refl _) o)
theorem as_setF (B g : Nat) (n : Int) (v o0 o1 : Value) (W : World) (hb0 : W.cell? ⟨g, 0, none⟩ = some (.int .i64 n)) (hb1 : W.cell? ⟨g, 1, none⟩ = some (.iface 26 v)) (h : CB W B #[o0, o1] 104) :
   (ReflectliteValue.set #[.agg #[.pointer (some ⟨6, 104, none⟩), .pointer (some ⟨B, 0, none⟩), .int .u64 409], .agg #[.pointer (some ⟨6, 104, none⟩), .pointer (some ⟨g, 0, none⟩), .int .u64 153]]).run Tryz.prog W
     = .ok (.tuple #[]) ((W.setCell ⟨B, 0, none⟩ (.int .i64 n)).setCell ⟨B, 1, none⟩ (.iface 26 v)) := by
 have c0 := h.cell 0 (by simp)
 have f0 := h.frozen 0
 have h2 := h.set 0 (.int .i64 n)
 have c1 : (W.setCell ⟨B, 0, none⟩ (.int .i64 n)).cell? ⟨B, 1, none⟩ = some o1 := h2.cell 1 (by simp)
 have f1 : (W.setCell ⟨B, 0, none⟩ (.int .i64 n)).frozen? ⟨B, 1, none⟩ = false := h2.frozen 1
 have s0 := run_store Tryz.prog W ⟨B, 0, none⟩ (.int .i64 n) .plain (by rfl)
 have s1 := run_store Tryz.prog (W.setCell ⟨B, 0, none⟩ (.int .i64 n)) ⟨B, 1, none⟩ (.iface 26 v) .plain (by rfl)
 rw [rls]
 simp only [Sem.run_bind, as_partsFa, as_partsF, Result.andThen]
 simp [ReflectliteValue.flagAddr, loadVar, isAgg, underlying, Tryz.underlying104, hb0, hb1, Result.andThen, as_directF, storeVar, Value.cells, storeCells, Addr.add, loadCells, loadCellsFrom, s0, s1, c0, f0, c1, f1]
def h3 (t b : Nat) : Array Value := #[.pointer (some ⟨6, t, none⟩), .pointer (some ⟨b, 0, none⟩), .int .u64 150]
def asW1 (w : World) (p B : Nat) : World := w.alloc (.cells #[.pointer (some ⟨B, 0, none⟩)] p)
def asW2 (w : World) (p B : Nat) : World := (asW1 w p B).alloc (.cells #[.pointer (some ⟨6, p, none⟩), .pointer (some ⟨w.heap.size, 0, none⟩), .int .u64 150] 156)
def asW3 (w : World) (p B : Nat) : World := (asW2 w p B).alloc (.cells #[.pointer (some ⟨6, p, none⟩), .pointer (some ⟨w.heap.size, 0, none⟩), .int .u64 150] 156)
theorem asW_facts (w : World) (p B : Nat) : (asW3 w p B).heap.size = w.heap.size + 3 ∧ (asW2 w p B).cell? ⟨w.heap.size, 0, none⟩ = some (.pointer (some ⟨B, 0, none⟩)) ∧ (asW3 w p B).cell? ⟨w.heap.size, 0, none⟩ = some (.pointer (some ⟨B, 0, none⟩)) ∧ Below w.heap.size w (asW2 w p B) ∧ Below w.heap.size w (asW3 w p B) := by
 have b1 : Below w.heap.size w (asW1 w p B) := (Below.refl _ w).alloc (Nat.le_refl _) _
 have s1 : (asW1 w p B).heap.size = w.heap.size + 1 := by simp [asW1]
 have c1 : CB (asW1 w p B) w.heap.size #[.pointer (some ⟨B, 0, none⟩)] p := CB.new w _ _
 have b2 : Below (asW1 w p B).heap.size (asW1 w p B) (asW2 w p B) := (Below.refl _ _).alloc (Nat.le_refl _) _
 have c2 := c1.later b2
 have s2 : (asW2 w p B).heap.size = w.heap.size + 2 := by simp [asW2, s1]
 have b3 : Below (asW2 w p B).heap.size (asW2 w p B) (asW3 w p B) := (Below.refl _ _).alloc (Nat.le_refl _) _
 have c3 := c2.later b3
 exact ⟨by simp [asW3, s2], c2.cell 0 (by simp), c3.cell 0 (by simp), b1.trans (b2.mono (by omega)), (b1.trans (b2.mono (by omega))).trans (b3.mono (by omega))⟩
set_option maxRecDepth 100000 in
set_option maxHeartbeats 4000000 in
theorem as_hitF (B : Nat) (n : Int) (v o0 o1 : Value) (w : World) (hg : Ety w) (ht : CB w B #[o0, o1] 104) :
   Calls Tryz.prog 55 #[.iface 104 (.agg #[.int .i64 n, .iface 26 v]), .iface 113 (.pointer (some ⟨B, 0, none⟩))] w fun ev w' => ev = .returned (.bool true) ∧ w' = (((asW3 w 113 B).alloc (.cells #[.int .i64 n, .iface 26 v] 104)).setCell ⟨B, 0, none⟩ (.int .i64 n)).setCell ⟨B, 1, none⟩ (.iface 26 v) := by
 have x0 := @run_callFunc_extern Tryz.prog 93 _ (fun args => ReflectliteValue.unpack (args.getD 0 (.tuple #[]))) Tryz.func93 (by kernel_rfl) (by kernel_rfl) (by kernel_rfl) (by kernel_rfl)
 have x1 := @run_callFunc_extern Tryz.prog 94 _ (ReflectliteValue.methodAny (ReflectliteValue.valueError "reflectlite.Value.Type" 0) (fun t _ _ _ => ReflectliteType.toType t)) Tryz.func94 (by kernel_rfl) (by kernel_rfl) (by kernel_rfl) (by kernel_rfl)
 have x2 := @run_callFunc_extern Tryz.prog 95 _ (ReflectliteValue.method (ReflectliteValue.valueError "reflectlite.Value.IsNil" 0) ReflectliteValue.isNil) Tryz.func95 (by kernel_rfl) (by kernel_rfl) (by kernel_rfl) (by kernel_rfl)
 have x3 := @run_callFunc_extern Tryz.prog 179 _ (ReflectliteType.abiMethod fun t => do pure (.int .u8 (← Rtype.kind t))) Tryz.func179 (by kernel_rfl) (by kernel_rfl) (by kernel_rfl) (by kernel_rfl)
 have x4 := @run_callFunc_extern Tryz.prog 192 _ (ReflectliteType.method ReflectliteType.elem) Tryz.func192 (by kernel_rfl) (by kernel_rfl) (by kernel_rfl) (by kernel_rfl)
 have x5 := @run_callFunc_extern Tryz.prog 193 _ (ReflectliteType.relation "Implements" ReflectliteType.implements_) Tryz.func193 (by kernel_rfl) (by kernel_rfl) (by kernel_rfl) (by kernel_rfl)
 have x6 := @run_callFunc_extern Tryz.prog 126 _ ReflectliteType.typeOf Tryz.func126 (by kernel_rfl) (by kernel_rfl) (by kernel_rfl) (by kernel_rfl)
 have x7 := @run_callFunc_extern Tryz.prog 190 _ (ReflectliteType.relation "AssignableTo" ReflectliteType.assignableTo) Tryz.func190 (by kernel_rfl) (by kernel_rfl) (by kernel_rfl) (by kernel_rfl)
 have x8 := @run_callFunc_extern Tryz.prog 127 _ (ReflectliteValue.method (ReflectliteValue.valueError "reflectlite.Value.Elem" 0) ReflectliteValue.elem) Tryz.func127 (by kernel_rfl) (by kernel_rfl) (by kernel_rfl) (by kernel_rfl)
 have x9 := @run_callFunc_extern Tryz.prog 128 _ ReflectliteValue.set Tryz.func128 (by kernel_rfl) (by kernel_rfl) (by kernel_rfl) (by kernel_rfl)
 have tO := as_typeOfF
 have mA := as_methodAssignableTo
 have a25 := as_assignableF
 have v25 := as_valueOfF
 have f6 := as_valueOfFp
 have f7 := as_typeFp
 have mK := as_methodKind
 have mE := as_methodElem
 have mI := as_methodImplements
 have k27 := as_kindFp
 have k25 := as_kindF
 have e27 := as_elemFp
 have i25 := as_implementsF
 obtain ⟨z3, n2, n3, b2, b3⟩ := asW_facts w 113 B
 have n8 := as_isNilFp ⟨w.heap.size, 0, none⟩ ⟨B, 0, none⟩ _ n2
 have hg2 : (asW2 w 113 B).cell? ⟨0, 0, none⟩ = _ := hg.later b2
 have el := as_elemVFp ⟨w.heap.size, 0, none⟩ ⟨B, 0, none⟩ _ n3
 have cn := CB.new (asW3 w 113 B) #[.int .i64 n, .iface 26 v] 104
 rw [z3] at cn
 have hlt := ht.lt
 have b4 : Below w.heap.size w ((asW3 w 113 B).alloc (.cells #[.int .i64 n, .iface 26 v] 104)) := b3.alloc (by omega) _
 have st := as_setF B (w.heap.size + 3) n v o0 o1 _ (cn.cell 0 (by simp)) (cn.cell 1 (by simp)) (ht.later b4)
 clear cn ht hg b2 b3 b4 n2 n3 z3
 simp only [asW3, asW2, asW1] at n8 hg2 el st ⊢
 go_enter Tryz.func55, Tryz.ntmps55
 go_wp2
 refine wp_loop_rounds 1 ?_
 rw [rounds_succ]
 go_wp2
 go_ret
 exact ⟨rfl, rfl⟩
end Go.Proofs.YtofklahgpkmfmaaGreatDoor
