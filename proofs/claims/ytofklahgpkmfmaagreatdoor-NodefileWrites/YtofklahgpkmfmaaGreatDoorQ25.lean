/- Own texts, put together: Qg. -/
import Derived.Test.YtofklahgpkmfmaaGreatDoorQ22
/- errors.As at a target of type Errno; told. -/
namespace Go.Proofs.YtofklahgpkmfmaaGreatDoor
set_option maxRecDepth 100000
open Go.RowKit Go.Extern.Stop Go.Stop Go.Extern
theorem unwrap_any (n : Int) (v : Value) (w : World) : Calls Tryz.prog 184 #[.agg #[.int .i64 n, .iface 26 v]] w fun e w' => e = .returned (.iface 26 v) ∧ w' = w.alloc (.cells #[.int .i64 n, .iface 26 v] 104) := by
 go_enter Tryz.func184, Tryz.ntmps184
 go_wp2
 go_ret
 exact ⟨rfl, rfl⟩
set_option maxHeartbeats 8000000 in
theorem as_hitE (B : Nat) (n k : Int) (o0 : Value) (w : World) (hg : Ety w) (ht : CB w B #[o0] 26) :
   Calls Tryz.prog 55 #[.iface 104 (.agg #[.int .i64 n, .iface 26 (.int .i64 k)]), .iface 114 (.pointer (some ⟨B, 0, none⟩))] w fun ev w' => ev = .returned (.bool true) ∧ w' = (((asW3 w 114 B).alloc (.cells #[.int .i64 n, .iface 26 (.int .i64 k)] 104)).alloc (.cells #[.int .i64 k] 26)).setCell ⟨B, 0, none⟩ (.int .i64 k) := by
 have x0 := @run_callFunc_extern Tryz.prog 93 _ (fun args => ReflectliteValue.unpack (args.getD 0 (.tuple #[]))) Tryz.func93 (by kernel_rfl) (by kernel_rfl) (by kernel_rfl) (by kernel_rfl)
 have x1 := @run_callFunc_extern Tryz.prog 94 _ (ReflectliteValue.methodAny (ReflectliteValue.valueError "reflectlite.Value.Type" 0) (fun t _ _ _ => ReflectliteType.toType t)) Tryz.func94 (by kernel_rfl) (by kernel_rfl) (by kernel_rfl) (by kernel_rfl)
 have x2 := @run_callFunc_extern Tryz.prog 95 _ (ReflectliteValue.method (ReflectliteValue.valueError "reflectlite.Value.IsNil" 0) ReflectliteValue.isNil) Tryz.func95 (by kernel_rfl) (by kernel_rfl) (by kernel_rfl) (by kernel_rfl)
 have x3 := @run_callFunc_extern Tryz.prog 179 _ (ReflectliteType.abiMethod fun t => do pure (.int .u8 (← Rtype.kind t))) Tryz.func179 (by kernel_rfl) (by kernel_rfl) (by kernel_rfl) (by kernel_rfl)
 have x4 := @run_callFunc_extern Tryz.prog 192 _ (ReflectliteType.method ReflectliteType.elem) Tryz.func192 (by kernel_rfl) (by kernel_rfl) (by kernel_rfl) (by kernel_rfl)
 have x5 := @run_callFunc_extern Tryz.prog 193 _ (ReflectliteType.relation "Implements" ReflectliteType.implements_) Tryz.func193 (by kernel_rfl) (by kernel_rfl) (by kernel_rfl) (by kernel_rfl)
 have x6 := @run_callFunc_extern Tryz.prog 126 _ ReflectliteType.typeOf Tryz.func126 (by kernel_rfl) (by kernel_rfl) (by kernel_rfl) (by kernel_rfl)
 have x7 := @run_callFunc_extern Tryz.prog 190 _ (ReflectliteType.relation "AssignableTo" ReflectliteType.assignableTo) Tryz.func190 (by kernel_rfl) (by kernel_rfl) (by kernel_rfl) (by kernel_rfl)
 have x8 := @run_callFunc_extern Tryz.prog 127 _ (ReflectliteValue.method (ReflectliteValue.valueError "reflectlite.Value.Elem" 0) ReflectliteValue.elem) Tryz.func127 (by kernel_rfl) (by kernel_rfl) (by kernel_rfl) (by kernel_rfl)
 have x9 := @run_callFunc_extern Tryz.prog 128 _ ReflectliteValue.set Tryz.func128 (by kernel_rfl) (by kernel_rfl) (by kernel_rfl) (by kernel_rfl)
 have tO := as_typeOfF
 have tE := as_typeOfE
 have mA := as_methodAssignableTo
 have a25 := as_assignableE
 have a26 := as_notFE
 have v25 := as_valueOfE
 have f6 := as_valueOfEp
 have f7 := as_typeEp
 have mK := as_methodKind
 have mE := as_methodElem
 have mI := as_methodImplements
 have mU := as_methodUnwrap
 have nA := as_noAs
 have hU := as_hasUnwrap
 have k27 := as_kindEp
 have k25 := as_kindE
 have e27 := as_elemEp
 have i25 := as_implementsE
 obtain ⟨z3, n2, n3, b2, b3⟩ := asW_facts w 114 B
 have n8 := as_isNilEp ⟨w.heap.size, 0, none⟩ ⟨B, 0, none⟩ _ n2
 have hg2 : (asW2 w 114 B).cell? ⟨0, 0, none⟩ = _ := hg.later b2
 have hlt := ht.lt
 have q1 := (Below.refl _ (asW3 w 114 B)).alloc (Nat.le_refl _) (.cells #[.int .i64 n, .iface 26 (.int .i64 k)] 104)
 have n4 : ((asW3 w 114 B).alloc (.cells #[.int .i64 n, .iface 26 (.int .i64 k)] 104)).cell? ⟨w.heap.size, 0, none⟩ = some (.pointer (some ⟨B, 0, none⟩)) := (q1.cell (p := ⟨w.heap.size, 0, none⟩) (by show w.heap.size < _; omega)).trans n3
 have el := as_elemVEp ⟨w.heap.size, 0, none⟩ ⟨B, 0, none⟩ _ n4
 have cn := CB.new ((asW3 w 114 B).alloc (.cells #[.int .i64 n, .iface 26 (.int .i64 k)] 104)) #[.int .i64 k] 26
 have z4 : ((asW3 w 114 B).alloc (.cells #[.int .i64 n, .iface 26 (.int .i64 k)] 104)).heap.size = w.heap.size + 4 := by simp [z3]
 rw [z4] at cn
 have b4 : Below w.heap.size w (((asW3 w 114 B).alloc (.cells #[.int .i64 n, .iface 26 (.int .i64 k)] 104)).alloc (.cells #[.int .i64 k] 26)) := (b3.alloc (by omega) _).alloc (by rw [z4]; omega) _
 have ht4 := ht.later b4
 have st := as_setE ⟨B, 0, none⟩ ⟨w.heap.size + 4, 0, none⟩ k o0 _ (cn.cell 0 (by simp)) (ht4.cell 0 (by simp)) (ht4.frozen 0)
 clear cn ht hg b2 b3 b4 n2 n3 z3 ht4 n4 q1 z4
 simp only [asW3, asW2, asW1] at n8 hg2 el st ⊢
 go_enter Tryz.func55, Tryz.ntmps55
 go_wp2
 refine wp_loop_rounds 2 ?_
 rw [rounds_succ]
 go_wp2_with (go_at_call 184; refine (unwrap_any _ _ _).mono ?_; rintro e w' ⟨rfl, rfl⟩)
 rw [rounds_succ]
 go_wp2
 go_ret
 exact ⟨rfl, rfl⟩
set_option maxHeartbeats 4000000 in
theorem told10_any (n k : Int) (w : World) (hg : Ety w) : Calls Tryz.prog 31 #[.iface 104 (.agg #[.int .i64 n, .iface 26 (.int .i64 k)])] w fun e w' => e = .returned (.tuple #[.int .i64 n, .int .i64 k]) ∧ Below w.heap.size w w' := by
 have HG := Lib.hid hg
 have c0 := CB.new w #[.int .i64 0, .nilIface] 104
 have bb0 : Below w.heap.size w (w.alloc (.cells #[.int .i64 0, .nilIface] 104)) := (Below.refl _ w).alloc (Nat.le_refl _) _
 have c1 := CB.new (w.alloc (.cells #[.int .i64 0, .nilIface] 104)) #[.int .i64 0] 26
 have bb1 := (Below.refl _ (w.alloc (.cells #[.int .i64 0, .nilIface] 104))).alloc (Nat.le_refl _) (.cells #[.int .i64 0] 26)
 have d0 := c0.later bb1
 rw [World.size_alloc] at c1 bb1
 have bb : Below w.heap.size w ((w.alloc (.cells #[.int .i64 0, .nilIface] 104)).alloc (.cells #[.int .i64 0] 26)) := bb0.trans (bb1.mono (by omega))
 have H1 := Lib.hid (And.intro d0 (And.intro c1 bb))
 have e2 := hg.later bb
 obtain ⟨W2, hW2⟩ : ∃ W2, (w.alloc (.cells #[.int .i64 0, .nilIface] 104)).alloc (.cells #[.int .i64 0] 26) = W2 := ⟨_, rfl⟩
 have hz2 : W2.heap.size = w.heap.size + 2 := by rw [← hW2]; simp
 rw [hW2] at H1 e2
 have HF : Hid (Calls Tryz.prog 55 #[.iface 104 (.agg #[.int .i64 n, .iface 26 (.int .i64 k)]), .iface 113 (.pointer (some ⟨w.heap.size, 0, none⟩))] W2 fun ev w' => ev = .returned (.bool true) ∧ CB w' w.heap.size #[.int .i64 n, .iface 26 (.int .i64 k)] 104 ∧ CB w' (w.heap.size + 1) #[.int .i64 0] 26 ∧ Below w.heap.size w w' ∧ Ety w') := by
   refine (as_hitF w.heap.size n (.int .i64 k) _ _ W2 e2 H1.out.1).mono ?_
   rintro ev w' ⟨rfl, rfl⟩
   obtain ⟨z3, _, _, _, b3⟩ := asW_facts W2 113 w.heap.size
   have b4 : Below W2.heap.size W2 ((asW3 W2 113 w.heap.size).alloc (.cells #[.int .i64 n, .iface 26 (.int .i64 k)] 104)) := b3.alloc (by omega) _
   have g0 := e2.later b4
   refine ⟨rfl, (H1.out.1.later b4).set2 _ _, (H1.out.2.1.later b4).other2 (by omega) _ _, ?_, ?_⟩
   · exact ((H1.out.2.2.trans (b4.mono (by omega))).setCell (Nat.le_refl _) _).setCell (Nat.le_refl _) _
   · have hl : 0 < w.heap.size := HG.out.lt
     exact cell_set2 g0 (by omega) _ _
 have HE : Hid (∀ W3, CB W3 w.heap.size #[.int .i64 n, .iface 26 (.int .i64 k)] 104 → CB W3 (w.heap.size + 1) #[.int .i64 0] 26 → Below w.heap.size w W3 → Ety W3 → Calls Tryz.prog 55 #[.iface 104 (.agg #[.int .i64 n, .iface 26 (.int .i64 k)]), .iface 114 (.pointer (some ⟨w.heap.size + 1, 0, none⟩))] W3 fun ev w' => ev = .returned (.bool true) ∧ CB w' w.heap.size #[.int .i64 n, .iface 26 (.int .i64 k)] 104 ∧ CB w' (w.heap.size + 1) #[.int .i64 k] 26 ∧ Below w.heap.size w w') := fun W3 q0 q1 q2 q3 => by
   refine (as_hitE (w.heap.size + 1) n k _ W3 q3 q1).mono ?_
   rintro ev w' ⟨rfl, rfl⟩
   obtain ⟨z3, _, _, _, b3⟩ := asW_facts W3 114 (w.heap.size + 1)
   have b4 : Below W3.heap.size W3 (((asW3 W3 114 (w.heap.size + 1)).alloc (.cells #[.int .i64 n, .iface 26 (.int .i64 k)] 104)).alloc (.cells #[.int .i64 k] 26)) := (b3.alloc (by omega) _).alloc (by rw [World.size_alloc]; omega) _
   refine ⟨rfl, (q0.later b4).other (by omega) _, (q1.later b4).set 0 _, (q2.trans (b4.mono q2.size)).setCell (by show w.heap.size ≤ w.heap.size + 1; omega) _⟩
 clear c0 bb0 c1 bb1 d0 bb hg e2 hz2 H1 HG
 go_enter Tryz.func31, Tryz.ntmps31
 go_wp2_with fail
 try rw [hW2]
 clear hW2
 refine HF.out.mono ?_
 rintro ev W3 ⟨rfl, q0, q1, q2, q3⟩
 have Q := Lib.hid (HE.out W3 q0 q1 q2 q3)
 clear q0 q1 q2 q3 HE HF
 go_wp2_with fail
 refine Q.out.mono ?_
 rintro ev W4 ⟨rfl, q0, q1, q2⟩
 have k0 : W4.cell? ⟨w.heap.size, 0, none⟩ = some (.int .i64 n) := q0.cell 0 (by simp)
 have k1 : W4.cell? ⟨w.heap.size + 1, 0, none⟩ = some (.int .i64 k) := q1.cell 0 (by simp)
 have HB := Lib.hid q2
 clear q0 q1 q2 Q
 go_wp2
 go_region
 go_wp2
 go_ret2
 exact ⟨rfl, HB.out.drew⟩
end Go.Proofs.YtofklahgpkmfmaaGreatDoor
