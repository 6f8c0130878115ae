/- Own texts, put together: Lk Tk Wa R Ln Qe. -/
import Derived.Test.YtkbhmglmbolbiaaGreatDoorQ2
import Derived.Deep.RegionHeld3
import Derived.KernelRfl
import Derived.Tactics
import Derived.Test.YtkbhmglmbolbiaaGreatDoorProg
import Derived.WalkKit
import Derived.WalkSpells
import Derived.WalkLawsBesides
import Derived.Below
import Derived.LaidEql
import Derived.Stop.Asserts
import Derived.RowKitTokens
import Derived.Lib.Hide
namespace Go.Proofs.YtkbhmglmbolbiaaGreatDoor
/- A drawn region, operation by operation, where some are not wanted. -/
section
open Go
section
variable {P : Program} {ops : Array Oper} {Q : Exit → Act → World → Prop} {md : Region.Mode} {S : World → Prop}
theorem take_at {i : Nat} {d : Option Tmp} {v : Value} {fuel : Nat} {listed : Array Bool} {a : Act} {w : World} (hd : (ops[i]?).map (·.dst) = some d)
   (hs : Region.noSelect ops = true) (hf : Region.free md ops listed i = true) (hr : (Region.ready md ops listed).contains i = true)
   (hQ : ∀ c a w, Q (.panic c) (a.put d v) w → Q (.panic c) a w) (hy : ∀ oi, ops[i]? = some oi → YieldsIf P ops S oi v a) (hS : S w)
   (h : wpAnyH P md ops Q S fuel (listed.setIfInBounds i true) (a.put d v) w) : wpAnyH P md ops Q S (fuel + 1) listed a w := by
 cases ho : ops[i]? with
 | none => rw [ho] at hd; cases hd
 | some oi =>
   rw [ho] at hd
   have e : oi.dst = d := Option.some.inj hd
   subst e
   exact wpAnyH_take ho hs hf hr hQ (hy oi ho) hS h
theorem call_at (i : Nat) {fuel : Nat} {listed : Array Bool} {a : Act} {w : World} (hr : Region.ready md ops listed = [i])
   (hi : (ops[i]?).isSome = true)
   (h : ∀ o, ops[i]? = some o → ∀ K' : Act → World → Prop, Shut (∀ a w, S w → (S w → wpAnyH P md ops Q S fuel (listed.setIfInBounds i true) a w) → K' a w) → if Region.wanted o (yielded ops a.tmps) = true then Oper.wp P o a w K' Q else K' (a.put o.dst undef) w) :
   wpAnyH P md ops Q S (fuel + 1) listed a w := by
 obtain ⟨o, ho⟩ := Option.isSome_iff_exists.1 hi
 exact wpAnyH_ready hr (by simp) (AllReadyH.cons ho (h o ho) AllReadyH.nil)
end
end

/- A drawn region's operations in fewer words. -/
section
open Go
section
variable {P : Program} {ops : Array Oper} {Q : Exit → Act → World → Prop} {md : Region.Mode} {S : World → Prop}
theorem takA {i : Nat} {d : Option Tmp} {v : Value} {fuel : Nat} {listed : Array Bool} {a : Act} {w : World} (hS : S w)
   (h : wpAnyH P md ops Q S fuel (listed.setIfInBounds i true) (a.put d v) w)
   (hd : (ops[i]?).map (·.dst) = some d := by kernel_rfl) (hs : Region.noSelect ops = true := by kernel_rfl)
   (hf : Region.free md ops listed i = true := by kernel_rfl) (hr : (Region.ready md ops listed).contains i = true := by kernel_rfl)
   (hQ : ∀ c a w, Q (.panic c) (a.put d v) w → Q (.panic c) a w := by exact fun _ _ _ h => h)
   (hy : ∀ oi, ops[i]? = some oi → YieldsIf P ops S oi v a := by
     intro o ho
     simp only [List.getElem?_toArray, List.getElem?_cons_succ, List.getElem?_cons_zero, Option.some.injEq] at ho
     subst ho
     refine Or.inl ⟨by rfl, ?_⟩
     intro w hSw
     (try dsimp only at hSw)
     go_simp) : wpAnyH P md ops Q S (fuel + 1) listed a w := take_at hd hs hf hr hQ hy hS h
theorem calA (i : Nat) {o : Oper} {fuel : Nat} {listed : Array Bool} {a : Act} {w : World}
   (h : ∀ K' : Act → World → Prop, Shut (∀ a w, S w → (S w → wpAnyH P md ops Q S fuel (listed.setIfInBounds i true) a w) → K' a w) → if Region.wanted o (yielded ops a.tmps) = true then Oper.wp P o a w K' Q else K' (a.put o.dst undef) w)
   (hr : Region.ready md ops listed = [i] := by kernel_rfl)
   (ho : ops[i]? = some o := by
     simp only [List.getElem?_toArray, List.getElem?_cons_succ, List.getElem?_cons_zero]
     rfl) :
   wpAnyH P md ops Q S (fuel + 1) listed a w :=
 call_at i hr (by rw [ho]; rfl) (fun o' ho' => by rw [ho] at ho'; cases ho'; exact h)
end
theorem AP : (∀ (a : Act) (t : Tmp) (v : Value), a.put (some t) v = { a with tmps := a.tmps.setIfInBounds t v }) ∧ (∀ (a : Act) (v : Value), a.put none v = a) ∧ (∀ {α : Type} (l : List α) (i : Nat) (x : α), l.toArray.setIfInBounds i x = (l.set i x).toArray) ∧ (∀ {α : Type} (x y : α) (l : List α), (x :: l).set 0 y = y :: l) ∧ (∀ {α : Type} (x y : α) (l : List α) (i : Nat), (x :: l).set (i + 1) y = x :: l.set i y) :=
 ⟨fun _ _ _ => rfl, fun _ _ => rfl, fun _ _ _ => List.setIfInBounds_toArray .., fun _ _ _ => rfl, fun _ _ _ _ => rfl⟩
end

/- Walks of the small functions of package whole: what each of them answers, for every magnitude. -/
section
open Go.RowKit
structure Ws (w : World) (s : Value) (ns : List Nat) : Prop where
 shape : ∃ a cap, s = .slice a ns.length cap ∧ ns.length ≤ cap ∧ (ns = [] ∨ ∃ b off, a = some ⟨b, off, none⟩ ∧ b < w.heap.size ∧ ∀ j, j < ns.length → w.cell? ⟨b, off + j, none⟩ = some (.int .u64 (ns.getD j 0 : Nat)))
 small : ∀ n, n ∈ ns → n < 18446744073709551616
 short : ns.length ≤ 1000000
theorem Ws.later {w w' : World} {s : Value} {ns : List Nat} {B : Nat} (h : Ws w s ns) (hb : Below B w w') (hB : w.heap.size ≤ B) : Ws w' s ns := by
 obtain ⟨⟨a, cap, hs, hcap, hc⟩, h2, h3⟩ := h
 refine ⟨⟨a, cap, hs, hcap, ?_⟩, h2, h3⟩
 rcases hc with hc | ⟨b, off, ha, hbs, hc⟩
 · exact Or.inl hc
 · exact Or.inr ⟨b, off, ha, Nat.lt_of_lt_of_le hbs hb.size, fun j hj => (hb.cell (by exact Nat.lt_of_lt_of_le hbs hB)).trans (hc j hj)⟩
end

/- Rows of the call's own: a block of cells that may be written, told whole by a list. -/
section
open Go.RowKit
def Row (w : World) (e : TypeId) (g : Nat) (xs : List Value) : Prop := w.heap[g]? = some (.cells xs.toArray e (0, 0))
theorem Row.lt {w : World} {e : TypeId} {g : Nat} {xs : List Value} (h : Row w e g xs) : g < w.heap.size := by
 unfold Row at h
 by_cases hg : g < w.heap.size
 · exact hg
 · rw [Array.getElem?_eq_none (by omega)] at h; cases h
theorem Row.cell {w : World} {e : TypeId} {g : Nat} {xs : List Value} (h : Row w e g xs) (i : Nat) (hi : i < xs.length) : w.cell? ⟨g, i, none⟩ = some xs[i] := by
 unfold Row at h; simp [World.cell?, h, hi]
theorem Row.frozen {w : World} {e : TypeId} {g : Nat} {xs : List Value} (h : Row w e g xs) (i : Nat) : w.frozen? ⟨g, i, none⟩ = false := by
 unfold Row at h; simp [World.frozen?, h]
theorem Row.set {w : World} {e : TypeId} {g : Nat} {xs : List Value} (h : Row w e g xs) (i : Nat) (v : Value) : Row (w.setCell ⟨g, i, none⟩ v) e g (xs.set i v) := by
 have hg := h.lt
 unfold Row at *
 simp [World.setCell, Array.getElem?_modify, h]
theorem Row.other {w : World} {e : TypeId} {g : Nat} {xs : List Value} (h : Row w e g xs) {a : Addr} (hn : g ≠ a.block) (v : Value) : Row (w.setCell a v) e g xs := by
 unfold Row at *; rw [Below.heap_setCell w a v g hn]; exact h
theorem Row.alloc {w : World} {e : TypeId} {g : Nat} {xs : List Value} (h : Row w e g xs) (o : Obj) : Row (w.alloc o) e g xs := by
 have := h.lt
 unfold Row at *; rw [Below.heap_alloc w o g this]; exact h
theorem Row.drew {w : World} {e : TypeId} {g : Nat} {xs : List Value} (h : Row w e g xs) : Row w.drew e g xs := h
theorem Row.below {w w' : World} {e : TypeId} {g B : Nat} {xs : List Value} (h : Row w e g xs) (hb : Below B w w') (hg : g < B) : Row w' e g xs := by
 unfold Row at *; rw [hb.block g hg]; exact h
theorem cell_ne {w : World} {p a : Addr} {x y : Value} (hp : w.cell? p = some x) (ha : w.cell? a = some y) (hxy : x ≠ y) (v : Value) : (w.setCell a v).cell? p = some x := by
 rw [World.cell?_setCell_other w a p v (by intro e; rw [← e, ha] at hp; exact hxy (Option.some.inj hp).symm)]; exact hp
theorem Ws.set {w : World} {s : Value} {ns : List Nat} (h : Ws w s ns) {a : Addr} {y : Value} (ha : w.cell? a = some y) (hy : ∀ n : Nat, y ≠ .int .u64 (n : Nat)) (v : Value) : Ws (w.setCell a v) s ns := by
 obtain ⟨⟨ad, cap, hs, hcap, hc⟩, h2, h3⟩ := h
 refine ⟨⟨ad, cap, hs, hcap, ?_⟩, h2, h3⟩
 rcases hc with hc | ⟨b, off, hb, hbs, hc⟩
 · exact Or.inl hc
 · exact Or.inr ⟨b, off, hb, by simpa using hbs, fun j hj => cell_ne (hc j hj) ha (fun e => hy _ e.symm) v⟩
def wds (l : List Nat) : List Value := l.map fun n => .int .u64 (n : Nat)
theorem wds_length (l : List Nat) : (wds l).length = l.length := by simp [wds]
theorem Row.ws {w : World} {e : TypeId} {g : Nat} {ns : List Nat} (h : Row w e g (wds ns)) (hs : Small ns) (hl : ns.length ≤ 1000000) (cap : Nat) (hcap : ns.length ≤ cap) : Ws w (.slice (some ⟨g, 0, none⟩) ns.length cap) ns :=
 ⟨⟨_, _, rfl, hcap, Or.inr ⟨g, 0, rfl, h.lt, fun j hj => by
   rw [Nat.zero_add, h.cell j (by rw [wds_length]; exact hj)]
   simp [wds, List.getD, hj]⟩⟩, hs, hl⟩
end

/- A drawn region in which one box is laid while a chain of operations goes on. -/
section
open Go Go.RowKit
section
variable {P : Program} {ops : Array Oper} {Q : Exit → Act → World → Prop} {md : Region.Mode} {S : World → Prop}
end
def CB (W : World) (b : Nat) (cs : Array Value) (t : Nat) : Prop := W.heap[b]? = some (.cells cs t (0, 0))
theorem CB.lt {W : World} {b t : Nat} {cs : Array Value} (h : CB W b cs t) : b < W.heap.size := (Array.getElem?_eq_some_iff.1 h).1
theorem CB.later {W W' : World} {b t : Nat} {cs : Array Value} (h : CB W b cs t) (hb : Below W.heap.size W W') : CB W' b cs t := by
 unfold CB
 rw [hb.block b h.lt]; exact h
theorem CB.new (W : World) (cs : Array Value) (t : Nat) : CB (W.alloc (.cells cs t)) W.heap.size cs t := heap_alloc_new W _
theorem CB.cell {W : World} {b t : Nat} {cs : Array Value} (h : CB W b cs t) (i : Nat) (hi : i < cs.size) : W.cell? ⟨b, i, none⟩ = some cs[i] := by
 unfold CB at h
 simp [World.cell?, h, hi]
theorem CB.frozen {W : World} {b t : Nat} {cs : Array Value} (h : CB W b cs t) (i : Nat) : W.frozen? ⟨b, i, none⟩ = false := by
 unfold CB at h
 simp [World.frozen?, h]
theorem CB.set {W : World} {b t : Nat} {cs : Array Value} (h : CB W b cs t) (i : Nat) (v : Value) : CB (W.setCell ⟨b, i, none⟩ v) b (cs.set! i v) t := by
 unfold CB at h ⊢
 simp [World.setCell, Array.getElem?_modify, h]
theorem CB.other {W : World} {b t g i : Nat} {cs : Array Value} (h : CB W b cs t) (hn : b ≠ g) (v : Value) : CB (W.setCell ⟨g, i, none⟩ v) b cs t := by
 unfold CB at h ⊢
 rw [Below.heap_setCell _ ⟨g, i, none⟩ v b hn]; exact h
theorem CB.drew {W : World} {b t : Nat} {cs : Array Value} (h : CB W b cs t) : CB W.drew b cs t := h
theorem CB.set2 {W : World} {b t : Nat} {u0 u1 : Value} (h : CB W b #[u0, u1] t) (v0 v1 : Value) : CB ((W.setCell ⟨b, 0, none⟩ v0).setCell ⟨b, 1, none⟩ v1) b #[v0, v1] t := by
 simpa using ((h.set 0 v0).set 1 v1)
theorem CB.other2 {W : World} {g t b : Nat} {cs : Array Value} (h : CB W g cs t) (hn : g ≠ b) (v0 v1 : Value) : CB ((W.setCell ⟨b, 0, none⟩ v0).setCell ⟨b, 1, none⟩ v1) g cs t := ((h.other hn v0).other hn v1)
theorem cell_set2 {W : World} {g i b : Nat} {x : Value} (h : W.cell? ⟨g, i, none⟩ = some x) (hn : g ≠ b) (v0 v1 : Value) : ((W.setCell ⟨b, 0, none⟩ v0).setCell ⟨b, 1, none⟩ v1).cell? ⟨g, i, none⟩ = some x := by
 rw [World.cell?_setCell_other _ _ _ v1 (by intro e; cases e; exact hn rfl), World.cell?_setCell_other _ _ _ v0 (by intro e; cases e; exact hn rfl)]; exact h
theorem CB.set3 {W : World} {b t : Nat} {u0 u1 u2 : Value} (h : CB W b #[u0, u1, u2] t) (v0 v1 v2 : Value) : CB (((W.setCell ⟨b, 0, none⟩ v0).setCell ⟨b, 1, none⟩ v1).setCell ⟨b, 2, none⟩ v2) b #[v0, v1, v2] t := by
 simpa using (((h.set 0 v0).set 1 v1).set 2 v2)
theorem CB.other3 {W : World} {g t b : Nat} {cs : Array Value} (h : CB W g cs t) (hn : g ≠ b) (v0 v1 v2 : Value) : CB (((W.setCell ⟨b, 0, none⟩ v0).setCell ⟨b, 1, none⟩ v1).setCell ⟨b, 2, none⟩ v2) g cs t := (((h.other hn v0).other hn v1).other hn v2)
end

/- errors.As at a target of type fault, and at one of type Errno; told. -/
section
open Go.RowKit Go.Extern.Stop Go.Stop Go.Extern
theorem rlm (z : Sem Value) (f : TypeId → Addr → Nat → Nat → Sem Value) (v : Value) :
   ReflectliteValue.method z f #[v] = (do match ← ReflectliteValue.parts v with | none => z | some (t, a, fl) => f t a fl (fl % 32)) := rfl
theorem rls (v x : Value) : ReflectliteValue.set #[v, x] = (do
   let (some (dst, a, fl), some (src, b, _)) := (← ReflectliteValue.parts v, ← ReflectliteValue.parts x)
     | unsupported (.noEntry "extern/(internal/reflectlite.Value).Set.zeroValue")
   if fl / ReflectliteValue.flagAddr % 2 == 0 then unsupported (.noEntry "extern/(internal/reflectlite.Value).Set.unaddressable")
   let val ← loadVar src b
   if ← Rtype.directlyAssignable dst src then storeVar dst a val
   else if ← Rtype.implements dst src then
     if (← Rtype.kind src) == 20 then
       match val with
       | .nilIface => unsupported (.noEntry "extern/reflectlite: a nil value of one interface type handed on as a value of another")
       | _ => storeVar dst a val
     else storeVar dst a (.iface src val)
   else panicString ("reflectlite.Set: value of type " ++ (← Rtype.spelt src) ++ " is not assignable to type " ++ (← Rtype.spelt dst))
   pure (.tuple #[])) := rfl
theorem as_methodKind (h : Value) (w : World) : (Go.method 344 166 (.agg #[h]) "Kind").run Tryz.prog w = .ok (165, h) w := by kernel_rfl
theorem as_methodElem (h : Value) (w : World) : (Go.method 344 166 (.agg #[h]) "Elem").run Tryz.prog w = .ok (178, .agg #[h]) w := by kernel_rfl
theorem as_methodImplements (h : Value) (w : World) : (Go.method 344 166 (.agg #[h]) "Implements").run Tryz.prog w = .ok (179, .agg #[h]) w := by kernel_rfl
theorem as_methodAssignableTo (h : Value) (w : World) : (Go.method 344 166 (.agg #[h]) "AssignableTo").run Tryz.prog w = .ok (176, .agg #[h]) w := by kernel_rfl
theorem as_methodUnwrap (v : Value) (w : World) : (Go.method 344 87 v "Unwrap").run Tryz.prog w = .ok (170, v) w := by kernel_rfl
theorem as_noAs (v : Value) (xT : TypeId) (w : World) : (Instr.typeAssert (.iface 87 v) xT 171 true).run Tryz.prog w = .ok (.tuple #[.nilIface, .bool false]) w := run_typeAssert_lacksB Tryz.underlying171 (by kernel_rfl) (by kernel_rfl) v xT w
theorem as_hasUnwrap (v : Value) (xT : TypeId) (w : World) : (Instr.typeAssert (.iface 87 v) xT 174 true).run Tryz.prog w = .ok (.tuple #[.iface 87 v, .bool true]) w := run_typeAssert_hasB Tryz.underlying174 (by kernel_rfl) v xT w
theorem as_valueOfFp (t : Addr) (w : World) : (ReflectliteValue.unpack (.iface 96 (.pointer (some t)))).run Tryz.prog w
   = .ok (.agg #[.pointer (some ⟨6, 96, none⟩), .pointer (some ⟨w.heap.size, 0, none⟩), .int .u64 150]) (w.alloc (.cells #[.pointer (some t)] 96)) := by kernel_rfl
theorem as_typeFp (a : Addr) (w : World) : (ReflectliteValue.methodAny (ReflectliteValue.valueError "reflectlite.Value.Type" 0) (fun t _ _ _ => ReflectliteType.toType t) #[.agg #[.pointer (some ⟨6, 96, none⟩), .pointer (some a), .int .u64 150]]).run Tryz.prog w
   = .ok (.iface 166 (.agg #[.pointer (some ⟨6, 96, none⟩)])) w := by kernel_rfl
theorem as_kindFp (w : World) : ((ReflectliteType.abiMethod fun t => (fun a : Nat => Value.int IntKind.u8 (a : Int)) <$> Rtype.kind t) #[.pointer (some ⟨6, 96, none⟩)]).run Tryz.prog w = .ok (.int .u8 22) w := by kernel_rfl
theorem as_kindF (w : World) : ((ReflectliteType.abiMethod fun t => (fun a : Nat => Value.int IntKind.u8 (a : Int)) <$> Rtype.kind t) #[.pointer (some ⟨6, 87, none⟩)]).run Tryz.prog w = .ok (.int .u8 25) w := by kernel_rfl
theorem as_partsFp (a : Addr) (w : World) : (ReflectliteValue.parts (.agg #[.pointer (some ⟨6, 96, none⟩), .pointer (some a), .int .u64 150])).run Tryz.prog w = .ok (some (96, a, 150)) w := by kernel_rfl
theorem as_isNilFp (a p : Addr) (W : World) (ha : W.cell? a = some (.pointer (some p))) :
   (ReflectliteValue.method (ReflectliteValue.valueError "reflectlite.Value.IsNil" 0) ReflectliteValue.isNil #[.agg #[.pointer (some ⟨6, 96, none⟩), .pointer (some a), .int .u64 150]]).run Tryz.prog W = .ok (.bool false) W := by
 rw [rlm]
 simp only [Sem.run_bind, as_partsFp, Result.andThen]
 simp [ReflectliteValue.isNil, loadVar, isAgg, underlying, Tryz.underlying96, ha, Result.andThen]
theorem as_elemFp (w : World) : (ReflectliteType.method ReflectliteType.elem #[.agg #[.pointer (some ⟨6, 96, none⟩)]]).run Tryz.prog w = .ok (.iface 166 (.agg #[.pointer (some ⟨6, 87, none⟩)])) w := by kernel_rfl
theorem as_implementsF (w : World) : (ReflectliteType.relation "Implements" ReflectliteType.implements_ #[.agg #[.pointer (some ⟨6, 87, none⟩)], .iface 166 (.agg #[.pointer (some ⟨6, 67, none⟩)])]).run Tryz.prog w = .ok (.bool true) w := by kernel_rfl
theorem as_typeOfF (v : Value) (w : World) : (ReflectliteType.typeOf #[.iface 87 v]).run Tryz.prog w = .ok (.iface 166 (.agg #[.pointer (some ⟨6, 87, none⟩)])) w := by kernel_rfl
theorem as_assignableF (w : World) : (ReflectliteType.relation "AssignableTo" ReflectliteType.assignableTo #[.agg #[.pointer (some ⟨6, 87, none⟩)], .iface 166 (.agg #[.pointer (some ⟨6, 87, none⟩)])]).run Tryz.prog w = .ok (.bool true) w := by kernel_rfl
theorem as_elemOfFp (w : World) : (Rtype.elem? 96).run Tryz.prog w = .ok (some 87) w := by kernel_rfl
theorem as_mkF (p : Addr) (w : World) : (ReflectliteValue.mk 87 p ReflectliteValue.flagAddr).run Tryz.prog w = .ok (.agg #[.pointer (some ⟨6, 87, none⟩), .pointer (some p), .int .u64 409]) w := by kernel_rfl
theorem as_elemVFp (a p : Addr) (W : World) (ha : W.cell? a = some (.pointer (some p))) :
   (ReflectliteValue.method (ReflectliteValue.valueError "reflectlite.Value.Elem" 0) ReflectliteValue.elem #[.agg #[.pointer (some ⟨6, 96, none⟩), .pointer (some a), .int .u64 150]]).run Tryz.prog W
     = .ok (.agg #[.pointer (some ⟨6, 87, none⟩), .pointer (some p), .int .u64 409]) W := by
 rw [rlm]
 simp only [Sem.run_bind, as_partsFp, Result.andThen]
 simp [ReflectliteValue.elem, loadVar, isAgg, underlying, Tryz.underlying96, ha, Result.andThen, as_elemOfFp, as_mkF]
theorem as_partsFa (a : Addr) (w : World) : (ReflectliteValue.parts (.agg #[.pointer (some ⟨6, 87, none⟩), .pointer (some a), .int .u64 409])).run Tryz.prog w = .ok (some (87, a, 409)) w := by kernel_rfl
theorem as_partsF (a : Addr) (w : World) : (ReflectliteValue.parts (.agg #[.pointer (some ⟨6, 87, none⟩), .pointer (some a), .int .u64 153])).run Tryz.prog w = .ok (some (87, a, 153)) w := by kernel_rfl
theorem as_directF (w : World) : (Rtype.directlyAssignable 87 87).run Tryz.prog w = .ok true w := by kernel_rfl
theorem as_valueOfEp (t : Addr) (w : World) : (ReflectliteValue.unpack (.iface 97 (.pointer (some t)))).run Tryz.prog w
   = .ok (.agg #[.pointer (some ⟨6, 97, none⟩), .pointer (some ⟨w.heap.size, 0, none⟩), .int .u64 150]) (w.alloc (.cells #[.pointer (some t)] 97)) := by kernel_rfl
theorem as_typeEp (a : Addr) (w : World) : (ReflectliteValue.methodAny (ReflectliteValue.valueError "reflectlite.Value.Type" 0) (fun t _ _ _ => ReflectliteType.toType t) #[.agg #[.pointer (some ⟨6, 97, none⟩), .pointer (some a), .int .u64 150]]).run Tryz.prog w
   = .ok (.iface 166 (.agg #[.pointer (some ⟨6, 97, none⟩)])) w := by kernel_rfl
theorem as_kindEp (w : World) : ((ReflectliteType.abiMethod fun t => (fun a : Nat => Value.int IntKind.u8 (a : Int)) <$> Rtype.kind t) #[.pointer (some ⟨6, 97, none⟩)]).run Tryz.prog w = .ok (.int .u8 22) w := by kernel_rfl
theorem as_kindE (w : World) : ((ReflectliteType.abiMethod fun t => (fun a : Nat => Value.int IntKind.u8 (a : Int)) <$> Rtype.kind t) #[.pointer (some ⟨6, 26, none⟩)]).run Tryz.prog w = .ok (.int .u8 2) w := by kernel_rfl
theorem as_partsEp (a : Addr) (w : World) : (ReflectliteValue.parts (.agg #[.pointer (some ⟨6, 97, none⟩), .pointer (some a), .int .u64 150])).run Tryz.prog w = .ok (some (97, a, 150)) w := by kernel_rfl
theorem as_isNilEp (a p : Addr) (W : World) (ha : W.cell? a = some (.pointer (some p))) :
   (ReflectliteValue.method (ReflectliteValue.valueError "reflectlite.Value.IsNil" 0) ReflectliteValue.isNil #[.agg #[.pointer (some ⟨6, 97, none⟩), .pointer (some a), .int .u64 150]]).run Tryz.prog W = .ok (.bool false) W := by
 rw [rlm]
 simp only [Sem.run_bind, as_partsEp, Result.andThen]
 simp [ReflectliteValue.isNil, loadVar, isAgg, underlying, Tryz.underlying97, ha, Result.andThen]
theorem as_elemEp (w : World) : (ReflectliteType.method ReflectliteType.elem #[.agg #[.pointer (some ⟨6, 97, none⟩)]]).run Tryz.prog w = .ok (.iface 166 (.agg #[.pointer (some ⟨6, 26, none⟩)])) w := by kernel_rfl
theorem as_implementsE (w : World) : (ReflectliteType.relation "Implements" ReflectliteType.implements_ #[.agg #[.pointer (some ⟨6, 26, none⟩)], .iface 166 (.agg #[.pointer (some ⟨6, 67, none⟩)])]).run Tryz.prog w = .ok (.bool true) w := by kernel_rfl
theorem as_typeOfE (v : Value) (w : World) : (ReflectliteType.typeOf #[.iface 26 v]).run Tryz.prog w = .ok (.iface 166 (.agg #[.pointer (some ⟨6, 26, none⟩)])) w := by kernel_rfl
theorem as_assignableE (w : World) : (ReflectliteType.relation "AssignableTo" ReflectliteType.assignableTo #[.agg #[.pointer (some ⟨6, 26, none⟩)], .iface 166 (.agg #[.pointer (some ⟨6, 26, none⟩)])]).run Tryz.prog w = .ok (.bool true) w := by kernel_rfl
theorem as_elemOfEp (w : World) : (Rtype.elem? 97).run Tryz.prog w = .ok (some 26) w := by kernel_rfl
theorem as_mkE (p : Addr) (w : World) : (ReflectliteValue.mk 26 p ReflectliteValue.flagAddr).run Tryz.prog w = .ok (.agg #[.pointer (some ⟨6, 26, none⟩), .pointer (some p), .int .u64 386]) w := by kernel_rfl
theorem as_elemVEp (a p : Addr) (W : World) (ha : W.cell? a = some (.pointer (some p))) :
   (ReflectliteValue.method (ReflectliteValue.valueError "reflectlite.Value.Elem" 0) ReflectliteValue.elem #[.agg #[.pointer (some ⟨6, 97, none⟩), .pointer (some a), .int .u64 150]]).run Tryz.prog W
     = .ok (.agg #[.pointer (some ⟨6, 26, none⟩), .pointer (some p), .int .u64 386]) W := by
 rw [rlm]
 simp only [Sem.run_bind, as_partsEp, Result.andThen]
 simp [ReflectliteValue.elem, loadVar, isAgg, underlying, Tryz.underlying97, ha, Result.andThen, as_elemOfEp, as_mkE]
theorem as_partsEa (a : Addr) (w : World) : (ReflectliteValue.parts (.agg #[.pointer (some ⟨6, 26, none⟩), .pointer (some a), .int .u64 386])).run Tryz.prog w = .ok (some (26, a, 386)) w := by kernel_rfl
theorem as_partsE (a : Addr) (w : World) : (ReflectliteValue.parts (.agg #[.pointer (some ⟨6, 26, none⟩), .pointer (some a), .int .u64 130])).run Tryz.prog w = .ok (some (26, a, 130)) w := by kernel_rfl
theorem as_directE (w : World) : (Rtype.directlyAssignable 26 26).run Tryz.prog w = .ok true w := by kernel_rfl
theorem as_notFE (w : World) : (ReflectliteType.relation "AssignableTo" ReflectliteType.assignableTo #[.agg #[.pointer (some ⟨6, 87, none⟩)], .iface 166 (.agg #[.pointer (some ⟨6, 26, none⟩)])]).run Tryz.prog w = .ok (.bool false) w := by kernel_rfl
theorem as_valueOfF (n : Int) (v : Value) (w : World) : (ReflectliteValue.unpack (.iface 87 (.agg #[.int .i64 n, .iface 26 v]))).run Tryz.prog w
   = .ok (.agg #[.pointer (some ⟨6, 87, none⟩), .pointer (some ⟨w.heap.size, 0, none⟩), .int .u64 153]) (w.alloc (.cells #[.int .i64 n, .iface 26 v] 87)) := by kernel_rfl
theorem as_valueOfE (n : Int) (w : World) : (ReflectliteValue.unpack (.iface 26 (.int .i64 n))).run Tryz.prog w
   = .ok (.agg #[.pointer (some ⟨6, 26, none⟩), .pointer (some ⟨w.heap.size, 0, none⟩), .int .u64 130]) (w.alloc (.cells #[.int .i64 n] 26)) := by kernel_rfl
theorem as_setE (ta b : Addr) (n : Int) (old : Value) (W : World) (hb : W.cell? b = some (.int .i64 n)) (ht : W.cell? ta = some old) (hf : W.frozen? ta = false) :
   (ReflectliteValue.set #[.agg #[.pointer (some ⟨6, 26, none⟩), .pointer (some ta), .int .u64 386], .agg #[.pointer (some ⟨6, 26, none⟩), .pointer (some b), .int .u64 130]]).run Tryz.prog W
     = .ok (.tuple #[]) (W.setCell ta (.int .i64 n)) := by
 rw [rls]
 simp only [Sem.run_bind, as_partsEa, as_partsE, Result.andThen]
 simp [ReflectliteValue.flagAddr, loadVar, isAgg, underlying, Tryz.underlying26, hb, Result.andThen, as_directE, storeVar, Value.cells, storeCells, Addr.add]
 rw [run_store Tryz.prog W ta _ _ (by rfl)]
 simp [ht, hf]
end
end Go.Proofs.YtkbhmglmbolbiaaGreatDoor
