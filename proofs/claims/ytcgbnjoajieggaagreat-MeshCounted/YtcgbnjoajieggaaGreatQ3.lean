/- Own texts, put together: Lk Tk Ma Mb. -/
import Derived.Deep.RegionHeld3
import Derived.KernelRfl
import Derived.Tactics
import Derived.Test.YtcgbnjoajieggaaGreatProg
import Derived.Laws.StructEq
namespace Go.Proofs.YtcgbnjoajieggaaGreat
/- A drawn region, operation by operation, where some are not wanted. -/
section
open Go
section
variable {P : Program} {ops : Array Oper} {Q : Exit → Act → World → Prop} {md : Region.Mode} {S : World → Prop}
theorem take_at {i : Nat} {d : Option Tmp} {v : Value} {fuel : Nat} {listed : Array Bool} {a : Act} {w : World} (hd : (ops[i]?).map (·.dst) = some d)
   (hs : Region.noSelect ops = true) (hf : Region.free md ops listed i = true) (hr : (Region.ready md ops listed).contains i = true)
   (hQ : ∀ c a w, Q (.panic c) (a.put d v) w → Q (.panic c) a w) (hy : ∀ oi, ops[i]? = some oi → YieldsIf P ops S oi v a) (hS : S w)
   (h : wpAnyH P md ops Q S fuel (listed.setIfInBounds i true) (a.put d v) w) : wpAnyH P md ops Q S (fuel + 1) listed a w := by
 cases ho : ops[i]? with
 | none => rw [ho] at hd; cases hd
 | some oi =>
   rw [ho] at hd
   have e : oi.dst = d := Option.some.inj hd
   subst e
   exact wpAnyH_take ho hs hf hr hQ (hy oi ho) hS h
theorem skip_at (i : Nat) {d : Option Tmp} {fuel : Nat} {listed : Array Bool} {a : Act} {w : World} (hd : (ops[i]?).map (·.dst) = some d)
   (hs : Region.noSelect ops = true) (hf : Region.free md ops listed i = true) (hr : (Region.ready md ops listed).contains i = true)
   (hQ : ∀ c a w, Q (.panic c) (a.put d undef) w → Q (.panic c) a w) (hw : (ops[i]?).map (fun o => Region.wanted o (yielded ops a.tmps)) = some false) (hS : S w)
   (h : wpAnyH P md ops Q S fuel (listed.setIfInBounds i true) (a.put d undef) w) : wpAnyH P md ops Q S (fuel + 1) listed a w :=
 take_at hd hs hf hr hQ (fun oi ho => Or.inr ⟨by rw [ho] at hw; exact Option.some.inj hw, rfl⟩) hS h
theorem call_at (i : Nat) {fuel : Nat} {listed : Array Bool} {a : Act} {w : World} (hr : Region.ready md ops listed = [i])
   (hi : (ops[i]?).isSome = true)
   (h : ∀ o, ops[i]? = some o → ∀ K' : Act → World → Prop, Shut (∀ a w, S w → (S w → wpAnyH P md ops Q S fuel (listed.setIfInBounds i true) a w) → K' a w) → if Region.wanted o (yielded ops a.tmps) = true then Oper.wp P o a w K' Q else K' (a.put o.dst undef) w) :
   wpAnyH P md ops Q S (fuel + 1) listed a w := by
 obtain ⟨o, ho⟩ := Option.isSome_iff_exists.1 hi
 exact wpAnyH_ready hr (by simp) (AllReadyH.cons ho (h o ho) AllReadyH.nil)
end
end

/- A drawn region's operations in fewer words. -/
section
open Go
section
variable {P : Program} {ops : Array Oper} {Q : Exit → Act → World → Prop} {md : Region.Mode} {S : World → Prop}
theorem calA (i : Nat) {o : Oper} {fuel : Nat} {listed : Array Bool} {a : Act} {w : World}
   (h : ∀ K' : Act → World → Prop, Shut (∀ a w, S w → (S w → wpAnyH P md ops Q S fuel (listed.setIfInBounds i true) a w) → K' a w) → if Region.wanted o (yielded ops a.tmps) = true then Oper.wp P o a w K' Q else K' (a.put o.dst undef) w)
   (hr : Region.ready md ops listed = [i] := by kernel_rfl)
   (ho : ops[i]? = some o := by
     simp only [List.getElem?_toArray, List.getElem?_cons_succ, List.getElem?_cons_zero]
     rfl) :
   wpAnyH P md ops Q S (fuel + 1) listed a w :=
 call_at i hr (by rw [ho]; rfl) (fun o' ho' => by rw [ho] at ho'; cases ho'; exact h)
end
theorem AP : (∀ (a : Act) (t : Tmp) (v : Value), a.put (some t) v = { a with tmps := a.tmps.setIfInBounds t v }) ∧ (∀ (a : Act) (v : Value), a.put none v = a) ∧ (∀ {α : Type} (l : List α) (i : Nat) (x : α), l.toArray.setIfInBounds i x = (l.set i x).toArray) ∧ (∀ {α : Type} (x y : α) (l : List α), (x :: l).set 0 y = y :: l) ∧ (∀ {α : Type} (x y : α) (l : List α) (i : Nat), (x :: l).set (i + 1) y = x :: l.set i y) :=
 ⟨fun _ _ _ => rfl, fun _ _ => rfl, fun _ _ _ => List.setIfInBounds_toArray .., fun _ _ _ => rfl, fun _ _ _ _ => rfl⟩
end

/- Package mesh, plain: the triangles around each point; how they are laid and lifted; sorted rows. -/
section
abbrev Wg := Nat × Nat
theorem nodup_get {α : Type} {l : List α} : l.Nodup ↔ ∀ i j : Nat, i < j → j < l.length → l[i]? ≠ l[j]? := by
 unfold List.Nodup
 rw [List.pairwise_iff_getElem]
 constructor
 · intro h i j hij hj e
   rw [List.getElem?_eq_getElem (by omega), List.getElem?_eq_getElem hj] at e
   exact h i j (by omega) hj hij (Option.some.inj e)
 · intro h i j hi hj hij e
   exact h i j hij hj (by rw [List.getElem?_eq_getElem hi, List.getElem?_eq_getElem hj, e])
def plc (A : List (List Wg)) (a b : Int) : Option Nat := if a < 0 then none else (A[a.toNat]?).bind fun fan => fan.findIdx? (fun w => (w.1 : Int) == b)
def Hw (A : List (List Wg)) (a b c : Nat) : Prop := ∃ fan, A[a]? = some fan ∧ (b, c) ∈ fan
def layA (A : List (List Wg)) (a : Nat) (w : Wg) : List (List Wg) := A.set a (A.getD a [] ++ [w])
def cnt (A : List (List Wg)) : Nat := (A.map List.length).sum
theorem plc_some {A : List (List Wg)} {a b : Int} {k : Nat} (h : plc A a b = some k) : ∃ (a' : Nat) (fan : List Wg) (c : Nat), a = (a' : Int) ∧ A[a']? = some fan ∧ ∃ b' : Nat, b = (b' : Int) ∧ fan[k]? = some (b', c) := by
 unfold plc at h
 by_cases h0 : a < 0
 · rw [if_pos h0] at h; cases h
 · rw [if_neg h0] at h
   cases hf : A[a.toNat]? with
   | none => rw [hf] at h; cases h
   | some fan =>
     rw [hf] at h
     simp only [Option.bind_some] at h
     rw [List.findIdx?_eq_some_iff_getElem] at h
     obtain ⟨hk, h1, _⟩ := h
     refine ⟨a.toNat, fan, fan[k].2, by omega, hf, fan[k].1, by simpa using (beq_iff_eq.1 h1).symm, List.getElem?_eq_getElem hk⟩
theorem plc_none {A : List (List Wg)} {a b : Int} : plc A a b = none ↔ ∀ (a' b' c : Nat), a = (a' : Int) → b = (b' : Int) → ¬ Hw A a' b' c := by
 unfold plc
 by_cases h0 : a < 0
 · rw [if_pos h0]
   exact ⟨fun _ a' b' c e => by omega, fun _ => rfl⟩
 · rw [if_neg h0]
   cases hf : A[a.toNat]? with
   | none =>
     refine ⟨fun _ a' b' c e _ ⟨fan, h1, _⟩ => ?_, fun _ => rfl⟩
     rw [show a' = a.toNat by omega, hf] at h1; cases h1
   | some fan =>
     simp only [Option.bind_some]
     rw [List.findIdx?_eq_none_iff]
     constructor
     · rintro h a' b' c e e' ⟨fan', h1, h2⟩
       rw [show a' = a.toNat by omega, hf] at h1
       cases h1
       have := h _ h2
       rw [beq_eq_false_iff_ne] at this
       exact this (by simpa using e'.symm)
     · intro h x hx
       rw [beq_eq_false_iff_ne]
       intro e
       exact h a.toNat x.1 x.2 (by omega) e.symm ⟨fan, hf, hx⟩
def Uq (A : List (List Wg)) : Prop := ∀ (a : Nat) (fan : List Wg), A[a]? = some fan → (fan.map (·.1)).Nodup
theorem fan_place {fan : List Wg} (hn : (fan.map (·.1)).Nodup) {k : Nat} {w : Wg} (h : fan[k]? = some w) : fan.findIdx? (fun x => (x.1 : Int) == (w.1 : Int)) = some k := by
 obtain ⟨hk, e⟩ := List.getElem?_eq_some_iff.1 h
 rw [List.findIdx?_eq_some_iff_getElem]
 refine ⟨hk, by rw [e]; simp, fun j hj => ?_⟩
 intro hc
 have hc' : fan[j].1 = w.1 := by have := beq_iff_eq.1 hc; omega
 have := (nodup_get.1 hn) j k hj (by simpa using hk)
 apply this
 rw [List.getElem?_map, List.getElem?_map, List.getElem?_eq_getElem (by omega), h]
 simp [hc']
theorem plc_at {A : List (List Wg)} (hu : Uq A) {a k : Nat} {fan : List Wg} {w : Wg} (ha : A[a]? = some fan) (h : fan[k]? = some w) : plc A (a : Nat) (w.1 : Nat) = some k := by
 unfold plc
 rw [if_neg (by omega), Int.toNat_natCast, ha]
 exact fan_place (hu a fan ha) h
theorem Hw.plc {A : List (List Wg)} (hu : Uq A) {a b c : Nat} (h : Hw A a b c) : ∃ k fan, plc A (a : Nat) (b : Nat) = some k ∧ A[a]? = some fan ∧ fan[k]? = some (b, c) := by
 obtain ⟨fan, h1, h2⟩ := h
 obtain ⟨k, hk⟩ := List.mem_iff_getElem?.1 h2
 exact ⟨k, fan, plc_at hu h1 hk, h1, hk⟩
theorem Hw.fn {A : List (List Wg)} (hu : Uq A) {a b c d : Nat} (h : Hw A a b c) (g : Hw A a b d) : c = d := by
 obtain ⟨k, fan, h1, h2, h3⟩ := h.plc hu
 obtain ⟨k', fan', g1, g2, g3⟩ := g.plc hu
 rw [h1] at g1; cases g1
 rw [h2] at g2; cases g2
 rw [h3] at g3; cases g3; rfl
/-! Laying. -/
theorem getA_lay {A : List (List Wg)} {a : Nat} {w : Wg} (ha : a < A.length) (x : Nat) : (layA A a w)[x]? = if a = x then some (A.getD a [] ++ [w]) else A[x]? := by
 unfold layA
 rw [List.getElem?_set]
 by_cases e : a = x
 · rw [if_pos e, if_pos e, if_pos ha]
 · rw [if_neg e, if_neg e]
theorem Hw_lay {A : List (List Wg)} {a : Nat} {w : Wg} (ha : a < A.length) {x y z : Nat} : Hw (layA A a w) x y z ↔ Hw A x y z ∨ (x = a ∧ (y, z) = w) := by
 unfold Hw
 rw [getA_lay ha]
 by_cases e : a = x
 · subst e
   rw [if_pos rfl]
   have hg : A[a]? = some (A.getD a []) := by rw [List.getD_eq_getElem?_getD, List.getElem?_eq_getElem ha]; rfl
   constructor
   · rintro ⟨fan, h1, h2⟩
     cases h1
     rcases List.mem_append.1 h2 with h2 | h2
     · exact Or.inl ⟨_, hg, h2⟩
     · exact Or.inr ⟨rfl, List.mem_singleton.1 h2⟩
   · rintro (⟨fan, h1, h2⟩ | ⟨_, h2⟩)
     · rw [hg] at h1; cases h1
       exact ⟨_, rfl, List.mem_append.2 (Or.inl h2)⟩
     · exact ⟨_, rfl, List.mem_append.2 (Or.inr (List.mem_singleton.2 h2))⟩
 · rw [if_neg e]
   exact ⟨Or.inl, fun h => h.resolve_right fun h => e h.1.symm⟩
theorem len_lay {A : List (List Wg)} {a : Nat} {w : Wg} : (layA A a w).length = A.length := by unfold layA; rw [List.length_set]
theorem uq_lay {A : List (List Wg)} (hu : Uq A) {a : Nat} {w : Wg} (ha : a < A.length) (hn : plc A (a : Nat) (w.1 : Nat) = none) : Uq (layA A a w) := by
 intro x fan h
 rw [getA_lay ha] at h
 by_cases e : a = x
 · subst e
   rw [if_pos rfl] at h
   cases h
   have hg : A[a]? = some (A.getD a []) := by rw [List.getD_eq_getElem?_getD, List.getElem?_eq_getElem ha]; rfl
   rw [List.map_append, List.nodup_append]
   refine ⟨hu a _ hg, by simp, fun x hx y hy => ?_⟩
   have hy' : y = w.1 := by simpa using hy
   obtain ⟨v, hv, rfl⟩ := List.mem_map.1 hx
   rw [hy']
   intro e
   exact plc_none.1 hn a w.1 v.2 rfl rfl ⟨_, hg, by rw [← e]; exact hv⟩
 · rw [if_neg e] at h
   exact hu x fan h
theorem plc_lay {A : List (List Wg)} (hu : Uq A) {a : Nat} {w : Wg} (ha : a < A.length) (hn : plc A (a : Nat) (w.1 : Nat) = none) (x y : Int) :
   plc (layA A a w) x y = if x = (a : Nat) ∧ y = (w.1 : Nat) then some (A.getD a []).length else plc A x y := by
 have hg : A[a]? = some (A.getD a []) := by rw [List.getD_eq_getElem?_getD, List.getElem?_eq_getElem ha]; rfl
 by_cases e : x = (a : Nat) ∧ y = (w.1 : Nat)
 · rw [if_pos e, e.1, e.2]
   exact plc_at (uq_lay hu ha hn) (fan := A.getD a [] ++ [w]) (by rw [getA_lay ha, if_pos rfl]) (by rw [List.getElem?_append_right (Nat.le_refl _)]; simp)
 · rw [if_neg e]
   unfold plc
   by_cases h0 : x < 0
   · rw [if_pos h0, if_pos h0]
   · rw [if_neg h0, if_neg h0, getA_lay ha]
     by_cases e2 : a = x.toNat
     · rw [if_pos e2, ← e2, hg]
       simp only [Option.bind_some]
       have hyw : ¬ ((w.1 : Int) == y) = true := fun h => e ⟨by omega, (beq_iff_eq.1 h).symm⟩
       rw [List.findIdx?_append]
       have : List.findIdx? (fun w => (w.1 : Int) == y) [w] = none := by simp [List.findIdx?_cons, hyw]
       rw [this]
       cases List.findIdx? (fun w => (w.1 : Int) == y) (A.getD a []) <;> rfl
     · rw [if_neg e2]
theorem sum_set : ∀ (l : List Nat) (a n : Nat), a < l.length → (l.set a n).sum + l.getD a 0 = l.sum + n := by
 intro l
 induction l with
 | nil => intro a n h; simp at h
 | cons x r ih =>
   intro a n h
   cases a with
   | zero => simp; omega
   | succ a =>
     have := ih a n (by simpa using h)
     simp only [List.set_cons_succ, List.sum_cons, List.getD_cons_succ]
     omega
theorem cnt_set (A : List (List Wg)) (a : Nat) (fan : List Wg) (ha : a < A.length) : cnt (A.set a fan) + (A.getD a []).length = cnt A + fan.length := by
 unfold cnt
 rw [List.map_set]
 have := sum_set (A.map List.length) a fan.length (by simpa using ha)
 rw [List.getD_eq_getElem?_getD, List.getElem?_map, List.getElem?_eq_getElem ha] at this
 rw [List.getD_eq_getElem?_getD, List.getElem?_eq_getElem ha]
 simpa using this
theorem cnt_lay {A : List (List Wg)} {a : Nat} {w : Wg} (ha : a < A.length) : cnt (layA A a w) = cnt A + 1 := by
 unfold layA
 have := cnt_set A a (A.getD a [] ++ [w]) ha
 rw [List.length_append] at this
 simp only [List.length_cons, List.length_nil] at this
 omega
/-! Lifting. -/
end

/- Package mesh: a map whose keys are pairs of numbers. -/
section
abbrev K2 := Int × Int
def k2 (a b : Int) : Value := .agg #[.int .i64 a, .int .i64 b]
theorem eqIn (x y : Int) (w : World) (n : Nat) : (Op.equalIn (n + 1) 3 (.int .i64 x) (.int .i64 y)).run Tryz.prog w = .ok (x == y) w := by
 simp [Op.equalIn, run_underlying Tryz.underlying3]
theorem part2_0 (a b : Int) (w : World) : (part 3 #[.int .i64 a, .int .i64 b] 0).run Tryz.prog w = .ok (.int .i64 a) w := by
 go_simp
theorem part2_1 (a b : Int) (w : World) : (part 3 #[.int .i64 a, .int .i64 b] 1).run Tryz.prog w = .ok (.int .i64 b) w := by
 go_simp
theorem eqK2 (a b c d : Int) (w : World) : (Op.equalIn 10000 71 (k2 a b) (k2 c d)).run Tryz.prog w = .ok ((a == c) && (b == d)) w := by
 unfold k2
 rw [Op.equalIn]
 simp only [Sem.run_bind, run_underlying Tryz.underlying71, Result.andThen_ok]
 have hs : (Go.sizeOf 3).run Tryz.prog w = .ok 1 w := by go_simp
 rw [hs]
 simp only [Result.andThen_ok]
 have e1 := eqIn a c w 9998
 have e2 := eqIn b d w 9998
 have p1 := part2_0 a b w
 have p2 := part2_1 a b w
 have p3 := part2_0 c d w
 have p4 := part2_1 c d w
 by_cases h1 : a = c
 · by_cases h2 : b = d <;> simp [h1, h2, Std.Legacy.Range.forIn_eq_forIn_range', Std.Legacy.Range.size, List.range', List.forIn_cons, Sem.run_bind] at * <;> simp_all <;> (try (split <;> simp_all))
 · simp_all [Std.Legacy.Range.forIn_eq_forIn_range', Std.Legacy.Range.size, List.range', List.forIn_cons, Sem.run_bind]
theorem checkI (e : Bool) (n : Nat) (x : Int) (w : World) : (Instr.checkKey e (n + 1) 3 (.int .i64 x)).run Tryz.prog w = .ok () w := by
 rw [Instr.checkKey]
 simp only [Sem.run_bind, run_underlying Tryz.underlying3, Result.andThen_ok]
 rfl
theorem checkK2 (e : Bool) (a b : Int) (w : World) : (Instr.checkKey e 10000 71 (k2 a b)).run Tryz.prog w = .ok () w := by
 unfold k2
 rw [Instr.checkKey]
 simp only [Sem.run_bind, run_underlying Tryz.underlying71, Result.andThen_ok]
 have hs : (Go.sizeOf 3).run Tryz.prog w = .ok 1 w := by go_simp
 have e1 := checkI e 9998 a w
 have e2 := checkI e 9998 b w
 have p1 := part2_0 a b w
 have p2 := part2_1 a b w
 simp [Std.Legacy.Range.forIn_eq_forIn_range', Std.Legacy.Range.size, List.range', List.forIn_cons, Sem.run_bind, hs, e1, e2, p1, p2]
def MqE (es : List MapEntry) (L : List (K2 × Int)) : Prop := es.map (fun e => (e.key, e.val)) = L.map (fun q => (k2 q.1.1 q.1.2, Value.int .i64 q.2))
def fk : List (K2 × Int) → Int → Int → Nat → Option (Nat × Value)
 | [], _, _, _ => none
 | q :: L, a, b, i => if (a == q.1.1 && b == q.1.2) = true then some (i, .int .i64 q.2) else fk L a b (i + 1)
theorem fk_none {a b : Int} : ∀ (L : List (K2 × Int)) (i : Nat), fk L a b i = none → ∀ v, ((a, b), v) ∉ L := by
 intro L
 induction L with
 | nil => intro i h v hv; cases hv
 | cons q L ih =>
   intro i h v hv
   unfold fk at h
   by_cases e : (a == q.1.1 && b == q.1.2) = true
   · rw [if_pos e] at h; cases h
   · rw [if_neg e] at h
     rcases List.mem_cons.1 hv with hv | hv
     · subst hv; simp at e
     · exact ih _ h v hv
theorem fk_some {a b : Int} : ∀ (L : List (K2 × Int)) (i k : Nat) (v : Value), fk L a b i = some (k, v) → ∃ j n, k = i + j ∧ L[j]? = some ((a, b), n) ∧ v = .int .i64 n := by
 intro L
 induction L with
 | nil => intro i k v h; cases h
 | cons q L ih =>
   intro i k v h
   unfold fk at h
   by_cases e : (a == q.1.1 && b == q.1.2) = true
   · rw [if_pos e] at h
     obtain ⟨⟨x, y⟩, n⟩ := q
     simp at e h
     obtain ⟨rfl, rfl⟩ := e
     exact ⟨0, n, by omega, rfl, h.2.symm⟩
   · rw [if_neg e] at h
     obtain ⟨j, n, h1, h2, h3⟩ := ih _ _ _ h
     exact ⟨j + 1, n, by omega, h2, h3⟩
theorem run_find2 (a b : Int) (w : World) (es : List MapEntry) : ∀ (L : List (K2 × Int)) (i : Nat), MqE es L → (Instr.findAsking 71 (k2 a b) es i).run Tryz.prog w = .ok (fk L a b i) w := by
 induction es with
 | nil =>
   intro L i h
   cases L with
   | nil => simp [Instr.findAsking, fk]
   | cons q L => simp [MqE] at h
 | cons e es ih =>
   intro L i h
   cases L with
   | nil => simp [MqE] at h
   | cons q L =>
     unfold MqE at h
     simp only [List.map_cons, List.cons.injEq, Prod.mk.injEq] at h
     obtain ⟨⟨hk, hv⟩, hr⟩ := h
     have he := eqK2 a b q.1.1 q.1.2 w
     have hi := ih L (i + 1) hr
     unfold fk
     cases hq : (a == q.1.1 && b == q.1.2) with
     | true =>
       rw [hq] at he
       simp only [Instr.findAsking, Op.equal, Op.maxDepth, hk, Sem.run_bind, he, Result.andThen_ok]
       simp [hv]
     | false =>
       rw [hq] at he
       simp only [Instr.findAsking, Op.equal, Op.maxDepth, hk, Sem.run_bind, he, Result.andThen_ok]
       simp [hi]
theorem run_findKey2 (a b : Int) (w : World) (es : List MapEntry) (L : List (K2 × Int)) (h : MqE es L) : (Instr.findKey 71 (k2 a b) es).run Tryz.prog w = .ok (fk L a b 0) w := by
 have h1 := run_find2 a b w es L 0 h
 cases es with
 | nil =>
   cases L with
   | nil => simp [Instr.findKey, Instr.findNow, run_underlying Tryz.underlying71, fk]
   | cons q L => simp [MqE] at h
 | cons e es =>
   cases L with
   | nil => simp [MqE] at h
   | cons q L =>
     simp only [Instr.findKey, Sem.run_bind, run_underlying Tryz.underlying71, Result.andThen_ok]
     simp only [Instr.findNow, Instr.sameNow, k2]
     exact h1
def MapF (w : World) (B : Nat) (f : Int → Int → Option Int) (n : Nat) : Prop :=
 ∃ es clock L, w.heap[B]? = some (.map es clock) ∧ MqE es.toList L ∧ (L.map (·.1)).Nodup ∧ L.length = n ∧ ∀ x y v, ((x, y), v) ∈ L ↔ f x y = some v
theorem MapF.lt {w : World} {B : Nat} {f : Int → Int → Option Int} {n : Nat} (h : MapF w B f n) : B < w.heap.size := by
 obtain ⟨es, clock, L, h1, _⟩ := h
 exact (Array.getElem?_eq_some_iff.1 h1).1
theorem MapF.same {w w' : World} {B : Nat} {f : Int → Int → Option Int} {n : Nat} (h : MapF w B f n) (hb : w'.heap[B]? = w.heap[B]?) : MapF w' B f n := by
 obtain ⟨es, clock, L, h1, h2⟩ := h
 exact ⟨es, clock, L, hb.trans h1, h2⟩
theorem get_map2 {w : World} {r : Nat} {es : Array MapEntry} {clock : Nat} (h : w.heap[r]? = some (.map es clock)) : (getObj r).run Tryz.prog w = .ok (.map es clock) w := by simp [getObj, Sem.run, h]
theorem set_map2 {w : World} {r : Nat} {es : Array MapEntry} {clock : Nat} (o : Obj) (h : w.heap[r]? = some (.map es clock)) : (setObj r o).run Tryz.prog w = .ok () { w with heap := w.heap.setIfInBounds r o } := by simp [setObj, Sem.run, h]
theorem MapF.look {w : World} {B : Nat} {f : Int → Int → Option Int} {n : Nat} (h : MapF w B f n) (a b : Int) : (Instr.lookup 85 (.map (some B)) (k2 a b) true).run Tryz.prog w = .ok (.tuple #[.int .i64 ((f a b).getD 0), .bool (f a b).isSome]) w := by
 obtain ⟨es, clock, L, h1, h2, h3, h4, h5⟩ := h
 have hz : (zeroValue 3).run Tryz.prog w = .ok (.int .i64 0) w := Tryz.zeroValue3 w
 have hg : (getObj B).run Tryz.prog w = .ok (.map es clock) w := get_map2 h1
 simp only [Instr.lookup, Sem.run_bind, run_underlying Tryz.underlying85, Result.andThen_ok, hg, Sem.run_pure, checkK2, run_findKey2 a b w es.toList L h2]
 cases hf : fk L a b 0 with
 | none =>
   have : f a b = none := by
     cases e : f a b with
     | none => rfl
     | some v => exact absurd ((h5 a b v).2 e) (fk_none L 0 hf v)
   simp [hz, this]
 | some q =>
   obtain ⟨k, v⟩ := q
   obtain ⟨j, m, _, hj, rfl⟩ := fk_some L 0 k v hf
   have : f a b = some m := (h5 a b m).1 (List.mem_of_getElem? hj)
   simp [this]
def putF (f : Int → Int → Option Int) (a b : Int) (v : Option Int) : Int → Int → Option Int := fun x y => if x = a ∧ y = b then v else f x y
structure ObM (B : Nat) (w w' : World) : Prop where
 os : w'.os = w.os
 tape : w'.tape = w.tape
 output : w'.output = w.output
 size : w'.heap.size = w.heap.size
 keep : ∀ k, k ≠ B → w'.heap[k]? = w.heap[k]?
theorem obm_set (w : World) (B : Nat) (o : Obj) : ObM B w { w with heap := w.heap.setIfInBounds B o } :=
 ⟨rfl, rfl, rfl, by simp, fun k hk => by show (w.heap.setIfInBounds B o)[k]? = _; rw [Array.getElem?_setIfInBounds_ne (Ne.symm hk)]⟩
theorem same_key (a b : Int) : Instr.sameBits 10000 (k2 a b) (k2 a b) = true := by
 simp [k2, Instr.sameBits]
theorem MapF.put {w : World} {B : Nat} {f : Int → Int → Option Int} {n : Nat} (h : MapF w B f n) (a b v : Int) : ∃ w', (Instr.mapUpdate 85 (.map (some B)) (k2 a b) (.int .i64 v)).run Tryz.prog w = .ok () w' ∧ MapF w' B (putF f a b (some v)) (if (f a b).isSome then n else n + 1) ∧ ObM B w w' := by
 have hB := h.lt
 obtain ⟨es, clock, L, h1, h2, h3, h4, h5⟩ := h
 have hg : (getObj B).run Tryz.prog w = .ok (.map es clock) w := get_map2 h1
 cases hf : fk L a b 0 with
 | none =>
   have hn : f a b = none := by
     cases e : f a b with
     | none => rfl
     | some v => exact absurd ((h5 a b v).2 e) (fk_none L 0 hf v)
   have hs := set_map2 (.map (es.push { key := k2 a b, val := .int .i64 v, born := clock }) (clock + 1)) h1
   refine ⟨_, ?_, ⟨es.push { key := k2 a b, val := .int .i64 v, born := clock }, clock + 1, L ++ [((a, b), v)], ?_, ?_, ?_, ?_, ?_⟩, obm_set w B (.map (es.push { key := k2 a b, val := .int .i64 v, born := clock }) (clock + 1))⟩
   · simp only [Instr.mapUpdate, Sem.run_bind, run_underlying Tryz.underlying85, Result.andThen_ok, hg, checkK2, run_findKey2 a b w es.toList L h2, hf]
     exact hs
   · show (w.heap.setIfInBounds B _)[B]? = _
     rw [Array.getElem?_setIfInBounds_self_of_lt hB]
   · unfold MqE at h2 ⊢
     rw [Array.toList_push, List.map_append, h2, List.map_append]; rfl
   · rw [List.map_append, List.nodup_append]
     refine ⟨h3, by simp, fun x hx y hy e => ?_⟩
     obtain ⟨q, hq, rfl⟩ := List.mem_map.1 hx
     have hy' : y = (a, b) := by simpa using hy
     rw [hy'] at e
     exact fk_none L 0 hf q.2 (by rw [← e]; exact hq)
   · simp [h4, hn]
   · intro x y u
     rw [List.mem_append, List.mem_singleton, h5]
     unfold putF
     by_cases e : x = a ∧ y = b
     · obtain ⟨rfl, rfl⟩ := e
       simp [hn, eq_comm]
     · rw [if_neg e]
       constructor
       · rintro (hh | hh)
         · exact hh
         · injection hh with e1 e2
           injection e1 with e3 e4
           exact absurd ⟨e3, e4⟩ e
       · exact Or.inl
 | some q =>
   obtain ⟨k, v0⟩ := q
   obtain ⟨j, m, hk, hj, rfl⟩ := fk_some L 0 k v0 hf
   have hjk : k = j := by omega
   subst hjk
   have hn : f a b = some m := (h5 a b m).1 (List.mem_of_getElem? hj)
   have hkl := (List.getElem?_eq_some_iff.1 hj).1
   have hel : es.toList.length = L.length := by have := congrArg List.length h2; simpa using this
   have hke : k < es.size := by rw [← Array.length_toList, hel]; exact hkl
   have hkey : es[k].key = k2 a b := by
     have := congrArg (fun l => l[k]?) h2
     simp only [List.getElem?_map, hj, Option.map_some] at this
     rw [Array.getElem?_toList, Array.getElem?_eq_getElem hke] at this
     simp at this
     exact this.1
   have hs := set_map2 (.map (es.modify k fun e => { e with key := k2 a b, val := .int .i64 v }) clock) h1
   refine ⟨_, ?_, ⟨es.modify k fun e => { e with key := k2 a b, val := .int .i64 v }, clock, L.set k ((a, b), v), ?_, ?_, ?_, ?_, ?_⟩, obm_set w B (.map (es.modify k fun e => { e with key := k2 a b, val := .int .i64 v }) clock)⟩
   · simp only [Instr.mapUpdate, Sem.run_bind, run_underlying Tryz.underlying85, Result.andThen_ok, hg, checkK2, run_findKey2 a b w es.toList L h2, hf]
     have : (((es[k]?).map (·.key)).getD (k2 a b)) = k2 a b := by rw [Array.getElem?_eq_getElem hke]; simpa using hkey
     rw [this]
     simp only [Instr.keyThatStays, same_key, if_true, Sem.run_pure, Result.andThen_ok]
     exact hs
   · show (w.heap.setIfInBounds B _)[B]? = _
     rw [Array.getElem?_setIfInBounds_self_of_lt hB]
   · unfold MqE at h2 ⊢
     apply List.ext_getElem?
     intro i
     have h2i := congrArg (fun l => l[i]?) h2
     simp only [List.getElem?_map, Array.getElem?_toList, Array.getElem?_modify, List.getElem?_set] at h2i ⊢
     by_cases e : k = i
     · subst e
       rw [if_pos rfl, if_pos rfl, if_pos hkl, Array.getElem?_eq_getElem hke]
       rfl
     · rw [if_neg e, if_neg e]
       exact h2i
   · have : (L.set k ((a, b), v)).map (·.1) = L.map (·.1) := by
       apply List.ext_getElem?
       intro i
       simp only [List.getElem?_map, List.getElem?_set]
       by_cases e : k = i
       · subst e; rw [if_pos rfl, if_pos hkl, hj]; rfl
       · rw [if_neg e]
     rw [this]; exact h3
   · simp [h4, hn]
   · intro x y u
     unfold putF
     have hset : ((x, y), u) ∈ L.set k ((a, b), v) ↔ ∃ i, (L.set k ((a, b), v))[i]? = some ((x, y), u) := List.mem_iff_getElem?
     rw [hset]
     by_cases e : x = a ∧ y = b
     · obtain ⟨rfl, rfl⟩ := e
       rw [if_pos ⟨rfl, rfl⟩]
       constructor
       · rintro ⟨i, hi⟩
         rw [List.getElem?_set] at hi
         by_cases e : k = i
         · rw [if_pos e, if_pos (by omega)] at hi
           simpa using hi
         · rw [if_neg e] at hi
           have hil := (List.getElem?_eq_some_iff.1 hi).1
           exfalso
           rcases Nat.lt_or_gt_of_ne e with e | e
           · exact (nodup_get.1 h3) k i e (by simpa using hil) (by rw [List.getElem?_map, List.getElem?_map, hi, hj]; rfl)
           · exact (nodup_get.1 h3) i k e (by simpa using hkl) (by rw [List.getElem?_map, List.getElem?_map, hi, hj]; rfl)
       · intro hu
         refine ⟨k, ?_⟩
         rw [List.getElem?_set, if_pos rfl, if_pos hkl]
         simpa using hu
     · rw [if_neg e, ← h5, List.mem_iff_getElem?]
       constructor
       · rintro ⟨i, hi⟩
         rw [List.getElem?_set] at hi
         by_cases e2 : k = i
         · rw [if_pos e2, if_pos (by omega)] at hi
           injection hi with hi
           injection hi with e3 e4
           injection e3 with e5 e6
           exact absurd ⟨e5.symm, e6.symm⟩ e
         · rw [if_neg e2] at hi
           exact ⟨i, hi⟩
       · rintro ⟨i, hi⟩
         refine ⟨i, ?_⟩
         rw [List.getElem?_set, if_neg ?_]
         · exact hi
         · rintro rfl
           rw [hj] at hi
           injection hi with hi
           injection hi with e3 e4
           injection e3 with e5 e6
           exact absurd ⟨e5.symm, e6.symm⟩ e
end
end Go.Proofs.YtcgbnjoajieggaaGreat
