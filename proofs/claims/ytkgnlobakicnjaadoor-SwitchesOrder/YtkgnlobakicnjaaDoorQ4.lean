/- Own texts, put together: Wa R Rg Yo. -/
import Derived.Test.YtkgnlobakicnjaaDoorQ2
import Derived.Test.YtkgnlobakicnjaaDoorProg
import Derived.WalkKit
import Derived.WalkSpells
import Derived.WalkLawsBesides
import Derived.Deep.RegionHeld3
import Derived.Below
import Derived.Shelf.Strings.BuilderK
namespace Go.Proofs.YtkgnlobakicnjaaDoor
/- Walks of the small functions of package whole: what each of them answers, for every magnitude. -/
section
open Go.RowKit
structure Ws (w : World) (s : Value) (ns : List Nat) : Prop where
 shape : ∃ a cap, s = .slice a ns.length cap ∧ ns.length ≤ cap ∧ (ns = [] ∨ ∃ b off, a = some ⟨b, off, none⟩ ∧ b < w.heap.size ∧ ∀ j, j < ns.length → w.cell? ⟨b, off + j, none⟩ = some (.int .u64 (ns.getD j 0 : Nat)))
 small : ∀ n, n ∈ ns → n < 18446744073709551616
 short : ns.length ≤ 1000000
theorem Ws.later {w w' : World} {s : Value} {ns : List Nat} {B : Nat} (h : Ws w s ns) (hb : Below B w w') (hB : w.heap.size ≤ B) : Ws w' s ns := by
 obtain ⟨⟨a, cap, hs, hcap, hc⟩, h2, h3⟩ := h
 refine ⟨⟨a, cap, hs, hcap, ?_⟩, h2, h3⟩
 rcases hc with hc | ⟨b, off, ha, hbs, hc⟩
 · exact Or.inl hc
 · exact Or.inr ⟨b, off, ha, Nat.lt_of_lt_of_le hbs hb.size, fun j hj => (hb.cell (by exact Nat.lt_of_lt_of_le hbs hB)).trans (hc j hj)⟩
end

/- Rows of the call's own: a block of cells that may be written, told whole by a list. -/
section
open Go.RowKit
def Row (w : World) (e : TypeId) (g : Nat) (xs : List Value) : Prop := w.heap[g]? = some (.cells xs.toArray e (0, 0))
theorem Row.lt {w : World} {e : TypeId} {g : Nat} {xs : List Value} (h : Row w e g xs) : g < w.heap.size := by
 unfold Row at h
 by_cases hg : g < w.heap.size
 · exact hg
 · rw [Array.getElem?_eq_none (by omega)] at h; cases h
theorem Row.cell {w : World} {e : TypeId} {g : Nat} {xs : List Value} (h : Row w e g xs) (i : Nat) (hi : i < xs.length) : w.cell? ⟨g, i, none⟩ = some xs[i] := by
 unfold Row at h; simp [World.cell?, h, hi]
theorem Row.frozen {w : World} {e : TypeId} {g : Nat} {xs : List Value} (h : Row w e g xs) (i : Nat) : w.frozen? ⟨g, i, none⟩ = false := by
 unfold Row at h; simp [World.frozen?, h]
theorem Row.set {w : World} {e : TypeId} {g : Nat} {xs : List Value} (h : Row w e g xs) (i : Nat) (v : Value) : Row (w.setCell ⟨g, i, none⟩ v) e g (xs.set i v) := by
 have hg := h.lt
 unfold Row at *
 simp [World.setCell, Array.getElem?_modify, h]
theorem Row.other {w : World} {e : TypeId} {g : Nat} {xs : List Value} (h : Row w e g xs) {a : Addr} (hn : g ≠ a.block) (v : Value) : Row (w.setCell a v) e g xs := by
 unfold Row at *; rw [Below.heap_setCell w a v g hn]; exact h
theorem Row.alloc {w : World} {e : TypeId} {g : Nat} {xs : List Value} (h : Row w e g xs) (o : Obj) : Row (w.alloc o) e g xs := by
 have := h.lt
 unfold Row at *; rw [Below.heap_alloc w o g this]; exact h
theorem Row.drew {w : World} {e : TypeId} {g : Nat} {xs : List Value} (h : Row w e g xs) : Row w.drew e g xs := h
theorem Row.below {w w' : World} {e : TypeId} {g B : Nat} {xs : List Value} (h : Row w e g xs) (hb : Below B w w') (hg : g < B) : Row w' e g xs := by
 unfold Row at *; rw [hb.block g hg]; exact h
theorem cell_ne {w : World} {p a : Addr} {x y : Value} (hp : w.cell? p = some x) (ha : w.cell? a = some y) (hxy : x ≠ y) (v : Value) : (w.setCell a v).cell? p = some x := by
 rw [World.cell?_setCell_other w a p v (by intro e; rw [← e, ha] at hp; exact hxy (Option.some.inj hp).symm)]; exact hp
theorem Ws.set {w : World} {s : Value} {ns : List Nat} (h : Ws w s ns) {a : Addr} {y : Value} (ha : w.cell? a = some y) (hy : ∀ n : Nat, y ≠ .int .u64 (n : Nat)) (v : Value) : Ws (w.setCell a v) s ns := by
 obtain ⟨⟨ad, cap, hs, hcap, hc⟩, h2, h3⟩ := h
 refine ⟨⟨ad, cap, hs, hcap, ?_⟩, h2, h3⟩
 rcases hc with hc | ⟨b, off, hb, hbs, hc⟩
 · exact Or.inl hc
 · exact Or.inr ⟨b, off, hb, by simpa using hbs, fun j hj => cell_ne (hc j hj) ha (fun e => hy _ e.symm) v⟩
def wds (l : List Nat) : List Value := l.map fun n => .int .u64 (n : Nat)
theorem wds_length (l : List Nat) : (wds l).length = l.length := by simp [wds]
theorem Row.ws {w : World} {e : TypeId} {g : Nat} {ns : List Nat} (h : Row w e g (wds ns)) (hs : Small ns) (hl : ns.length ≤ 1000000) (cap : Nat) (hcap : ns.length ≤ cap) : Ws w (.slice (some ⟨g, 0, none⟩) ns.length cap) ns :=
 ⟨⟨_, _, rfl, hcap, Or.inr ⟨g, 0, rfl, h.lt, fun j hj => by
   rw [Nat.zero_add, h.cell j (by rw [wds_length]; exact hj)]
   simp [wds, List.getD, hj]⟩⟩, hs, hl⟩
end

/- A drawn region whose operations only make memory: each yields what a fact tells that stays. -/
section
open Go Go.RowKit
section
variable {P : Program} {ops : Array Oper} {Q : Exit → Act → World → Prop}
def fillL (base n : Nat) (p : Nat → Bool) (vs : Nat → Value) : Nat → List Value → List Value
 | _, [] => []
 | t, x :: r => (if base ≤ t ∧ t < base + n ∧ p (t - base) = true then vs (t - base) else x) :: fillL base n p vs (t + 1) r
theorem fillL_get (base n : Nat) (p : Nat → Bool) (vs : Nat → Value) : ∀ (l : List Value) (t k : Nat), (fillL base n p vs t l)[k]? = (l[k]?).map fun x => if base ≤ t + k ∧ t + k < base + n ∧ p (t + k - base) = true then vs (t + k - base) else x := by
 intro l
 induction l with
 | nil => intro t k; simp [fillL]
 | cons x r ih =>
   intro t k
   cases k with
   | zero => simp [fillL]
   | succ k =>
     simp only [fillL, List.getElem?_cons_succ]
     rw [ih, show t + 1 + k = t + (k + 1) by omega]
theorem fillL_len (base n : Nat) (p : Nat → Bool) (vs : Nat → Value) : ∀ (l : List Value) (t : Nat), (fillL base n p vs t l).length = l.length := by
 intro l
 induction l with
 | nil => intro t; rfl
 | cons x r ih => intro t; simp [fillL, ih]
def actF (a0 : Act) (base n : Nat) (p : Nat → Bool) (vs : Nat → Value) : Act := ⟨(fillL base n p vs 0 a0.tmps.toList).toArray, a0.defers⟩
theorem actF_get (a0 : Act) (base n : Nat) (p : Nat → Bool) (vs : Nat → Value) (t : Nat) : (actF a0 base n p vs).eval (.tmp t) = if base ≤ t ∧ t < base + n ∧ t < a0.tmps.size ∧ p (t - base) = true then vs (t - base) else a0.eval (.tmp t) := by
 show (fillL base n p vs 0 a0.tmps.toList).toArray.getD t undef = _
 rw [Array.getD_eq_getD_getElem?, List.getElem?_toArray, fillL_get, Nat.zero_add]
 show _ = if _ then _ else a0.tmps.getD t undef
 rw [Array.getD_eq_getD_getElem?, Array.getElem?_toList]
 by_cases ht : t < a0.tmps.size
 · rw [Array.getElem?_eq_getElem ht]
   by_cases h : base ≤ t ∧ t < base + n ∧ p (t - base) = true
   · rw [if_pos ⟨h.1, h.2.1, ht, h.2.2⟩]; simp [h]
   · rw [if_neg (fun e => h ⟨e.1, e.2.1, e.2.2.2⟩)]; simp [h]
 · rw [if_neg (fun e => ht e.2.2.1), Array.getElem?_eq_none (by omega)]; rfl
theorem actF_put (a0 : Act) (base n : Nat) (p : Nat → Bool) (vs : Nat → Value) (i : Nat) (v : Value) (hi : i < n) (hs : base + n ≤ a0.tmps.size) : (actF a0 base n p vs).put (some (base + i)) v = actF a0 base n (fun j => p j || j == i) (fun j => if j = i then v else vs j) := by
 unfold actF Act.put
 simp only [Act.mk.injEq, and_true]
 apply Array.ext'
 simp only [List.setIfInBounds_toArray]
 apply List.ext_getElem?
 intro k
 rw [List.getElem?_set, fillL_get, fillL_get, fillL_len, Array.length_toList, Nat.zero_add]
 by_cases hk : base + i = k
 · subst hk
   rw [if_pos rfl, if_pos (by omega), Array.getElem?_toList, Array.getElem?_eq_getElem (by omega)]
   simp [hi]
 · rw [if_neg hk]
   have : ¬ k - base = i ∨ ¬ base ≤ k := by omega
   congr 1
   funext x
   rcases this with h | h
   · have e : (k - base == i) = false := by simpa using h
     simp [h]
   · simp [h]
theorem fillL_all (base n : Nat) (p : Nat → Bool) (vs : Nat → Value) (hp : ∀ j, j < n → p j = true) : ∀ (l : List Value) (t : Nat), fillL base n p vs t l = fillL base n (fun _ => true) vs t l := by
 intro l
 induction l with
 | nil => intro t; rfl
 | cons x r ih =>
   intro t
   simp only [fillL]
   rw [ih]
   congr 1
   by_cases h : base ≤ t ∧ t < base + n
   · rw [if_pos ⟨h.1, h.2, hp _ (by omega)⟩, if_pos ⟨h.1, h.2, by first | rfl | trivial⟩]
   · rw [if_neg (fun e => h ⟨e.1, e.2.1⟩), if_neg (fun e => h ⟨e.1, e.2.1⟩)]
def cntD (listed : Array Bool) : Nat → Nat
 | 0 => 0
 | k + 1 => cntD listed k + (if listed.getD k false = true then 1 else 0)
theorem cntD_le (listed : Array Bool) : ∀ k, cntD listed k ≤ k := by
 intro k
 induction k with
 | zero => simp [cntD]
 | succ k ih => rw [cntD]; split <;> omega
theorem cntD_all (listed : Array Bool) : ∀ k, cntD listed k = k → ∀ j, j < k → listed.getD j false = true := by
 intro k
 induction k with
 | zero => intro _ j hj; omega
 | succ k ih =>
   intro h j hj
   rw [cntD] at h
   have := cntD_le listed k
   split at h
   · rename_i hk
     rcases (show j < k ∨ j = k by omega) with e | e
     · exact ih (by omega) j e
     · rw [e]; exact hk
   · omega
theorem getD_set (listed : Array Bool) (i j : Nat) (hi : i < listed.size) : (listed.setIfInBounds i true).getD j false = (listed.getD j false || j == i) := by
 rw [Array.getD_eq_getD_getElem?, Array.getD_eq_getD_getElem?, Array.getElem?_setIfInBounds]
 by_cases h : i = j
 · subst h; simp [hi]
 · have : (j == i) = false := by simpa using fun e => h e.symm
   simp [h, this]
theorem cntD_set (listed : Array Bool) (i : Nat) (hi : i < listed.size) (hf : listed.getD i false = false) : ∀ k, cntD (listed.setIfInBounds i true) k = cntD listed k + (if i < k then 1 else 0) := by
 intro k
 induction k with
 | zero => simp [cntD]
 | succ k ih =>
   rw [cntD, cntD, ih, getD_set _ _ _ hi]
   by_cases h : k = i
   · subst h
     simp [hf]
   · have : (k == i) = false := by simpa using h
     rw [this, Bool.or_false]
     by_cases h2 : i < k
     · have h3 : i < k + 1 := by omega
       simp only [h2, h3, if_true]; omega
     · have h3 : ¬ i < k + 1 := by omega
       simp only [h2, h3, if_false]; omega
def regOk (base : Nat) (ops : Array Oper) : Bool := (List.range ops.size).all fun j => match ops[j]? with
 | some o => o.dst == some (base + j) && o.guard.isNone && o.after.all (fun e => decide (e.on < j))
 | none => false
theorem regOk_at {base : Nat} {ops : Array Oper} (h : regOk base ops = true) {j : Nat} {o : Oper} (ho : ops[j]? = some o) : o.dst = some (base + j) ∧ o.guard = none ∧ ∀ e ∈ o.after, e.on < j := by
 have hj : j < ops.size := (Array.getElem?_eq_some_iff.1 ho).1
 have := List.all_eq_true.1 h j (List.mem_range.2 hj)
 rw [ho] at this
 simp only [Bool.and_eq_true, beq_iff_eq] at this
 obtain ⟨⟨h1, h2⟩, h3⟩ := this
 refine ⟨h1, by simpa using h2, fun e he => ?_⟩
 have := (Array.all_eq_true'.1 h3) e he
 simpa using this
theorem region_facts {id : Nat} {a0 : Act} {w0 : World} (base n : Nat) (G : World → Prop) (F : Nat → Value → World → Prop) (hm : P.follows .mixedOrders = true) (hn : ops.size = n) (hok : regOk base ops = true) (hsz : base + n ≤ a0.tmps.size) (hG : G w0.drew)
   (stab : ∀ j v w w', F j v w → Below w.heap.size w w' → F j v w')
   (step : ∀ (Q' : Exit → Act → World → Prop) j o, ops[j]? = some o → ∀ (a : Act) (w : World), G w → (∀ t, t < base → a.eval (.tmp t) = a0.eval (.tmp t)) → (∀ e ∈ o.after, Region.binds .any e = true → F e.on (a.eval (.tmp (base + e.on))) w) → Oper.wp P o a w (fun a' w' => ∃ v, a' = a.put (some (base + j)) v ∧ G w' ∧ Below w.heap.size w w' ∧ F j v w') Q')
   (fin : ∀ vs w, G w → (∀ j, j < n → F j (vs j) w) → Q .normal (actF a0 base n (fun _ => true) vs) w) : (Code.region id ops true).wp P Q a0 w0 := by
 have allD : ∀ listed : Array Bool, listed.size = n → Region.ready .any ops listed = [] → ∀ j, j < n → listed.getD j false = true := by
   intro listed hl hr j
   induction j using Nat.strongRecOn with
   | ind j ih =>
     intro hj
     cases hc : listed.getD j false with
     | true => rfl
     | false =>
       obtain ⟨o, ho⟩ : ∃ o, ops[j]? = some o := ⟨_, Array.getElem?_eq_getElem (by omega)⟩
       have hb := (regOk_at hok ho).2.2
       have : j ∈ Region.ready .any ops listed := by
         unfold Region.ready
         rw [List.mem_filter]
         refine ⟨List.mem_range.2 (by omega), ?_⟩
         have e1 : listed.getD j true = false := by
           rw [Array.getD_eq_getD_getElem?, Array.getElem?_eq_getElem (by omega)] at hc ⊢
           exact hc
         rw [e1, ho]
         simp only [Bool.not_false, Bool.true_and, Option.map_some, Option.getD_some]
         rw [Array.all_eq_true']
         intro e he
         rw [ih e.on (hb e he) (by have := hb e he; omega)]
         simp
       rw [hr] at this
       simp at this
 have main : ∀ (fuel : Nat) (listed : Array Bool) (a : Act) (w : World), listed.size = n → cntD listed n + fuel = n → G w → (∃ vs, a = actF a0 base n (fun j => listed.getD j false) vs ∧ ∀ j, j < n → listed.getD j false = true → F j (vs j) w) → wpAny P .any ops Q fuel listed a w := by
   intro fuel
   have fin' : ∀ (listed : Array Bool) (a : Act) (w : World), G w → (∃ vs, a = actF a0 base n (fun j => listed.getD j false) vs ∧ ∀ j, j < n → listed.getD j false = true → F j (vs j) w) → (∀ j, j < n → listed.getD j false = true) → Q .normal a w := by
     rintro listed a w hG ⟨vs, rfl, hF⟩ hall
     have := fin vs w hG (fun j hj => hF j hj (hall j hj))
     unfold actF at this ⊢
     rwa [fillL_all base n _ vs hall]
   induction fuel with
   | zero =>
     intro listed a w hl hc hG hI
     have hall := cntD_all listed n (by omega)
     refine ⟨?_, fin' listed a w hG hI hall⟩
     unfold Region.ready
     rw [List.filter_eq_nil_iff]
     intro j hj
     rw [List.mem_range, hn] at hj
     have e1 : listed.getD j true = true := by
       have := hall j hj
       rw [Array.getD_eq_getD_getElem?, Array.getElem?_eq_getElem (by omega)] at this ⊢
       exact this
     simp [e1]
   | succ fuel ih =>
     intro listed a w hl hc hG hI
     refine ⟨fun hr => fin' listed a w hG hI (allD listed hl hr), fun i hi => ?_⟩
     unfold Region.ready at hi
     rw [List.mem_filter, List.mem_range, hn] at hi
     obtain ⟨hin, hi⟩ := hi
     obtain ⟨o, ho⟩ : ∃ o, ops[i]? = some o := ⟨_, Array.getElem?_eq_getElem (by omega)⟩
     rw [ho] at hi
     simp only [Option.map_some, Option.getD_some, Bool.and_eq_true, Bool.not_eq_true'] at hi
     obtain ⟨h1, h2⟩ := hi
     have h1' : listed.getD i false = false := by
       rw [Array.getD_eq_getD_getElem?, Array.getElem?_eq_getElem (by omega)] at h1 ⊢
       exact h1
     obtain ⟨hd, hg, hb⟩ := regOk_at hok ho
     unfold wpOp
     rw [ho]
     simp only []
     have hw : Region.wanted o (yielded ops a.tmps) = true := by unfold Region.wanted; rw [hg]
     rw [if_pos hw]
     obtain ⟨vs, rfl, hF⟩ := hI
     refine Or.inl (Oper.wp_mono ?_ (step Q i o ho _ w hG ?_ ?_))
     · rintro a' w' ⟨v, rfl, hG', hbel, hFi⟩
       rw [actF_put a0 base n _ vs i v hin hsz]
       refine ih _ _ _ (by simpa using hl) ?_ hG' ⟨fun j => if j = i then v else vs j, ?_, ?_⟩
       · rw [cntD_set listed i (by omega) h1', if_pos hin]; omega
       · congr 1
         funext j
         rw [getD_set _ _ _ (by omega)]
       · intro j hj hlj
         rw [getD_set _ _ _ (by omega)] at hlj
         by_cases e : j = i
         · subst e; simpa using hFi
         · show F j (if j = i then v else vs j) w'
           rw [if_neg e]
           have : (j == i) = false := by simpa using e
           rw [this, Bool.or_false] at hlj
           exact stab j _ w w' (hF j hj hlj) hbel
     · intro t ht
       rw [actF_get, if_neg (fun e => by omega)]
     · intro e he hbi
       have hon := hb e he
       have hle : listed.getD e.on false = true := by
         have := Array.all_eq_true'.1 h2 e he
         rw [hbi] at this
         simpa using this
       rw [actF_get, if_pos ⟨by omega, by omega, by omega, by rw [show base + e.on - base = e.on by omega]; exact hle⟩, show base + e.on - base = e.on by omega]
       exact hF e.on (by omega) hle
 refine wp_region_any hm ?_
 refine main _ _ _ _ (by simpa using hn) ?_ hG ⟨fun _ => undef, ?_, ?_⟩
 · have : ∀ k, cntD (Array.replicate ops.size false) k = 0 := by
     intro k
     induction k with
     | zero => rfl
     | succ k ih =>
       rw [cntD, ih]
       have : (Array.replicate ops.size false).getD k false = false := by
         rw [Array.getD_eq_getD_getElem?, Array.getElem?_replicate]; split <;> rfl
       rw [this]; simp
   rw [this]; omega
 · unfold actF
   have : ∀ (l : List Value) (t : Nat), fillL base n (fun j => (Array.replicate ops.size false).getD j false) (fun _ => undef) t l = l := by
     intro l
     induction l with
     | nil => intro t; rfl
     | cons x r ih =>
       intro t
       have e : (Array.replicate ops.size false).getD (t - base) false = false := by
         rw [Array.getD_eq_getD_getElem?, Array.getElem?_replicate]; split <;> rfl
       rw [fillL, ih, e]
       simp
   rw [this]
 · intro j _ h
   have e : (Array.replicate ops.size false).getD j false = false := by
     rw [Array.getD_eq_getD_getElem?, Array.getElem?_replicate]; split <;> rfl
   rw [e] at h; cases h
end
end

/- strings.Builder's WriteString and String: the library's contracts, laid at this program. (gen_yo.py) -/
section
open Go.Shelf Go.Proofs
def Tryd.laysB_ren : Go.Shelf.Ren := ⟨fun | 166 => 23 | 169 => 24 | 240 => 61 | 276 => 87 | n => n, fun | 9 => 9 | 3 => 3 | 4 => 4 | 0 => 0 | 20 => 20 | 72 => 73 | 76 => 80 | 70 => 70 | 37 => 71 | 75 => 79 | 127 => 130 | 164 => 141 | 5 => 5 | 80 => 82 | n => n, fun | n => n⟩
theorem Tryd.laysB166 : Go.Proofs.Lays.n166 Tryd.prog Tryd.laysB_ren := {
 mixed := by kernel_rfl
 f166 := Tryd.func23.trans (congrArg some (by kernel_rfl))
 f240 := Tryd.func61.trans (congrArg some (by kernel_rfl))
 f276 := Tryd.func87.trans (congrArg some (by kernel_rfl))
 t0 := Tryd.underlying0
 a0 := Tryd.isAgg0
 z0 := Tryd.sizeOf0
 v0 := Tryd.zeroValue0
 t3 := Tryd.underlying3
 a3 := Tryd.isAgg3
 z3 := Tryd.sizeOf3
 v3 := Tryd.zeroValue3
 t4 := Tryd.underlying4
 a4 := Tryd.isAgg4
 z4 := Tryd.sizeOf4
 v4 := Tryd.zeroValue4
 t9 := Tryd.underlying9
 a9 := Tryd.isAgg9
 z9 := Tryd.sizeOf9
 v9 := Tryd.zeroValue9
 t20 := Tryd.underlying20
 a20 := Tryd.isAgg20
 z20 := Tryd.sizeOf20
 v20 := Tryd.zeroValue20
 t37 := Tryd.underlying71
 a37 := Tryd.isAgg71
 z37 := Tryd.sizeOf71
 v37 := Tryd.zeroValue71
 t70 := Tryd.underlying70
 a70 := Tryd.isAgg70
 z70 := Tryd.sizeOf70
 v70 := Tryd.zeroValue70
 t72 := Tryd.underlying73
 a72 := Tryd.isAgg73
 z72 := Tryd.sizeOf73
 v72 := Tryd.zeroValue73
 t75 := Tryd.underlying79
 a75 := Tryd.isAgg79
 z75 := Tryd.sizeOf79
 v75 := Tryd.zeroValue79
 t164 := Tryd.underlying141
 a164 := Tryd.isAgg141
 z164 := Tryd.sizeOf141
 v164 := Tryd.zeroValue141 }
theorem Tryd.laysB169 : Go.Proofs.Lays.n169 Tryd.prog Tryd.laysB_ren := {
 mixed := by kernel_rfl
 f169 := Tryd.func24.trans (congrArg some (by kernel_rfl))
 t0 := Tryd.underlying0
 a0 := Tryd.isAgg0
 z0 := Tryd.sizeOf0
 v0 := Tryd.zeroValue0
 t3 := Tryd.underlying3
 a3 := Tryd.isAgg3
 z3 := Tryd.sizeOf3
 v3 := Tryd.zeroValue3
 t9 := Tryd.underlying9
 a9 := Tryd.isAgg9
 z9 := Tryd.sizeOf9
 v9 := Tryd.zeroValue9
 t37 := Tryd.underlying71
 a37 := Tryd.isAgg71
 z37 := Tryd.sizeOf71
 v37 := Tryd.zeroValue71
 t70 := Tryd.underlying70
 a70 := Tryd.isAgg70
 z70 := Tryd.sizeOf70
 v70 := Tryd.zeroValue70
 t72 := Tryd.underlying73
 a72 := Tryd.isAgg73
 z72 := Tryd.sizeOf73
 v72 := Tryd.zeroValue73
 t127 := Tryd.underlying130
 a127 := Tryd.isAgg130
 z127 := Tryd.sizeOf130
 v127 := Tryd.zeroValue130 }
theorem Tryd.laysB_extra : Builder.Extra Tryd.prog Tryd.laysB_ren := {
 sizeBuilder := by kernel_rfl
 liesBuilder := by kernel_rfl
 t5 := Tryd.underlying5
 a5 := Tryd.isAgg5
 z5 := Tryd.sizeOf5
 v5 := Tryd.zeroValue5
 infoByte := by kernel_rfl
 cellsByte := by kernel_rfl
 sizeByte := by kernel_rfl
 neB5 := by decide }
open Go.RowKit in
theorem writeStringY (B b : Nat) (bs : List Value) (s : ByteArray) (w : World) (h : Lib.IsBuilderF 73 5 B b bs w) (hlen : bs.length + s.size ≤ 140737488355328) (hBw : B ≤ w.heap.size) :
   Calls Tryd.prog 23 #[.pointer (some ⟨b, 0, none⟩), .string s] w fun e w' => e = .returned (.tuple #[.int .i64 s.size, .nilIface]) ∧ (Lib.BuilderAtF 73 5 B b (.pointer (some ⟨b, 0, none⟩)) (bs ++ Lib.strCells s) w' ∧ Below B w w' ∧ Lib.OthersKept 5 (some b) w w') := Any.Builder_WriteString_k Tryd.laysB166 Tryd.laysB_extra B b bs s w h hlen hBw
open Go.RowKit in
theorem stringY (B b : Nat) (l : List UInt8) (w : World) (h : Lib.IsBuilderF 73 5 B b (Lib.byteCells l) w) (hBw : B ≤ w.heap.size) :
   Calls Tryd.prog 24 #[.pointer (some ⟨b, 0, none⟩)] w fun e w' => e = .returned (.string ⟨l.toArray⟩) ∧ (Lib.IsBuilderF 73 5 B b (Lib.byteCells l) w' ∧ Below B w w') := Any.Builder_String_any_f Tryd.laysB169 Tryd.laysB_extra B b l w h hBw
end
end Go.Proofs.YtkgnlobakicnjaaDoor
