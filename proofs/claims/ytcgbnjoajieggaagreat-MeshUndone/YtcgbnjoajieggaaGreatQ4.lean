/- Own texts, put together: Qr Rg Rh Rhb Mk Sh. -/
import Derived.Test.YtcgbnjoajieggaaGreatProg
import Derived.WalkKit
import Derived.OwnWalk
import Derived.Deep.RegionHeld3
import Derived.Below
import Derived.Shelf.Small.Wraps
import Derived.Shelf.SlSortCmp.NoneTotal
import Derived.Shelf.Strconv.Itoa0
namespace Go.Proofs.YtcgbnjoajieggaaGreat
/- An append in a drawn region. -/
section
open Go.RowKit
end

/- A drawn region whose operations only make memory: each yields what a fact tells that stays. -/
section
open Go Go.RowKit
section
variable {P : Program} {ops : Array Oper} {Q : Exit → Act → World → Prop}
def fillL (base n : Nat) (p : Nat → Bool) (vs : Nat → Value) : Nat → List Value → List Value
 | _, [] => []
 | t, x :: r => (if base ≤ t ∧ t < base + n ∧ p (t - base) = true then vs (t - base) else x) :: fillL base n p vs (t + 1) r
theorem fillL_get (base n : Nat) (p : Nat → Bool) (vs : Nat → Value) : ∀ (l : List Value) (t k : Nat), (fillL base n p vs t l)[k]? = (l[k]?).map fun x => if base ≤ t + k ∧ t + k < base + n ∧ p (t + k - base) = true then vs (t + k - base) else x := by
 intro l
 induction l with
 | nil => intro t k; simp [fillL]
 | cons x r ih =>
   intro t k
   cases k with
   | zero => simp [fillL]
   | succ k =>
     simp only [fillL, List.getElem?_cons_succ]
     rw [ih, show t + 1 + k = t + (k + 1) by omega]
theorem fillL_len (base n : Nat) (p : Nat → Bool) (vs : Nat → Value) : ∀ (l : List Value) (t : Nat), (fillL base n p vs t l).length = l.length := by
 intro l
 induction l with
 | nil => intro t; rfl
 | cons x r ih => intro t; simp [fillL, ih]
def actF (a0 : Act) (base n : Nat) (p : Nat → Bool) (vs : Nat → Value) : Act := ⟨(fillL base n p vs 0 a0.tmps.toList).toArray, a0.defers⟩
theorem actF_get (a0 : Act) (base n : Nat) (p : Nat → Bool) (vs : Nat → Value) (t : Nat) : (actF a0 base n p vs).eval (.tmp t) = if base ≤ t ∧ t < base + n ∧ t < a0.tmps.size ∧ p (t - base) = true then vs (t - base) else a0.eval (.tmp t) := by
 show (fillL base n p vs 0 a0.tmps.toList).toArray.getD t undef = _
 rw [Array.getD_eq_getD_getElem?, List.getElem?_toArray, fillL_get, Nat.zero_add]
 show _ = if _ then _ else a0.tmps.getD t undef
 rw [Array.getD_eq_getD_getElem?, Array.getElem?_toList]
 by_cases ht : t < a0.tmps.size
 · rw [Array.getElem?_eq_getElem ht]
   by_cases h : base ≤ t ∧ t < base + n ∧ p (t - base) = true
   · rw [if_pos ⟨h.1, h.2.1, ht, h.2.2⟩]; simp [h]
   · rw [if_neg (fun e => h ⟨e.1, e.2.1, e.2.2.2⟩)]; simp [h]
 · rw [if_neg (fun e => ht e.2.2.1), Array.getElem?_eq_none (by omega)]; rfl
theorem actF_put (a0 : Act) (base n : Nat) (p : Nat → Bool) (vs : Nat → Value) (i : Nat) (v : Value) (hi : i < n) (hs : base + n ≤ a0.tmps.size) : (actF a0 base n p vs).put (some (base + i)) v = actF a0 base n (fun j => p j || j == i) (fun j => if j = i then v else vs j) := by
 unfold actF Act.put
 simp only [Act.mk.injEq, and_true]
 apply Array.ext'
 simp only [List.setIfInBounds_toArray]
 apply List.ext_getElem?
 intro k
 rw [List.getElem?_set, fillL_get, fillL_get, fillL_len, Array.length_toList, Nat.zero_add]
 by_cases hk : base + i = k
 · subst hk
   rw [if_pos rfl, if_pos (by omega), Array.getElem?_toList, Array.getElem?_eq_getElem (by omega)]
   simp [hi]
 · rw [if_neg hk]
   have : ¬ k - base = i ∨ ¬ base ≤ k := by omega
   congr 1
   funext x
   rcases this with h | h
   · have e : (k - base == i) = false := by simpa using h
     simp [h]
   · simp [h]
theorem fillL_all (base n : Nat) (p : Nat → Bool) (vs : Nat → Value) (hp : ∀ j, j < n → p j = true) : ∀ (l : List Value) (t : Nat), fillL base n p vs t l = fillL base n (fun _ => true) vs t l := by
 intro l
 induction l with
 | nil => intro t; rfl
 | cons x r ih =>
   intro t
   simp only [fillL]
   rw [ih]
   congr 1
   by_cases h : base ≤ t ∧ t < base + n
   · rw [if_pos ⟨h.1, h.2, hp _ (by omega)⟩, if_pos ⟨h.1, h.2, by first | rfl | trivial⟩]
   · rw [if_neg (fun e => h ⟨e.1, e.2.1⟩), if_neg (fun e => h ⟨e.1, e.2.1⟩)]
def cntD (listed : Array Bool) : Nat → Nat
 | 0 => 0
 | k + 1 => cntD listed k + (if listed.getD k false = true then 1 else 0)
theorem cntD_le (listed : Array Bool) : ∀ k, cntD listed k ≤ k := by
 intro k
 induction k with
 | zero => simp [cntD]
 | succ k ih => rw [cntD]; split <;> omega
theorem getD_set (listed : Array Bool) (i j : Nat) (hi : i < listed.size) : (listed.setIfInBounds i true).getD j false = (listed.getD j false || j == i) := by
 rw [Array.getD_eq_getD_getElem?, Array.getD_eq_getD_getElem?, Array.getElem?_setIfInBounds]
 by_cases h : i = j
 · subst h; simp [hi]
 · have : (j == i) = false := by simpa using fun e => h e.symm
   simp [h, this]
theorem cntD_set (listed : Array Bool) (i : Nat) (hi : i < listed.size) (hf : listed.getD i false = false) : ∀ k, cntD (listed.setIfInBounds i true) k = cntD listed k + (if i < k then 1 else 0) := by
 intro k
 induction k with
 | zero => simp [cntD]
 | succ k ih =>
   rw [cntD, cntD, ih, getD_set _ _ _ hi]
   by_cases h : k = i
   · subst h
     simp [hf]
   · have : (k == i) = false := by simpa using h
     rw [this, Bool.or_false]
     by_cases h2 : i < k
     · have h3 : i < k + 1 := by omega
       simp only [h2, h3, if_true]; omega
     · have h3 : ¬ i < k + 1 := by omega
       simp only [h2, h3, if_false]; omega
end
end

/- A drawn region whose first operations only make memory, in any order, ahead of all others. -/
section
open Go Go.RowKit
section
variable {P : Program} {ops : Array Oper} {Q : Exit → Act → World → Prop}
def listM (m n : Nat) : Array Bool := (List.replicate m true ++ List.replicate (n - m) false).toArray
theorem listM_eq {m n : Nat} {listed : Array Bool} (hmn : m ≤ n) (hl : listed.size = n) (h1 : ∀ j, j < m → listed.getD j false = true) (h2 : ∀ j, m ≤ j → j < n → listed.getD j false = false) : listed = listM m n := by
 apply Array.ext
 · simp [listM]; omega
 · intro i hi hi2
   have hi' : i < n := by omega
   have e : listed.getD i false = listed[i] := by rw [Array.getD_eq_getD_getElem?, Array.getElem?_eq_getElem hi]; rfl
   rw [← e]
   simp only [listM, List.getElem_toArray]
   by_cases h : i < m
   · rw [h1 i h, List.getElem_append_left (by simpa using h), List.getElem_replicate]
   · rw [h2 i (by omega) hi', List.getElem_append_right (by simp; omega), List.getElem_replicate]
def regOk2 (base m : Nat) (ops : Array Oper) : Bool :=
 ((List.range m).all fun j => match ops[j]? with
   | some o => o.dst == some (base + j) && o.guard.isNone && o.after.all (fun e => decide (e.on < j))
   | none => false) &&
 ((List.range m).all fun j => (List.range (m + 1)).any fun u => decide (j < u) && (match ops[u]? with
   | some o => o.after.any (fun e => Region.binds .any e && e.on == j)
   | none => false)) &&
 ((List.range ops.size).all fun j => decide (j ≤ m) || (match ops[j]? with
   | some o => o.after.any (fun e => Region.binds .any e && decide (m ≤ e.on))
   | none => false))
theorem regOk2_at {base m : Nat} {ops : Array Oper} (h : regOk2 base m ops = true) {j : Nat} {o : Oper} (hj : j < m) (ho : ops[j]? = some o) : o.dst = some (base + j) ∧ o.guard = none ∧ ∀ e ∈ o.after, e.on < j := by
 unfold regOk2 at h
 simp only [Bool.and_eq_true] at h
 have := List.all_eq_true.1 h.1.1 j (List.mem_range.2 hj)
 rw [ho] at this
 simp only [Bool.and_eq_true, beq_iff_eq] at this
 obtain ⟨⟨h1, h2⟩, h3⟩ := this
 refine ⟨h1, by simpa using h2, fun e he => ?_⟩
 have := (Array.all_eq_true'.1 h3) e he
 simpa using this
theorem regOk2_use {base m : Nat} {ops : Array Oper} (h : regOk2 base m ops = true) {j : Nat} (hj : j < m) : ∃ u o, j < u ∧ u ≤ m ∧ ops[u]? = some o ∧ ∃ e ∈ o.after, Region.binds .any e = true ∧ e.on = j := by
 unfold regOk2 at h
 simp only [Bool.and_eq_true] at h
 obtain ⟨u, hu, hh⟩ := List.any_eq_true.1 (List.all_eq_true.1 h.1.2 j (List.mem_range.2 hj))
 simp only [Bool.and_eq_true, decide_eq_true_eq] at hh
 obtain ⟨h1, h2⟩ := hh
 have hu' := List.mem_range.1 hu
 cases ho : ops[u]? with
 | none => rw [ho] at h2; cases h2
 | some o =>
   rw [ho] at h2
   obtain ⟨e, he, hb⟩ := Array.any_eq_true'.1 h2
   simp only [Bool.and_eq_true, beq_iff_eq] at hb
   exact ⟨u, o, h1, by omega, ho, e, he, hb.1, hb.2⟩
theorem regOk2_tail {base m : Nat} {ops : Array Oper} (h : regOk2 base m ops = true) {j : Nat} {o : Oper} (hj : m < j) (ho : ops[j]? = some o) : ∃ e ∈ o.after, Region.binds .any e = true ∧ m ≤ e.on := by
 unfold regOk2 at h
 simp only [Bool.and_eq_true] at h
 have hlt : j < ops.size := (Array.getElem?_eq_some_iff.1 ho).1
 have hh := List.all_eq_true.1 h.2 j (List.mem_range.2 hlt)
 simp only [Bool.or_eq_true, decide_eq_true_eq] at hh
 rcases hh with hh | hh
 · omega
 · rw [ho] at hh
   obtain ⟨e, he, hb⟩ := Array.any_eq_true'.1 hh
   simp only [Bool.and_eq_true, decide_eq_true_eq] at hb
   exact ⟨e, he, hb.1, hb.2⟩
end
end

/- A drawn region whose first operations only make memory: what they yield is unlike. -/
section
open Go Go.RowKit
section
variable {P : Program} {ops : Array Oper} {Q : Exit → Act → World → Prop}
theorem region_facts3 {id : Nat} {a0 : Act} {w0 : World} (base m n : Nat) (G : World → Prop) (F : Nat → Value → World → Prop) (M : Nat → Bool) (hm : P.follows .mixedOrders = true) (hn : ops.size = n) (hmn : m < n) (hok : regOk2 base m ops = true) (hsz : base + m ≤ a0.tmps.size) (hG : G w0.drew)
   (stab : ∀ j v w w', F j v w → Below w.heap.size w w' → F j v w')
   (step : ∀ (Q' : Exit → Act → World → Prop) j o, j < m → ops[j]? = some o → ∀ (a : Act) (w : World), G w → (∀ t, t < base → a.eval (.tmp t) = a0.eval (.tmp t)) → (∀ e ∈ o.after, Region.binds .any e = true → F e.on (a.eval (.tmp (base + e.on))) w) → Oper.wp P o a w (fun a' w' => ∃ v, a' = a.put (some (base + j)) v ∧ G w' ∧ Below w.heap.size w w' ∧ F j v w' ∧ ∀ j' u, F j' u w → M j = true → M j' = true → v ≠ u) Q')
   (fin : ∀ vs w, G w → (∀ j, j < m → F j (vs j) w) → (∀ i j, i < m → j < m → i ≠ j → M i = true → M j = true → vs i ≠ vs j) → wpAny P .any ops Q (n - m) (listM m n) (actF a0 base m (fun _ => true) vs) w) : (Code.region id ops true).wp P Q a0 w0 := by
 have main : ∀ (fuel : Nat) (listed : Array Bool) (a : Act) (w : World), listed.size = n → (∀ j, m ≤ j → j < n → listed.getD j false = false) → (∀ i o, i < m → ops[i]? = some o → listed.getD i false = true → ∀ e ∈ o.after, Region.binds .any e = true → listed.getD e.on false = true) → cntD listed m + fuel = n → G w → (∃ vs, a = actF a0 base m (fun j => listed.getD j false) vs ∧ (∀ j, j < m → listed.getD j false = true → F j (vs j) w) ∧ ∀ i j, i < m → j < m → i ≠ j → listed.getD i false = true → listed.getD j false = true → M i = true → M j = true → vs i ≠ vs j) → wpAny P .any ops Q fuel listed a w := by
   intro fuel
   induction fuel with
   | zero =>
     intro listed a w hl _ _ hc _ _
     have := cntD_le listed m
     omega
   | succ fuel ih =>
     intro listed a w hl htl hcl hc hG hI
     by_cases hall : ∀ j, j < m → listed.getD j false = true
     · obtain ⟨vs, rfl, hF, hD⟩ := hI
       have e1 := listM_eq (by omega) hl hall htl
       have e2 : cntD listed m = m := by
         have : ∀ k, k ≤ m → cntD listed k = k := by
           intro k
           induction k with
           | zero => intro _; rfl
           | succ k ih => intro hk; rw [cntD, ih (by omega), if_pos (hall k (by omega))]
         exact this m (Nat.le_refl _)
       have h := fin vs w hG (fun j hj => hF j hj (hall j hj)) (fun i j hi hj hij => hD i j hi hj hij (hall i hi) (hall j hj))
       rw [show n - m = fuel + 1 by omega, ← e1] at h
       unfold actF at h ⊢
       rwa [fillL_all base m _ vs hall]
     · have hrd : ∀ i, i ∈ Region.ready .any ops listed → i < n ∧ listed.getD i false = false ∧ ∃ o, ops[i]? = some o ∧ ∀ e ∈ o.after, Region.binds .any e = true → listed.getD e.on false = true := by
         intro i hi
         unfold Region.ready at hi
         rw [List.mem_filter, List.mem_range, hn] at hi
         obtain ⟨hin, hi⟩ := hi
         obtain ⟨o, ho⟩ : ∃ o, ops[i]? = some o := ⟨_, Array.getElem?_eq_getElem (by omega)⟩
         rw [ho] at hi
         simp only [Option.map_some, Option.getD_some, Bool.and_eq_true, Bool.not_eq_true'] at hi
         obtain ⟨h1, h2⟩ := hi
         refine ⟨hin, ?_, o, ho, fun e he hb => ?_⟩
         · rw [Array.getD_eq_getD_getElem?, Array.getElem?_eq_getElem (by omega)] at h1 ⊢
           exact h1
         · have := Array.all_eq_true'.1 h2 e he
           rw [hb] at this
           simpa using this
       have hlow : ∀ i, i ∈ Region.ready .any ops listed → i < m := by
         intro i hi
         obtain ⟨h1, h2, o, ho, hd⟩ := hrd i hi
         rcases Nat.lt_or_ge i m with h | h
         · exact h
         · exfalso
           rcases Nat.lt_or_ge m i with h' | h'
           · obtain ⟨e, he, hb, hme⟩ := regOk2_tail hok h' ho
             have h3 := hd e he hb
             by_cases hen : e.on < n
             · rw [htl e.on hme hen] at h3; cases h3
             · rw [Array.getD_eq_getD_getElem?, Array.getElem?_eq_none (by omega)] at h3; cases h3
           · obtain rfl : i = m := by omega
             apply hall
             have key : ∀ d j, j + d = i → j < i → listed.getD j false = true := by
               intro d
               induction d using Nat.strongRecOn with
               | ind d ihd =>
                 intro j hjd hj
                 obtain ⟨u, o2, hju, hum, ho2, e, he, hb, rfl⟩ := regOk2_use hok hj
                 rcases Nat.lt_or_ge u i with hu | hu
                 · exact hcl u o2 hu ho2 (ihd (i - u) (by omega) u (by omega) hu) e he hb
                 · obtain rfl : u = i := by omega
                   obtain rfl : o = o2 := Option.some.inj (ho.symm.trans ho2)
                   exact hd e he hb
             exact fun j hj => key (i - j) j (by omega) hj
       refine ⟨fun hr => ?_, fun i hi => ?_⟩
       · exfalso
         apply hall
         intro j
         induction j using Nat.strongRecOn with
         | ind j ihj =>
           intro hj
           cases hc : listed.getD j false with
           | true => rfl
           | false =>
             obtain ⟨o, ho⟩ : ∃ o, ops[j]? = some o := ⟨_, Array.getElem?_eq_getElem (by omega)⟩
             have hb := (regOk2_at hok hj ho).2.2
             have : j ∈ Region.ready .any ops listed := by
               unfold Region.ready
               rw [List.mem_filter]
               refine ⟨List.mem_range.2 (by omega), ?_⟩
               have e1 : listed.getD j true = false := by
                 rw [Array.getD_eq_getD_getElem?, Array.getElem?_eq_getElem (by omega)] at hc ⊢
                 exact hc
               rw [e1, ho]
               simp only [Bool.not_false, Bool.true_and, Option.map_some, Option.getD_some]
               rw [Array.all_eq_true']
               intro e he
               rw [ihj e.on (hb e he) (by have := hb e he; omega)]
               simp
             rw [hr] at this
             simp at this
       · have him := hlow i hi
         obtain ⟨hin, h1', o, ho, hd'⟩ := hrd i hi
         obtain ⟨hd, hg, hb⟩ := regOk2_at hok him ho
         unfold wpOp
         rw [ho]
         simp only []
         have hw : Region.wanted o (yielded ops a.tmps) = true := by unfold Region.wanted; rw [hg]
         rw [if_pos hw]
         obtain ⟨vs, rfl, hF, hD⟩ := hI
         refine Or.inl (Oper.wp_mono ?_ (step Q i o him ho _ w hG ?_ ?_))
         · rintro a' w' ⟨v, rfl, hG', hbel, hFi, hne⟩
           rw [actF_put a0 base m _ vs i v him hsz]
           refine ih _ _ _ (by simpa using hl) ?_ ?_ ?_ hG' ⟨fun j => if j = i then v else vs j, ?_, ?_, ?_⟩
           · intro j hj hjn
             rw [getD_set _ _ _ (by omega), htl j hj hjn]
             have : (j == i) = false := by simp; omega
             rw [this]; rfl
           · intro k o2 hk ho2 hlk e he hbe
             rw [getD_set _ _ _ (by omega)] at hlk ⊢
             by_cases hki : k = i
             · subst hki
               obtain rfl : o = o2 := Option.some.inj (ho.symm.trans ho2)
               rw [hd' e he hbe]; rfl
             · have : (k == i) = false := by simpa using hki
               rw [this, Bool.or_false] at hlk
               rw [hcl k o2 hk ho2 hlk e he hbe]; rfl
           · rw [cntD_set listed i (by omega) h1', if_pos him]; omega
           · congr 1
             funext j
             rw [getD_set _ _ _ (by omega)]
           · intro j hj hlj
             rw [getD_set _ _ _ (by omega)] at hlj
             by_cases e : j = i
             · subst e; simpa using hFi
             · show F j (if j = i then v else vs j) w'
               rw [if_neg e]
               have : (j == i) = false := by simpa using e
               rw [this, Bool.or_false] at hlj
               exact stab j _ w w' (hF j hj hlj) hbel
           · intro k j hk hj hkj hlk hlj hMk hMj
             rw [getD_set _ _ _ (by omega)] at hlk hlj
             dsimp only
             by_cases ek : k = i
             · subst ek
               have ej : ¬ j = k := fun e => hkj e.symm
               rw [if_pos rfl, if_neg ej]
               have : (j == k) = false := by simpa using ej
               rw [this, Bool.or_false] at hlj
               exact hne j _ (hF j hj hlj) hMk hMj
             · have e1 : (k == i) = false := by simpa using ek
               rw [e1, Bool.or_false] at hlk
               rw [if_neg ek]
               by_cases ej : j = i
               · subst ej
                 rw [if_pos rfl]
                 exact (hne k _ (hF k hk hlk) hMj hMk).symm
               · have e2 : (j == i) = false := by simpa using ej
                 rw [e2, Bool.or_false] at hlj
                 rw [if_neg ej]
                 exact hD k j hk hj hkj hlk hlj hMk hMj
         · intro t ht
           rw [actF_get, if_neg (fun e => by omega)]
         · intro e he hbi
           have hon := hb e he
           have hle := hd' e he hbi
           rw [actF_get, if_pos ⟨by omega, by omega, by omega, by rw [show base + e.on - base = e.on by omega]; exact hle⟩, show base + e.on - base = e.on by omega]
           exact hF e.on (by omega) hle
 have hz : ∀ k, (Array.replicate ops.size false).getD k false = false := fun k => by
   rw [Array.getD_eq_getD_getElem?, Array.getElem?_replicate]; split <;> rfl
 refine wp_region_any hm ?_
 refine main _ _ _ _ (by simpa using hn) (fun j _ _ => hz j) (fun i o _ _ h => by rw [hz] at h; cases h) ?_ hG ⟨fun _ => undef, ?_, ?_, ?_⟩
 · have : ∀ k, cntD (Array.replicate ops.size false) k = 0 := by
     intro k
     induction k with
     | zero => rfl
     | succ k ih =>
       rw [cntD, ih, hz]; simp
   rw [this]; omega
 · unfold actF
   have : ∀ (l : List Value) (t : Nat), fillL base m (fun j => (Array.replicate ops.size false).getD j false) (fun _ => undef) t l = l := by
     intro l
     induction l with
     | nil => intro t; rfl
     | cons x r ih =>
       intro t
       rw [fillL, ih, hz]
       simp
   rw [this]
 · intro j _ h
   rw [hz] at h; cases h
 · intro i _ _ _ _ h
   rw [hz] at h; cases h
end
end

/- The library's contract for slices.SortFunc at pairs and at triples of numbers, laid at this program: tables of numbers, and facts of the program's own. (gen_mk.py) -/
section
open Go.Shelf Go.Proofs
def Tryz.sortPair_ren : Go.Shelf.Ren := ⟨fun | 6 => 88 | 15 => 85 | 14 => 116 | 28 => 113 | 29 => 114 | 20 => 153 | 21 => 154 | 22 => 155 | 23 => 156 | 24 => 157 | 25 => 158 | 26 => 159 | 27 => 160 | 46 => 181 | 47 => 141 | 48 => 142 | 49 => 182 | 50 => 183 | 57 => 195 | n => n, fun | 22 => 50 | 24 => 71 | 25 => 105 | 3 => 3 | 39 => 67 | 0 => 0 | 53 => 152 | 55 => 79 | 4 => 4 | 46 => 146 | 45 => 145 | 50 => 47 | 5 => 5 | 9 => 9 | 66 => 171 | 70 => 175 | 76 => 196 | 77 => 197 | n => n, fun | n => n⟩
theorem Tryz.sortPair : Go.Proofs.SlLaysF0.n6 Tryz.prog Tryz.sortPair_ren := {
 mixed := by kernel_rfl
 f6 := ⟨Tryz.f88.name, by decide, Tryz.func88.trans (congrArg some (by kernel_rfl))⟩
 f14 := ⟨Tryz.f116.name, by decide, Tryz.func116.trans (congrArg some (by kernel_rfl))⟩
 f15 := Tryz.func85.trans (congrArg some (by kernel_rfl))
 f20 := ⟨Tryz.f153.name, by decide, Tryz.func153.trans (congrArg some (by kernel_rfl))⟩
 f21 := ⟨Tryz.f154.name, by decide, Tryz.func154.trans (congrArg some (by kernel_rfl))⟩
 f22 := ⟨Tryz.f155.name, by decide, Tryz.func155.trans (congrArg some (by kernel_rfl))⟩
 f23 := ⟨Tryz.f156.name, by decide, Tryz.func156.trans (congrArg some (by kernel_rfl))⟩
 f24 := ⟨Tryz.f157.name, by decide, Tryz.func157.trans (congrArg some (by kernel_rfl))⟩
 f25 := ⟨Tryz.f158.name, by decide, Tryz.func158.trans (congrArg some (by kernel_rfl))⟩
 f26 := ⟨Tryz.f159.name, by decide, Tryz.func159.trans (congrArg some (by kernel_rfl))⟩
 f27 := ⟨Tryz.f160.name, by decide, Tryz.func160.trans (congrArg some (by kernel_rfl))⟩
 f28 := Tryz.func113.trans (congrArg some (by kernel_rfl))
 f29 := Tryz.func114.trans (congrArg some (by kernel_rfl))
 f46 := ⟨Tryz.f181.name, by decide, Tryz.func181.trans (congrArg some (by kernel_rfl))⟩
 f47 := Tryz.func141.trans (congrArg some (by kernel_rfl))
 f48 := Tryz.func142.trans (congrArg some (by kernel_rfl))
 f49 := ⟨Tryz.f182.name, by decide, Tryz.func182.trans (congrArg some (by kernel_rfl))⟩
 f50 := ⟨Tryz.f183.name, by decide, Tryz.func183.trans (congrArg some (by kernel_rfl))⟩
 f57 := ⟨Tryz.f195.name, by decide, Tryz.func195.trans (congrArg some (by kernel_rfl))⟩
 t0 := Tryz.underlying0
 a0 := Tryz.isAgg0
 z0 := Tryz.sizeOf0
 v0 := Tryz.zeroValue0
 t3 := Tryz.underlying3
 a3 := Tryz.isAgg3
 z3 := Tryz.sizeOf3
 v3 := Tryz.zeroValue3
 t4 := Tryz.underlying4
 a4 := Tryz.isAgg4
 z4 := Tryz.sizeOf4
 v4 := Tryz.zeroValue4
 t5 := Tryz.underlying5
 a5 := Tryz.isAgg5
 z5 := Tryz.sizeOf5
 v5 := Tryz.zeroValue5
 t9 := Tryz.underlying9
 a9 := Tryz.isAgg9
 z9 := Tryz.sizeOf9
 v9 := Tryz.zeroValue9
 t22 := Tryz.underlying50
 a22 := Tryz.isAgg50
 z22 := Tryz.sizeOf50
 v22 := Tryz.zeroValue50
 t25 := Tryz.underlying105
 a25 := Tryz.isAgg105
 z25 := Tryz.sizeOf105
 v25 := Tryz.zeroValue105
 t39 := Tryz.underlying67
 a39 := Tryz.isAgg67
 z39 := Tryz.sizeOf67
 v39 := Tryz.zeroValue67
 t45 := Tryz.underlying145
 a45 := Tryz.isAgg145
 z45 := Tryz.sizeOf145
 v45 := Tryz.zeroValue145
 t46 := Tryz.underlying146
 a46 := Tryz.isAgg146
 z46 := Tryz.sizeOf146
 v46 := Tryz.zeroValue146
 t50 := Tryz.underlying47
 a50 := Tryz.isAgg47
 z50 := Tryz.sizeOf47
 v50 := Tryz.zeroValue47
 t53 := Tryz.underlying152
 a53 := Tryz.isAgg152
 z53 := Tryz.sizeOf152
 v53 := Tryz.zeroValue152
 t55 := Tryz.underlying79
 a55 := Tryz.isAgg79
 z55 := Tryz.sizeOf79
 v55 := Tryz.zeroValue79
 t66 := Tryz.underlying171
 a66 := Tryz.isAgg171
 z66 := Tryz.sizeOf171
 v66 := Tryz.zeroValue171
 t70 := Tryz.underlying175
 a70 := Tryz.isAgg175
 z70 := Tryz.sizeOf175
 v70 := Tryz.zeroValue175
 t76 := Tryz.underlying196
 a76 := Tryz.isAgg196
 z76 := Tryz.sizeOf196
 v76 := Tryz.zeroValue196
 t77 := Tryz.underlying197
 a77 := Tryz.isAgg197
 z77 := Tryz.sizeOf197
 v77 := Tryz.zeroValue197 }
def Tryz.sortTri_ren : Go.Shelf.Ren := ⟨fun | 6 => 86 | 15 => 85 | 14 => 115 | 28 => 113 | 29 => 114 | 20 => 145 | 21 => 146 | 22 => 147 | 23 => 148 | 24 => 149 | 25 => 150 | 26 => 151 | 27 => 152 | 46 => 178 | 47 => 141 | 48 => 142 | 49 => 179 | 50 => 180 | 57 => 194 | n => n, fun | 22 => 31 | 24 => 30 | 25 => 121 | 3 => 3 | 39 => 67 | 0 => 0 | 53 => 152 | 55 => 79 | 4 => 4 | 46 => 146 | 45 => 145 | 50 => 47 | 5 => 5 | 9 => 9 | 66 => 171 | 70 => 175 | 76 => 196 | 77 => 197 | n => n, fun | n => n⟩
theorem Tryz.sortTri : Go.Proofs.SlLaysF0.n6 Tryz.prog Tryz.sortTri_ren := {
 mixed := by kernel_rfl
 f6 := ⟨Tryz.f86.name, by decide, Tryz.func86.trans (congrArg some (by kernel_rfl))⟩
 f14 := ⟨Tryz.f115.name, by decide, Tryz.func115.trans (congrArg some (by kernel_rfl))⟩
 f15 := Tryz.func85.trans (congrArg some (by kernel_rfl))
 f20 := ⟨Tryz.f145.name, by decide, Tryz.func145.trans (congrArg some (by kernel_rfl))⟩
 f21 := ⟨Tryz.f146.name, by decide, Tryz.func146.trans (congrArg some (by kernel_rfl))⟩
 f22 := ⟨Tryz.f147.name, by decide, Tryz.func147.trans (congrArg some (by kernel_rfl))⟩
 f23 := ⟨Tryz.f148.name, by decide, Tryz.func148.trans (congrArg some (by kernel_rfl))⟩
 f24 := ⟨Tryz.f149.name, by decide, Tryz.func149.trans (congrArg some (by kernel_rfl))⟩
 f25 := ⟨Tryz.f150.name, by decide, Tryz.func150.trans (congrArg some (by kernel_rfl))⟩
 f26 := ⟨Tryz.f151.name, by decide, Tryz.func151.trans (congrArg some (by kernel_rfl))⟩
 f27 := ⟨Tryz.f152.name, by decide, Tryz.func152.trans (congrArg some (by kernel_rfl))⟩
 f28 := Tryz.func113.trans (congrArg some (by kernel_rfl))
 f29 := Tryz.func114.trans (congrArg some (by kernel_rfl))
 f46 := ⟨Tryz.f178.name, by decide, Tryz.func178.trans (congrArg some (by kernel_rfl))⟩
 f47 := Tryz.func141.trans (congrArg some (by kernel_rfl))
 f48 := Tryz.func142.trans (congrArg some (by kernel_rfl))
 f49 := ⟨Tryz.f179.name, by decide, Tryz.func179.trans (congrArg some (by kernel_rfl))⟩
 f50 := ⟨Tryz.f180.name, by decide, Tryz.func180.trans (congrArg some (by kernel_rfl))⟩
 f57 := ⟨Tryz.f194.name, by decide, Tryz.func194.trans (congrArg some (by kernel_rfl))⟩
 t0 := Tryz.underlying0
 a0 := Tryz.isAgg0
 z0 := Tryz.sizeOf0
 v0 := Tryz.zeroValue0
 t3 := Tryz.underlying3
 a3 := Tryz.isAgg3
 z3 := Tryz.sizeOf3
 v3 := Tryz.zeroValue3
 t4 := Tryz.underlying4
 a4 := Tryz.isAgg4
 z4 := Tryz.sizeOf4
 v4 := Tryz.zeroValue4
 t5 := Tryz.underlying5
 a5 := Tryz.isAgg5
 z5 := Tryz.sizeOf5
 v5 := Tryz.zeroValue5
 t9 := Tryz.underlying9
 a9 := Tryz.isAgg9
 z9 := Tryz.sizeOf9
 v9 := Tryz.zeroValue9
 t22 := Tryz.underlying31
 a22 := Tryz.isAgg31
 z22 := Tryz.sizeOf31
 v22 := Tryz.zeroValue31
 t25 := Tryz.underlying121
 a25 := Tryz.isAgg121
 z25 := Tryz.sizeOf121
 v25 := Tryz.zeroValue121
 t39 := Tryz.underlying67
 a39 := Tryz.isAgg67
 z39 := Tryz.sizeOf67
 v39 := Tryz.zeroValue67
 t45 := Tryz.underlying145
 a45 := Tryz.isAgg145
 z45 := Tryz.sizeOf145
 v45 := Tryz.zeroValue145
 t46 := Tryz.underlying146
 a46 := Tryz.isAgg146
 z46 := Tryz.sizeOf146
 v46 := Tryz.zeroValue146
 t50 := Tryz.underlying47
 a50 := Tryz.isAgg47
 z50 := Tryz.sizeOf47
 v50 := Tryz.zeroValue47
 t53 := Tryz.underlying152
 a53 := Tryz.isAgg152
 z53 := Tryz.sizeOf152
 v53 := Tryz.zeroValue152
 t55 := Tryz.underlying79
 a55 := Tryz.isAgg79
 z55 := Tryz.sizeOf79
 v55 := Tryz.zeroValue79
 t66 := Tryz.underlying171
 a66 := Tryz.isAgg171
 z66 := Tryz.sizeOf171
 v66 := Tryz.zeroValue171
 t70 := Tryz.underlying175
 a70 := Tryz.isAgg175
 z70 := Tryz.sizeOf175
 v70 := Tryz.zeroValue175
 t76 := Tryz.underlying196
 a76 := Tryz.isAgg196
 z76 := Tryz.sizeOf196
 v76 := Tryz.zeroValue196
 t77 := Tryz.underlying197
 a77 := Tryz.isAgg197
 z77 := Tryz.sizeOf197
 v77 := Tryz.zeroValue197 }
end

/- The library's contracts for cmp.Compare at int and math/bits.Len64, laid at this program: each is one application of a theorem of the guide's library. -/
section
open Go.Shelf Go.Proofs
open Go.RowKit in
def Tryz.lays122_ren : Go.Shelf.Ren := ⟨fun | 122 => 91 | 215 => 118 | n => n, fun | 3 => 3 | 4 => 4 | n => n, fun | n => n⟩
theorem Tryz.lays122 : Go.Proofs.Lays.n122 Tryz.prog Tryz.lays122_ren := {
 mixed := by kernel_rfl
 f122 := Tryz.func91.trans (congrArg some (by kernel_rfl))
 f215 := Tryz.func118.trans (congrArg some (by kernel_rfl))
 t3 := Tryz.underlying3
 a3 := Tryz.isAgg3
 z3 := Tryz.sizeOf3
 v3 := Tryz.zeroValue3
 t4 := Tryz.underlying4
 a4 := Tryz.isAgg4
 z4 := Tryz.sizeOf4
 v4 := Tryz.zeroValue4 }
open Go.RowKit in
theorem Tryz.cmp_Compare_int (x y : Int) (w : World) :
   Calls Tryz.prog 91 #[.int .i64 x, .int .i64 y] w fun e w' => e = .returned (.int .i64 (Lib.compareInt x y)) ∧ w' = w := Any.cmp_Compare_int Tryz.lays122 x y w
end
end Go.Proofs.YtcgbnjoajieggaaGreat
