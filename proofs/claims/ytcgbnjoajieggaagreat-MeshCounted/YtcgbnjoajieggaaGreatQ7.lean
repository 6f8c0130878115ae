/- Own texts, put together: Rh Rhb. -/
import Derived.Test.YtcgbnjoajieggaaGreatQ4
namespace Go.Proofs.YtcgbnjoajieggaaGreat
/- A drawn region whose first operations only make memory, in any order, ahead of all others. -/
section
open Go Go.RowKit
section
variable {P : Program} {ops : Array Oper} {Q : Exit → Act → World → Prop}
def listM (m n : Nat) : Array Bool := (List.replicate m true ++ List.replicate (n - m) false).toArray
theorem listM_eq {m n : Nat} {listed : Array Bool} (hmn : m ≤ n) (hl : listed.size = n) (h1 : ∀ j, j < m → listed.getD j false = true) (h2 : ∀ j, m ≤ j → j < n → listed.getD j false = false) : listed = listM m n := by
 apply Array.ext
 · simp [listM]; omega
 · intro i hi hi2
   have hi' : i < n := by omega
   have e : listed.getD i false = listed[i] := by rw [Array.getD_eq_getD_getElem?, Array.getElem?_eq_getElem hi]; rfl
   rw [← e]
   simp only [listM, List.getElem_toArray]
   by_cases h : i < m
   · rw [h1 i h, List.getElem_append_left (by simpa using h), List.getElem_replicate]
   · rw [h2 i (by omega) hi', List.getElem_append_right (by simp; omega), List.getElem_replicate]
def regOk2 (base m : Nat) (ops : Array Oper) : Bool :=
 ((List.range m).all fun j => match ops[j]? with
   | some o => o.dst == some (base + j) && o.guard.isNone && o.after.all (fun e => decide (e.on < j))
   | none => false) &&
 ((List.range m).all fun j => (List.range (m + 1)).any fun u => decide (j < u) && (match ops[u]? with
   | some o => o.after.any (fun e => Region.binds .any e && e.on == j)
   | none => false)) &&
 ((List.range ops.size).all fun j => decide (j ≤ m) || (match ops[j]? with
   | some o => o.after.any (fun e => Region.binds .any e && decide (m ≤ e.on))
   | none => false))
theorem regOk2_at {base m : Nat} {ops : Array Oper} (h : regOk2 base m ops = true) {j : Nat} {o : Oper} (hj : j < m) (ho : ops[j]? = some o) : o.dst = some (base + j) ∧ o.guard = none ∧ ∀ e ∈ o.after, e.on < j := by
 unfold regOk2 at h
 simp only [Bool.and_eq_true] at h
 have := List.all_eq_true.1 h.1.1 j (List.mem_range.2 hj)
 rw [ho] at this
 simp only [Bool.and_eq_true, beq_iff_eq] at this
 obtain ⟨⟨h1, h2⟩, h3⟩ := this
 refine ⟨h1, by simpa using h2, fun e he => ?_⟩
 have := (Array.all_eq_true'.1 h3) e he
 simpa using this
theorem regOk2_use {base m : Nat} {ops : Array Oper} (h : regOk2 base m ops = true) {j : Nat} (hj : j < m) : ∃ u o, j < u ∧ u ≤ m ∧ ops[u]? = some o ∧ ∃ e ∈ o.after, Region.binds .any e = true ∧ e.on = j := by
 unfold regOk2 at h
 simp only [Bool.and_eq_true] at h
 obtain ⟨u, hu, hh⟩ := List.any_eq_true.1 (List.all_eq_true.1 h.1.2 j (List.mem_range.2 hj))
 simp only [Bool.and_eq_true, decide_eq_true_eq] at hh
 obtain ⟨h1, h2⟩ := hh
 have hu' := List.mem_range.1 hu
 cases ho : ops[u]? with
 | none => rw [ho] at h2; cases h2
 | some o =>
   rw [ho] at h2
   obtain ⟨e, he, hb⟩ := Array.any_eq_true'.1 h2
   simp only [Bool.and_eq_true, beq_iff_eq] at hb
   exact ⟨u, o, h1, by omega, ho, e, he, hb.1, hb.2⟩
theorem regOk2_tail {base m : Nat} {ops : Array Oper} (h : regOk2 base m ops = true) {j : Nat} {o : Oper} (hj : m < j) (ho : ops[j]? = some o) : ∃ e ∈ o.after, Region.binds .any e = true ∧ m ≤ e.on := by
 unfold regOk2 at h
 simp only [Bool.and_eq_true] at h
 have hlt : j < ops.size := (Array.getElem?_eq_some_iff.1 ho).1
 have hh := List.all_eq_true.1 h.2 j (List.mem_range.2 hlt)
 simp only [Bool.or_eq_true, decide_eq_true_eq] at hh
 rcases hh with hh | hh
 · omega
 · rw [ho] at hh
   obtain ⟨e, he, hb⟩ := Array.any_eq_true'.1 hh
   simp only [Bool.and_eq_true, decide_eq_true_eq] at hb
   exact ⟨e, he, hb.1, hb.2⟩
end
end

/- A drawn region whose first operations only make memory: what they yield is unlike. -/
section
open Go Go.RowKit
section
variable {P : Program} {ops : Array Oper} {Q : Exit → Act → World → Prop}
theorem region_facts3 {id : Nat} {a0 : Act} {w0 : World} (base m n : Nat) (G : World → Prop) (F : Nat → Value → World → Prop) (M : Nat → Bool) (hm : P.follows .mixedOrders = true) (hn : ops.size = n) (hmn : m < n) (hok : regOk2 base m ops = true) (hsz : base + m ≤ a0.tmps.size) (hG : G w0.drew)
   (stab : ∀ j v w w', F j v w → Below w.heap.size w w' → F j v w')
   (step : ∀ (Q' : Exit → Act → World → Prop) j o, j < m → ops[j]? = some o → ∀ (a : Act) (w : World), G w → (∀ t, t < base → a.eval (.tmp t) = a0.eval (.tmp t)) → (∀ e ∈ o.after, Region.binds .any e = true → F e.on (a.eval (.tmp (base + e.on))) w) → Oper.wp P o a w (fun a' w' => ∃ v, a' = a.put (some (base + j)) v ∧ G w' ∧ Below w.heap.size w w' ∧ F j v w' ∧ ∀ j' u, F j' u w → M j = true → M j' = true → v ≠ u) Q')
   (fin : ∀ vs w, G w → (∀ j, j < m → F j (vs j) w) → (∀ i j, i < m → j < m → i ≠ j → M i = true → M j = true → vs i ≠ vs j) → wpAny P .any ops Q (n - m) (listM m n) (actF a0 base m (fun _ => true) vs) w) : (Code.region id ops true).wp P Q a0 w0 := by
 have main : ∀ (fuel : Nat) (listed : Array Bool) (a : Act) (w : World), listed.size = n → (∀ j, m ≤ j → j < n → listed.getD j false = false) → (∀ i o, i < m → ops[i]? = some o → listed.getD i false = true → ∀ e ∈ o.after, Region.binds .any e = true → listed.getD e.on false = true) → cntD listed m + fuel = n → G w → (∃ vs, a = actF a0 base m (fun j => listed.getD j false) vs ∧ (∀ j, j < m → listed.getD j false = true → F j (vs j) w) ∧ ∀ i j, i < m → j < m → i ≠ j → listed.getD i false = true → listed.getD j false = true → M i = true → M j = true → vs i ≠ vs j) → wpAny P .any ops Q fuel listed a w := by
   intro fuel
   induction fuel with
   | zero =>
     intro listed a w hl _ _ hc _ _
     have := cntD_le listed m
     omega
   | succ fuel ih =>
     intro listed a w hl htl hcl hc hG hI
     by_cases hall : ∀ j, j < m → listed.getD j false = true
     · obtain ⟨vs, rfl, hF, hD⟩ := hI
       have e1 := listM_eq (by omega) hl hall htl
       have e2 : cntD listed m = m := by
         have : ∀ k, k ≤ m → cntD listed k = k := by
           intro k
           induction k with
           | zero => intro _; rfl
           | succ k ih => intro hk; rw [cntD, ih (by omega), if_pos (hall k (by omega))]
         exact this m (Nat.le_refl _)
       have h := fin vs w hG (fun j hj => hF j hj (hall j hj)) (fun i j hi hj hij => hD i j hi hj hij (hall i hi) (hall j hj))
       rw [show n - m = fuel + 1 by omega, ← e1] at h
       unfold actF at h ⊢
       rwa [fillL_all base m _ vs hall]
     · have hrd : ∀ i, i ∈ Region.ready .any ops listed → i < n ∧ listed.getD i false = false ∧ ∃ o, ops[i]? = some o ∧ ∀ e ∈ o.after, Region.binds .any e = true → listed.getD e.on false = true := by
         intro i hi
         unfold Region.ready at hi
         rw [List.mem_filter, List.mem_range, hn] at hi
         obtain ⟨hin, hi⟩ := hi
         obtain ⟨o, ho⟩ : ∃ o, ops[i]? = some o := ⟨_, Array.getElem?_eq_getElem (by omega)⟩
         rw [ho] at hi
         simp only [Option.map_some, Option.getD_some, Bool.and_eq_true, Bool.not_eq_true'] at hi
         obtain ⟨h1, h2⟩ := hi
         refine ⟨hin, ?_, o, ho, fun e he hb => ?_⟩
         · rw [Array.getD_eq_getD_getElem?, Array.getElem?_eq_getElem (by omega)] at h1 ⊢
           exact h1
         · have := Array.all_eq_true'.1 h2 e he
           rw [hb] at this
           simpa using this
       have hlow : ∀ i, i ∈ Region.ready .any ops listed → i < m := by
         intro i hi
         obtain ⟨h1, h2, o, ho, hd⟩ := hrd i hi
         rcases Nat.lt_or_ge i m with h | h
         · exact h
         · exfalso
           rcases Nat.lt_or_ge m i with h' | h'
           · obtain ⟨e, he, hb, hme⟩ := regOk2_tail hok h' ho
             have h3 := hd e he hb
             by_cases hen : e.on < n
             · rw [htl e.on hme hen] at h3; cases h3
             · rw [Array.getD_eq_getD_getElem?, Array.getElem?_eq_none (by omega)] at h3; cases h3
           · obtain rfl : i = m := by omega
             apply hall
             have key : ∀ d j, j + d = i → j < i → listed.getD j false = true := by
               intro d
               induction d using Nat.strongRecOn with
               | ind d ihd =>
                 intro j hjd hj
                 obtain ⟨u, o2, hju, hum, ho2, e, he, hb, rfl⟩ := regOk2_use hok hj
                 rcases Nat.lt_or_ge u i with hu | hu
                 · exact hcl u o2 hu ho2 (ihd (i - u) (by omega) u (by omega) hu) e he hb
                 · obtain rfl : u = i := by omega
                   obtain rfl : o = o2 := Option.some.inj (ho.symm.trans ho2)
                   exact hd e he hb
             exact fun j hj => key (i - j) j (by omega) hj
       refine ⟨fun hr => ?_, fun i hi => ?_⟩
       · exfalso
         apply hall
         intro j
         induction j using Nat.strongRecOn with
         | ind j ihj =>
           intro hj
           cases hc : listed.getD j false with
           | true => rfl
           | false =>
             obtain ⟨o, ho⟩ : ∃ o, ops[j]? = some o := ⟨_, Array.getElem?_eq_getElem (by omega)⟩
             have hb := (regOk2_at hok hj ho).2.2
             have : j ∈ Region.ready .any ops listed := by
               unfold Region.ready
               rw [List.mem_filter]
               refine ⟨List.mem_range.2 (by omega), ?_⟩
               have e1 : listed.getD j true = false := by
                 rw [Array.getD_eq_getD_getElem?, Array.getElem?_eq_getElem (by omega)] at hc ⊢
                 exact hc
               rw [e1, ho]
               simp only [Bool.not_false, Bool.true_and, Option.map_some, Option.getD_some]
               rw [Array.all_eq_true']
               intro e he
               rw [ihj e.on (hb e he) (by have := hb e he; omega)]
               simp
             rw [hr] at this
             simp at this
       · have him := hlow i hi
         obtain ⟨hin, h1', o, ho, hd'⟩ := hrd i hi
         obtain ⟨hd, hg, hb⟩ := regOk2_at hok him ho
         unfold wpOp
         rw [ho]
         simp only []
         have hw : Region.wanted o (yielded ops a.tmps) = true := by unfold Region.wanted; rw [hg]
         rw [if_pos hw]
         obtain ⟨vs, rfl, hF, hD⟩ := hI
         refine Or.inl (Oper.wp_mono ?_ (step Q i o him ho _ w hG ?_ ?_))
         · rintro a' w' ⟨v, rfl, hG', hbel, hFi, hne⟩
           rw [actF_put a0 base m _ vs i v him hsz]
           refine ih _ _ _ (by simpa using hl) ?_ ?_ ?_ hG' ⟨fun j => if j = i then v else vs j, ?_, ?_, ?_⟩
           · intro j hj hjn
             rw [getD_set _ _ _ (by omega), htl j hj hjn]
             have : (j == i) = false := by simp; omega
             rw [this]; rfl
           · intro k o2 hk ho2 hlk e he hbe
             rw [getD_set _ _ _ (by omega)] at hlk ⊢
             by_cases hki : k = i
             · subst hki
               obtain rfl : o = o2 := Option.some.inj (ho.symm.trans ho2)
               rw [hd' e he hbe]; rfl
             · have : (k == i) = false := by simpa using hki
               rw [this, Bool.or_false] at hlk
               rw [hcl k o2 hk ho2 hlk e he hbe]; rfl
           · rw [cntD_set listed i (by omega) h1', if_pos him]; omega
           · congr 1
             funext j
             rw [getD_set _ _ _ (by omega)]
           · intro j hj hlj
             rw [getD_set _ _ _ (by omega)] at hlj
             by_cases e : j = i
             · subst e; simpa using hFi
             · show F j (if j = i then v else vs j) w'
               rw [if_neg e]
               have : (j == i) = false := by simpa using e
               rw [this, Bool.or_false] at hlj
               exact stab j _ w w' (hF j hj hlj) hbel
           · intro k j hk hj hkj hlk hlj hMk hMj
             rw [getD_set _ _ _ (by omega)] at hlk hlj
             dsimp only
             by_cases ek : k = i
             · subst ek
               have ej : ¬ j = k := fun e => hkj e.symm
               rw [if_pos rfl, if_neg ej]
               have : (j == k) = false := by simpa using ej
               rw [this, Bool.or_false] at hlj
               exact hne j _ (hF j hj hlj) hMk hMj
             · have e1 : (k == i) = false := by simpa using ek
               rw [e1, Bool.or_false] at hlk
               rw [if_neg ek]
               by_cases ej : j = i
               · subst ej
                 rw [if_pos rfl]
                 exact (hne k _ (hF k hk hlk) hMj hMk).symm
               · have e2 : (j == i) = false := by simpa using ej
                 rw [e2, Bool.or_false] at hlj
                 rw [if_neg ej]
                 exact hD k j hk hj hkj hlk hlj hMk hMj
         · intro t ht
           rw [actF_get, if_neg (fun e => by omega)]
         · intro e he hbi
           have hon := hb e he
           have hle := hd' e he hbi
           rw [actF_get, if_pos ⟨by omega, by omega, by omega, by rw [show base + e.on - base = e.on by omega]; exact hle⟩, show base + e.on - base = e.on by omega]
           exact hF e.on (by omega) hle
 have hz : ∀ k, (Array.replicate ops.size false).getD k false = false := fun k => by
   rw [Array.getD_eq_getD_getElem?, Array.getElem?_replicate]; split <;> rfl
 refine wp_region_any hm ?_
 refine main _ _ _ _ (by simpa using hn) (fun j _ _ => hz j) (fun i o _ _ h => by rw [hz] at h; cases h) ?_ hG ⟨fun _ => undef, ?_, ?_, ?_⟩
 · have : ∀ k, cntD (Array.replicate ops.size false) k = 0 := by
     intro k
     induction k with
     | zero => rfl
     | succ k ih =>
       rw [cntD, ih, hz]; simp
   rw [this]; omega
 · unfold actF
   have : ∀ (l : List Value) (t : Nat), fillL base m (fun j => (Array.replicate ops.size false).getD j false) (fun _ => undef) t l = l := by
     intro l
     induction l with
     | nil => intro t; rfl
     | cons x r ih =>
       intro t
       rw [fillL, ih, hz]
       simp
   rw [this]
 · intro j _ h
   rw [hz] at h; cases h
 · intro i _ _ _ _ h
   rw [hz] at h; cases h
end
end
end Go.Proofs.YtcgbnjoajieggaaGreat
