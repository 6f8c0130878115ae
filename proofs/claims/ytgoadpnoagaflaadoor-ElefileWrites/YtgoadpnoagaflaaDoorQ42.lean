/- Own texts, put together: Egk. -/
import Derived.Test.YtgoadpnoagaflaaDoorQ35
import Derived.Test.YtgoadpnoagaflaaDoorQ39
/- A file of triangles that is handed in, opened. -/
namespace Go.Proofs.YtgoadpnoagaflaaDoor
set_option maxRecDepth 100000
open Go.ChangeShapes Go.WideShapes Go.ChangeAt Go.RowKit Go.Deep Go.Lib Go.Joins
instance : Inhabited Rt := ⟨(⟨[], []⟩, .tuple #[], .tuple #[])⟩
theorem uIs11 : Tryd.prog.underlying 31 = some (.slice 3) := by kernel_rfl
theorem uRs11 : Tryd.prog.underlying 40 = some (.slice 51) := by kernel_rfl
theorem bRow11 : Tryd.prog.bytesOf 51 = 48 := by kernel_rfl
theorem bInt11 : Tryd.prog.bytesOf 3 = 8 := by kernel_rfl
theorem is_of_trod {H : Type} {enc : TypeId × Value → H} {W : World} {fuel : Nat} {v : Value} {x : DataW H × List MemPlace} (h : DataW.trod enc Tryd.prog W 0 (fun _ => true) true fuel 31 [v] = some x) (hw : ∀ n ∈ x.1.weights Tryd.prog 31, n ≤ reachBytes) : ∃ bs, Is W v bs ∧ bs.length ≤ 140737488355328 := by
 rcases open_slice1 uIs11 (by kernel_rfl) h with ⟨hcs, _⟩ | ⟨a, len, cap, m, n, V, D, Pl, hcs, _, hl, hm, hmm, hx0, hx⟩
 · obtain rfl : v = .slice none 0 0 := by simpa using hcs
   exact ⟨[], ⟨⟨none, 0, rfl, by simp, by omega, Or.inl rfl⟩, fun x hx => by simp at hx⟩, by simp⟩
 · obtain rfl : v = .slice (some a) len cap := by simpa using hcs
   simp only [if_true] at hmm
   subst hx0
   have hw1 : len ≤ 140737488355328 := by
     have := hw ((len + (m - len)) * 8) (by simp [DataW.weights, bInt11])
     unfold reachBytes at this
     omega
   have key : ∀ i, i < len → ∃ b : Int, V i = .int .i64 b ∧ InR b := fun i hi => int_trod10 uInt10 (hx i (by omega)).2
   obtain ⟨q, hq⟩ := choose_lt key
   refine ⟨(List.range len).map q, ⟨⟨some a, cap, by simp, by simpa using hl, by unfold maxLen at hm; omega, ?_⟩, fun b hb => ?_⟩, by simpa using hw1⟩
   · by_cases h0 : len = 0
     · left; subst h0; rfl
     · right
       obtain ⟨b, off, spot⟩ := a
       have hspot : spot = none := by simpa [Addr.add] using World.cell?_spot (hx 0 (by omega)).1
       subst hspot
       refine ⟨b, off, rfl, fun k hk => ?_⟩
       have hlt : k < len := by simpa using hk
       have := (hx k (by omega)).1
       rw [WideShapes.add_plain, (hq k hlt).1] at this
       rw [this]
       simp [List.getD, List.getElem?_range hlt]
   · obtain ⟨i, hi, rfl⟩ := List.mem_map.1 hb
     exact (hq i (List.mem_range.1 hi)).2
set_option maxHeartbeats 1000000 in
theorem rv_of_trod {H : Type} {enc : TypeId × Value → H} {W : World} {fuel : Nat} {v : Value} {x : DataW H × List MemPlace} (h : DataW.trod enc Tryd.prog W 0 (fun _ => true) true fuel 40 [v] = some x) (hw : ∀ n ∈ x.1.weights Tryd.prog 40, n ≤ reachBytes) : ∃ rs, Rv W v rs ∧ (∀ q ∈ rs, q.1.t.length ≤ 140737488355328 ∧ q.1.a.length ≤ 140737488355328) ∧ rs.length ≤ 140737488355328 := by
 rcases open_slice uRs11 h with ⟨hcs, _⟩ | ⟨a, len, cap, m, n, D, Pl, hcs, _, hl, hm, hmm, hx0, hx⟩
 · obtain rfl : v = .slice none 0 0 := by simpa using hcs
   exact ⟨[], ⟨⟨none, 0, rfl, by simp, by omega, Or.inl rfl⟩, fun x hx => by simp at hx⟩, fun x hx => by simp at hx, by simp⟩
 · obtain rfl : v = .slice (some a) len cap := by simpa using hcs
   simp only [if_true] at hmm
   subst hx0
   have hw1 : len ≤ 140737488355328 := by
     have := hw ((len + (m - len)) * 48) (by simp [DataW.weights, bRow11])
     unfold reachBytes at this
     omega
   have hw2 : ∀ i, i < len → ∀ n ∈ (D i).weights Tryd.prog 51, n ≤ reachBytes := fun i hi n hn => hw n (by
     simp only [DataW.weights, uRs11, List.mem_cons, List.mem_append]
     exact Or.inr (Or.inl (weightsAll_mem10 (d := D i) (List.mem_map.2 ⟨i, List.mem_range.2 hi, rfl⟩) hn)))
   have ce : Tryd.prog.cellsOf 51 = 2 := by kernel_rfl
   have cs : Tryd.prog.cellsOf 32 = 1 := by kernel_rfl
   have ci : Tryd.prog.cellsOf 31 = 1 := by kernel_rfl
   have key : ∀ i, i < len → ∃ q : Rt, (W.cell? (a.add (i * 2)) = some q.2.1 ∧ W.cell? (a.add (i * 2 + 1)) = some q.2.2) ∧ (Is W q.2.1 q.1.t ∧ Fs W q.2.2 q.1.a) ∧ q.1.t.length ≤ 140737488355328 ∧ q.1.a.length ≤ 140737488355328 := fun i hi => by
     obtain ⟨cs', h1, h2⟩ := hx i (by omega)
     rw [ce] at h1
     obtain ⟨_, hlen, hcell⟩ := World.cells?_some h1
     obtain ⟨v0, v1, rfl⟩ := list2 hlen
     obtain ⟨xs, k, _, hxy, _, hxl, hf⟩ := DataW.trod_struct Tryd.underlying51 h2
     obtain ⟨y0, y1, rfl⟩ := list2 hxl
     have g0 := hf 0 _ rfl
     have g1 := hf 1 _ rfl
     simp [cs, ci] at g0 g1
     have hD : D i = .agg [y0.1, y1.1] := congrArg Prod.fst hxy
     obtain ⟨ts, hts, htl⟩ := is_of_trod g0 (fun n hn => hw2 i hi n (by
       rw [hD]
       simp only [DataW.weights, Tryd.underlying51, List.map, DataW.weightsEach, List.mem_append]
       exact Or.inl hn))
     obtain ⟨bs, hbs, hbl, _⟩ := fs_of_trod g1 (fun n hn => hw2 i hi n (by
       rw [hD]
       simp only [DataW.weights, Tryd.underlying51, List.map, DataW.weightsEach, List.mem_append]
       exact Or.inr (Or.inl hn)))
     have e0 := hcell 0 (by omega)
     have e1 := hcell 1 (by omega)
     rw [add_add] at e0 e1
     exact ⟨(⟨ts, bs⟩, v0, v1), ⟨by simpa using e0, by simpa using e1⟩, ⟨hts, hbs⟩, htl, hbl⟩
   obtain ⟨q, hq⟩ := choose_lt key
   refine ⟨(List.range len).map q, ⟨⟨some a, cap, by simp, by simpa using hl, by unfold maxLen at hm; omega, ?_⟩, fun r hr => ?_⟩, fun r hr => ?_, by simpa using hw1⟩
   · by_cases h0 : len = 0
     · left; subst h0; rfl
     · right
       obtain ⟨b, off, spot⟩ := a
       have hspot : spot = none := by simpa [Addr.add] using World.cell?_spot (hq 0 (by omega)).1.1
       subst hspot
       refine ⟨b, off, rfl, World.block_lt_of_cell? _ _ (hq 0 (by omega)).1.1, fun k y hk => ?_⟩
       rw [List.getElem?_map] at hk
       have hlt : k < len := by
         rcases Nat.lt_or_ge k len with e | e
         · exact e
         · rw [List.getElem?_eq_none (by simpa using e)] at hk; cases hk
       rw [List.getElem?_range hlt] at hk
       obtain rfl : q k = y := by simpa using hk
       obtain ⟨e0, e1⟩ := (hq k hlt).1
       rw [WideShapes.add_plain] at e0 e1
       exact ⟨e0, by rw [Nat.add_assoc]; exact e1⟩
   · obtain ⟨i, hi, rfl⟩ := List.mem_map.1 hr
     exact (hq i (List.mem_range.1 hi)).2.1
   · obtain ⟨i, hi, rfl⟩ := List.mem_map.1 hr
     exact (hq i (List.mem_range.1 hi)).2.2
theorem open_file11 {H : Type} {enc : TypeId × Value → H} {W : World} {b0 : Nat} {r : Reach} {v : Value} {d : DataW H} {ps : List MemPlace} (hval : Value.okWide Tryd.prog W r b0 42 v) (h : DataW.Trod enc Tryd.prog W 0 (fun _ => true) true 42 v d ps) (hw : ∀ n ∈ d.weights Tryd.prog 42, n ≤ reachBytes) :
   ∃ f c k v0 rs, v = .agg #[.int .i64 f, .int .i64 c, .int .i64 k, v0] ∧ Rv W v0 rs ∧ (∀ q ∈ rs, q.1.t.length ≤ 140737488355328 ∧ q.1.a.length ≤ 140737488355328) ∧ rs.length ≤ 140737488355328 := by
 obtain ⟨v0, v1, v2, v3, y0, y1, y2, y3, n, rfl, rfl, _, t0, t1, t2, t3⟩ := open_agg4 Tryd.underlying42 (by kernel_rfl) (by kernel_rfl) hval h
 obtain ⟨rs, hrs, hln, hnn⟩ := rv_of_trod t3 (fun n hn => hw n (by
   simp only [DataW.weights, Tryd.underlying42, List.map, DataW.weightsEach, List.mem_append]
   exact Or.inr (Or.inr (Or.inr (Or.inl hn)))))
 obtain ⟨f, rfl, _⟩ := int_trod10 uInt10 t0
 obtain ⟨c, rfl, _⟩ := int_trod10 uInt10 t1
 obtain ⟨k, rfl, _⟩ := int_trod10 uInt10 t2
 exact ⟨f, c, k, v3, rs, rfl, hrs, hln, hnn⟩
end Go.Proofs.YtgoadpnoagaflaaDoor
