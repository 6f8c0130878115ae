/- Own texts, put together: Qoa. -/
import Derived.Test.YtofklahgpkmfmaaGreatDoorQ36
import Derived.ProofKit
import Derived.OpenShut
import Derived.Laws.Cover2
import Derived.ChangeOld
import Derived.ChangeMaps5
import Derived.Below
import Derived.Carry
import Derived.Deep.Slices
import Derived.Lib.SmallJoins
import Derived.SizedLaws
/- A file of nodes that is handed in, opened. -/
namespace Go.Proofs.YtofklahgpkmfmaaGreatDoor
set_option maxRecDepth 100000
open Go.ChangeShapes Go.WideShapes Go.ChangeAt Go.RowKit Go.Deep Go.Lib Go.Joins
instance : Inhabited Nt := ⟨(⟨0, 0, [], 0⟩, .tuple #[])⟩
theorem uFlt10 : Tryz.prog.underlying 57 = some (.float .f64) := by kernel_rfl
theorem uFs10 : Tryz.prog.underlying 60 = some (.slice 57) := by kernel_rfl
theorem uInt10 : Tryz.prog.underlying 3 = some (.int .i64) := by kernel_rfl
theorem uBool10 : Tryz.prog.underlying 4 = some .bool := by kernel_rfl
theorem uNs10 : Tryz.prog.underlying 23 = some (.slice 62) := by kernel_rfl
theorem list4 {α : Type} {cs : List α} (h : cs.length = 4) : ∃ c0 c1 c2 c3, cs = [c0, c1, c2, c3] := by
 match cs, h with
 | [c0, c1, c2, c3], _ => exact ⟨c0, c1, c2, c3, rfl⟩
theorem list3 {α : Type} {cs : List α} (h : cs.length = 3) : ∃ c0 c1 c2, cs = [c0, c1, c2] := by
 match cs, h with
 | [c0, c1, c2], _ => exact ⟨c0, c1, c2, rfl⟩
theorem list2 {α : Type} {cs : List α} (h : cs.length = 2) : ∃ c0 c1, cs = [c0, c1] := by
 match cs, h with
 | [c0, c1], _ => exact ⟨c0, c1, rfl⟩
theorem float_trod10 {H : Type} {enc : TypeId × Value → H} {P : Program} {w : World} {base m : Nat} {sp : Nat → Bool} {held : Bool} {e : TypeId} {c : Value} {x : DataW H × List MemPlace}
   (he : P.underlying e = some (.float .f64)) (h : DataW.trod enc P w base sp held m e [c] = some x) : ∃ b, c = .float .f64 b ∧ b < 18446744073709551616 := by
 cases m with
 | zero => simp [DataW.trod] at h
 | succ m =>
   unfold DataW.trod at h
   rw [he] at h
   cases c with
   | float k b =>
     simp only [] at h
     split at h
     · rename_i hk
       obtain ⟨rfl, hw⟩ := hk
       exact ⟨b, rfl, by simpa [Lit.wf, FloatKind.has] using hw⟩
     · cases h
   | _ => simp at h
theorem int_trod10 {H : Type} {enc : TypeId × Value → H} {P : Program} {w : World} {base m : Nat} {sp : Nat → Bool} {held : Bool} {e : TypeId} {c : Value} {x : DataW H × List MemPlace}
   (he : P.underlying e = some (.int .i64)) (h : DataW.trod enc P w base sp held m e [c] = some x) : ∃ n, c = .int .i64 n ∧ InR n := by
 cases m with
 | zero => simp [DataW.trod] at h
 | succ m =>
   unfold DataW.trod at h
   rw [he] at h
   cases c with
   | int k b =>
     simp only [] at h
     split at h
     · rename_i hk
       obtain ⟨rfl, hw⟩ := hk
       simp only [Lit.wf, Bool.and_eq_true, decide_eq_true_eq] at hw
       exact ⟨b, rfl, hw.1, hw.2⟩
     · cases h
   | _ => simp at h
theorem bool_trod10 {H : Type} {enc : TypeId × Value → H} {P : Program} {w : World} {base m : Nat} {sp : Nat → Bool} {held : Bool} {e : TypeId} {c : Value} {x : DataW H × List MemPlace}
   (he : P.underlying e = some .bool) (h : DataW.trod enc P w base sp held m e [c] = some x) : ∃ b, c = .bool b := by
 cases m with
 | zero => simp [DataW.trod] at h
 | succ m =>
   unfold DataW.trod at h
   rw [he] at h
   cases c with
   | bool b => exact ⟨b, rfl⟩
   | _ => simp at h
theorem weightsAll_mem10 {H : Type} {P : Program} {e : TypeId} : ∀ {ds : List (DataW H)} {d : DataW H} {n : Nat}, d ∈ ds → n ∈ d.weights P e → n ∈ DataW.weightsAll P e ds := by
 intro ds
 induction ds with
 | nil => intro d n h; simp at h
 | cons a r ih =>
   intro d n h hn
   simp only [DataW.weightsAll, List.mem_append]
   rcases List.mem_cons.1 h with e | e
   · subst e; exact Or.inl hn
   · exact Or.inr (ih e hn)
theorem bNode10 : Tryz.prog.bytesOf 62 = 48 := by kernel_rfl
theorem bFlt10 : Tryz.prog.bytesOf 57 = 8 := by kernel_rfl
theorem fs_of_trod {H : Type} {enc : TypeId × Value → H} {W : World} {fuel : Nat} {v : Value} {x : DataW H × List MemPlace} (h : DataW.trod enc Tryz.prog W 0 (fun _ => true) true fuel 60 [v] = some x) (hw : ∀ n ∈ x.1.weights Tryz.prog 60, n ≤ reachBytes) : ∃ bs, Fs W v bs ∧ bs.length ≤ 140737488355328 ∧ ∀ n c, v = .slice none n c → n = 0 ∧ c = 0 := by
 rcases open_slice1 uFs10 (by kernel_rfl) h with ⟨hcs, _⟩ | ⟨a, len, cap, m, n, V, D, Pl, hcs, _, hl, hm, hmm, hx0, hx⟩
 · obtain rfl : v = .slice none 0 0 := by simpa using hcs
   exact ⟨[], ⟨⟨none, 0, rfl, by simp, by omega, Or.inl rfl⟩, fun x hx => by simp at hx⟩, by simp, fun n c e => by cases e; exact ⟨rfl, rfl⟩⟩
 · obtain rfl : v = .slice (some a) len cap := by simpa using hcs
   simp only [if_true] at hmm
   subst hx0
   have hw1 : len ≤ 140737488355328 := by
     have := hw ((len + (m - len)) * 8) (by simp [DataW.weights, bFlt10])
     unfold reachBytes at this
     omega
   have key : ∀ i, i < len → ∃ b : Nat, V i = .float .f64 b ∧ b < 18446744073709551616 := fun i hi => float_trod10 uFlt10 (hx i (by omega)).2
   obtain ⟨q, hq⟩ := choose_lt key
   refine ⟨(List.range len).map q, ⟨⟨some a, cap, by simp, by simpa using hl, by unfold maxLen at hm; omega, ?_⟩, fun b hb => ?_⟩, by simpa using hw1, fun n c e => by simp at e⟩
   · by_cases h0 : len = 0
     · left; subst h0; rfl
     · right
       obtain ⟨b, off, spot⟩ := a
       have hspot : spot = none := by simpa [Addr.add] using World.cell?_spot (hx 0 (by omega)).1
       subst hspot
       refine ⟨b, off, rfl, fun k hk => ?_⟩
       have hlt : k < len := by simpa using hk
       have := (hx k (by omega)).1
       rw [WideShapes.add_plain, (hq k hlt).1] at this
       rw [this]
       simp [List.getD, List.getElem?_range hlt]
   · obtain ⟨i, hi, rfl⟩ := List.mem_map.1 hb
     exact (hq i (List.mem_range.1 hi)).2
set_option maxHeartbeats 1000000 in
theorem nv_of_trod {H : Type} {enc : TypeId × Value → H} {W : World} {fuel : Nat} {v : Value} {x : DataW H × List MemPlace} (h : DataW.trod enc Tryz.prog W 0 (fun _ => true) true fuel 23 [v] = some x) (hw : ∀ n ∈ x.1.weights Tryz.prog 23, n ≤ reachBytes) : ∃ ns, Nv W v ns ∧ (∀ q ∈ ns, q.1.a.length ≤ 140737488355328 ∧ ∀ n c, q.2 = .slice none n c → n = 0 ∧ c = 0) ∧ ns.length ≤ 140737488355328 := by
 rcases open_slice uNs10 h with ⟨hcs, _⟩ | ⟨a, len, cap, m, n, D, Pl, hcs, _, hl, hm, hmm, hx0, hx⟩
 · obtain rfl : v = .slice none 0 0 := by simpa using hcs
   exact ⟨[], ⟨⟨none, 0, rfl, by simp, by omega, Or.inl rfl⟩, fun x hx => by simp at hx, fun x hx => by simp at hx⟩, fun x hx => by simp at hx, by simp⟩
 · obtain rfl : v = .slice (some a) len cap := by simpa using hcs
   simp only [if_true] at hmm
   subst hx0
   have hw1 : len ≤ 140737488355328 := by
     have := hw ((len + (m - len)) * 48) (by simp [DataW.weights, bNode10])
     unfold reachBytes at this
     omega
   have hw2 : ∀ i, i < len → ∀ n ∈ (D i).weights Tryz.prog 62, n ≤ reachBytes := fun i hi n hn => hw n (by
     simp only [DataW.weights, uNs10, List.mem_cons, List.mem_append]
     exact Or.inr (Or.inl (weightsAll_mem10 (d := D i) (List.mem_map.2 ⟨i, List.mem_range.2 hi, rfl⟩) hn)))
   have ce : Tryz.prog.cellsOf 62 = 4 := by kernel_rfl
   have cp : Tryz.prog.cellsOf 59 = 2 := by kernel_rfl
   have cf : Tryz.prog.cellsOf 57 = 1 := by kernel_rfl
   have cs : Tryz.prog.cellsOf 60 = 1 := by kernel_rfl
   have ci : Tryz.prog.cellsOf 3 = 1 := by kernel_rfl
   have key : ∀ i, i < len → ∃ q : Nt, (W.cell? (a.add (i * 4)) = some (.float .f64 q.1.x) ∧ W.cell? (a.add (i * 4 + 1)) = some (.float .f64 q.1.y) ∧ W.cell? (a.add (i * 4 + 2)) = some q.2 ∧ W.cell? (a.add (i * 4 + 3)) = some (.int .i64 q.1.m)) ∧ Fs W q.2 q.1.a ∧ wdN q.1 ∧ q.1.a.length ≤ 140737488355328 ∧ ∀ n c, q.2 = .slice none n c → n = 0 ∧ c = 0 := fun i hi => by
     obtain ⟨cs', h1, h2⟩ := hx i (by omega)
     rw [ce] at h1
     obtain ⟨_, hlen, hcell⟩ := World.cells?_some h1
     obtain ⟨v0, v1, v2, v3, rfl⟩ := list4 hlen
     obtain ⟨xs, k, _, hxy, _, hxl, hf⟩ := DataW.trod_struct Tryz.underlying62 h2
     obtain ⟨y0, y1, y2, rfl⟩ := list3 hxl
     have g0 := hf 0 _ rfl
     have g1 := hf 1 _ rfl
     have g2 := hf 2 _ rfl
     simp [cp, cs, ci] at g0 g1 g2
     obtain ⟨xs, k2, _, _, _, hxl2, hf2⟩ := DataW.trod_struct Tryz.underlying59 g0
     obtain ⟨z0, z1, rfl⟩ := list2 hxl2
     have r0 := hf2 0 _ rfl
     have r1 := hf2 1 _ rfl
     simp [cf] at r0 r1
     obtain ⟨b0, rfl, l0⟩ := float_trod10 uFlt10 r0
     obtain ⟨b1, rfl, l1⟩ := float_trod10 uFlt10 r1
     have hD : D i = .agg [y0.1, y1.1, y2.1] := congrArg Prod.fst hxy
     obtain ⟨bs, hbs, hbl⟩ := fs_of_trod g1 (fun n hn => hw2 i hi n (by
       rw [hD]
       simp only [DataW.weights, Tryz.underlying62, List.map, DataW.weightsEach, List.mem_append]
       exact Or.inr (Or.inl hn)))
     obtain ⟨mk, rfl, hmk⟩ := int_trod10 uInt10 g2
     have e0 := hcell 0 (by omega)
     have e1 := hcell 1 (by omega)
     have e2 := hcell 2 (by omega)
     have e3 := hcell 3 (by omega)
     rw [add_add] at e0 e1 e2 e3
     exact ⟨(⟨b0, b1, bs, mk⟩, v2), ⟨by simpa using e0, by simpa using e1, by simpa using e2, by simpa using e3⟩, hbs, ⟨l0, l1, hmk⟩, hbl⟩
   obtain ⟨q, hq⟩ := choose_lt key
   refine ⟨(List.range len).map q, ⟨⟨some a, cap, by simp, by simpa using hl, by unfold maxLen at hm; omega, ?_⟩, fun r hr => ?_, fun r hr => ?_⟩, fun r hr => ?_, by simpa using hw1⟩
   · by_cases h0 : len = 0
     · left; subst h0; rfl
     · right
       obtain ⟨b, off, spot⟩ := a
       have hspot : spot = none := by simpa [Addr.add] using World.cell?_spot (hq 0 (by omega)).1.1
       subst hspot
       refine ⟨b, off, rfl, World.block_lt_of_cell? _ _ (hq 0 (by omega)).1.1, fun k y hk => ?_⟩
       rw [List.getElem?_map] at hk
       have hlt : k < len := by
         rcases Nat.lt_or_ge k len with e | e
         · exact e
         · rw [List.getElem?_eq_none (by simpa using e)] at hk; cases hk
       rw [List.getElem?_range hlt] at hk
       obtain rfl : q k = y := by simpa using hk
       obtain ⟨e0, e1, e2, e3⟩ := (hq k hlt).1
       rw [WideShapes.add_plain] at e0 e1 e2 e3
       exact ⟨e0, by rw [Nat.add_assoc]; exact e1, by rw [Nat.add_assoc]; exact e2, by rw [Nat.add_assoc]; exact e3⟩
   · obtain ⟨i, hi, rfl⟩ := List.mem_map.1 hr
     exact (hq i (List.mem_range.1 hi)).2.1
   · obtain ⟨i, hi, rfl⟩ := List.mem_map.1 hr
     exact (hq i (List.mem_range.1 hi)).2.2.1
   · obtain ⟨i, hi, rfl⟩ := List.mem_map.1 hr
     exact (hq i (List.mem_range.1 hi)).2.2.2
theorem open_file10 {H : Type} {enc : TypeId × Value → H} {W : World} {b0 : Nat} {r : Reach} {v : Value} {d : DataW H} {ps : List MemPlace} (hval : Value.okWide Tryz.prog W r b0 25 v) (h : DataW.Trod enc Tryz.prog W 0 (fun _ => true) true 25 v d ps) (hw : ∀ n ∈ d.weights Tryz.prog 25, n ≤ reachBytes) :
   ∃ v0 ns z k m, v = .agg #[v0, .bool z, .int .i64 k, .bool m] ∧ Nv W v0 ns ∧ InR k ∧ (∀ q ∈ ns, q.1.a.length ≤ 140737488355328 ∧ ∀ n c, q.2 = .slice none n c → n = 0 ∧ c = 0) ∧ ns.length ≤ 140737488355328 := by
 obtain ⟨v0, v1, v2, v3, y0, y1, y2, y3, n, rfl, rfl, _, t0, t1, t2, t3⟩ := open_agg4 Tryz.underlying25 (by kernel_rfl) (by kernel_rfl) hval h
 obtain ⟨ns, hns, hln, hnn⟩ := nv_of_trod t0 (fun n hn => hw n (by
   simp only [DataW.weights, Tryz.underlying25, List.map, DataW.weightsEach, List.mem_append]
   exact Or.inl hn))
 obtain ⟨z, rfl⟩ := bool_trod10 uBool10 t1
 obtain ⟨k, rfl, hk⟩ := int_trod10 uInt10 t2
 obtain ⟨m, rfl⟩ := bool_trod10 uBool10 t3
 exact ⟨v0, ns, z, k, m, rfl, hns, hk, hln, hnn⟩
end Go.Proofs.YtofklahgpkmfmaaGreatDoor
