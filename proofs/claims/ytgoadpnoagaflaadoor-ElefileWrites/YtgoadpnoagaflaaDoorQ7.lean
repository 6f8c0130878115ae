/- Own texts, put together: Tk Bb Bc Ln Ql Qra Qf Qg. -/
import Derived.Test.YtgoadpnoagaflaaDoorQ3
import Derived.Test.YtgoadpnoagaflaaDoorQ4
import Derived.KernelRfl
import Derived.Tactics
import Derived.Test.YtgoadpnoagaflaaDoorProg
import Derived.WalkKit
import Derived.WalkSpells
import Derived.WalkLawsBesides
import Derived.OwnWalk
import Derived.Handy
import Derived.Lib.Hide
import Derived.Shelf.Abstract
import Derived.Shelf.RegionOpen
import Derived.Lib.Walk
import Derived.Lib.Strings
import Derived.Laws.Strings3
import Derived.RegionTactic
import Derived.Shelf.Strconv.Clone
import Derived.Shelf.LaysM
import Derived.Below
import Derived.Shelf.Spec.SlicesGrow
import Derived.Shelf.SlicesQ.IndexFunc
namespace Go.Proofs.YtgoadpnoagaflaaDoor
/- A drawn region's operations in fewer words. -/
section
open Go
section
variable {P : Program} {ops : Array Oper} {Q : Exit → Act → World → Prop} {md : Region.Mode} {S : World → Prop}
theorem takA {i : Nat} {d : Option Tmp} {v : Value} {fuel : Nat} {listed : Array Bool} {a : Act} {w : World} (hS : S w)
   (h : wpAnyH P md ops Q S fuel (listed.setIfInBounds i true) (a.put d v) w)
   (hd : (ops[i]?).map (·.dst) = some d := by kernel_rfl) (hs : Region.noSelect ops = true := by kernel_rfl)
   (hf : Region.free md ops listed i = true := by kernel_rfl) (hr : (Region.ready md ops listed).contains i = true := by kernel_rfl)
   (hQ : ∀ c a w, Q (.panic c) (a.put d v) w → Q (.panic c) a w := by exact fun _ _ _ h => h)
   (hy : ∀ oi, ops[i]? = some oi → YieldsIf P ops S oi v a := by
     intro o ho
     simp only [List.getElem?_toArray, List.getElem?_cons_succ, List.getElem?_cons_zero, Option.some.injEq] at ho
     subst ho
     refine Or.inl ⟨by rfl, ?_⟩
     intro w hSw
     (try dsimp only at hSw)
     go_simp) : wpAnyH P md ops Q S (fuel + 1) listed a w := take_at hd hs hf hr hQ hy hS h
theorem calA (i : Nat) {o : Oper} {fuel : Nat} {listed : Array Bool} {a : Act} {w : World}
   (h : ∀ K' : Act → World → Prop, Shut (∀ a w, S w → (S w → wpAnyH P md ops Q S fuel (listed.setIfInBounds i true) a w) → K' a w) → if Region.wanted o (yielded ops a.tmps) = true then Oper.wp P o a w K' Q else K' (a.put o.dst undef) w)
   (hr : Region.ready md ops listed = [i] := by kernel_rfl)
   (ho : ops[i]? = some o := by
     simp only [List.getElem?_toArray, List.getElem?_cons_succ, List.getElem?_cons_zero]
     rfl) :
   wpAnyH P md ops Q S (fuel + 1) listed a w :=
 call_at i hr (by rw [ho]; rfl) (fun o' ho' => by rw [ho] at ho'; cases ho'; exact h)
end
theorem AP : (∀ (a : Act) (t : Tmp) (v : Value), a.put (some t) v = { a with tmps := a.tmps.setIfInBounds t v }) ∧ (∀ (a : Act) (v : Value), a.put none v = a) ∧ (∀ {α : Type} (l : List α) (i : Nat) (x : α), l.toArray.setIfInBounds i x = (l.set i x).toArray) ∧ (∀ {α : Type} (x y : α) (l : List α), (x :: l).set 0 y = y :: l) ∧ (∀ {α : Type} (x y : α) (l : List α) (i : Nat), (x :: l).set (i + 1) y = x :: l.set i y) :=
 ⟨fun _ _ _ => rfl, fun _ _ => rfl, fun _ _ _ => List.setIfInBounds_toArray .., fun _ _ _ => rfl, fun _ _ _ _ => rfl⟩
end

/- Package strings: Cut at one byte. -/
section
set_option maxRecDepth 100000
open Go.RowKit Go.Shelf Go.Lib
end

/- Package lines: isBlank, mayBe, strings.Clone. -/
section
set_option maxRecDepth 100000
open Go.RowKit Go.Shelf Go.Lib
theorem mayW_no {l : Bs} {k : Nat} (hk : k < l.length) (hg : gd l[k] = false) : mayW l = false := by
 unfold mayW
 have : l.all gd = false := by
   rw [List.all_eq_false]
   exact ⟨l[k], List.getElem_mem hk, by simp [hg]⟩
 simp [this]
theorem mayW_yes {l : Bs} (h0 : l ≠ []) (h1 : l.length ≤ 400) (h : ∀ j (hj : j < l.length), gd l[j] = true) : mayW l = true := by
 unfold mayW
 have : l.all gd = true := by
   rw [List.all_eq_true]
   intro x hx
   obtain ⟨j, hj, rfl⟩ := List.mem_iff_getElem.1 hx
   exact h j hj
 simp [this, h1, h0]
theorem byte_atL {ds : List UInt8} {k : Nat} (hk : k < (⟨ds.toArray⟩ : ByteArray).size) (hk' : k < ds.length) : (⟨ds.toArray⟩ : ByteArray)[k]'hk = ds[k] := by
 show (ds.toArray)[k] = ds[k]
 simp
theorem sv_size (l : Bs) : (⟨l.toArray⟩ : ByteArray).size = l.length := by simp [ByteArray.size]
set_option maxHeartbeats 2000000 in
theorem mayBeL_any (l : Bs) (w : World) (hs : l.length ≤ 9223372036854775807) : Calls Tryd.prog 67 #[sv l] w fun e w' => e = .returned (.bool (mayW l)) ∧ w' = w := by
 obtain ⟨s, hS⟩ : ∃ s : ByteArray, (⟨l.toArray⟩ : ByteArray) = s := ⟨_, rfl⟩
 have HS := Lib.hid hS
 have hsz : s.size = l.length := by rw [← hS]; exact sv_size l
 have hlist : s.toList = l := by rw [← hS, Lib.toList_data]
 have HE : Hid ((s.toList == []) = l.isEmpty) := (by rw [hlist]; cases l <;> rfl : (s.toList == []) = l.isEmpty)
 show Calls Tryd.prog 67 #[.string ⟨l.toArray⟩] w _
 rw [hS]
 have HB : Hid (∀ (k : Nat) (h1 : k < s.size) (h2 : k < l.length), s[k]'h1 = l[k]) := fun k h1 h2 => by
   subst hS; exact byte_atL h1 h2
 clear hS
 by_cases h0 : l = []
 · have e1 : (s.toList == []) = true := by rw [HE.out, h0]; rfl
   have e2 : mayW l = false := by rw [h0]; rfl
   rw [e2]
   clear hlist HE
   go_enter Tryd.func67, Tryd.ntmps67
   go_wp2
   go_ret
   exact ⟨rfl, rfl⟩
 have e1 : (s.toList == []) = false := by rw [HE.out]; cases l with
   | nil => exact absurd rfl h0
   | cons a r => rfl
 clear hlist HE
 by_cases h4 : 400 < l.length
 · have e2 : mayW l = false := by unfold mayW; rw [decide_eq_false (by omega : ¬ l.length ≤ 400)]; simp
   rw [e2]
   have h5 : (400 : Int) < (s.size : Int) := by omega
   have h6 : (s.size : Int) ≤ 9223372036854775807 := by omega
   go_enter Tryd.func67, Tryd.ntmps67
   go_wp2
   go_ret
   exact ⟨rfl, rfl⟩
 have h5 : ¬ ((400 : Int) < (s.size : Int)) := by omega
 have h6 : (s.size : Int) ≤ 400 := by omega
 have HZ := Lib.hid hsz
 have HN := Lib.hid h0
 clear hsz h0
 go_enter Tryd.func67, Tryd.ntmps67
 go_wp2
 go_loop [14] (fun vi => ∃ k : Nat, k ≤ s.size ∧ vi = .int .i64 (k : Nat) ∧ Hid (∀ j (_ : j < k) (h2 : j < l.length), gd l[j] = true)) (fun vi => s.size - (RowKit.intOf vi).toNat)
 case atStart => exact ⟨0, Nat.zero_le _, rfl, fun j hj _ => by omega⟩
 case round =>
   obtain ⟨k, hk, rfl, hI⟩ := hrel
   by_cases hlt : k < s.size
   · have hk2 : k < l.length := by have := HZ.out; omega
     have hlt' : (k : Int) < (s.size : Int) := by omega
     have hk0 : (0 : Int) ≤ (k : Int) := by omega
     obtain ⟨n, hn⟩ : ∃ n, Hid (l[k].toNat = n) := ⟨l[k].toNat, Lib.hid rfl⟩
     have hv : (((s[k]'hlt).toNat : Nat) : Int) = (n : Int) := by rw [HB.out k hlt hk2, hn.out]
     have HG : Hid (gd l[k] = (decide (33 ≤ n) && decide (n ≤ 126) && !(n == 35))) := (by unfold gd; rw [hn.out] : gd l[k] = _)
     by_cases hg : gd l[k] = true
     · have hg2 := hg
       rw [HG.out] at hg2
       simp at hg2
       have d1 : ¬ ((n : Int) < 33) := by omega
       have d2 : ¬ ((126 : Int) < (n : Int)) := by omega
       have d3 : ¬ ((n : Int) = 35) := by omega
       clear hg2
       go_wp2
       refine ⟨⟨k + 1, by omega, by go_num, fun j hj hjl => ?_⟩, ?_⟩
       · by_cases e : j = k
         · subst e; exact hg
         · exact hI.out j (by omega) hjl
       · simp [RowKit.intOf]; omega
     · have hg3 : gd l[k] = false := by simpa using hg
       have HM := Lib.hid (mayW_no hk2 hg3)
       rw [HG.out] at hg
       simp at hg
       have hx : (n : Int) < 33 ∨ ((126 : Int) < (n : Int) ∨ (n : Int) = 35) := by omega
       clear hg
       rcases hx with d1 | d1 | d1
       · go_wp2
         go_ret
         rw [HM.out]; exact ⟨rfl, rfl⟩
       · have d0 : ¬ ((n : Int) < 33) := by omega
         go_wp2
         go_ret
         rw [HM.out]; exact ⟨rfl, rfl⟩
       · have d0 : n = 35 := by omega
         subst d0
         go_wp2
         go_ret
         rw [HM.out]; exact ⟨rfl, rfl⟩
   · obtain rfl : k = s.size := by omega
     have HM := Lib.hid (mayW_yes HN.out (by have := HZ.out; omega) (fun j hj => hI.out j (by have := HZ.out; omega) hj))
     go_wp2
     go_ret
     rw [HM.out]; exact ⟨rfl, rfl⟩
end

/- A drawn region in which one box is laid while a chain of operations goes on. -/
section
open Go Go.RowKit
section
variable {P : Program} {ops : Array Oper} {Q : Exit → Act → World → Prop} {md : Region.Mode} {S : World → Prop}
end
def CB (W : World) (b : Nat) (cs : Array Value) (t : Nat) : Prop := W.heap[b]? = some (.cells cs t (0, 0))
theorem CB.lt {W : World} {b t : Nat} {cs : Array Value} (h : CB W b cs t) : b < W.heap.size := (Array.getElem?_eq_some_iff.1 h).1
theorem CB.later {W W' : World} {b t : Nat} {cs : Array Value} (h : CB W b cs t) (hb : Below W.heap.size W W') : CB W' b cs t := by
 unfold CB
 rw [hb.block b h.lt]; exact h
theorem CB.new (W : World) (cs : Array Value) (t : Nat) : CB (W.alloc (.cells cs t)) W.heap.size cs t := heap_alloc_new W _
theorem CB.cell {W : World} {b t : Nat} {cs : Array Value} (h : CB W b cs t) (i : Nat) (hi : i < cs.size) : W.cell? ⟨b, i, none⟩ = some cs[i] := by
 unfold CB at h
 simp [World.cell?, h, hi]
theorem CB.frozen {W : World} {b t : Nat} {cs : Array Value} (h : CB W b cs t) (i : Nat) : W.frozen? ⟨b, i, none⟩ = false := by
 unfold CB at h
 simp [World.frozen?, h]
theorem CB.set {W : World} {b t : Nat} {cs : Array Value} (h : CB W b cs t) (i : Nat) (v : Value) : CB (W.setCell ⟨b, i, none⟩ v) b (cs.set! i v) t := by
 unfold CB at h ⊢
 simp [World.setCell, Array.getElem?_modify, h]
theorem CB.other {W : World} {b t g i : Nat} {cs : Array Value} (h : CB W b cs t) (hn : b ≠ g) (v : Value) : CB (W.setCell ⟨g, i, none⟩ v) b cs t := by
 unfold CB at h ⊢
 rw [Below.heap_setCell _ ⟨g, i, none⟩ v b hn]; exact h
theorem CB.drew {W : World} {b t : Nat} {cs : Array Value} (h : CB W b cs t) : CB W.drew b cs t := h
end

/- slices.Grow of nothing, at floats and at nodes; slices.ContainsFunc at nodes: the library's contracts, laid at this program. -/
section
set_option maxRecDepth 100000
open Go.Shelf Go.Proofs Go.RowKit Go.Lib
end

/- Drawn regions as their orders. -/
section
open Go
end

/- errors.As at the two targets; what told tells. -/
section
open Go.RowKit Go.Extern.Stop Go.Stop Go.Extern
def h3 (t b : Nat) : Array Value := #[.pointer (some ⟨5, t, none⟩), .pointer (some ⟨b, 0, none⟩), .int .u64 150]
end

/- errors.As at a target of type Errno; told. -/
section
set_option maxRecDepth 100000
open Go.RowKit Go.Extern.Stop Go.Stop Go.Extern
end
end Go.Proofs.YtgoadpnoagaflaaDoor
