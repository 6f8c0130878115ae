/- Own texts, put together: By Qra Qr Qe. -/
import Derived.OrdersIn
import Derived.TacticsIn
import Derived.RegionTactic
import Derived.Test.YtgoadpnoagaflaaDoorProg
import Derived.WalkKit
import Derived.OwnWalk
import Derived.LaidEql
import Derived.Stop.Asserts
import Derived.RowKitTokens
import Derived.Below
import Derived.Lib.Hide
namespace Go.Proofs.YtgoadpnoagaflaaDoor
/- A drawn region is carried out in one of finitely many orders: each of them may be walked as a list. -/
section
open Go
def lin (md : Region.Mode) (ops : Array Oper) : Nat → Array Bool → List (List Nat)
 | 0, _ => [[]]
 | fuel + 1, listed => match Region.ready md ops listed with
   | [] => [[]]
   | r => r.flatMap fun i => (lin md ops fuel (listed.setIfInBounds i true)).map (i :: ·)
theorem lin_sound (md : Region.Mode) (ops : Array Oper) : ∀ (fuel t : Nat) (listed : Array Bool), Region.linearise.go md ops fuel t listed [] ∈ lin md ops fuel listed := by
 intro fuel
 induction fuel with
 | zero => intro t listed; simp [Region.linearise.go, lin]
 | succ fuel ih =>
   intro t listed
   simp only [Region.linearise.go]
   change (match (Region.ready md ops listed)[t % (Region.ready md ops listed).length]? with
     | some i => Region.linearise.go md ops fuel (t / (Region.ready md ops listed).length) (listed.setIfInBounds i true) [i]
     | none => [].reverse) ∈ _
   cases hi : (Region.ready md ops listed)[t % (Region.ready md ops listed).length]? with
   | none =>
     have hnil : Region.ready md ops listed = [] := by
       cases hr : Region.ready md ops listed with
       | nil => rfl
       | cons x xs =>
         rw [hr] at hi
         have hlt : t % (x :: xs).length < (x :: xs).length := Nat.mod_lt _ (by simp)
         simp at hi
         simp at hlt
         omega
     simp [lin, hnil]
   | some i =>
     simp only []
     rw [linearise_go_acc, List.reverse_singleton, List.singleton_append, lin]
     have hm := List.mem_of_getElem? hi
     split
     · rename_i e; rw [e] at hm; simp at hm
     · rw [List.mem_flatMap]
       exact ⟨i, hm, List.mem_map.2 ⟨_, ih _ _, rfl⟩⟩
section
variable {F : Fence} {n : Nat} {P : Program} {ops : Array Oper} {Q : Exit → Act → World → Prop}
theorem wpOpsIn_list : ∀ (is : List Nat), wpOpsIn F n P ops Q is = wpListIn F n P ops Q (is.filterMap (fun i => ops[i]?)) := by
 intro is
 induction is with
 | nil => funext a w; simp [wpOpsIn, wpListIn]
 | cons i is ih =>
   funext a w
   cases h : ops[i]? with
   | none => simp only [wpOpsIn, h, List.filterMap_cons, ih]
   | some o => simp only [wpOpsIn, h, List.filterMap_cons, ih, wpListIn]
theorem region_orders {id : Nat} {l : List Oper} {a : Act} {w : World} (hm : P.follows .mixedOrders = true) (os : List (List Nat))
   (hos : lin .any l.toArray l.length (Array.replicate l.length false) = os)
   (h : ∀ o ∈ os, wpListIn F n P l.toArray Q (o.filterMap (fun i => l.toArray[i]?)) a w.drew) : (Code.region id l.toArray true).wpIn F n P Q a w :=
 wpIn_region_draw fun t => by
   simp only [Region.schedule, hm, Bool.true_or, if_true]
   show wpOpsIn F n P l.toArray Q (Region.linearise.go .any l.toArray l.toArray.size t (Array.replicate l.toArray.size false) []) a w.drew
   rw [wpOpsIn_list]
   refine h _ ?_
   rw [← hos]
   have := lin_sound .any l.toArray l.toArray.size t (Array.replicate l.toArray.size false)
   rw [List.size_toArray] at this ⊢
   exact this
end
section
variable {P : Program} {ops : Array Oper} {Q : Exit → Act → World → Prop}
end
theorem region6x4 {F : Fence} {n : Nat} {P : Program} {Q : Exit → Act → World → Prop} {id : Nat} {o0 o1 o2 o3 o4 o5 : Oper} {a : Act} {w : World} (hm : P.follows .mixedOrders = true)
   (hos : lin .any [o0, o1, o2, o3, o4, o5].toArray 6 (Array.replicate 6 false) = [[0, 1, 2, 3, 4, 5], [1, 0, 2, 3, 4, 5], [1, 2, 0, 3, 4, 5], [1, 2, 3, 0, 4, 5]])
   (h0 : wpListIn F n P [o0, o1, o2, o3, o4, o5].toArray Q [o0, o1, o2, o3, o4, o5] a w.drew)
   (h1 : wpListIn F n P [o0, o1, o2, o3, o4, o5].toArray Q [o1, o0, o2, o3, o4, o5] a w.drew)
   (h2 : wpListIn F n P [o0, o1, o2, o3, o4, o5].toArray Q [o1, o2, o0, o3, o4, o5] a w.drew)
   (h3 : wpListIn F n P [o0, o1, o2, o3, o4, o5].toArray Q [o1, o2, o3, o0, o4, o5] a w.drew) : (Code.region id [o0, o1, o2, o3, o4, o5].toArray true).wpIn F n P Q a w := by
 refine region_orders hm _ hos ?_
 intro o ho
 simp only [List.mem_cons, List.not_mem_nil, or_false] at ho
 rcases ho with rfl | rfl | rfl | rfl
 · exact h0
 · exact h1
 · exact h2
 · exact h3
end

/- Drawn regions as their orders. -/
section
open Go
end

/- An append in a drawn region. -/
section
open Go.RowKit
theorem wp_append_own {P : Program} {o : Oper} {aa : Act} {w : World} {K : Act → World → Prop} {Q : Exit → Act → World → Prop} (s x : Operand) (t : TypeId) (ho : o.op = .call { callee := .builtin .append, args := #[s, x], argTypes := #[t, t] })
   (base : Nat) (e : TypeId) (i : TypeInfo) (z : Value) (size bytes : Nat) (ht : P.underlying t = some (.slice e)) (hi : P.info? e = some i) (hz : i.zero = some z) (hsize : i.size = size) (hby : i.bytes = bytes) (hzs : z.cells.size = size) (hsz : 0 < size)
   (v : Value) (n : Nat) (xs : List Value) (hs : aa.eval s = v) (hown : w.ownsRow base e size v n xs) (ad : Addr) (m c : Nat) (news : List Value) (hx : aa.eval x = .slice (some ad) m c) (hl : news.length = m * size) (hnews : ∀ j u, news[j]? = some u → w.cell? (ad.add j) = some u) (h1 : ∀ u ∈ news, u.oneCell' = true)
   (h63 : n + m ≤ maxLen) (hbytes : (n + m) * bytes ≤ 140737488355328) (hbase : base ≤ w.heap.size)
   (h : ∀ v' w', w'.ownsRow base e size v' (n + m) (xs ++ news) → w.grownBy w' v.ownBlock → K (aa.put o.dst v') w') : Oper.wp P o aa w K Q := by
 obtain ⟨v', w', hr, h2, h3, h4⟩ := run_append_own (P := P) w base t o.type e i z size bytes ht hi hz hsize hby hzs hsz v n xs hown ad m c news hl hnews h1 h63 hbytes hbase
 unfold Oper.wp execOp
 simp only [ho, resolve, invoke, builtin, Sem.run_bind, Sem.run_pure, Result.andThen_ok, List.map_toArray, List.map_cons, List.map_nil, hs, hx, hr]
 exact h v' w' h2 h3
end

/- errors.As at a target of type fault, and at one of type Errno; told. -/
section
open Go.RowKit Go.Extern.Stop Go.Stop Go.Extern
end
end Go.Proofs.YtgoadpnoagaflaaDoor
