/- Own texts, put together: Zd Ze Zf. -/
import Derived.Test.YtejhinjanjlplaaDoorQ6
namespace Go.Proofs.YtejhinjanjlplaaDoor
/- The reference's Neg; trim of any number. -/
section
open Go.RowKit
theorem wrap_neg1 {S : Int} (h : S = -1 ∨ S = 0 ∨ S = 1) : IntKind.i64.wrap (-S) = -S := wrapE _ (by omega) (by omega)
set_option maxHeartbeats 1000000 in
theorem refNeg_walk (a : Option Addr) (n c : Nat) (S E : Int) (w : World) (hS : S = -1 ∨ S = 0 ∨ S = 1) :
   Calls Tryd.prog 28 #[.agg #[.int .i64 S, .slice a n c, .int .i64 E]] w fun e w' => e = .returned (.agg #[.int .i64 (-S), .slice a n c, .int .i64 E]) ∧ Below w.heap.size w w' := by
 have hw := wrap_neg1 hS
 clear hS
 go_enter Tryd.func28, Tryd.ntmps28
 go_wp2
 refine bodyPost_ret (v := .agg #[.int .i64 (-S), .slice a n c, .int .i64 E]) (by simp [results, Tryd.results28, go_sem]) rfl ?_
 refine ⟨rfl, ?_⟩
 repeat (first | exact Below.refl _ _ | refine Below.drew ?_ | refine Below.alloc ?_ (by simp) _ | refine Below.setCell ?_ (by simp) _)
set_option maxHeartbeats 1000000 in
theorem trim_nil (a : Option Addr) (c : Nat) (S E : Int) (w : World) :
   Calls Tryd.prog 35 #[.agg #[.int .i64 S, .slice a 0 c, .int .i64 E]] w fun e w' => TrimR w w' S [] E e := by
 go_enter Tryd.func35, Tryd.ntmps35
 go_wp2
 go_loop [3] (fun s => s = .slice a 0 c) (fun _ => 0)
 case atStart => rfl
 case round =>
   subst hrel
   go_wp2
   go_loop [3, 4] (fun s e => s = .slice a 0 c ∧ e = .int .i64 E) (fun _ _ => 0)
   case atStart => exact ⟨rfl, rfl⟩
   case round =>
     obtain ⟨rfl, rfl⟩ := hrel
     go_wp2
     refine bodyPost_ret (v := .agg #[.int .i64 0, .slice none 0 0, .int .i64 0]) (by simp [results, Tryd.results35, go_sem]) rfl ?_
     refine ⟨_, 0, [], 0, rfl, ⟨⟨none, 0, rfl, by simp, Or.inl rfl⟩, by simp, by simp, by omega, by omega⟩, fun j => by rw [dgt_nil, dgt_nil], Or.inl ⟨rfl, rfl, rfl⟩, ?_⟩
     repeat (first | exact Below.refl _ _ | refine Below.alloc ?_ (by simp) _ | refine Below.setCell ?_ (by simp) _)
theorem trim_any (v : Value) (S E : Int) (ds : List Nat) (w : World) (h : Dig w v S ds E) (hE : E + (ds.length : Int) ≤ 1000000) :
   Calls Tryd.prog 35 #[v] w fun e w' => TrimR w w' S ds E e := by
 obtain ⟨⟨a, c, rfl, hcap, hf⟩, h2, h3, h4, h5⟩ := h
 by_cases h0 : ds = []
 · subst h0
   exact trim_nil a c S E w
 · rcases hf with hf | ⟨g, off, rfl, hf, hr⟩
   · exact absurd hf h0
   · have hl : 0 < ds.length := List.length_pos_iff.2 h0
     exact trim_walk g off c S E ds w hf h2 h3 hcap h4 hE hr
theorem refNeg_any (v : Value) (S E : Int) (ds : List Nat) (w : World) (h : Dig w v S ds E) (hS : S = -1 ∨ S = 0 ∨ S = 1) :
   Calls Tryd.prog 28 #[v] w fun e w' => (∃ v', e = .returned v' ∧ Dig w' v' (-S) ds E) ∧ Below w.heap.size w w' := by
 obtain ⟨⟨a, c, rfl, hcap, hf⟩, h2, h3, h4, h5⟩ := h
 refine (refNeg_walk a ds.length c S E w hS).mono ?_
 rintro e w' ⟨rfl, hb⟩
 have hd : Dig w (.agg #[.int .i64 (-S), .slice a ds.length c, .int .i64 E]) (-S) ds E := ⟨⟨a, c, rfl, hcap, hf⟩, h2, h3, h4, h5⟩
 exact ⟨⟨_, rfl, hd.later hb⟩, hb⟩
end

/- The reference's Low. -/
section
open Go.RowKit
end

/- The reference's High. -/
section
open Go.RowKit
end
end Go.Proofs.YtejhinjanjlplaaDoor
