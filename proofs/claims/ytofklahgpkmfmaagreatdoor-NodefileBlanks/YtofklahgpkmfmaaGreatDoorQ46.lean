/- Own texts, put together: Qzc. -/
import Derived.Test.YtofklahgpkmfmaaGreatDoorQ43
/- The laws of layer 10: Same. -/
namespace Go.Proofs.YtofklahgpkmfmaaGreatDoor
set_option maxRecDepth 100000
open Go.RowKit Go.Shelf Go.Lib
set_option maxHeartbeats 4000000 in
theorem same10_any (v u : Value) (ns ms : List Nt) (z m : Bool) (k : Int) (w : World) (hv : Nv w v ns) (hu : Nv w u ms) (hlen : ns.length = ms.length) (hs : ∀ (i : Nat) (q r : Nt), ns[i]? = some q → ms[i]? = some r → SameN q.1 r.1) (hn : ns.length ≤ 1000000) (hl : ∀ q ∈ ns, q.1.a.length ≤ 1000000) :
   Calls Tryz.prog 11 #[.agg #[v, .bool z, .int .i64 k, .bool m], .agg #[u, .bool z, .int .i64 k, .bool m]] w fun e w' => e = .returned (.bool true) ∧ Below w.heap.size w w' := by
 obtain ⟨W, hW⟩ : ∃ W, (w.alloc (.cells #[v, .bool z, .int .i64 k, .bool m] 25)).alloc (.cells #[u, .bool z, .int .i64 k, .bool m] 25) = W := ⟨_, rfl⟩
 have b1 : Below w.heap.size w (w.alloc (.cells #[v, .bool z, .int .i64 k, .bool m] 25)) := (Below.refl _ w).alloc (Nat.le_refl _) _
 have b2 : Below (w.alloc (.cells #[v, .bool z, .int .i64 k, .bool m] 25)).heap.size (w.alloc (.cells #[v, .bool z, .int .i64 k, .bool m] 25)) W := by rw [← hW]; exact (Below.refl _ _).alloc (Nat.le_refl _) _
 have bw : Below w.heap.size w W := b1.trans (b2.mono b1.size)
 have cA : CB W w.heap.size #[v, .bool z, .int .i64 k, .bool m] 25 := (CB.new w _ _).later b2
 have cB : CB W (w.heap.size + 1) #[u, .bool z, .int .i64 k, .bool m] 25 := by
   have := CB.new (w.alloc (.cells #[v, .bool z, .int .i64 k, .bool m] 25)) #[u, .bool z, .int .i64 k, .bool m] 25
   rw [hW, World.size_alloc] at this
   exact this
 have HC := Lib.hid (sameNodes_any v u ns ms W (hv.later bw) (hu.later bw) hlen hs hn hl)
 obtain ⟨a, c, rfl, _⟩ := nv_cells hv
 obtain ⟨b, d, rfl, _⟩ := nv_cells hu
 obtain ⟨N, hN⟩ : ∃ N, ns.length = N := ⟨_, rfl⟩
 have hM : ms.length = N := by rw [← hlen]; exact hN
 rw [hN, hM] at HC hW
 rw [hN] at cA ⊢
 rw [hM] at cB ⊢
 obtain ⟨k0, k1, k2, k3⟩ := cA.cells4
 obtain ⟨j0, j1, j2, j3⟩ := cB.cells4
 have HB := Lib.hid bw
 have e1 : (z == z) = true := by simp
 have e2 : (m == m) = true := by simp
 have e3 : (k == k) = true := by simp
 clear hv hu hs hl b1 b2 bw cA cB hlen hN hM hn
 go_enter Tryz.func11, Tryz.ntmps11
 go_wp2_with (go_at_call 25; (try rw [hW]); clear hW; refine HC.out.mono ?_; rintro e W2 ⟨rfl, hb2⟩; have HB2 := Lib.hid (HB.out.trans (hb2.mono HB.out.size)); clear hb2)
 go_ret
 exact ⟨rfl, HB2.out⟩
end Go.Proofs.YtofklahgpkmfmaaGreatDoor
