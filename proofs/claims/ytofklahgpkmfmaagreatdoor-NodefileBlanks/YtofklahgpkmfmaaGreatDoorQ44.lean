/- Own texts, put together: Qzd. -/
import Derived.Test.YtofklahgpkmfmaaGreatDoorQ40
import Derived.Test.YtofklahgpkmfmaaGreatDoorQ43
/- The laws of layer 10: given, back. -/
namespace Go.Proofs.YtofklahgpkmfmaaGreatDoor
set_option maxRecDepth 100000
open Go.RowKit Go.Shelf Go.Lib
theorem res_given (W : World) (B : Nat) (a b c d : Value) (tmps : Array Value) (h : CB W B #[a, b, c, d] 29)
   (t2 : tmps[2]? = some (.pointer (some ⟨B, 0, none⟩))) : (results Tryz.f19 tmps).run Tryz.prog W = .ok (.agg #[a, b, c, d]) W := by
 have c0 := h.cell 0 (by simp)
 have c1 := h.cell 1 (by simp)
 have c2 := h.cell 2 (by simp)
 have c3 := h.cell 3 (by simp)
 simp [results, Tryz.f19, go_sem, c0, c1, c2, c3, t2]
theorem res_back (W : World) (B : Nat) (a b c d : Value) (tmps : Array Value) (h : CB W B #[a, b, c, d] 25)
   (t2 : tmps[2]? = some (.pointer (some ⟨B, 0, none⟩))) : (results Tryz.f12 tmps).run Tryz.prog W = .ok (.agg #[a, b, c, d]) W := by
 have c0 := h.cell 0 (by simp)
 have c1 := h.cell 1 (by simp)
 have c2 := h.cell 2 (by simp)
 have c3 := h.cell 3 (by simp)
 simp [results, Tryz.f12, go_sem, c0, c1, c2, c3, t2]
set_option maxHeartbeats 4000000 in
theorem back10_any (a : Option Addr) (n c : Nat) (z : Bool) (k : Int) (m : Bool) (w : World) :
   Calls Tryz.prog 12 #[.agg #[.slice a n c, .bool z, .int .i64 k, .bool m]] w fun e w' => e = .returned (.agg #[.slice a n c, .bool z, .int .i64 k, .bool m]) ∧ Below w.heap.size w w' := by
 obtain ⟨W1, hW1⟩ : ∃ W1, w.alloc (.cells #[.slice a n c, .bool z, .int .i64 k, .bool m] 29) = W1 := ⟨_, rfl⟩
 have b1 : Below w.heap.size w W1 := by rw [← hW1]; exact (Below.refl _ w).alloc (Nat.le_refl _) _
 have z1 : W1.heap.size = w.heap.size + 1 := by rw [← hW1]; simp
 have c1 : CB W1 w.heap.size #[.slice a n c, .bool z, .int .i64 k, .bool m] 29 := by rw [← hW1]; exact CB.new w _ _
 obtain ⟨W2, hW2⟩ : ∃ W2, W1.alloc (.cells fz4 25) = W2 := ⟨_, rfl⟩
 have b2 : Below W1.heap.size W1 W2 := by rw [← hW2]; exact (Below.refl _ W1).alloc (Nat.le_refl _) _
 have c2 : CB W2 (w.heap.size + 1) fz4 25 := by rw [← hW2, ← z1]; exact CB.new W1 _ _
 have d2 := c1.later b2
 obtain ⟨k0, k1, k2, k3⟩ := d2.cells4
 obtain ⟨j0, j1, j2, j3⟩ := c2.cells4
 have f0 := c2.frozen 0
 have f1 := c2.frozen 1
 have f2 := c2.frozen 2
 have f3 := c2.frozen 3
 have H2 := Lib.hid (And.intro c2 (b1.trans (b2.mono b1.size)))
 clear b1 b2 c1 c2 d2
 go_enter Tryz.func12, Tryz.ntmps12
 go_wp2
 refine bodyPost_ret (res_back _ (w.heap.size + 1) _ _ _ _ _ (set4 H2.out.1 _ _ _ _) rfl) rfl ?_
 exact ⟨rfl, (((H2.out.2.setCell (Nat.le_succ _) _).setCell (Nat.le_succ _) _).setCell (Nat.le_succ _) _).setCell (Nat.le_succ _) _⟩
set_option maxHeartbeats 8000000 in
theorem given10_any (v : Value) (ns : List Nt) (z : Bool) (k : Int) (m : Bool) (w : World) (hv : Nv w v ns) (hn : ns.length ≤ 1000) (hl : ∀ q ∈ ns, q.1.a.length ≤ 1000 ∧ ∀ n c, q.2 = .slice none n c → n = 0 ∧ c = 0) :
   Calls Tryz.prog 19 #[.agg #[v, .bool z, .int .i64 k, .bool m]] w fun e w' => ∃ a c ns', e = .returned (.agg #[.slice a ns'.length c, .bool z, .int .i64 k, .bool m]) ∧ Nv w' (.slice a ns'.length c) ns' ∧ ndsO' ns' = ndsO' ns ∧ Below w.heap.size w w' := by
 have HV := Lib.hid hv
 obtain ⟨va, vc, rfl, _, _, _⟩ := hv.form
 obtain ⟨N, hN⟩ : ∃ N, Hid (ns.length = N) := ⟨_, Lib.hid rfl⟩
 rw [hN.out]
 obtain ⟨W1, hW1⟩ : ∃ W1, w.alloc (.cells #[.slice va N vc, .bool z, .int .i64 k, .bool m] 25) = W1 := ⟨_, rfl⟩
 have b1 : Below w.heap.size w W1 := by rw [← hW1]; exact (Below.refl _ w).alloc (Nat.le_refl _) _
 have z1 : W1.heap.size = w.heap.size + 1 := by rw [← hW1]; simp
 have c1 : CB W1 w.heap.size #[.slice va N vc, .bool z, .int .i64 k, .bool m] 25 := by rw [← hW1]; exact CB.new w _ _
 obtain ⟨W2, hW2⟩ : ∃ W2, W1.alloc (.cells fz4 29) = W2 := ⟨_, rfl⟩
 have b2 : Below W1.heap.size W1 W2 := by rw [← hW2]; exact (Below.refl _ W1).alloc (Nat.le_refl _) _
 have z2 : W2.heap.size = w.heap.size + 2 := by rw [← hW2, World.size_alloc, z1]
 obtain ⟨W3, hW3⟩ : ∃ W3, W2.drew = W3 := ⟨_, rfl⟩
 have c2 : CB W3 (w.heap.size + 1) fz4 29 := by rw [← hW3, ← hW2, ← z1]; exact CB.new W1 _ _
 have b3 : Below W1.heap.size W1 W3 := by rw [← hW3]; exact b2.drew
 have d2 := c1.later b3
 have bw := b1.trans (b3.mono b1.size)
 obtain ⟨k0, k1, k2, k3⟩ := d2.cells4
 have HTw := Lib.hid (twin10_any (.slice va ns.length vc) ns W3 (hv.later bw) hn hl)
 rw [hN.out] at HTw
 have z3 : W3.heap.size = w.heap.size + 2 := by rw [← hW3]; exact z2
 have H2 := Lib.hid (And.intro c2 (And.intro d2 (And.intro bw z3)))
 clear b1 b2 b3 c1 c2 d2 bw hv hl hn z2 z3
 go_enter Tryz.func19, Tryz.ntmps19
 go_wp2_with fail
 go_region_held3 (fun W => W.cell? ⟨w.heap.size, 0, none⟩ = some (.slice va N vc) ∧ W.cell? ⟨w.heap.size, 1, none⟩ = some (.bool z) ∧ W.cell? ⟨w.heap.size, 2, none⟩ = some (.int .i64 k) ∧ W.cell? ⟨w.heap.size, 3, none⟩ = some (.bool m))
   (first
     | assumption
     | (rw [hW3]; exact ⟨k0, k1, k2, k3⟩)
     | exact ⟨k0, k1, k2, k3⟩
     | exact ⟨p0, p1, p2, p3⟩
     | exact ⟨by go_simp, by go_simp, by go_simp, by go_simp⟩)
   (first | (go_at_call 35; refine HTw.out.mono ?_; rintro e W4 ⟨a, c, ns', rfl, hr, hd, hb4⟩; have c4 := H2.out.1.later hb4; have d4 := H2.out.2.1.later hb4; obtain ⟨p0, p1, p2, p3⟩ := d4.cells4; obtain ⟨j0, j1, j2, j3⟩ := c4.cells4; have f0 := c4.frozen 0; have f1 := c4.frozen 1; have f2 := c4.frozen 2; have f3 := c4.frozen 3; have hst := (fun (w : World) (ad : Addr) (md : Mode) => run_store Tryz.prog w ad (.slice a ns'.length c) md (by rfl)); have H4 : Hid (CB W4 (w.heap.size + 1) fz4 29 ∧ Below w.heap.size w W4 ∧ Nr W4 (w.heap.size + 2) (.slice a ns'.length c) ns' ∧ ndsO' ns' = ndsO' ns) := Lib.hid ⟨c4, H2.out.2.2.1.trans (hb4.mono H2.out.2.2.1.size), by have := hr; rwa [H2.out.2.2.2] at this, hd⟩; clear c4 d4 hr hd hb4))
 clear hW1 hW2 hW3 k0 k1 k2 k3 HTw H2
 go_wp2
 refine bodyPost_ret (res_given _ (w.heap.size + 1) _ _ _ _ _ (set4 H4.out.1 _ _ _ _) rfl) rfl ?_
 refine ⟨a, c, ns', rfl, (H4.out.2.2.1.ob (ob_set4 _ _ _ _ _ _) (by omega)).nv, H4.out.2.2.2, (((H4.out.2.1.setCell (Nat.le_succ _) _).setCell (Nat.le_succ _) _).setCell (Nat.le_succ _) _).setCell (Nat.le_succ _) _⟩
end Go.Proofs.YtofklahgpkmfmaaGreatDoor
