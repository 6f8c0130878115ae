/- Own texts, put together: Qn. -/
import Derived.Test.YtofklahgpkmfmaaGreatDoorQ25
import Derived.Test.YtofklahgpkmfmaaGreatDoorQ32
import Derived.Test.YtofklahgpkmfmaaGreatDoorQ37
/- Package nodefile: Take, Read. -/
namespace Go.Proofs.YtofklahgpkmfmaaGreatDoor
set_option maxRecDepth 100000
open Go.RowKit Go.Shelf Go.Lib
theorem taken_any {p : Pm} (hp : p.Ok) (v : Value) (ps : List Lt) (w : World) (hL : Lw w v ps) (hl : ∀ q ∈ ps, ∀ x ∈ q.2.1, x.length ≤ 900000) (hn : ps.length ≤ 20000000) (hno : ∀ q ∈ ps, q.1 ≤ 20000000) (hT : Tab w) :
   Calls Tryz.prog 30 #[v] w fun e w' => TakenR p w w' (tell ps) e := by
 cases ps with
 | nil =>
   obtain ⟨⟨a, c, rfl, h1, h2, h3⟩, _⟩ := hL
   exact taken_nil p a c w
 | cons p0 rs => exact taken_some hp v p0 rs w hL hl (by simp at hn; omega) hno hT
structure FileR (w w' : World) (a : Option Addr) (c : Nat) (ns : List Nt) (z : Bool) (k : Nat) (m : Bool) (f : Fd) : Prop where
 row : Nr w' w.heap.size (.slice a ns.length c) ns
 is : f = ⟨ndsO ns, z, (k : Nat), m⟩
 k16 : k ≤ 16
 len : ns.length ≤ 1048576
def TakeR (p : Pm) (w w' : World) (L : List (Nat × List Bs)) (v : Ending) : Prop :=
 Below w.heap.size w w' ∧ ∃ a c ns z k m, v = .returned (.tuple #[.agg #[.slice a ns.length c, .bool z, .int .i64 (k : Nat), .bool m], .int .i64 ((tkV p L).2.1 : Nat), .int .i64 ((tkV p L).2.2.1 : Nat), .int .i64 (tkV p L).2.2.2]) ∧ FileR w w' a c ns z k m (tkV p L).1
theorem res_take (W : World) (B : Nat) (a b c d : Value) (n1 n2 n3 : Int) (tmps : Array Value) (h : CB W B #[a, b, c, d] 29)
   (t2 : tmps[2]? = some (.pointer (some ⟨B, 0, none⟩))) (t3 : tmps[3]? = some (.int .i64 n1)) (t4 : tmps[4]? = some (.int .i64 n2)) (t5 : tmps[5]? = some (.int .i64 n3)) : (results Tryz.f16 tmps).run Tryz.prog W = .ok (.tuple #[.agg #[a, b, c, d], .int .i64 n1, .int .i64 n2, .int .i64 n3]) W := by
 have c0 := h.cell 0 (by simp)
 have c1 := h.cell 1 (by simp)
 have c2 := h.cell 2 (by simp)
 have c3 := h.cell 3 (by simp)
 simp [results, Tryz.f16, go_sem, c0, c1, c2, c3, t2, t3, t4, t5]
set_option maxHeartbeats 8000000 in
theorem take_any {p : Pm} (hp : p.Ok) (v : Value) (ps : List Lt) (w : World) (hL : Lw w v ps) (hl : ∀ q ∈ ps, ∀ x ∈ q.2.1, x.length ≤ 900000) (hn : ps.length ≤ 20000000) (hno : ∀ q ∈ ps, q.1 ≤ 20000000) (hT : Tab w) (hE : Ety w) :
   Calls Tryz.prog 16 #[v] w fun e w' => TakeR p w w' (tell ps) e := by
 obtain ⟨sa, sc, rfl⟩ : ∃ sa sc, v = .slice sa ps.length sc := by
   obtain ⟨⟨a, c, e, _⟩, _⟩ := hL
   exact ⟨a, c, e⟩
 obtain ⟨W0, hW0⟩ : ∃ W0, w.alloc (.cells fz4 29) = W0 := ⟨_, rfl⟩
 have b0 : Below w.heap.size w W0 := by rw [← hW0]; exact (Below.refl _ w).alloc (Nat.le_refl _) _
 have c0 : CB W0 w.heap.size fz4 29 := by rw [← hW0]; exact CB.new w _ _
 have HT := Lib.hid (taken_any hp (.slice sa ps.length sc) ps W0 (hL.later b0) hl hn hno (hT.later b0))
 have H0 : Hid (Below w.heap.size w W0 ∧ CB W0 w.heap.size fz4 29 ∧ Ety W0 ∧ w.heap.size + 1 = W0.heap.size) := Lib.hid ⟨b0, c0, hE.later b0, by rw [← hW0]; simp⟩
 clear hp hL hl hn hno hT hE b0 c0
 obtain ⟨L, hLL⟩ : ∃ L, Hid (tell ps = L) := ⟨_, Lib.hid rfl⟩
 obtain ⟨N, hN⟩ : ∃ N, Hid (ps.length = N) := ⟨_, Lib.hid rfl⟩
 rw [hN.out, hLL.out] at HT
 rw [hN.out, hLL.out]
 obtain ⟨q, hq⟩ : ∃ q, Hid (tkV p L = q) := ⟨_, Lib.hid rfl⟩
 unfold TakenR at HT
 unfold TakeR
 rw [hq.out] at HT
 rw [hq.out]
 obtain ⟨f, n1, at', er⟩ := q
 go_enter Tryz.func16, Tryz.ntmps16
 go_wp2_with fail
 try rw [hW0]
 clear hW0
 refine HT.out.mono ?_
 rintro e W1 ⟨hb1, ⟨hz, a, c, ns, z, k, m, rfl, hr, h1, h2, h3, h4, h5⟩ | ⟨hz, rfl, h1, h2⟩⟩
 · try dsimp only at hz h1 h2 h3
   subst hz h1 h2 h3
   obtain ⟨W2, hW2⟩ : ∃ W2, W1.alloc (.cells #[.slice a ns.length c, .bool z, .int .i64 (k : Nat), .bool m] 29) = W2 := ⟨_, rfl⟩
   have b2 : Below W1.heap.size W1 W2 := by rw [← hW2]; exact (Below.refl _ W1).alloc (Nat.le_refl _) _
   obtain ⟨W, hW⟩ : ∃ W, W2.drew = W := ⟨_, rfl⟩
   have b3 : Below W1.heap.size W1 W := by rw [← hW]; exact b2.drew
   have d2 : CB W W1.heap.size #[.slice a ns.length c, .bool z, .int .i64 (k : Nat), .bool m] 29 := by rw [← hW, ← hW2]; exact CB.new W1 _ _
   have HC : Hid (CB W w.heap.size fz4 29 ∧ Below w.heap.size w W ∧ FileR W0 W a c ns z k m ⟨ndsO ns, z, (k : Nat), m⟩ ∧ w.heap.size + 1 = W0.heap.size) := Lib.hid ⟨(H0.out.2.1.later hb1).later b3, (H0.out.1.trans (hb1.mono H0.out.1.size)).trans (b3.mono (Nat.le_trans H0.out.1.size hb1.size)), ⟨hr.later b3, rfl, h4, h5⟩, H0.out.2.2.2⟩
   obtain ⟨k40, k41, k42, k43⟩ := d2.cells4
   obtain ⟨k20, k21, k22, k23⟩ := HC.out.1.cells4
   have f20 := HC.out.1.frozen 0
   have f21 := HC.out.1.frozen 1
   have f22 := HC.out.1.frozen 2
   have f23 := HC.out.1.frozen 3
   have hn5 : (ns.length : Int) ≤ 1048576 := by omega
   have hne1 : W1.heap.size ≠ w.heap.size := by have := hb1.size; have := H0.out.2.2.2; omega
   have hne2 : w.heap.size ≠ W1.heap.size := fun e => hne1 e.symm
   have hst := fun (w : World) (ad : Addr) (md : Mode) => run_store Tryz.prog w ad (.slice a ns.length c) md (by rfl)
   clear hr h4 h5 hb1 b2 b3 d2 H0 HT
   go_wp2_with fail
   go_region
   all_goals
     go_wp2
     refine bodyPost_ret (res_take _ w.heap.size _ _ _ _ _ _ _ _ (set4 HC.out.1 _ _ _ _) rfl rfl rfl rfl) rfl ?_
     refine ⟨(((HC.out.2.1.setCell (Nat.le_refl _) _).setCell (Nat.le_refl _) _).setCell (Nat.le_refl _) _).setCell (Nat.le_refl _) _, a, c, ns, z, k, m, by first | rfl | (simp; omega), ⟨(HC.out.2.2.1.row.ob (ob_set4 _ _ _ _ _ _) (by have := HC.out.2.2.2; omega)).base (by have := HC.out.2.2.2; omega), rfl, HC.out.2.2.1.k16, HC.out.2.2.1.len⟩⟩
 · try dsimp only at hz h1 h2
   subst h1 h2
   obtain ⟨W2, hW2⟩ : ∃ W2, W1.alloc (.cells fz4 29) = W2 := ⟨_, rfl⟩
   have b2 : Below W1.heap.size W1 W2 := by rw [← hW2]; exact (Below.refl _ W1).alloc (Nat.le_refl _) _
   have bw : Below w.heap.size w W2 := (H0.out.1.trans (hb1.mono H0.out.1.size)).trans (b2.mono (Nat.le_trans H0.out.1.size hb1.size))
   have HTo := Lib.hid (told10_any (at' : Nat) er W2 ((H0.out.2.2.1.later hb1).later b2))
   have HC : Hid (CB W2 w.heap.size fz4 29 ∧ Below w.heap.size w W2) := Lib.hid ⟨(H0.out.2.1.later hb1).later b2, bw⟩
   have HW2 := Lib.hid hW2
   clear hb1 b2 bw H0 HT hW2
   go_wp2_with fail
   rw [HW2.out]
   refine HTo.out.mono ?_
   rintro e W3 ⟨rfl, hb3⟩
   have HD : Hid (CB W3 w.heap.size fz4 29 ∧ Below w.heap.size w W3) := Lib.hid ⟨HC.out.1.later hb3, HC.out.2.trans (hb3.mono HC.out.2.size)⟩
   obtain ⟨k20, k21, k22, k23⟩ := HD.out.1.cells4
   have f20 := HD.out.1.frozen 0
   have f21 := HD.out.1.frozen 1
   have f22 := HD.out.1.frozen 2
   have f23 := HD.out.1.frozen 3
   clear hb3 HC HTo
   go_wp2
   refine bodyPost_ret (res_take _ w.heap.size _ _ _ _ _ _ _ _ (set4 HD.out.1 _ _ _ _) rfl rfl rfl rfl) rfl ?_
   exact ⟨(((HD.out.2.setCell (Nat.le_refl _) _).setCell (Nat.le_refl _) _).setCell (Nat.le_refl _) _).setCell (Nat.le_refl _) _, none, 0, [], false, 0, false, rfl, ⟨Nr.nil (World.ownsRow_nil _ _ _ _), rfl, by omega, by simp⟩⟩
end Go.Proofs.YtofklahgpkmfmaaGreatDoor
