/- Own texts, put together: Qn Qna Qw Qy Qda Qdb Qdd Qdc Qzc Qze Qzb Qzd Qwa Qzf. -/
import Derived.Test.YtkbhmglmbolbiaaGreatDoorQ9
import Derived.Test.YtkbhmglmbolbiaaGreatDoorQ33
import Derived.Test.YtkbhmglmbolbiaaGreatDoorQ37
import Derived.Test.YtkbhmglmbolbiaaGreatDoorQ38
import Derived.Test.YtkbhmglmbolbiaaGreatDoorQ39
import Derived.Test.YtkbhmglmbolbiaaGreatDoorQ41
import Derived.Test.YtkbhmglmbolbiaaGreatDoorQ42
import Derived.Test.YtkbhmglmbolbiaaGreatDoorQ43
import Derived.Test.YtkbhmglmbolbiaaGreatDoorQ45
namespace Go.Proofs.YtkbhmglmbolbiaaGreatDoor
/- Package nodefile: Take, Read. -/
section
set_option maxRecDepth 100000
open Go.RowKit Go.Shelf Go.Lib
theorem taken_any {p : Pm} (hp : p.Ok) (v : Value) (ps : List Lt) (w : World) (hL : Lw w v ps) (hl : ∀ q ∈ ps, ∀ x ∈ q.2.1, x.length ≤ 900000) (hn : ps.length ≤ 20000000) (hno : ∀ q ∈ ps, q.1 ≤ 20000000) (hT : Tab w) :
   Calls Tryz.prog 20 #[v] w fun e w' => TakenR p w w' (tell ps) e := by
 cases ps with
 | nil =>
   obtain ⟨⟨a, c, rfl, h1, h2, h3⟩, _⟩ := hL
   exact taken_nil p a c w
 | cons p0 rs => exact taken_some hp v p0 rs w hL hl (by simp at hn; omega) hno hT
structure FileR (w w' : World) (a : Option Addr) (c : Nat) (ns : List Nt) (z : Bool) (k : Nat) (m : Bool) (f : Fd) : Prop where
 row : Nr w' w.heap.size (.slice a ns.length c) ns
 is : f = ⟨ndsO ns, z, (k : Nat), m⟩
 k16 : k ≤ 16
 len : ns.length ≤ 1048576
def TakeR (p : Pm) (w w' : World) (L : List (Nat × List Bs)) (v : Ending) : Prop :=
 Below w.heap.size w w' ∧ ∃ a c ns z k m, v = .returned (.tuple #[.agg #[.slice a ns.length c, .bool z, .int .i64 (k : Nat), .bool m], .int .i64 ((tkV p L).2.1 : Nat), .int .i64 ((tkV p L).2.2.1 : Nat), .int .i64 (tkV p L).2.2.2]) ∧ FileR w w' a c ns z k m (tkV p L).1
theorem res_take (W : World) (B : Nat) (a b c d : Value) (n1 n2 n3 : Int) (tmps : Array Value) (h : CB W B #[a, b, c, d] 29)
   (t2 : tmps[2]? = some (.pointer (some ⟨B, 0, none⟩))) (t3 : tmps[3]? = some (.int .i64 n1)) (t4 : tmps[4]? = some (.int .i64 n2)) (t5 : tmps[5]? = some (.int .i64 n3)) : (results Tryz.f12 tmps).run Tryz.prog W = .ok (.tuple #[.agg #[a, b, c, d], .int .i64 n1, .int .i64 n2, .int .i64 n3]) W := by
 have c0 := h.cell 0 (by simp)
 have c1 := h.cell 1 (by simp)
 have c2 := h.cell 2 (by simp)
 have c3 := h.cell 3 (by simp)
 simp [results, Tryz.f12, go_sem, c0, c1, c2, c3, t2, t3, t4, t5]
set_option maxHeartbeats 8000000 in
theorem take_any {p : Pm} (hp : p.Ok) (v : Value) (ps : List Lt) (w : World) (hL : Lw w v ps) (hl : ∀ q ∈ ps, ∀ x ∈ q.2.1, x.length ≤ 900000) (hn : ps.length ≤ 20000000) (hno : ∀ q ∈ ps, q.1 ≤ 20000000) (hT : Tab w) (hE : Ety w) :
   Calls Tryz.prog 12 #[v] w fun e w' => TakeR p w w' (tell ps) e := by
 obtain ⟨sa, sc, rfl⟩ : ∃ sa sc, v = .slice sa ps.length sc := by
   obtain ⟨⟨a, c, e, _⟩, _⟩ := hL
   exact ⟨a, c, e⟩
 obtain ⟨W0, hW0⟩ : ∃ W0, w.alloc (.cells fz4 29) = W0 := ⟨_, rfl⟩
 have b0 : Below w.heap.size w W0 := by rw [← hW0]; exact (Below.refl _ w).alloc (Nat.le_refl _) _
 have c0 : CB W0 w.heap.size fz4 29 := by rw [← hW0]; exact CB.new w _ _
 have HT := Lib.hid (taken_any hp (.slice sa ps.length sc) ps W0 (hL.later b0) hl hn hno (hT.later b0))
 have H0 : Hid (Below w.heap.size w W0 ∧ CB W0 w.heap.size fz4 29 ∧ Ety W0 ∧ w.heap.size + 1 = W0.heap.size) := Lib.hid ⟨b0, c0, hE.later b0, by rw [← hW0]; simp⟩
 clear hp hL hl hn hno hT hE b0 c0
 obtain ⟨L, hLL⟩ : ∃ L, Hid (tell ps = L) := ⟨_, Lib.hid rfl⟩
 obtain ⟨N, hN⟩ : ∃ N, Hid (ps.length = N) := ⟨_, Lib.hid rfl⟩
 rw [hN.out, hLL.out] at HT
 rw [hN.out, hLL.out]
 obtain ⟨q, hq⟩ : ∃ q, Hid (tkV p L = q) := ⟨_, Lib.hid rfl⟩
 unfold TakenR at HT
 unfold TakeR
 rw [hq.out] at HT
 rw [hq.out]
 obtain ⟨f, n1, at', er⟩ := q
 go_enter Tryz.func12, Tryz.ntmps12
 go_wp2_with fail
 try rw [hW0]
 clear hW0
 refine HT.out.mono ?_
 rintro e W1 ⟨hb1, ⟨hz, a, c, ns, z, k, m, rfl, hr, h1, h2, h3, h4, h5⟩ | ⟨hz, rfl, h1, h2⟩⟩
 · try dsimp only at hz h1 h2 h3
   subst hz h1 h2 h3
   obtain ⟨W2, hW2⟩ : ∃ W2, W1.alloc (.cells #[.slice a ns.length c, .bool z, .int .i64 (k : Nat), .bool m] 29) = W2 := ⟨_, rfl⟩
   have b2 : Below W1.heap.size W1 W2 := by rw [← hW2]; exact (Below.refl _ W1).alloc (Nat.le_refl _) _
   obtain ⟨W, hW⟩ : ∃ W, W2.drew = W := ⟨_, rfl⟩
   have b3 : Below W1.heap.size W1 W := by rw [← hW]; exact b2.drew
   have d2 : CB W W1.heap.size #[.slice a ns.length c, .bool z, .int .i64 (k : Nat), .bool m] 29 := by rw [← hW, ← hW2]; exact CB.new W1 _ _
   have HC : Hid (CB W w.heap.size fz4 29 ∧ Below w.heap.size w W ∧ FileR W0 W a c ns z k m ⟨ndsO ns, z, (k : Nat), m⟩ ∧ w.heap.size + 1 = W0.heap.size) := Lib.hid ⟨(H0.out.2.1.later hb1).later b3, (H0.out.1.trans (hb1.mono H0.out.1.size)).trans (b3.mono (Nat.le_trans H0.out.1.size hb1.size)), ⟨hr.later b3, rfl, h4, h5⟩, H0.out.2.2.2⟩
   obtain ⟨k40, k41, k42, k43⟩ := d2.cells4
   obtain ⟨k20, k21, k22, k23⟩ := HC.out.1.cells4
   have f20 := HC.out.1.frozen 0
   have f21 := HC.out.1.frozen 1
   have f22 := HC.out.1.frozen 2
   have f23 := HC.out.1.frozen 3
   have hn5 : (ns.length : Int) ≤ 1048576 := by omega
   have hne1 : W1.heap.size ≠ w.heap.size := by have := hb1.size; have := H0.out.2.2.2; omega
   have hne2 : w.heap.size ≠ W1.heap.size := fun e => hne1 e.symm
   have hst := fun (w : World) (ad : Addr) (md : Mode) => run_store Tryz.prog w ad (.slice a ns.length c) md (by rfl)
   clear hr h4 h5 hb1 b2 b3 d2 H0 HT
   go_wp2_with fail
   go_region
   all_goals
     go_wp2
     refine bodyPost_ret (res_take _ w.heap.size _ _ _ _ _ _ _ _ (set4 HC.out.1 _ _ _ _) rfl rfl rfl rfl) rfl ?_
     refine ⟨(((HC.out.2.1.setCell (Nat.le_refl _) _).setCell (Nat.le_refl _) _).setCell (Nat.le_refl _) _).setCell (Nat.le_refl _) _, a, c, ns, z, k, m, by first | rfl | (simp; omega), ⟨(HC.out.2.2.1.row.ob (ob_set4 _ _ _ _ _ _) (by have := HC.out.2.2.2; omega)).base (by have := HC.out.2.2.2; omega), rfl, HC.out.2.2.1.k16, HC.out.2.2.1.len⟩⟩
 · try dsimp only at hz h1 h2
   subst h1 h2
   obtain ⟨W2, hW2⟩ : ∃ W2, W1.alloc (.cells fz4 29) = W2 := ⟨_, rfl⟩
   have b2 : Below W1.heap.size W1 W2 := by rw [← hW2]; exact (Below.refl _ W1).alloc (Nat.le_refl _) _
   have bw : Below w.heap.size w W2 := (H0.out.1.trans (hb1.mono H0.out.1.size)).trans (b2.mono (Nat.le_trans H0.out.1.size hb1.size))
   have HTo := Lib.hid (told10_any (at' : Nat) er W2 ((H0.out.2.2.1.later hb1).later b2))
   have HC : Hid (CB W2 w.heap.size fz4 29 ∧ Below w.heap.size w W2) := Lib.hid ⟨(H0.out.2.1.later hb1).later b2, bw⟩
   have HW2 := Lib.hid hW2
   clear hb1 b2 bw H0 HT hW2
   go_wp2_with fail
   rw [HW2.out]
   refine HTo.out.mono ?_
   rintro e W3 ⟨rfl, hb3⟩
   have HD : Hid (CB W3 w.heap.size fz4 29 ∧ Below w.heap.size w W3) := Lib.hid ⟨HC.out.1.later hb3, HC.out.2.trans (hb3.mono HC.out.2.size)⟩
   obtain ⟨k20, k21, k22, k23⟩ := HD.out.1.cells4
   have f20 := HD.out.1.frozen 0
   have f21 := HD.out.1.frozen 1
   have f22 := HD.out.1.frozen 2
   have f23 := HD.out.1.frozen 3
   clear hb3 HC HTo
   go_wp2
   refine bodyPost_ret (res_take _ w.heap.size _ _ _ _ _ _ _ _ (set4 HD.out.1 _ _ _ _) rfl rfl rfl rfl) rfl ?_
   exact ⟨(((HD.out.2.setCell (Nat.le_refl _) _).setCell (Nat.le_refl _) _).setCell (Nat.le_refl _) _).setCell (Nat.le_refl _) _, none, 0, [], false, 0, false, rfl, ⟨Nr.nil (World.ownsRow_nil _ _ _ _), rfl, by omega, by simp⟩⟩
end

/- Package nodefile: Read. -/
section
set_option maxRecDepth 100000
open Go.RowKit Go.Shelf Go.Lib
theorem rdV_short {t : Bs} {q : Nat × List Bs} (hq : q ∈ (rdV t).1) : (∀ x ∈ q.2, x.length ≤ 400) := by
 have h0 := (rdV_word hq).2.2.1
 have hlen : t.length ≤ 16777216 := by
   rcases Nat.lt_or_ge 16777216 t.length with h | h
   · rw [rdV_long h] at hq; simp at hq
   · exact h
 have key : bad 1 (lns t) = none := by
   cases hb : bad 1 (lns t) with
   | none => rfl
   | some p => obtain ⟨n, e⟩ := p; rw [rdV_bad hlen hb] at hq; simp at hq
 rw [rdV_good hlen key] at hq
 intro x hx
 have := ((good_fits (lns t) 1 key).1 q hq).1
 have hm := (ok_may this).2 x hx
 unfold mayW at hm
 rw [Bool.and_eq_true, Bool.and_eq_true] at hm
 simpa using hm.1.2
theorem good_no : ∀ (ls : List Bs) (n : Nat), ∀ q ∈ good n ls, q.1 ≤ n + ls.length := by
 intro ls
 induction ls with
 | nil => intro n q hq; simp [good] at hq
 | cons l r ih =>
   intro n q hq
   rw [good] at hq
   rcases List.mem_append.1 hq with e | e
   · split at e
     · simp at e
     · rw [List.mem_singleton.1 e]; simp
   · have := ih (n + 1) q e
     rw [List.length_cons]; omega
theorem rdV_no {t : Bs} {q : Nat × List Bs} (hq : q ∈ (rdV t).1) : q.1 ≤ 16777218 := by
 have hlen : t.length ≤ 16777216 := by
   rcases Nat.lt_or_ge 16777216 t.length with h | h
   · rw [rdV_long h] at hq; simp at hq
   · exact h
 unfold rdV at hq
 rw [if_neg (by omega)] at hq
 split at hq
 · simp at hq
 · have := good_no _ _ q hq
   have h2 := lns_len t
   omega
theorem rdV_count (t : Bs) : (rdV t).1.length ≤ 16777217 := by
 unfold rdV
 split
 · simp
 · split
   · simp
   · have := good_len (lns t) 1
     have h2 := lns_len t
     simp only []
     omega
def ReadNR (p : Pm) (w w' : World) (t : Bs) (v : Ending) : Prop :=
 Below w.heap.size w w' ∧ ∃ a c ns z k m, v = .returned (.tuple #[.agg #[.slice a ns.length c, .bool z, .int .i64 (k : Nat), .bool m], .int .i64 ((rfV p t).2.1 : Nat), .int .i64 (rfV p t).2.2]) ∧ FileR w w' a c ns z k m (rfV p t).1
theorem res_readN (W : World) (B : Nat) (a b c d : Value) (n1 n2 : Int) (tmps : Array Value) (h : CB W B #[a, b, c, d] 29)
   (t2 : tmps[2]? = some (.pointer (some ⟨B, 0, none⟩))) (t3 : tmps[3]? = some (.int .i64 n1)) (t4 : tmps[4]? = some (.int .i64 n2)) : (results Tryz.f6 tmps).run Tryz.prog W = .ok (.tuple #[.agg #[a, b, c, d], .int .i64 n1, .int .i64 n2]) W := by
 have c0 := h.cell 0 (by simp)
 have c1 := h.cell 1 (by simp)
 have c2 := h.cell 2 (by simp)
 have c3 := h.cell 3 (by simp)
 simp [results, Tryz.f6, go_sem, c0, c1, c2, c3, t2, t3, t4]
set_option maxHeartbeats 8000000 in
theorem readN_any {p : Pm} (hp : p.Ok) (s : ByteArray) (t : Bs) (w : World) (ht : s.data.toList = t) (hl : t.length ≤ 9223372036854775807) (hT : Tab w) (hE : Ety w) :
   Calls Tryz.prog 6 #[.string s] w fun e w' => ReadNR p w w' t e := by
 obtain ⟨W0, hW0⟩ : ∃ W0, w.alloc (.cells fz4 29) = W0 := ⟨_, rfl⟩
 have b0 : Below w.heap.size w W0 := by rw [← hW0]; exact (Below.refl _ w).alloc (Nat.le_refl _) _
 have c0 : CB W0 w.heap.size fz4 29 := by rw [← hW0]; exact CB.new w _ _
 have HP := Lib.hid hp
 have HR := Lib.hid (readS s t W0 ht hl)
 have H0 : Hid (Below w.heap.size w W0 ∧ CB W0 w.heap.size fz4 29 ∧ Ety W0 ∧ Tab W0 ∧ w.heap.size + 1 = W0.heap.size) := Lib.hid ⟨b0, c0, hE.later b0, hT.later b0, by rw [← hW0]; simp⟩
 clear hp ht hl hT hE b0 c0
 go_enter Tryz.func6, Tryz.ntmps6
 go_wp2_with fail
 try rw [hW0]
 clear hW0
 refine HR.out.mono ?_
 rintro e W1 ⟨a1, c1, ps, rfl, hLr, htell, hlen, hb1⟩
 have HW1 : Hid (CB W1 w.heap.size fz4 29 ∧ Below w.heap.size w W1 ∧ Ety W1 ∧ Tab W1 ∧ w.heap.size < W1.heap.size) := Lib.hid ⟨H0.out.2.1.later hb1, H0.out.1.trans (hb1.mono H0.out.1.size), H0.out.2.2.1.later hb1, H0.out.2.2.2.1.later hb1, by have := hb1.size; have := H0.out.2.2.2.2; omega⟩
 obtain ⟨er, her⟩ : ∃ er : Nat, Hid ((rdV t).2.2 = er) := ⟨_, Lib.hid rfl⟩
 obtain ⟨al, hal⟩ : ∃ al : Nat, Hid ((rdV t).2.1 = al) := ⟨_, Lib.hid rfl⟩
 obtain ⟨nl, hnl⟩ : ∃ nl : Nat, Hid ((rdV t).1.length = nl) := ⟨_, Lib.hid rfl⟩
 rw [her.out, hal.out, hnl.out]
 rw [hnl.out] at hLr hlen
 have HLr := Lib.hid hLr
 have HTl := Lib.hid htell
 have HLe := Lib.hid hlen
 have hnl' : nl ≤ 16777217 := by rw [← hnl.out]; exact rdV_count t
 have hnl2 : (nl : Int) ≤ 16777217 := by omega
 have hW0s : Hid (w.heap.size < W0.heap.size) := Lib.hid (by have := H0.out.2.2.2.2; omega)
 clear hLr htell hlen hb1 H0 HR
 by_cases h0 : er = 0
 · subst h0
   have hlw : Lw W1 (.slice a1 nl c1) ps := by
     have := HLr.out.lw (fun q hq x hx => by
       have hm : (q.1, q.2.1) ∈ (rdV t).1 := by rw [← HTl.out]; exact List.mem_map.2 ⟨q, hq, rfl⟩
       have := rdV_short hm x hx
       omega)
     exact this
   have HTk : Hid (Calls Tryz.prog 12 #[.slice a1 nl c1] W1 fun e w' => TakeR p W1 w' (tell ps) e) := Lib.hid (take_any HP.out _ ps W1 hlw (fun q hq x hx => by
       have hm : (q.1, q.2.1) ∈ (rdV t).1 := by rw [← HTl.out]; exact List.mem_map.2 ⟨q, hq, rfl⟩
       have := rdV_short hm x hx
       omega) (by rw [HLe.out]; omega) (fun q hq => by
       have hm : (q.1, q.2.1) ∈ (rdV t).1 := by rw [← HTl.out]; exact List.mem_map.2 ⟨q, hq, rfl⟩
       have : q.1 ≤ 16777218 := rdV_no hm
       omega) HW1.out.2.2.2.1 HW1.out.2.2.1)
   have HLw := Lib.hid hlw
   clear hlw
   obtain ⟨q, hq⟩ : ∃ q, Hid (tkV p (tell ps) = q) := ⟨_, Lib.hid rfl⟩
   unfold TakeR at HTk
   rw [hq.out] at HTk
   have HRf : Hid (rfV p t = if q.2.2.2 = 0 then (if q.2.1 < nl then ((⟨[], false, 0, false⟩ : Fd), ((rdV t).1.getD q.2.1 (0, [])).1, (4 : Int)) else (q.1, 0, 0)) else (⟨[], false, 0, false⟩, q.2.2.1, q.2.2.2)) := Lib.hid (by
     unfold rfV
     rw [if_pos her.out]
     simp only []
     rw [← HTl.out, hq.out, HTl.out, hnl.out])
   obtain ⟨f, n1, at', ex⟩ := q
   try dsimp only at HRf
   go_wp2_with fail
   refine HTk.out.mono ?_
   rintro e W2 ⟨hb2, a, c, ns, z, k, m, rfl, hF⟩
   have c2 : CB W2 w.heap.size fz4 29 := HW1.out.1.later hb2
   have bw2 : Below w.heap.size w W2 := HW1.out.2.1.trans (hb2.mono HW1.out.2.1.size)
   have HN1 : Hid (n1 ≤ 1048577 ∨ True) := Lib.hid (Or.inr trivial)
   obtain ⟨W3, hW3⟩ : ∃ W3, Hid (W2.alloc (.cells #[.slice a ns.length c, .bool z, .int .i64 (k : Nat), .bool m] 29) = W3) := ⟨_, Lib.hid rfl⟩
   have b3 : Below W2.heap.size W2 W3 := by rw [← hW3.out]; exact (Below.refl _ W2).alloc (Nat.le_refl _) _
   have HC : Hid (CB W3 w.heap.size fz4 29 ∧ Below w.heap.size w W3 ∧ CB W3 W2.heap.size #[.slice a ns.length c, .bool z, .int .i64 (k : Nat), .bool m] 29 ∧ FileR W1 W3 a c ns z k m f ∧ w.heap.size < W1.heap.size ∧ w.heap.size < W2.heap.size) := Lib.hid ⟨c2.later b3, bw2.trans (b3.mono bw2.size), by rw [← hW3.out]; exact CB.new W2 _ _, ⟨hF.row.later b3, hF.is, hF.k16, hF.len⟩, HW1.out.2.2.2.2, Nat.lt_of_lt_of_le HW1.out.2.2.2.2 hb2.size⟩
   have HLw3 := Lib.hid ((HLw.out.later hb2).later b3)
   clear c2 bw2 b3 hb2 hF HTk HW1 HLw
   try dsimp only at hq
   rw [← hW3.out] at HC HLw3
   clear hW3 HN1
   by_cases hx0 : ex = 0
   · subst hx0
     by_cases hlt : n1 < nl
     · have hlt' : (n1 : Int) < (nl : Int) := by omega
       have hn0 : (0 : Int) ≤ (n1 : Int) := by omega
       obtain ⟨q, hqq⟩ : ∃ q, ps[n1]? = some q := ⟨_, List.getElem?_eq_getElem (by rw [HLe.out]; exact hlt)⟩
       have HRf2 : Hid (rfV p t = ((⟨[], false, 0, false⟩ : Fd), q.1, (4 : Int))) := Lib.hid (by
         rw [HRf.out, if_pos rfl, if_pos hlt, ← HTl.out, List.getD_eq_getElem?_getD]
         unfold tell
         rw [List.getElem?_map, hqq]; rfl)
       obtain ⟨⟨a2, c2, e2, _, _, hm⟩, _⟩ := HLw3.out
       obtain ⟨g, off, hga, hg, hcell⟩ := hm.resolve_left (fun e => by rw [e] at hqq; simp at hqq)
       cases e2
       subst hga
       obtain ⟨W, hW⟩ : ∃ W, (W2.alloc (.cells #[.slice a ns.length c, .bool z, .int .i64 (k : Nat), .bool m] 29)).drew = W := ⟨_, rfl⟩
       have kno : W.cell? ⟨g, off + n1 * 2, none⟩ = some (.int .i64 (q.1 : Nat)) := by rw [← hW]; exact (hcell n1 q hqq).1
       have HR0 : Hid (CB W w.heap.size fz4 29 ∧ Below w.heap.size w W) := Lib.hid (by rw [← hW]; exact ⟨HC.out.1, HC.out.2.1.drew⟩)
       obtain ⟨k20, k21, k22, k23⟩ := HR0.out.1.cells4
       have f20 := HR0.out.1.frozen 0
       have f21 := HR0.out.1.frozen 1
       have f22 := HR0.out.1.frozen 2
       have f23 := HR0.out.1.frozen 3
       have hgw : g ≠ w.heap.size := by
         have h1 := (World.ownsRow.lt HLr.out.own g rfl).1
         have h2 := hW0s.out
         omega
       have hgw2 : w.heap.size ≠ g := fun e => hgw e.symm
       clear hcell hm hqq HLw3 HC
       go_wp2_with fail
       go_region
       all_goals
         go_wp2
         refine bodyPost_ret (res_readN _ w.heap.size _ _ _ _ _ _ _ (set4 HR0.out.1 _ _ _ _) rfl rfl rfl) rfl ?_
         refine ⟨(((HR0.out.2.setCell (Nat.le_refl _) _).setCell (Nat.le_refl _) _).setCell (Nat.le_refl _) _).setCell (Nat.le_refl _) _, none, 0, [], false, 0, false, by rw [HRf2.out]; rfl, ⟨Nr.nil (World.ownsRow_nil _ _ _ _), by rw [HRf2.out]; rfl, by omega, by simp⟩⟩
     · have hlt' : ¬ ((n1 : Int) < (nl : Int)) := by omega
       have HRf2 : Hid (rfV p t = (f, 0, (0 : Int))) := Lib.hid (by rw [HRf.out, if_pos rfl, if_neg hlt])
       obtain ⟨k40, k41, k42, k43⟩ := HC.out.2.2.1.cells4
       obtain ⟨k20, k21, k22, k23⟩ := HC.out.1.cells4
       have f20 := HC.out.1.frozen 0
       have f21 := HC.out.1.frozen 1
       have f22 := HC.out.1.frozen 2
       have f23 := HC.out.1.frozen 3
       go_wp2
       refine bodyPost_ret (res_readN _ w.heap.size _ _ _ _ _ _ _ (set4 HC.out.1 _ _ _ _) rfl rfl rfl) rfl ?_
       refine ⟨(((HC.out.2.1.setCell (Nat.le_refl _) _).setCell (Nat.le_refl _) _).setCell (Nat.le_refl _) _).setCell (Nat.le_refl _) _, a, c, ns, z, k, m, by rw [HRf2.out]; rfl, ⟨(HC.out.2.2.2.1.row.ob (ob_set4 _ _ _ _ _ _) HC.out.2.2.2.2.1).base (by have := HC.out.2.2.2.2.1; omega), by rw [HRf2.out]; exact HC.out.2.2.2.1.is, HC.out.2.2.2.1.k16, HC.out.2.2.2.1.len⟩⟩
   · have hx' : (ex == 0) = false := by simpa using hx0
     have HRf2 : Hid (rfV p t = ((⟨[], false, 0, false⟩ : Fd), at', ex)) := Lib.hid (by rw [HRf.out, if_neg hx0])
     obtain ⟨k20, k21, k22, k23⟩ := HC.out.1.cells4
     have f20 := HC.out.1.frozen 0
     have f21 := HC.out.1.frozen 1
     have f22 := HC.out.1.frozen 2
     have f23 := HC.out.1.frozen 3
     go_wp2
     refine bodyPost_ret (res_readN _ w.heap.size _ _ _ _ _ _ _ (set4 HC.out.1 _ _ _ _) rfl rfl rfl) rfl ?_
     refine ⟨(((HC.out.2.1.setCell (Nat.le_refl _) _).setCell (Nat.le_refl _) _).setCell (Nat.le_refl _) _).setCell (Nat.le_refl _) _, none, 0, [], false, 0, false, by rw [HRf2.out]; rfl, ⟨Nr.nil (World.ownsRow_nil _ _ _ _), by rw [HRf2.out]; rfl, by omega, by simp⟩⟩
 · have h0' : ((er : Int) == 0) = false := by rw [beq_eq_false_iff_ne]; omega
   have h0n : ¬ ((er : Int) = 0) := by omega
   have HRf : Hid (rfV p t = ((⟨[], false, 0, false⟩ : Fd), al, (er : Int))) := Lib.hid (by
     unfold rfV
     rw [if_neg (by rw [her.out]; exact h0), her.out, hal.out])
   obtain ⟨k20, k21, k22, k23⟩ := HW1.out.1.cells4
   have f20 := HW1.out.1.frozen 0
   have f21 := HW1.out.1.frozen 1
   have f22 := HW1.out.1.frozen 2
   have f23 := HW1.out.1.frozen 3
   go_wp2
   refine bodyPost_ret (res_readN _ w.heap.size _ _ _ _ _ _ _ (set4 HW1.out.1 _ _ _ _) rfl rfl rfl) rfl ?_
   refine ⟨(((HW1.out.2.1.setCell (Nat.le_refl _) _).setCell (Nat.le_refl _) _).setCell (Nat.le_refl _) _).setCell (Nat.le_refl _) _, none, 0, [], false, 0, false, by rw [HRf.out]; rfl, ⟨Nr.nil (World.ownsRow_nil _ _ _ _), by rw [HRf.out]; rfl, by omega, by simp⟩⟩
end

/- The first example of chapter 10: plain. -/
section
set_option maxRecDepth 100000
open Go.RowKit Go.Shelf Go.Lib
theorem rf_of {p : Pm} (hp : p.Ok) {l : Bs} {n e : Int} {v : Nat} (ht : rdTell l = some (n, e)) (fv : Fin64 v) (lv : v < 18446744073709551616) (hv : fval v = (n : Rat) * p2 e) (h0 : n = 0 → v = 0) : p.rf l = (v, 0) := by
 have := FloatR.ok (hp.rf l) ht fv lv hv h0
 exact Prod.ext this.1 this.2
theorem pt_yes {p : Pm} (hp : p.Ok) {x y : Nat} (h : Pt x y) : p.pt x y = true := (hp.pt x y).2 h
theorem rf_0 {p : Pm} (hp : p.Ok) : p.rf [48] = (0, 0) := rf_of hp (n := 0) (e := 0) (by decide +kernel) (by unfold Fin64 frung; decide) (by decide) (by decide +kernel) (by decide)
theorem rf_1 {p : Pm} (hp : p.Ok) : p.rf [49] = (4607182418800017408, 0) := rf_of hp (n := 1) (e := 0) (by decide +kernel) (by unfold Fin64 frung; decide) (by decide) (by decide +kernel) (by decide)
theorem rf_7 {p : Pm} (hp : p.Ok) : p.rf [55] = (4619567317775286272, 0) := rf_of hp (n := 7) (e := 0) (by decide +kernel) (by unfold Fin64 frung; decide) (by decide) (by decide +kernel) (by decide)
theorem rf_8 {p : Pm} (hp : p.Ok) : p.rf [56] = (4620693217682128896, 0) := rf_of hp (n := 8) (e := 0) (by decide +kernel) (by unfold Fin64 frung; decide) (by decide) (by decide +kernel) (by decide)
theorem rf_3 {p : Pm} (hp : p.Ok) : p.rf [51] = (4613937818241073152, 0) := rf_of hp (n := 3) (e := 0) (by decide +kernel) (by unfold Fin64 frung; decide) (by decide) (by decide +kernel) (by decide)
theorem rf_4 {p : Pm} (hp : p.Ok) : p.rf [52] = (4616189618054758400, 0) := rf_of hp (n := 4) (e := 0) (by decide +kernel) (by unfold Fin64 frung; decide) (by decide) (by decide +kernel) (by decide)
theorem rf_1bm1 {p : Pm} (hp : p.Ok) : p.rf [49, 98, 45, 49] = (4602678819172646912, 0) := rf_of hp (n := 1) (e := -1) (by decide +kernel) (by unfold Fin64 frung; decide) (by decide) (by decide +kernel) (by decide)
theorem it_0 : itoa (0) = [48] := (itoa_rd (l := [48]) (n := 0) (by decide +kernel)).2
theorem it_1 : itoa (1) = [49] := (itoa_rd (l := [49]) (n := 1) (by decide +kernel)).2
theorem it_2 : itoa (2) = [50] := (itoa_rd (l := [50]) (n := 2) (by decide +kernel)).2
theorem it_5 : itoa (5) = [53] := (itoa_rd (l := [53]) (n := 5) (by decide +kernel)).2
theorem it_7 : itoa (7) = [55] := (itoa_rd (l := [55]) (n := 7) (by decide +kernel)).2
theorem it_8 : itoa (8) = [56] := (itoa_rd (l := [56]) (n := 8) (by decide +kernel)).2
theorem it_m1 : itoa (-1) = [45, 49] := (itoa_rd (l := [45, 49]) (n := -1) (by decide +kernel)).2
theorem tx_0 {p : Pm} (hp : p.Ok) : p.tx 0 = [48] := by
 rw [(hp.tx 0 (by decide)).whole (by unfold Fin64 frung; decide) (k := 0) (by decide +kernel) (by decide) (by decide), it_0]
theorem tx_1 {p : Pm} (hp : p.Ok) : p.tx 4607182418800017408 = [49] := by
 rw [(hp.tx 4607182418800017408 (by decide)).whole (by unfold Fin64 frung; decide) (k := 1) (by decide +kernel) (by decide) (by decide), it_1]
theorem tx_7 {p : Pm} (hp : p.Ok) : p.tx 4619567317775286272 = [55] := by
 rw [(hp.tx 4619567317775286272 (by decide)).whole (by unfold Fin64 frung; decide) (k := 7) (by decide +kernel) (by decide) (by decide), it_7]
theorem tx_8 {p : Pm} (hp : p.Ok) : p.tx 4620693217682128896 = [56] := by
 rw [(hp.tx 4620693217682128896 (by decide)).whole (by unfold Fin64 frung; decide) (k := 8) (by decide +kernel) (by decide) (by decide), it_8]
theorem nw_half {x : Nat} (hv : fval x = ((1 : Int) : Rat) * p2 (-1)) : ¬ ∃ k : Int, fval x = (k : Rat) ∧ -9007199254740992 < k ∧ k < 9007199254740992 := by
 rintro ⟨k, e, _, _⟩
 rw [hv] at e
 have e2 : ((1 : Int) : Rat) * p2 (-1) = ((2 * k : Int) : Rat) * p2 (-1) := by
   rw [e, Rat.intCast_mul, Rat.mul_comm ((2 : Int) : Rat), Rat.mul_assoc]
   have : ((2 : Int) : Rat) * p2 (-1) = 1 := by decide +kernel
   rw [this, Rat.mul_one]
 have := int_eq (p2_pos _) e2
 omega
theorem tx_half {p : Pm} (hp : p.Ok) : p.tx 4602678819172646912 = [49, 98, 45, 49] := by
 have hv : fval 4602678819172646912 = ((1 : Int) : Rat) * p2 (-1) := by decide +kernel
 rw [(hp.tx 4602678819172646912 (by decide)).odd (by unfold Fin64 frung; decide) (n := 1) (e := -1) (by decide) hv (nw_half hv), it_1, it_m1]
 rfl
abbrev exA : Bs := [50, 32, 50, 32, 49, 32, 49, 10, 49, 32, 48, 32, 48, 32, 55, 32, 53, 10, 50, 32, 49, 98, 45, 49, 32, 49, 32, 56, 32, 48, 10]
abbrev exB : Bs := [49, 32, 50, 32, 48, 32, 48, 10, 48, 32, 51, 32, 52, 10]
theorem exA_rd : rdV exA = ([(1, [[50], [50], [49], [49]]), (2, [[49], [48], [48], [55], [53]]), (3, [[50], [49, 98, 45, 49], [49], [56], [48]])], 0, 0) := by decide +kernel
theorem exB_rd : rdV exB = ([(1, [[49], [50], [48], [48]]), (2, [[48], [51], [52]])], 0, 0) := by decide +kernel
abbrev fd1 : Fd := ⟨[⟨0, 0, [4619567317775286272], 5⟩, ⟨4602678819172646912, 4607182418800017408, [4620693217682128896], 0⟩], false, 1, true⟩
abbrev fd2 : Fd := ⟨[⟨4613937818241073152, 4616189618054758400, [], 0⟩], true, 0, false⟩
theorem ri_0 : rdInt [48] = some 0 := by decide +kernel
theorem ri_1 : rdInt [49] = some 1 := by decide +kernel
theorem ri_2 : rdInt [50] = some 2 := by decide +kernel
theorem ri_5 : rdInt [53] = some 5 := by decide +kernel
theorem exA_go {p : Pm} (hp : p.Ok) : goN p 1 true 0 false [(2, [[49], [48], [48], [55], [53]]), (3, [[50], [49, 98, 45, 49], [49], [56], [48]])] = .inr (fd1.ns, false) := by
 have q1 : p.pt 0 0 = true := pt_yes hp (by decide +kernel)
 have q2 : p.pt 4602678819172646912 4607182418800017408 = true := pt_yes hp (by decide +kernel)
 have n1 : ndE p 1 true (mayN 0 false) [[49], [48], [48], [55], [53]] = 0 := by
   simp [ndE, wid, intE, mayN, fst0, ri_1, ri_5, rf_0 hp, rf_7 hp, q1]
 have n2 : ndE p 1 true (mayN 1 false) [[50], [49, 98, 45, 49], [49], [56], [48]] = 0 := by
   simp [ndE, wid, intE, mayN, fst0, ri_0, ri_2, rf_1bm1 hp, rf_1 hp, rf_8 hp, q2]
 have z1 : zN 0 false [49] = false := by simp [zN, ri_1]
 have z2 : zN 1 false [50] = false := by simp [zN]
 simp [goN, n1, n2, z1, z2, ndV, rf_0 hp, rf_7 hp, rf_1bm1 hp, rf_1 hp, rf_8 hp, ri_5, ri_0]
theorem exA_rf {p : Pm} (hp : p.Ok) : rfV p exA = (fd1, 0, 0) := by
 have h1 : hdE [[50], [50], [49], [49]] = 0 := by decide +kernel
 have h2 : hdP [[50], [50], [49], [49]] = some (2, 1, true) := by decide +kernel
 unfold rfV
 rw [exA_rd]
 simp [tkV, h1, h2, exA_go hp]
theorem exB_go {p : Pm} (hp : p.Ok) : goN p 0 false 0 false [(2, [[48], [51], [52]])] = .inr (fd2.ns, true) := by
 have q1 : p.pt 4613937818241073152 4616189618054758400 = true := pt_yes hp (by decide +kernel)
 have n1 : ndE p 0 false (mayN 0 false) [[48], [51], [52]] = 0 := by
   simp [ndE, wid, intE, mayN, fst0, ri_0, rf_3 hp, rf_4 hp, q1]
 simp [goN, n1, zN, ndV, rf_3 hp, rf_4 hp, ri_0]
theorem exB_rf {p : Pm} (hp : p.Ok) : rfV p exB = (fd2, 0, 0) := by
 have h1 : hdE [[49], [50], [48], [48]] = 0 := by decide +kernel
 have h2 : hdP [[49], [50], [48], [48]] = some (1, 0, false) := by decide +kernel
 unfold rfV
 rw [exB_rd]
 simp [tkV, h1, h2, exB_go hp]
theorem exA_fl {p : Pm} (hp : p.Ok) : flW p fd1 = [[[50], [50], [49], [49]], [[49], [48], [48], [55], [53]], [[50], [49, 98, 45, 49], [49], [56], [48]]] := by
 simp [flW, ndsW, ndW, it_0, it_1, it_2, it_5, tx_0 hp, tx_1 hp, tx_7 hp, tx_8 hp, tx_half hp]
theorem exA_wr {p : Pm} (hp : p.Ok) : wrN p fd1 = (exA, 0) := by
 have q1 : p.pt 0 0 = true := pt_yes hp (by decide +kernel)
 have q2 : p.pt 4602678819172646912 4607182418800017408 = true := pt_yes hp (by decide +kernel)
 have a1 : endl 4619567317775286272 = false := by decide +kernel
 have a2 : endl 4620693217682128896 = false := by decide +kernel
 have hw : wrongN p fd1 = 0 := by
   simp [wrongN, amiss, a1, a2, q1, q2]
 unfold wrN
 rw [if_pos hw, exA_fl hp]
 decide +kernel
end

/- Package nodefile: what is written is read, what is read is written: plain. -/
section
set_option maxRecDepth 100000
open Go.RowKit Go.Shelf Go.Lib
def cz (x : Nat) : Nat := if fval x = 0 then 0 else x
theorem crd_fin' {x : Nat} (h : Crd x) : Fin64 x := crd_fin h.1
theorem endl_fin {x : Nat} (h : endl x = false) : Fin64 x := by
 unfold endl isnan isinf at h
 unfold Fin64
 simp at h
 omega
theorem fin_endl {x : Nat} (h : Fin64 x) : endl x = false := by
 have := flagsS h
 unfold endl
 rw [this.1, this.2]; rfl
def cn (q : Nd) : Nd := ⟨cz q.x, cz q.y, q.a.map cz, q.m⟩
theorem fst0_zero {l : List Int} : fst0 l = 0 ↔ ∀ e ∈ l, e = 0 := by
 induction l with
 | nil => simp [fst0]
 | cons a r ih =>
   rw [fst0]
   by_cases h : a = 0
   · rw [if_pos h, ih]; simp [h]
   · rw [if_neg h]; simp [h]
theorem amiss_no {k : Int} {m : Bool} {q : Nd} : amiss k m q = false ↔ (q.a.length : Int) = k ∧ (∀ x ∈ q.a, endl x = false) ∧ (m = false → q.m = 0) := by
 unfold amiss
 simp only [Bool.or_eq_false_iff, decide_eq_false_iff_not, Bool.and_eq_false_iff, List.any_eq_false]
 constructor
 · rintro ⟨⟨h1, h2⟩, h3⟩
   refine ⟨by simpa using h1, fun x hx => by simpa using h2 x hx, fun hm => ?_⟩
   rcases h3 with h3 | h3
   · simpa using h3
   · rw [hm] at h3; simp at h3
 · rintro ⟨h1, h2, h3⟩
   refine ⟨⟨by simpa using h1, fun x hx => by simpa using h2 x hx⟩, ?_⟩
   cases m
   · left; simp [h3 rfl]
   · right; rfl
section
variable {p : Pm} {k : Nat} {m z : Bool} {i : Nat} {q : Nd}
end
/-! ### What is read may be written. -/
theorem rf_fin {p : Pm} (hp : p.Ok) {l : Bs} (h : (p.rf l).2 = 0) : Fin64 (p.rf l).1 ∧ (p.rf l).1 < 18446744073709551616 := by
 rcases hp.rf l with ⟨_, _, h2⟩ | ⟨n, e, ok, _, ht, h2⟩
 · rw [h2] at h; cases h
 · rcases ht with ⟨_, h3, h4, _⟩ | ⟨rfl, _⟩
   · exact ⟨h3, h4⟩
   · rw [h] at h2; cases h2
theorem nd_good {p : Pm} (hp : p.Ok) {k : Nat} {m : Bool} {may : Int → Bool} {ws : List Bs} (h : ndE p k m may ws = 0) : amiss (k : Int) m (ndV p k m ws) = false ∧ p.pt (ndV p k m ws).x (ndV p k m ws).y = true ∧ wdA (ndV p k m ws) := by
 unfold ndE at h
 rw [fst0_zero] at h
 have hl : ws.length = wid k m := by
   have := h _ (show (if ws.length = wid k m then (0 : Int) else 4) ∈ _ by simp)
   rcases Decidable.em (ws.length = wid k m) with e | e
   · exact e
   · rw [if_neg e] at this; cases this
 have hx := rf_fin hp (h (p.rf (ws.getD 1 [])).2 (by simp))
 have hy := rf_fin hp (h (p.rf (ws.getD 2 [])).2 (by simp))
 have hpt : p.pt (p.rf (ws.getD 1 [])).1 (p.rf (ws.getD 2 [])).1 = true := by
   have := h (if p.pt (p.rf (ws.getD 1 [])).1 (p.rf (ws.getD 2 [])).1 then 0 else 10) (by simp)
   cases hq : p.pt (p.rf (ws.getD 1 [])).1 (p.rf (ws.getD 2 [])).1
   · rw [hq] at this; cases this
   · rfl
 have ha : ∀ w ∈ (ws.drop 3).take k, Fin64 (p.rf w).1 ∧ (p.rf w).1 < 18446744073709551616 := fun w hw => rf_fin hp (h (p.rf w).2 (List.mem_append_left _ (List.mem_append_right _ (List.mem_map.2 ⟨w, hw, rfl⟩))))
 refine ⟨amiss_no.2 ⟨?_, ?_, ?_⟩, hpt, ⟨hx.2, hy.2, inR_nd (p := p) (k := k) (m := m) (ws := ws) rfl⟩, ?_⟩
 · show (((((ws.drop 3).take k).map fun w => (p.rf w).1).length : Nat) : Int) = k
   rw [List.length_map, List.length_take, List.length_drop, hl]
   unfold wid
   split <;> omega
 · intro x hxx
   obtain ⟨w, hw, rfl⟩ := List.mem_map.1 hxx
   exact fin_endl (ha w hw).1
 · intro hm
   show (if m then _ else _) = 0
   rw [hm]; rfl
 · intro b hb
   obtain ⟨w, hw, rfl⟩ := List.mem_map.1 hb
   exact (ha w hw).2
theorem goN_nodes {p : Pm} {k : Nat} {m : Bool} : ∀ {L : List (Nat × List Bs)} {i : Nat} {z z' : Bool} {ns : List Nd}, goN p k m i z L = .inr (ns, z') → (∀ q ∈ ns, ∃ ws may, ndE p k m may ws = 0 ∧ q = ndV p k m ws) ∧ (L = [] → z' = z) := by
 intro L
 induction L with
 | nil => intro i z z' ns h; cases h; exact ⟨fun q hq => by simp at hq, fun _ => rfl⟩
 | cons a r ih =>
   intro i z z' ns h
   obtain ⟨no, ws⟩ := a
   simp only [goN] at h
   by_cases h0 : ndE p k m (mayN i z) ws = 0
   · rw [if_pos h0] at h
     cases hg : goN p k m (i + 1) (zN i z (ws.getD 0 [])) r with
     | inl x => rw [hg] at h; cases h
     | inr x =>
       obtain ⟨ms, y⟩ := x
       rw [hg] at h
       cases h
       refine ⟨fun q hq => ?_, fun e => by cases e⟩
       rcases List.mem_cons.1 hq with rfl | hq
       · exact ⟨ws, _, h0, rfl⟩
       · exact (ih hg).1 q hq
   · rw [if_neg h0] at h; cases h
theorem wrT_ge {L : List (List Bs)} (h : ∀ ws ∈ L, 1 ≤ (jn ws).length) : 2 * L.length ≤ (wrT L).length := by
 induction L with
 | nil => simp [wrT]
 | cons a r ih =>
   have := ih (fun ws hws => h ws (by simp [hws]))
   have h1 := h a (by simp)
   rw [show wrT (a :: r) = (jn a ++ [10]) ++ wrT r by simp [wrT], List.length_append, List.length_append, List.length_cons]
   simp
   omega
theorem jn_ge {ws : List Bs} (h : okL ws = true) : 1 ≤ (jn ws).length := by
 obtain ⟨h1, h2⟩ := ok_may h
 cases ws with
 | nil => exact absurd rfl h1
 | cons x r =>
   have hx := (may_gd (h2 x (by simp))).1
   have : 1 ≤ x.length := by cases x with
     | nil => exact absurd rfl hx
     | cons => simp
   cases r with
   | nil => rw [jn_one]; exact this
   | cons y r => rw [jn_cons2, List.length_append]; omega
theorem rd_len {t : Bs} (ht : t.length ≤ 20000) : (rdV t).1.length ≤ 10000 := by
 cases hb : bad 1 (lns t) with
 | some q => obtain ⟨n, e⟩ := q; rw [rdV_bad (by omega) hb]; simp
 | none =>
   rw [rdV_good (by omega) hb]
   have hg := good_fits (lns t) 1 hb
   have hw : wts (lns t) = t.length + 1 := spl_wts _ _
   have h2 := wrT_ge (L := (good 1 (lns t)).map (·.2)) (fun ws hws => by
     obtain ⟨q, hq, rfl⟩ := List.mem_map.1 hws
     exact jn_ge (hg.1 q hq).1)
   rw [List.length_map] at h2
   have := hg.2
   show (good 1 (lns t)).length ≤ 10000
   omega
end

/- The document's side of layer 10: number, head. -/
section
set_option maxRecDepth 100000
open Go.RowKit Go.Shelf Go.Lib
theorem sl_at {W : World} {v : Value} {ws : List Bs} (h : Sl W v ws) : ∃ a c, v = .slice a ws.length c ∧ ∀ (i : Nat) (x : Bs), ws[i]? = some x → ∃ g off, a = some ⟨g, off, none⟩ ∧ g < W.heap.size ∧ W.cell? ⟨g, off + i, none⟩ = some (sv x) := by
 obtain ⟨a, c, rfl, _, _, h3⟩ := h.form
 refine ⟨a, c, rfl, fun i x hx => ?_⟩
 obtain ⟨g, off, rfl, hg, hc⟩ := h3.resolve_left (fun e => by rw [e] at hx; simp at hx)
 exact ⟨g, off, rfl, hg, hc i x hx⟩
theorem refInt_sv (l : Bs) (w : World) (h : l.length ≤ 400) : Calls Tryz.prog 38 #[sv l] w fun e w' => e = .returned (intR (rdInt l)) ∧ Below w.heap.size w w' := by
 have := refInt8_any ⟨l.toArray⟩ w (by rw [Lib.size_eq]; simpa using (by omega : l.length ≤ 1000000))
 simpa using this
def nmV (k : Nat) (m : Bool) (ws : List Bs) : Bool := decide (ws.length = wid k m) && (rdInt (ws.getD 0 [])).isSome
set_option maxHeartbeats 4000000 in
theorem number10_any (v : Value) (x : Bs) (r : List Bs) (k : Nat) (m : Bool) (w : World) (hS : Sl w v (x :: r)) (hk : k ≤ 16) (hx : x.length ≤ 400) (hr : r.length ≤ 20000000) :
   Calls Tryz.prog 24 #[v, .int .i64 (k : Nat), .bool m] w fun e w' => e = .returned (.bool (nmV k m (x :: r))) ∧ Below w.heap.size w w' := by
 obtain ⟨a, c, rfl, hc⟩ := sl_at hS
 obtain ⟨g, off, rfl, hg, x0⟩ := hc 0 x rfl
 have HI := Lib.hid (refInt_sv x w hx)
 obtain ⟨n, hn⟩ : ∃ n, Hid ((x :: r).length = n) := ⟨_, Lib.hid rfl⟩
 have hn1 : n = r.length + 1 := by rw [← hn.out]; rfl
 rw [hn.out]
 have hn0 : (0 : Int) < (n : Int) := by omega
 have hn' : (n : Int) ≤ 20000001 := by omega
 have hk' : (k : Int) ≤ 16 := by omega
 rw [Nat.add_zero] at x0
 have HNm : Hid (nmV k m (x :: r) = (decide (n = wid k m) && (rdInt x).isSome)) := Lib.hid (by unfold nmV; rw [hn.out]; rfl)
 rw [HNm.out]
 obtain ⟨o, ho⟩ : ∃ o, rdInt x = o := ⟨_, rfl⟩
 rw [ho] at HI ⊢
 clear hS hc ho hn1 HNm
 cases m
 · rw [show wid k false = 3 + k from rfl]
   by_cases hE : n = 3 + k
   · have hE' : (n : Int) = 3 + (k : Int) := by omega
     have hE2 : ((n : Int) == 3 + (k : Int)) = true := by simpa using hE'
     rw [decide_eq_true hE]
     clear hE
     cases o
     all_goals
       unfold intR at HI
       try dsimp only at HI
       go_enter Tryz.func24, Tryz.ntmps24
       go_wp2_with fail
       refine HI.out.mono ?_
       rintro e W1 ⟨rfl, hb1⟩
       have HB1 := Lib.hid hb1
       clear hb1
       go_wp2
       go_ret
       exact ⟨rfl, HB1.out⟩
   · have hE' : ¬ ((n : Int) = 3 + (k : Int)) := by omega
     have hE2 : ((n : Int) == 3 + (k : Int)) = false := by simpa using hE'
     rw [decide_eq_false hE, Bool.false_and]
     clear hE
     cases o
     all_goals
       unfold intR at HI
       try dsimp only at HI
       go_enter Tryz.func24, Tryz.ntmps24
       go_wp2_with fail
       refine HI.out.mono ?_
       rintro e W1 ⟨rfl, hb1⟩
       have HB1 := Lib.hid hb1
       clear hb1
       go_wp2
       go_ret
       exact ⟨rfl, HB1.out⟩
 · rw [show wid k true = 3 + k + 1 from rfl]
   by_cases hE : n = 3 + k + 1
   · have hE' : (n : Int) = 3 + (k : Int) + 1 := by omega
     have hE2 : ((n : Int) == 3 + (k : Int) + 1) = true := by simpa using hE'
     rw [decide_eq_true hE]
     clear hE
     cases o
     all_goals
       unfold intR at HI
       try dsimp only at HI
       go_enter Tryz.func24, Tryz.ntmps24
       go_wp2_with fail
       refine HI.out.mono ?_
       rintro e W1 ⟨rfl, hb1⟩
       have HB1 := Lib.hid hb1
       clear hb1
       go_wp2
       go_ret
       exact ⟨rfl, HB1.out⟩
   · have hE' : ¬ ((n : Int) = 3 + (k : Int) + 1) := by omega
     have hE2 : ((n : Int) == 3 + (k : Int) + 1) = false := by simpa using hE'
     rw [decide_eq_false hE, Bool.false_and]
     clear hE
     cases o
     all_goals
       unfold intR at HI
       try dsimp only at HI
       go_enter Tryz.func24, Tryz.ntmps24
       go_wp2_with fail
       refine HI.out.mono ?_
       rintro e W1 ⟨rfl, hb1⟩
       have HB1 := Lib.hid hb1
       clear hb1
       go_wp2
       go_ret
       exact ⟨rfl, HB1.out⟩
end

/- The document's side of layer 10: what head tells: plain. (Its walk, not yet through, lies in Qdb.draft.txt.) -/
section
set_option maxRecDepth 100000
open Go.RowKit Go.Shelf Go.Lib
def HdR (ws : List Bs) (e : Ending) : Prop := ∃ (n a : Int) (mk ok : Bool), e = .returned (.tuple #[.int .i64 n, .int .i64 a, .bool mk, .bool ok]) ∧ (ok = false → hdP ws = none) ∧ (ok = true → 0 ≤ n ∧ 0 ≤ a ∧ hdP ws = some (n.toNat, a.toNat, mk))
theorem HdR.no {ws : List Bs} {n a : Int} {mk : Bool} (h : hdP ws = none) : HdR ws (.returned (.tuple #[.int .i64 n, .int .i64 a, .bool mk, .bool false])) := ⟨n, a, mk, false, rfl, fun _ => h, fun h => by cases h⟩
theorem hdP_len {ws : List Bs} (h : ws.length ≠ 4) : hdP ws = none := by
 unfold hdP
 split
 · simp at h
 · rfl
theorem hdP_two {a b c d : Bs} (h : b ≠ [50]) : hdP [a, b, c, d] = none := by
 unfold hdP
 simp only []
 split
 · rename_i n t k m h1 h2 h3 h4
   rw [if_neg]
   rintro ⟨_, rfl, _⟩
   have := (itoa_rd h2).2
   rw [it_2] at this
   exact h this.symm
 · rfl
theorem hdP_mark {a b c d : Bs} (h0 : d ≠ [48]) (h1 : d ≠ [49]) : hdP [a, b, c, d] = none := by
 unfold hdP
 simp only []
 split
 · rename_i n t k m e1 e2 e3 e4
   rw [if_neg]
   rintro ⟨_, _, _, rfl | rfl⟩
   · have := (itoa_rd e4).2; rw [it_0] at this; exact h0 this.symm
   · have := (itoa_rd e4).2; rw [it_1] at this; exact h1 this.symm
 · rfl
theorem res_head10 (W : World) (n a : Int) (mk ok : Bool) (tmps : Array Value) (t2 : tmps[2]? = some (.int .i64 n)) (t3 : tmps[3]? = some (.int .i64 a)) (t4 : tmps[4]? = some (.bool mk)) (t5 : tmps[5]? = some (.bool ok)) :
   (results Tryz.f22 tmps).run Tryz.prog W = .ok (.tuple #[.int .i64 n, .int .i64 a, .bool mk, .bool ok]) W := by
 simp [results, Tryz.f22, go_sem, t2, t3, t4, t5]
end

/- The document's side of layer 10: node. -/
section
set_option maxRecDepth 100000
open Go.RowKit Go.Shelf Go.Lib
attribute [local go_sem] run_store_float
theorem refFloat_sv {p : Pm} (hp : p.Ok) (l : Bs) (w : World) (h : l.length ≤ 400) : Calls Tryz.prog 39 #[sv l] w fun e w' => e = .returned (.tuple #[.float .f64 (p.rf l).1, .int .i64 (p.rf l).2]) ∧ Below w.heap.size w w' :=
 refFloat_any ⟨l.toArray⟩ w (by rw [Lib.size_eq]; simpa using (by omega : l.length ≤ 5000)) _ _ (by simpa using hp.rf l)
theorem fst0_at : ∀ (l : List Int) (i : Nat) (e : Int), (∀ j, j < i → l[j]? = some 0) → l[i]? = some e → e ≠ 0 → fst0 l = e := by
 intro l
 induction l with
 | nil => intro i e _ h; simp at h
 | cons a r ih =>
   intro i e h1 h2 h3
   cases i with
   | zero =>
     obtain rfl : a = e := by simpa using h2
     rw [fst0, if_neg h3]
   | succ i =>
     have h0 := h1 0 (by omega)
     obtain rfl : a = 0 := by simpa using h0
     rw [fst0, if_pos rfl]
     exact ih i e (fun j hj => by simpa using h1 (j + 1) (by omega)) (by simpa using h2) h3
theorem fst0_all : ∀ (l : List Int), (∀ (j : Nat) (e : Int), l[j]? = some e → e = 0) → fst0 l = 0 := by
 intro l
 induction l with
 | nil => intro _; rfl
 | cons a r ih =>
   intro h
   obtain rfl : a = 0 := h 0 a rfl
   rw [fst0, if_pos rfl]
   exact ih fun j e hj => h (j + 1) e (by simpa using hj)
def dkE (p : Pm) (k : Nat) (m : Bool) (ws : List Bs) : Int :=
 fst0 ([(p.rf (ws.getD 1 [])).2, (p.rf (ws.getD 2 [])).2, if p.pt (p.rf (ws.getD 1 [])).1 (p.rf (ws.getD 2 [])).1 then 0 else 10] ++ (((ws.drop 3).take k).map fun w => (p.rf w).2) ++ (if m then [intE (fun _ => true) (ws.getD (3 + k) [])] else []))
theorem ndE_long {p : Pm} {k : Nat} {m : Bool} {may : Int → Bool} {ws : List Bs} (h : ws.length ≠ wid k m) : ndE p k m may ws = 4 := by
 unfold ndE
 rw [if_neg h]; rfl
theorem ndE_none {p : Pm} {k : Nat} {m : Bool} {may : Int → Bool} {ws : List Bs} (h : rdInt (ws.getD 0 []) = none) : ndE p k m may ws = 4 := by
 unfold ndE
 by_cases hl : ws.length = wid k m
 · rw [if_pos hl]
   simp only [List.cons_append, fst0, if_true]
   rw [if_neg (by unfold intE; rw [h]; simp)]
   unfold intE; rw [h]
 · rw [if_neg hl]; rfl
theorem ndE_some {p : Pm} {k : Nat} {m : Bool} {may : Int → Bool} {ws : List Bs} {n : Int} (h0 : ws.length = wid k m) (h : rdInt (ws.getD 0 []) = some n) : ndE p k m may ws = if may n then dkE p k m ws else 4 := by
 unfold ndE dkE
 rw [if_pos h0]
 simp only [List.cons_append, List.nil_append]
 rw [fst0, if_pos rfl, fst0]
 by_cases hm : may n = true
 · rw [if_pos (by unfold intE; rw [h]; simp [hm]), if_pos hm]
 · rw [if_neg (by unfold intE; rw [h]; simp [hm]), if_neg hm]
   unfold intE; rw [h]; simp [hm]
theorem dk_x {p : Pm} {k : Nat} {m : Bool} {ws : List Bs} (h : (p.rf (ws.getD 1 [])).2 ≠ 0) : dkE p k m ws = (p.rf (ws.getD 1 [])).2 := by
 unfold dkE
 exact fst0_at _ 0 _ (fun j hj => by omega) rfl h
theorem dk_y {p : Pm} {k : Nat} {m : Bool} {ws : List Bs} (h1 : (p.rf (ws.getD 1 [])).2 = 0) (h : (p.rf (ws.getD 2 [])).2 ≠ 0) : dkE p k m ws = (p.rf (ws.getD 2 [])).2 := by
 unfold dkE
 exact fst0_at _ 1 _ (fun j hj => by obtain rfl : j = 0 := by omega
                                     rw [h1]; rfl) rfl h
theorem dk_p {p : Pm} {k : Nat} {m : Bool} {ws : List Bs} (h1 : (p.rf (ws.getD 1 [])).2 = 0) (h2 : (p.rf (ws.getD 2 [])).2 = 0) (h : p.pt (p.rf (ws.getD 1 [])).1 (p.rf (ws.getD 2 [])).1 = false) : dkE p k m ws = 10 := by
 unfold dkE
 rw [h1, h2, h]
 rfl
theorem dk_rest {p : Pm} {k : Nat} {m : Bool} {ws : List Bs} (h1 : (p.rf (ws.getD 1 [])).2 = 0) (h2 : (p.rf (ws.getD 2 [])).2 = 0) (h : p.pt (p.rf (ws.getD 1 [])).1 (p.rf (ws.getD 2 [])).1 = true) : dkE p k m ws = fst0 ((((ws.drop 3).take k).map fun w => (p.rf w).2) ++ (if m then [intE (fun _ => true) (ws.getD (3 + k) [])] else [])) := by
 unfold dkE
 rw [h1, h2, h]
 rfl
theorem at_drop {ws : List Bs} {k j : Nat} (hj : j < k) (hl : 3 + k ≤ ws.length) (f : Bs → Int) : (((ws.drop 3).take k).map f)[j]? = some (f (ws.getD (3 + j) [])) := by
 rw [List.getElem?_map, List.getElem?_take, if_pos hj, List.getElem?_drop, List.getD_eq_getElem?_getD, List.getElem?_eq_getElem (by omega)]
 rfl
theorem dk_attr {p : Pm} {k : Nat} {m : Bool} {ws : List Bs} {j : Nat} (h1 : (p.rf (ws.getD 1 [])).2 = 0) (h2 : (p.rf (ws.getD 2 [])).2 = 0) (h3 : p.pt (p.rf (ws.getD 1 [])).1 (p.rf (ws.getD 2 [])).1 = true) (hl : 3 + k ≤ ws.length) (hj : j < k) (ha : ∀ i, i < j → (p.rf (ws.getD (3 + i) [])).2 = 0) (h : (p.rf (ws.getD (3 + j) [])).2 ≠ 0) : dkE p k m ws = (p.rf (ws.getD (3 + j) [])).2 := by
 rw [dk_rest h1 h2 h3, fst0_app]
 have e : fst0 (((ws.drop 3).take k).map fun w => (p.rf w).2) = (p.rf (ws.getD (3 + j) [])).2 := fst0_at _ j _ (fun i hi => by rw [at_drop (by omega) hl, ha i hi]) (at_drop hj hl _) h
 rw [e, if_neg h]
theorem dk_mark {p : Pm} {k : Nat} {m : Bool} {ws : List Bs} (h1 : (p.rf (ws.getD 1 [])).2 = 0) (h2 : (p.rf (ws.getD 2 [])).2 = 0) (h3 : p.pt (p.rf (ws.getD 1 [])).1 (p.rf (ws.getD 2 [])).1 = true) (hl : 3 + k ≤ ws.length) (ha : ∀ i, i < k → (p.rf (ws.getD (3 + i) [])).2 = 0) : dkE p k m ws = if m then intE (fun _ => true) (ws.getD (3 + k) []) else 0 := by
 rw [dk_rest h1 h2 h3, fst0_app]
 have e : fst0 (((ws.drop 3).take k).map fun w => (p.rf w).2) = 0 := fst0_all _ fun i e hi => by
   have hik : i < k := by
     obtain ⟨h, _⟩ := List.getElem?_eq_some_iff.1 hi
     rw [List.length_map, List.length_take] at h; omega
   rw [at_drop hik hl, ha i hik] at hi
   exact (Option.some.inj hi).symm
 rw [e, if_pos rfl]
 cases m
 · rfl
 · simp only [if_true, fst0]
   split
   · rename_i h; exact h.symm
   · rfl
structure Dn (w0 W : World) (Bx : Nat) (x y : Nat) (av : Value) (ls : List Nat) (mk : Int) : Prop where
 bel : Below w0.heap.size w0 W
 r0 : CB W w0.heap.size nz 53
 xb : CB W Bx #[.float .f64 x, .float .f64 y, av, .int .i64 mk] 53
 hB : w0.heap.size < Bx
 fr : Fr W (Bx + 1) av ls
theorem Dn.later {w0 W W' : World} {Bx x y : Nat} {av : Value} {ls : List Nat} {mk : Int} (h : Dn w0 W Bx x y av ls mk) (hb : Below W.heap.size W W') : Dn w0 W' Bx x y av ls mk :=
 ⟨h.bel.trans (hb.mono h.bel.size), h.r0.later hb, h.xb.later hb, h.hB, h.fr.later hb⟩
theorem Dn.set {w0 W : World} {Bx x y x' y' : Nat} {av : Value} {ls : List Nat} {mk mk' : Int} (h : Dn w0 W Bx x y av ls mk) (i : Nat) (u : Value) (hs : (#[.float .f64 x, .float .f64 y, av, .int .i64 mk] : Array Value).setIfInBounds i u = #[.float .f64 x', .float .f64 y', av, .int .i64 mk']) : Dn w0 (W.setCell ⟨Bx, i, none⟩ u) Bx x' y' av ls mk' :=
 ⟨h.bel.setCell (by have := h.hB; show w0.heap.size ≤ Bx; omega) _, h.r0.other (by have := h.hB; omega) _, by rw [← hs]; exact h.xb.set i u, h.hB, h.fr.low (by show Bx < _; omega) _⟩
theorem Dn.grew {w0 W W' : World} {Bx x y : Nat} {av av' : Value} {ls : List Nat} {mk : Int} {q : Nat} {tmp : Obj} (h : Dn w0 W Bx x y av ls mk) (hq : q < 18446744073709551616) (hown : W'.ownsRow (Bx + 1) 48 1 av' (ls.length + 1) (f64s ls ++ [.float .f64 q])) (hg : (W.alloc tmp).grownBy W' av.ownBlock) :
   (W'.cell? ⟨Bx, 2, none⟩ = some av ∧ W'.frozen? ⟨Bx, 2, none⟩ = false) ∧ Dn w0 (W'.setCell ⟨Bx, 2, none⟩ av') Bx x y av' (ls ++ [q]) mk := by
 have hB := h.hB
 have hlt := h.xb.lt
 have hlow : ∀ b, av.ownBlock = some b → Bx + 1 ≤ b := fun b hb => (h.fr.own.lt b hb).1
 have hbl : ∀ b, b < Bx + 1 → W'.heap[b]? = W.heap[b]? := fun b hb => by
   rw [hg.block b (by simp; omega) (fun e => by have := hlow b e.symm; omega), Below.heap_alloc _ _ _ (by omega)]
 have hsz' : W.heap.size + 1 ≤ W'.heap.size := by have := hg.size; simpa using this
 have hBl : Below (Bx + 1) W W' := ⟨hg.os, hg.tape, hg.output, by omega, hbl⟩
 have cb : ∀ {b t : Nat} {cs : Array Value}, CB W b cs t → b < Bx + 1 → CB W' b cs t := fun hc hb => by unfold CB; rw [hbl _ hb]; exact hc
 have h8 := cb h.xb (by omega)
 refine ⟨⟨h8.cell 2 (by simp), h8.frozen 2⟩, (h.bel.trans (hBl.mono (by omega))).setCell (by show w0.heap.size ≤ Bx; omega) _, (cb h.r0 (by omega)).other (by omega) _, by have := h8.set 2 av'; simpa using this, hB, ?_⟩
 refine Fr.low ⟨by rw [List.length_append]; simpa [f64s] using hown, fun b hb => ?_⟩ (by show Bx < _; omega) _
 rcases List.mem_append.1 hb with e | e
 · exact h.fr.word b e
 · rw [List.mem_singleton.1 e]; exact hq
def DnR (p : Pm) (w w' : World) (k : Nat) (m : Bool) (ws : List Bs) (v : Ending) : Prop :=
 Below w.heap.size w w' ∧ ∃ (x y : Nat) (av : Value) (ls : List Nat) (mk at' : Int), v = .returned (.tuple #[.agg #[.float .f64 x, .float .f64 y, av, .int .i64 mk], .int .i64 at', .int .i64 (ndE p k m (fun _ => true) ws)]) ∧ Fr w' w.heap.size av ls ∧ x < 18446744073709551616 ∧ y < 18446744073709551616 ∧ InR at' ∧ (∀ n, ws.length = wid k m → rdInt (ws.getD 0 []) = some n → at' = n) ∧ (ndE p k m (fun _ => true) ws = 0 → ndV p k m ws = ⟨x, y, ls, mk⟩)
theorem res_node10 (W : World) (B : Nat) (u0 u1 u2 u3 : Value) (n1 n2 : Int) (tmps : Array Value) (h : CB W B #[u0, u1, u2, u3] 53)
   (t6 : tmps[6]? = some (.pointer (some ⟨B, 0, none⟩))) (t7 : tmps[7]? = some (.int .i64 n1)) (t8 : tmps[8]? = some (.int .i64 n2)) : (results Tryz.f23 tmps).run Tryz.prog W = .ok (.tuple #[.agg #[u0, u1, u2, u3], .int .i64 n1, .int .i64 n2]) W := by
 have c0 := h.cell 0 (by simp)
 have c1 := h.cell 1 (by simp)
 have c2 := h.cell 2 (by simp)
 have c3 := h.cell 3 (by simp)
 simp [results, Tryz.f23, go_sem, c0, c1, c2, c3, t6, t7, t8]
theorem DnR.bad {p : Pm} {w W : World} {k : Nat} {m : Bool} {ws : List Bs} {at' e : Int} (hb : Below w.heap.size w W) (he : ndE p k m (fun _ => true) ws = e) (h0 : e ≠ 0) (ha : InR at') (hn : ∀ n, ws.length = wid k m → rdInt (ws.getD 0 []) = some n → at' = n) : DnR p w W k m ws (.returned (.tuple #[.agg nz, .int .i64 at', .int .i64 e])) :=
 ⟨hb, 0, 0, .slice none 0 0, [], 0, at', by rw [he], Fr.nil _ _, by decide, by decide, ha, hn, fun h => absurd (he ▸ h) h0⟩
end

/- The document's side of layer 10: head, its walk. -/
section
set_option maxRecDepth 100000
open Go.RowKit Go.Shelf Go.Lib
set_option maxHeartbeats 16000000 in
theorem head10_any (v : Value) (ws : List Bs) (w : World) (hS : Sl w v ws) (hx : ∀ x ∈ ws, x.length ≤ 400) (hr : ws.length ≤ 20000000) :
   Calls Tryz.prog 22 #[v] w fun e w' => HdR ws e ∧ Below w.heap.size w w' := by
 obtain ⟨sa, sc, rfl, hc⟩ := sl_at hS
 by_cases hl : ws.length = 4
 rotate_left
 · have hl' : ¬ ((ws.length : Int) = 4) := by omega
   have hl2 : ((ws.length : Int) == 4) = false := by simpa using hl'
   have HN := Lib.hid (HdR.no (n := 0) (a := 0) (mk := false) (hdP_len hl))
   obtain ⟨n, hn⟩ : ∃ n, ws.length = n := ⟨_, rfl⟩
   rw [hn] at hl' hl2 ⊢
   clear hS hc hx hl hr hn
   go_enter Tryz.func22, Tryz.ntmps22
   go_wp2
   exact bodyPost_ret (res_head10 _ 0 0 false false _ rfl rfl rfl rfl) rfl ⟨HN.out, Below.refl _ _⟩
 · obtain ⟨a, b, c, d, rfl⟩ : ∃ a b c d, ws = [a, b, c, d] := by
     rcases ws with _ | ⟨a, _ | ⟨b, _ | ⟨c, _ | ⟨d, _ | ⟨e, r⟩⟩⟩⟩⟩ <;> simp at hl
     exact ⟨a, b, c, d, rfl⟩
   obtain ⟨g, off, rfl, hg, x0⟩ := hc 0 a rfl
   obtain ⟨_, _, e1, _, x1⟩ := hc 1 b rfl
   cases e1
   obtain ⟨_, _, e1, _, x2⟩ := hc 2 c rfl
   cases e1
   obtain ⟨_, _, e1, _, x3⟩ := hc 3 d rfl
   cases e1
   rw [Nat.add_zero] at x0
   by_cases hb : b = [50]
   rotate_left
   · have HN := Lib.hid (HdR.no (n := 0) (a := 0) (mk := false) (hdP_two (a := a) (c := c) (d := d) hb))
     have hb1 : (b == [50]) = false := by simpa using hb
     clear hS hc hx
     go_enter Tryz.func22, Tryz.ntmps22
     go_wp2
     exact bodyPost_ret (res_head10 _ 0 0 false false _ rfl rfl rfl rfl) rfl ⟨HN.out, Below.refl _ _⟩
   subst hb
   by_cases hd0 : d = [48] ∨ d = [49]
   rotate_left
   · have hd1 : (d == [48]) = false := by simpa using fun e => hd0 (Or.inl e)
     have hd2 : (d == [49]) = false := by simpa using fun e => hd0 (Or.inr e)
     have HN := Lib.hid (HdR.no (n := 0) (a := 0) (mk := false) (hdP_mark (a := a) (b := [50]) (c := c) (fun e => hd0 (Or.inl e)) (fun e => hd0 (Or.inr e))))
     have hd3 : ¬ d = [48] := fun e => hd0 (Or.inl e)
     have hd4 : ¬ d = [49] := fun e => hd0 (Or.inr e)
     clear hS hc hx hd0
     go_enter Tryz.func22, Tryz.ntmps22
     go_wp2
     exact bodyPost_ret (res_head10 _ 0 0 false false _ rfl rfl rfl rfl) rfl ⟨HN.out, Below.refl _ _⟩
   have HIa := Lib.hid (fun W => refInt_sv a W (hx a (by simp)))
   have HIc := Lib.hid (fun W => refInt_sv c W (hx c (by simp)))
   have Hc : Hid (∀ W, Below w.heap.size w W → W.cell? ⟨g, off + 2, none⟩ = some (sv c) ∧ W.cell? ⟨g, off + 3, none⟩ = some (sv d)) := Lib.hid (fun W h => ⟨cell_later h hg x2, cell_later h hg x3⟩)
   have HHd : Hid (∀ n k, rdInt a = some n → rdInt c = some k → 0 ≤ n → 0 ≤ k → hdP [a, [50], c, d] = some (n.toNat, k.toNat, d == [49])) := Lib.hid (fun n k h1 h2 h3 h4 => by
     unfold hdP
     simp only [h1, h2, ri_2]
     rcases hd0 with rfl | rfl
     · simp [ri_0, h3, h4]
     · simp [ri_1, h3, h4])
   have HHn : Hid ((rdInt a = none ∨ rdInt c = none ∨ (∃ n, rdInt a = some n ∧ n < 0) ∨ ∃ k, rdInt c = some k ∧ k < 0) → hdP [a, [50], c, d] = none) := Lib.hid (fun h => by
     unfold hdP
     simp only []
     split
     · rename_i n t k m e1 e2 e3 e4
       rw [if_neg]
       rintro ⟨p1, p2, p3, _⟩
       rcases h with h | h | ⟨n', h, h'⟩ | ⟨k', h, h'⟩
       · rw [e1] at h; cases h
       · rw [e3] at h; cases h
       · rw [e1] at h; cases h; omega
       · rw [e3] at h; cases h; omega
     · rfl)
   obtain ⟨oa, hoa⟩ : ∃ o, Hid (rdInt a = o) := ⟨_, Lib.hid rfl⟩
   obtain ⟨oc, hoc⟩ : ∃ o, Hid (rdInt c = o) := ⟨_, Lib.hid rfl⟩
   have HIa2 : Hid (∀ W, Calls Tryz.prog 38 #[sv a] W fun e w' => e = .returned (intR oa) ∧ Below W.heap.size W w') := Lib.hid (by rw [← hoa.out]; exact HIa.out)
   have HIc2 : Hid (∀ W, Calls Tryz.prog 38 #[sv c] W fun e w' => e = .returned (intR oc) ∧ Below W.heap.size W w') := Lib.hid (by rw [← hoc.out]; exact HIc.out)
   clear HIa HIc hS hc hx
   have hcase : (∃ n k : Int, oa = some n ∧ oc = some k ∧ 0 ≤ n ∧ 0 ≤ k) ∨ (oa = none ∧ oc = none) ∨ (∃ n : Int, oa = some n ∧ oc = none) ∨ (∃ k : Int, oa = none ∧ oc = some k) ∨ (∃ n k : Int, oa = some n ∧ oc = some k ∧ n < 0) ∨ ∃ n k : Int, oa = some n ∧ oc = some k ∧ 0 ≤ n ∧ k < 0 := by
     rcases oa with _ | n <;> rcases oc with _ | k
     · exact Or.inr (Or.inl ⟨rfl, rfl⟩)
     · exact Or.inr (Or.inr (Or.inr (Or.inl ⟨k, rfl, rfl⟩)))
     · exact Or.inr (Or.inr (Or.inl ⟨n, rfl, rfl⟩))
     · rcases Int.lt_or_le n 0 with h | h
       · exact Or.inr (Or.inr (Or.inr (Or.inr (Or.inl ⟨n, k, rfl, rfl, h⟩))))
       · rcases Int.lt_or_le k 0 with h2 | h2
         · exact Or.inr (Or.inr (Or.inr (Or.inr (Or.inr ⟨n, k, rfl, rfl, h, h2⟩))))
         · exact Or.inl ⟨n, k, rfl, rfl, h, h2⟩
   rcases hd0 with rfl | rfl
   · rcases hcase with ⟨n, k, rfl, rfl, hn, hk⟩ | ⟨rfl, rfl⟩ | ⟨n, rfl, rfl⟩ | ⟨k, rfl, rfl⟩ | ⟨n, k, rfl, rfl, hn⟩ | ⟨n, k, rfl, rfl, hn, hk⟩
     · unfold intR at HIa2 HIc2
       try dsimp only at HIa2 HIc2
       go_enter Tryz.func22, Tryz.ntmps22
       go_wp2_with fail
       refine (HIa2.out _).mono ?_
       rintro e W1 ⟨rfl, hb1⟩
       obtain ⟨y2, y3⟩ := Hc.out W1 hb1
       have HB1 := Lib.hid hb1
       clear hb1
       go_wp2_with fail
       refine (HIc2.out _).mono ?_
       rintro e W2 ⟨rfl, hb2⟩
       have HB2 := Lib.hid (HB1.out.trans (hb2.mono HB1.out.size))
       clear hb2
       obtain ⟨W3, hW3⟩ : ∃ W3, W2.drew = W3 := ⟨_, rfl⟩
       have HB3 : Hid (Below w.heap.size w W3) := Lib.hid (by rw [← hW3]; exact HB2.out.drew)
       obtain ⟨u2, u3⟩ := Hc.out W3 HB3.out
       clear x0 x1 x2 x3 y2 y3
       go_wp2_with fail
       go_region
       go_wp2
       exact bodyPost_ret (res_head10 _ n k false true _ rfl rfl rfl rfl) rfl ⟨⟨n, k, false, true, rfl, fun h => (by cases h), fun _ => ⟨hn, hk, (by have := HHd.out n k hoa.out hoc.out hn hk; simpa using this)⟩⟩, HB3.out⟩
     · unfold intR at HIa2 HIc2
       try dsimp only at HIa2 HIc2
       go_enter Tryz.func22, Tryz.ntmps22
       go_wp2_with fail
       refine (HIa2.out _).mono ?_
       rintro e W1 ⟨rfl, hb1⟩
       obtain ⟨y2, y3⟩ := Hc.out W1 hb1
       have HB1 := Lib.hid hb1
       clear hb1
       go_wp2_with fail
       refine (HIc2.out _).mono ?_
       rintro e W2 ⟨rfl, hb2⟩
       have HB2 := Lib.hid (HB1.out.trans (hb2.mono HB1.out.size))
       clear hb2
       obtain ⟨W3, hW3⟩ : ∃ W3, W2.drew = W3 := ⟨_, rfl⟩
       have HB3 : Hid (Below w.heap.size w W3) := Lib.hid (by rw [← hW3]; exact HB2.out.drew)
       obtain ⟨u2, u3⟩ := Hc.out W3 HB3.out
       clear x0 x1 x2 x3 y2 y3
       go_wp2_with fail
       go_region
       go_wp2
       exact bodyPost_ret (res_head10 _ 0 0 false false _ rfl rfl rfl rfl) rfl ⟨HdR.no (HHn.out (Or.inl hoa.out)), HB3.out⟩
     · unfold intR at HIa2 HIc2
       try dsimp only at HIa2 HIc2
       go_enter Tryz.func22, Tryz.ntmps22
       go_wp2_with fail
       refine (HIa2.out _).mono ?_
       rintro e W1 ⟨rfl, hb1⟩
       obtain ⟨y2, y3⟩ := Hc.out W1 hb1
       have HB1 := Lib.hid hb1
       clear hb1
       go_wp2_with fail
       refine (HIc2.out _).mono ?_
       rintro e W2 ⟨rfl, hb2⟩
       have HB2 := Lib.hid (HB1.out.trans (hb2.mono HB1.out.size))
       clear hb2
       obtain ⟨W3, hW3⟩ : ∃ W3, W2.drew = W3 := ⟨_, rfl⟩
       have HB3 : Hid (Below w.heap.size w W3) := Lib.hid (by rw [← hW3]; exact HB2.out.drew)
       obtain ⟨u2, u3⟩ := Hc.out W3 HB3.out
       clear x0 x1 x2 x3 y2 y3
       go_wp2_with fail
       go_region
       go_wp2
       exact bodyPost_ret (res_head10 _ n 0 false false _ rfl rfl rfl rfl) rfl ⟨HdR.no (HHn.out (Or.inr (Or.inl hoc.out))), HB3.out⟩
     · unfold intR at HIa2 HIc2
       try dsimp only at HIa2 HIc2
       go_enter Tryz.func22, Tryz.ntmps22
       go_wp2_with fail
       refine (HIa2.out _).mono ?_
       rintro e W1 ⟨rfl, hb1⟩
       obtain ⟨y2, y3⟩ := Hc.out W1 hb1
       have HB1 := Lib.hid hb1
       clear hb1
       go_wp2_with fail
       refine (HIc2.out _).mono ?_
       rintro e W2 ⟨rfl, hb2⟩
       have HB2 := Lib.hid (HB1.out.trans (hb2.mono HB1.out.size))
       clear hb2
       obtain ⟨W3, hW3⟩ : ∃ W3, W2.drew = W3 := ⟨_, rfl⟩
       have HB3 : Hid (Below w.heap.size w W3) := Lib.hid (by rw [← hW3]; exact HB2.out.drew)
       obtain ⟨u2, u3⟩ := Hc.out W3 HB3.out
       clear x0 x1 x2 x3 y2 y3
       go_wp2_with fail
       go_region
       go_wp2
       exact bodyPost_ret (res_head10 _ 0 k false false _ rfl rfl rfl rfl) rfl ⟨HdR.no (HHn.out (Or.inl hoa.out)), HB3.out⟩
     · have hn' : ¬ (0 ≤ n) := by omega
       have hn2 : decide (0 ≤ n) = false := by simpa using hn'
       unfold intR at HIa2 HIc2
       try dsimp only at HIa2 HIc2
       go_enter Tryz.func22, Tryz.ntmps22
       go_wp2_with fail
       refine (HIa2.out _).mono ?_
       rintro e W1 ⟨rfl, hb1⟩
       obtain ⟨y2, y3⟩ := Hc.out W1 hb1
       have HB1 := Lib.hid hb1
       clear hb1
       go_wp2_with fail
       refine (HIc2.out _).mono ?_
       rintro e W2 ⟨rfl, hb2⟩
       have HB2 := Lib.hid (HB1.out.trans (hb2.mono HB1.out.size))
       clear hb2
       obtain ⟨W3, hW3⟩ : ∃ W3, W2.drew = W3 := ⟨_, rfl⟩
       have HB3 : Hid (Below w.heap.size w W3) := Lib.hid (by rw [← hW3]; exact HB2.out.drew)
       obtain ⟨u2, u3⟩ := Hc.out W3 HB3.out
       clear x0 x1 x2 x3 y2 y3
       go_wp2_with fail
       go_region
       go_wp2
       exact bodyPost_ret (res_head10 _ n k false false _ rfl rfl rfl rfl) rfl ⟨HdR.no (HHn.out (Or.inr (Or.inr (Or.inl ⟨n, hoa.out, hn⟩)))), HB3.out⟩
     · have hn' : ¬ (0 ≤ k) := by omega
       have hn2 : decide (0 ≤ k) = false := by simpa using hn'
       unfold intR at HIa2 HIc2
       try dsimp only at HIa2 HIc2
       go_enter Tryz.func22, Tryz.ntmps22
       go_wp2_with fail
       refine (HIa2.out _).mono ?_
       rintro e W1 ⟨rfl, hb1⟩
       obtain ⟨y2, y3⟩ := Hc.out W1 hb1
       have HB1 := Lib.hid hb1
       clear hb1
       go_wp2_with fail
       refine (HIc2.out _).mono ?_
       rintro e W2 ⟨rfl, hb2⟩
       have HB2 := Lib.hid (HB1.out.trans (hb2.mono HB1.out.size))
       clear hb2
       obtain ⟨W3, hW3⟩ : ∃ W3, W2.drew = W3 := ⟨_, rfl⟩
       have HB3 : Hid (Below w.heap.size w W3) := Lib.hid (by rw [← hW3]; exact HB2.out.drew)
       obtain ⟨u2, u3⟩ := Hc.out W3 HB3.out
       clear x0 x1 x2 x3 y2 y3
       go_wp2_with fail
       go_region
       go_wp2
       exact bodyPost_ret (res_head10 _ n k false false _ rfl rfl rfl rfl) rfl ⟨HdR.no (HHn.out (Or.inr (Or.inr (Or.inr ⟨k, hoc.out, hk⟩)))), HB3.out⟩
   · rcases hcase with ⟨n, k, rfl, rfl, hn, hk⟩ | ⟨rfl, rfl⟩ | ⟨n, rfl, rfl⟩ | ⟨k, rfl, rfl⟩ | ⟨n, k, rfl, rfl, hn⟩ | ⟨n, k, rfl, rfl, hn, hk⟩
     · unfold intR at HIa2 HIc2
       try dsimp only at HIa2 HIc2
       go_enter Tryz.func22, Tryz.ntmps22
       go_wp2_with fail
       refine (HIa2.out _).mono ?_
       rintro e W1 ⟨rfl, hb1⟩
       obtain ⟨y2, y3⟩ := Hc.out W1 hb1
       have HB1 := Lib.hid hb1
       clear hb1
       go_wp2_with fail
       refine (HIc2.out _).mono ?_
       rintro e W2 ⟨rfl, hb2⟩
       have HB2 := Lib.hid (HB1.out.trans (hb2.mono HB1.out.size))
       clear hb2
       obtain ⟨W3, hW3⟩ : ∃ W3, W2.drew = W3 := ⟨_, rfl⟩
       have HB3 : Hid (Below w.heap.size w W3) := Lib.hid (by rw [← hW3]; exact HB2.out.drew)
       obtain ⟨u2, u3⟩ := Hc.out W3 HB3.out
       clear x0 x1 x2 x3 y2 y3
       go_wp2_with fail
       go_region
       go_wp2
       exact bodyPost_ret (res_head10 _ n k true true _ rfl rfl rfl rfl) rfl ⟨⟨n, k, true, true, rfl, fun h => (by cases h), fun _ => ⟨hn, hk, (by have := HHd.out n k hoa.out hoc.out hn hk; simpa using this)⟩⟩, HB3.out⟩
     · unfold intR at HIa2 HIc2
       try dsimp only at HIa2 HIc2
       go_enter Tryz.func22, Tryz.ntmps22
       go_wp2_with fail
       refine (HIa2.out _).mono ?_
       rintro e W1 ⟨rfl, hb1⟩
       obtain ⟨y2, y3⟩ := Hc.out W1 hb1
       have HB1 := Lib.hid hb1
       clear hb1
       go_wp2_with fail
       refine (HIc2.out _).mono ?_
       rintro e W2 ⟨rfl, hb2⟩
       have HB2 := Lib.hid (HB1.out.trans (hb2.mono HB1.out.size))
       clear hb2
       obtain ⟨W3, hW3⟩ : ∃ W3, W2.drew = W3 := ⟨_, rfl⟩
       have HB3 : Hid (Below w.heap.size w W3) := Lib.hid (by rw [← hW3]; exact HB2.out.drew)
       obtain ⟨u2, u3⟩ := Hc.out W3 HB3.out
       clear x0 x1 x2 x3 y2 y3
       go_wp2_with fail
       go_region
       go_wp2
       exact bodyPost_ret (res_head10 _ 0 0 true false _ rfl rfl rfl rfl) rfl ⟨HdR.no (HHn.out (Or.inl hoa.out)), HB3.out⟩
     · unfold intR at HIa2 HIc2
       try dsimp only at HIa2 HIc2
       go_enter Tryz.func22, Tryz.ntmps22
       go_wp2_with fail
       refine (HIa2.out _).mono ?_
       rintro e W1 ⟨rfl, hb1⟩
       obtain ⟨y2, y3⟩ := Hc.out W1 hb1
       have HB1 := Lib.hid hb1
       clear hb1
       go_wp2_with fail
       refine (HIc2.out _).mono ?_
       rintro e W2 ⟨rfl, hb2⟩
       have HB2 := Lib.hid (HB1.out.trans (hb2.mono HB1.out.size))
       clear hb2
       obtain ⟨W3, hW3⟩ : ∃ W3, W2.drew = W3 := ⟨_, rfl⟩
       have HB3 : Hid (Below w.heap.size w W3) := Lib.hid (by rw [← hW3]; exact HB2.out.drew)
       obtain ⟨u2, u3⟩ := Hc.out W3 HB3.out
       clear x0 x1 x2 x3 y2 y3
       go_wp2_with fail
       go_region
       go_wp2
       exact bodyPost_ret (res_head10 _ n 0 true false _ rfl rfl rfl rfl) rfl ⟨HdR.no (HHn.out (Or.inr (Or.inl hoc.out))), HB3.out⟩
     · unfold intR at HIa2 HIc2
       try dsimp only at HIa2 HIc2
       go_enter Tryz.func22, Tryz.ntmps22
       go_wp2_with fail
       refine (HIa2.out _).mono ?_
       rintro e W1 ⟨rfl, hb1⟩
       obtain ⟨y2, y3⟩ := Hc.out W1 hb1
       have HB1 := Lib.hid hb1
       clear hb1
       go_wp2_with fail
       refine (HIc2.out _).mono ?_
       rintro e W2 ⟨rfl, hb2⟩
       have HB2 := Lib.hid (HB1.out.trans (hb2.mono HB1.out.size))
       clear hb2
       obtain ⟨W3, hW3⟩ : ∃ W3, W2.drew = W3 := ⟨_, rfl⟩
       have HB3 : Hid (Below w.heap.size w W3) := Lib.hid (by rw [← hW3]; exact HB2.out.drew)
       obtain ⟨u2, u3⟩ := Hc.out W3 HB3.out
       clear x0 x1 x2 x3 y2 y3
       go_wp2_with fail
       go_region
       go_wp2
       exact bodyPost_ret (res_head10 _ 0 k true false _ rfl rfl rfl rfl) rfl ⟨HdR.no (HHn.out (Or.inl hoa.out)), HB3.out⟩
     · have hn' : ¬ (0 ≤ n) := by omega
       have hn2 : decide (0 ≤ n) = false := by simpa using hn'
       unfold intR at HIa2 HIc2
       try dsimp only at HIa2 HIc2
       go_enter Tryz.func22, Tryz.ntmps22
       go_wp2_with fail
       refine (HIa2.out _).mono ?_
       rintro e W1 ⟨rfl, hb1⟩
       obtain ⟨y2, y3⟩ := Hc.out W1 hb1
       have HB1 := Lib.hid hb1
       clear hb1
       go_wp2_with fail
       refine (HIc2.out _).mono ?_
       rintro e W2 ⟨rfl, hb2⟩
       have HB2 := Lib.hid (HB1.out.trans (hb2.mono HB1.out.size))
       clear hb2
       obtain ⟨W3, hW3⟩ : ∃ W3, W2.drew = W3 := ⟨_, rfl⟩
       have HB3 : Hid (Below w.heap.size w W3) := Lib.hid (by rw [← hW3]; exact HB2.out.drew)
       obtain ⟨u2, u3⟩ := Hc.out W3 HB3.out
       clear x0 x1 x2 x3 y2 y3
       go_wp2_with fail
       go_region
       go_wp2
       exact bodyPost_ret (res_head10 _ n k true false _ rfl rfl rfl rfl) rfl ⟨HdR.no (HHn.out (Or.inr (Or.inr (Or.inl ⟨n, hoa.out, hn⟩)))), HB3.out⟩
     · have hn' : ¬ (0 ≤ k) := by omega
       have hn2 : decide (0 ≤ k) = false := by simpa using hn'
       unfold intR at HIa2 HIc2
       try dsimp only at HIa2 HIc2
       go_enter Tryz.func22, Tryz.ntmps22
       go_wp2_with fail
       refine (HIa2.out _).mono ?_
       rintro e W1 ⟨rfl, hb1⟩
       obtain ⟨y2, y3⟩ := Hc.out W1 hb1
       have HB1 := Lib.hid hb1
       clear hb1
       go_wp2_with fail
       refine (HIc2.out _).mono ?_
       rintro e W2 ⟨rfl, hb2⟩
       have HB2 := Lib.hid (HB1.out.trans (hb2.mono HB1.out.size))
       clear hb2
       obtain ⟨W3, hW3⟩ : ∃ W3, W2.drew = W3 := ⟨_, rfl⟩
       have HB3 : Hid (Below w.heap.size w W3) := Lib.hid (by rw [← hW3]; exact HB2.out.drew)
       obtain ⟨u2, u3⟩ := Hc.out W3 HB3.out
       clear x0 x1 x2 x3 y2 y3
       go_wp2_with fail
       go_region
       go_wp2
       exact bodyPost_ret (res_head10 _ n k true false _ rfl rfl rfl rfl) rfl ⟨HdR.no (HHn.out (Or.inr (Or.inr (Or.inr ⟨k, hoc.out, hk⟩)))), HB3.out⟩
end

/- The laws of layer 10: Same. -/
section
set_option maxRecDepth 100000
open Go.RowKit Go.Shelf Go.Lib
set_option maxHeartbeats 4000000 in
theorem same10_any (v u : Value) (ns ms : List Nt) (z m : Bool) (k : Int) (w : World) (hv : Nv w v ns) (hu : Nv w u ms) (hlen : ns.length = ms.length) (hs : ∀ (i : Nat) (q r : Nt), ns[i]? = some q → ms[i]? = some r → SameN q.1 r.1) (hn : ns.length ≤ 1000000) (hl : ∀ q ∈ ns, q.1.a.length ≤ 1000000) :
   Calls Tryz.prog 7 #[.agg #[v, .bool z, .int .i64 k, .bool m], .agg #[u, .bool z, .int .i64 k, .bool m]] w fun e w' => e = .returned (.bool true) ∧ Below w.heap.size w w' := by
 obtain ⟨W, hW⟩ : ∃ W, (w.alloc (.cells #[v, .bool z, .int .i64 k, .bool m] 25)).alloc (.cells #[u, .bool z, .int .i64 k, .bool m] 25) = W := ⟨_, rfl⟩
 have b1 : Below w.heap.size w (w.alloc (.cells #[v, .bool z, .int .i64 k, .bool m] 25)) := (Below.refl _ w).alloc (Nat.le_refl _) _
 have b2 : Below (w.alloc (.cells #[v, .bool z, .int .i64 k, .bool m] 25)).heap.size (w.alloc (.cells #[v, .bool z, .int .i64 k, .bool m] 25)) W := by rw [← hW]; exact (Below.refl _ _).alloc (Nat.le_refl _) _
 have bw : Below w.heap.size w W := b1.trans (b2.mono b1.size)
 have cA : CB W w.heap.size #[v, .bool z, .int .i64 k, .bool m] 25 := (CB.new w _ _).later b2
 have cB : CB W (w.heap.size + 1) #[u, .bool z, .int .i64 k, .bool m] 25 := by
   have := CB.new (w.alloc (.cells #[v, .bool z, .int .i64 k, .bool m] 25)) #[u, .bool z, .int .i64 k, .bool m] 25
   rw [hW, World.size_alloc] at this
   exact this
 have HC := Lib.hid (sameNodes_any v u ns ms W (hv.later bw) (hu.later bw) hlen hs hn hl)
 obtain ⟨a, c, rfl, _⟩ := nv_cells hv
 obtain ⟨b, d, rfl, _⟩ := nv_cells hu
 obtain ⟨N, hN⟩ : ∃ N, ns.length = N := ⟨_, rfl⟩
 have hM : ms.length = N := by rw [← hlen]; exact hN
 rw [hN, hM] at HC hW
 rw [hN] at cA ⊢
 rw [hM] at cB ⊢
 obtain ⟨k0, k1, k2, k3⟩ := cA.cells4
 obtain ⟨j0, j1, j2, j3⟩ := cB.cells4
 have HB := Lib.hid bw
 have e1 : (z == z) = true := by simp
 have e2 : (m == m) = true := by simp
 have e3 : (k == k) = true := by simp
 clear hv hu hs hl b1 b2 bw cA cB hlen hN hM hn
 go_enter Tryz.func7, Tryz.ntmps7
 go_wp2_with (go_at_call 15; (try rw [hW]); clear hW; refine HC.out.mono ?_; rintro e W2 ⟨rfl, hb2⟩; have HB2 := Lib.hid (HB.out.trans (hb2.mono HB.out.size)); clear hb2)
 go_ret
 exact ⟨rfl, HB2.out⟩
end

/- The laws of layer 10: what is read again is the same: plain. -/
section
set_option maxRecDepth 100000
open Go.RowKit Go.Shelf Go.Lib
end

/- The laws of layer 10: what is handed in: large, Twin, given, back. -/
section
set_option maxRecDepth 100000
open Go.RowKit Go.Shelf Go.Lib
attribute [local go_sem] run_store_float
end

/- The laws of layer 10: given, back. -/
section
set_option maxRecDepth 100000
open Go.RowKit Go.Shelf Go.Lib
theorem res_back (W : World) (B : Nat) (a b c d : Value) (tmps : Array Value) (h : CB W B #[a, b, c, d] 25)
   (t2 : tmps[2]? = some (.pointer (some ⟨B, 0, none⟩))) : (results Tryz.f8 tmps).run Tryz.prog W = .ok (.agg #[a, b, c, d]) W := by
 have c0 := h.cell 0 (by simp)
 have c1 := h.cell 1 (by simp)
 have c2 := h.cell 2 (by simp)
 have c3 := h.cell 3 (by simp)
 simp [results, Tryz.f8, go_sem, c0, c1, c2, c3, t2]
set_option maxHeartbeats 4000000 in
theorem back10_any (a : Option Addr) (n c : Nat) (z : Bool) (k : Int) (m : Bool) (w : World) :
   Calls Tryz.prog 8 #[.agg #[.slice a n c, .bool z, .int .i64 k, .bool m]] w fun e w' => e = .returned (.agg #[.slice a n c, .bool z, .int .i64 k, .bool m]) ∧ Below w.heap.size w w' := by
 obtain ⟨W1, hW1⟩ : ∃ W1, w.alloc (.cells #[.slice a n c, .bool z, .int .i64 k, .bool m] 29) = W1 := ⟨_, rfl⟩
 have b1 : Below w.heap.size w W1 := by rw [← hW1]; exact (Below.refl _ w).alloc (Nat.le_refl _) _
 have z1 : W1.heap.size = w.heap.size + 1 := by rw [← hW1]; simp
 have c1 : CB W1 w.heap.size #[.slice a n c, .bool z, .int .i64 k, .bool m] 29 := by rw [← hW1]; exact CB.new w _ _
 obtain ⟨W2, hW2⟩ : ∃ W2, W1.alloc (.cells fz4 25) = W2 := ⟨_, rfl⟩
 have b2 : Below W1.heap.size W1 W2 := by rw [← hW2]; exact (Below.refl _ W1).alloc (Nat.le_refl _) _
 have c2 : CB W2 (w.heap.size + 1) fz4 25 := by rw [← hW2, ← z1]; exact CB.new W1 _ _
 have d2 := c1.later b2
 obtain ⟨k0, k1, k2, k3⟩ := d2.cells4
 obtain ⟨j0, j1, j2, j3⟩ := c2.cells4
 have f0 := c2.frozen 0
 have f1 := c2.frozen 1
 have f2 := c2.frozen 2
 have f3 := c2.frozen 3
 have H2 := Lib.hid (And.intro c2 (b1.trans (b2.mono b1.size)))
 clear b1 b2 c1 c2 d2
 go_enter Tryz.func8, Tryz.ntmps8
 go_wp2
 refine bodyPost_ret (res_back _ (w.heap.size + 1) _ _ _ _ _ (set4 H2.out.1 _ _ _ _) rfl) rfl ?_
 exact ⟨rfl, (((H2.out.2.setCell (Nat.le_succ _) _).setCell (Nat.le_succ _) _).setCell (Nat.le_succ _) _).setCell (Nat.le_succ _) _⟩
end

/- The first example of chapter 10: awake. -/
section
set_option maxRecDepth 100000
open Go.RowKit Go.Shelf Go.Lib
theorem readA {p : Pm} (hp : p.Ok) (w : World) (hT : Tab w) (hE : Ety w) : Calls Tryz.prog 6 #[.string ⟨exA.toArray⟩] w fun e w' => ∃ a c ns, e = .returned (.tuple #[.agg #[.slice a 2 c, .bool false, .int .i64 1, .bool true], .int .i64 0, .int .i64 0]) ∧ Nr w' w.heap.size (.slice a 2 c) ns ∧ ndsO' ns = fd1.ns ∧ ns.length = 2 ∧ Below w.heap.size w w' := by
 refine (readN_any hp ⟨exA.toArray⟩ exA w (by simp) (by decide) hT hE).mono ?_
 rintro e w' ⟨hb, a, c, ns, z, k, m, rfl, hF⟩
 rw [exA_rf hp] at hF ⊢
 obtain ⟨h1, h2, h3, h4⟩ := hF
 have e1 : ndsO ns = fd1.ns := (congrArg Fd.ns h2).symm
 have e2 : z = false := (congrArg Fd.z h2).symm
 have e3 : ((k : Nat) : Int) = 1 := (congrArg Fd.k h2).symm
 have e4 : m = true := (congrArg Fd.m h2).symm
 have e5 : ns.length = 2 := by have := congrArg List.length e1; simpa [ndsO] using this
 rw [e5] at h1
 exact ⟨a, c, ns, by rw [e2, e4, e5, e3]; rfl, h1, e1, e5, hb⟩
theorem readB {p : Pm} (hp : p.Ok) (w : World) (hT : Tab w) (hE : Ety w) : Calls Tryz.prog 6 #[.string ⟨exB.toArray⟩] w fun e w' => ∃ a c, e = .returned (.tuple #[.agg #[.slice a 1 c, .bool true, .int .i64 0, .bool false], .int .i64 0, .int .i64 0]) ∧ Below w.heap.size w w' := by
 refine (readN_any hp ⟨exB.toArray⟩ exB w (by simp) (by decide) hT hE).mono ?_
 rintro e w' ⟨hb, a, c, ns, z, k, m, rfl, hF⟩
 rw [exB_rf hp] at hF ⊢
 obtain ⟨h1, h2, h3, h4⟩ := hF
 have e1 : ndsO ns = fd2.ns := (congrArg Fd.ns h2).symm
 have e2 : z = true := (congrArg Fd.z h2).symm
 have e3 : ((k : Nat) : Int) = 0 := (congrArg Fd.k h2).symm
 have e4 : m = false := (congrArg Fd.m h2).symm
 have e5 : ns.length = 1 := by have := congrArg List.length e1; simpa [ndsO] using this
 exact ⟨a, c, by rw [e2, e4, e5, e3]; rfl, hb⟩
def T10 (w : World) : Prop := T8 w ∧ Ety w
theorem T10.later {w w' : World} (h : T10 w) (hb : Below w.heap.size w w') : T10 w' := ⟨h.1.later hb, h.2.later hb⟩
set_option maxHeartbeats 8000000 in
theorem awake10 (w : World) (hT : T10 w) : Calls Tryz.prog 4 #[] w fun e w' => e = .returned (.bool true) ∧ Below w.heap.size w w' := by
 obtain ⟨p, hp⟩ := pm_ex
 have HP := Lib.hid hp
 have HT := Lib.hid hT
 have HA := Lib.hid (readA hp w hT.1.1 hT.2)
 clear hp hT
 go_enter Tryz.func4, Tryz.ntmps4
 go_wp2_with fail
 refine HA.out.mono ?_
 rintro e W1 ⟨a, c, ns, rfl, hN, hns, hlen, hb1⟩
 have hnv := hN.nv
 obtain ⟨⟨a', c', e', _, _, hm⟩, _⟩ := hnv
 rw [hlen] at e'
 cases e'
 obtain ⟨g, off, rfl, hg, hcell⟩ := hm.resolve_left (fun e => by rw [e] at hlen; simp at hlen)
 obtain ⟨n0, n1, hns2⟩ : ∃ n0 n1, ns = [n0, n1] := by
   rcases ns with _ | ⟨n0, _ | ⟨n1, _ | ⟨n2, r⟩⟩⟩ <;> simp at hlen
   exact ⟨n0, n1, rfl⟩
 subst hns2
 have d0 : n0.1 = ⟨0, 0, [4619567317775286272], 5⟩ := by have := congrArg (fun l => l[0]?) hns; simpa [ndsO'] using this
 have d1 : n1.1 = ⟨4602678819172646912, 4607182418800017408, [4620693217682128896], 0⟩ := by have := congrArg (fun l => l[1]?) hns; simpa [ndsO'] using this
 have x0 := (hcell 0 n0 rfl).2.2.2
 have x1 := (hcell 1 n1 rfl).1
 have x2 := (hcell 1 n1 rfl).2.1
 rw [d0] at x0
 rw [d1] at x1 x2
 obtain ⟨W2, hW2⟩ : ∃ W2, Hid (W1.alloc (.cells #[.slice (some ⟨g, off, none⟩) 2 c, .bool false, .int .i64 1, .bool true] 29) = W2) := ⟨_, Lib.hid rfl⟩
 have hb2 : Below W1.heap.size W1 W2 := by rw [← hW2.out]; exact (Below.refl _ _).alloc (Nat.le_refl _) _
 have hb02 : Below w.heap.size w W2 := hb1.trans (hb2.mono hb1.size)
 have cf : CB W2 W1.heap.size #[.slice (some ⟨g, off, none⟩) 2 c, .bool false, .int .i64 1, .bool true] 29 := by rw [← hW2.out]; exact CB.new _ _ _
 have HWr : Hid (Calls Tryz.prog 14 #[.agg #[.slice (some ⟨g, off, none⟩) 2 c, .bool false, .int .i64 1, .bool true]] W2 fun e w' => e = .returned (.tuple #[.string ⟨exA.toArray⟩, .int .i64 0]) ∧ Below W2.heap.size W2 w') := Lib.hid (by
   have hnv2 := (hN.later hb2).nv
   have := writeN_any HP.out _ [n0, n1] false 1 true W2 hnv2 (by simp) (HT.out.1.later hb02)
   rw [hns, exA_wr HP.out] at this
   exact this)
 have HX : Hid (∀ W, Below W2.heap.size W2 W → (W.cell? ⟨g, off + 3, none⟩ = some (.int .i64 5) ∧ W.cell? ⟨g, off + 4, none⟩ = some (.float .f64 4602678819172646912) ∧ W.cell? ⟨g, off + 4 + 1, none⟩ = some (.float .f64 4607182418800017408)) ∧ CB W W1.heap.size #[.slice (some ⟨g, off, none⟩) 2 c, .bool false, .int .i64 1, .bool true] 29 ∧ Below w.heap.size w W) := Lib.hid (fun W hW => by
   have h1 := hb2.trans (hW.mono hb2.size)
   refine ⟨⟨?_, ?_, ?_⟩, cf.later hW, hb02.trans (hW.mono hb02.size)⟩
   · have := cell_later h1 hg x0; simpa using this
   · have := cell_later h1 hg x1; simpa using this
   · have := cell_later h1 hg x2; simpa using this)
 have H02 := Lib.hid hb02
 clear hN hns hlen hb1 hm hcell d0 d1 x0 x1 x2 hb2 hb02 cf HA
 rw [← hW2.out] at HWr HX H02
 go_wp2_with fail
 refine HWr.out.mono ?_
 rintro e W3 ⟨rfl, hb3⟩
 rw [hW2.out] at HX H02 hb3
 have HB := Lib.hid (readB HP.out W3 (HT.out.1.1.later (H02.out.trans (hb3.mono H02.out.size))) (HT.out.2.later (H02.out.trans (hb3.mono H02.out.size))))
 have HB3 := Lib.hid hb3
 clear hb3 HWr
 go_wp2_with fail
 refine HB.out.mono ?_
 rintro e W4 ⟨a4, c4, rfl, hb4⟩
 obtain ⟨W5, hW5⟩ : ∃ W5, Hid (W4.alloc (.cells #[.slice a4 1 c4, .bool true, .int .i64 0, .bool false] 29) = W5) := ⟨_, Lib.hid rfl⟩
 have hb5 : Below W4.heap.size W4 W5 := by rw [← hW5.out]; exact (Below.refl _ _).alloc (Nat.le_refl _) _
 have c5 : CB W5 W4.heap.size #[.slice a4 1 c4, .bool true, .int .i64 0, .bool false] 29 := by rw [← hW5.out]; exact CB.new _ _ _
 obtain ⟨⟨y0, y1, y2⟩, cf, hbw⟩ := HX.out W5 ((HB3.out.trans (hb4.mono HB3.out.size)).trans (hb5.mono (Nat.le_trans HB3.out.size hb4.size)))
 rw [← hW5.out] at y0 y1 y2 cf hbw c5
 obtain ⟨k0, k1, k2, k3⟩ := cf.cells4
 obtain ⟨j0, j1, j2, j3⟩ := c5.cells4
 have HBw := Lib.hid hbw
 clear hb4 hb5 c5 cf hbw HX HB HB3 H02 HP HT
 have q1 : ∀ w, (binOp .eql 50 (.agg #[.float .f64 4602678819172646912, .float .f64 4607182418800017408]) (.agg #[.float .f64 4602678819172646912, .float .f64 4607182418800017408])).run Tryz.prog w = .ok (.bool true) w := fun w => by kernel_rfl
 go_wp2
 go_ret
 exact ⟨rfl, HBw.out⟩
end

/- The law NodefileBack. -/
section
set_option maxRecDepth 100000
open Go.RowKit Go.Shelf Go.Lib
end
end Go.Proofs.YtkbhmglmbolbiaaGreatDoor
