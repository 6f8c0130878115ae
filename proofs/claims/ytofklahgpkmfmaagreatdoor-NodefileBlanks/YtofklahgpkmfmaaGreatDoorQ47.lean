/- Own texts, put together: Qna Qw Qy Qze Qba Qwa Qzf. -/
import Derived.Test.YtofklahgpkmfmaaGreatDoorQ32
import Derived.Test.YtofklahgpkmfmaaGreatDoorQ33
import Derived.Test.YtofklahgpkmfmaaGreatDoorQ43
import Derived.Test.YtofklahgpkmfmaaGreatDoorQ44
import Derived.Test.YtofklahgpkmfmaaGreatDoorQ45
import Derived.Test.YtofklahgpkmfmaaGreatDoorQ46
namespace Go.Proofs.YtofklahgpkmfmaaGreatDoor
/- Package nodefile: Read. -/
section
set_option maxRecDepth 100000
open Go.RowKit Go.Shelf Go.Lib
theorem rdV_short {t : Bs} {q : Nat × List Bs} (hq : q ∈ (rdV t).1) : (∀ x ∈ q.2, x.length ≤ 400) := by
 have h0 := (rdV_word hq).2.2.1
 have hlen : t.length ≤ 16777216 := by
   rcases Nat.lt_or_ge 16777216 t.length with h | h
   · rw [rdV_long h] at hq; simp at hq
   · exact h
 have key : bad 1 (lns t) = none := by
   cases hb : bad 1 (lns t) with
   | none => rfl
   | some p => obtain ⟨n, e⟩ := p; rw [rdV_bad hlen hb] at hq; simp at hq
 rw [rdV_good hlen key] at hq
 intro x hx
 have := ((good_fits (lns t) 1 key).1 q hq).1
 have hm := (ok_may this).2 x hx
 unfold mayW at hm
 rw [Bool.and_eq_true, Bool.and_eq_true] at hm
 simpa using hm.1.2
theorem good_no : ∀ (ls : List Bs) (n : Nat), ∀ q ∈ good n ls, q.1 ≤ n + ls.length := by
 intro ls
 induction ls with
 | nil => intro n q hq; simp [good] at hq
 | cons l r ih =>
   intro n q hq
   rw [good] at hq
   rcases List.mem_append.1 hq with e | e
   · split at e
     · simp at e
     · rw [List.mem_singleton.1 e]; simp
   · have := ih (n + 1) q e
     rw [List.length_cons]; omega
theorem rdV_no {t : Bs} {q : Nat × List Bs} (hq : q ∈ (rdV t).1) : q.1 ≤ 16777218 := by
 have hlen : t.length ≤ 16777216 := by
   rcases Nat.lt_or_ge 16777216 t.length with h | h
   · rw [rdV_long h] at hq; simp at hq
   · exact h
 unfold rdV at hq
 rw [if_neg (by omega)] at hq
 split at hq
 · simp at hq
 · have := good_no _ _ q hq
   have h2 := lns_len t
   omega
theorem rdV_count (t : Bs) : (rdV t).1.length ≤ 16777217 := by
 unfold rdV
 split
 · simp
 · split
   · simp
   · have := good_len (lns t) 1
     have h2 := lns_len t
     simp only []
     omega
def ReadNR (p : Pm) (w w' : World) (t : Bs) (v : Ending) : Prop :=
 Below w.heap.size w w' ∧ ∃ a c ns z k m, v = .returned (.tuple #[.agg #[.slice a ns.length c, .bool z, .int .i64 (k : Nat), .bool m], .int .i64 ((rfV p t).2.1 : Nat), .int .i64 (rfV p t).2.2]) ∧ FileR w w' a c ns z k m (rfV p t).1
theorem res_readN (W : World) (B : Nat) (a b c d : Value) (n1 n2 : Int) (tmps : Array Value) (h : CB W B #[a, b, c, d] 29)
   (t2 : tmps[2]? = some (.pointer (some ⟨B, 0, none⟩))) (t3 : tmps[3]? = some (.int .i64 n1)) (t4 : tmps[4]? = some (.int .i64 n2)) : (results Tryz.f10 tmps).run Tryz.prog W = .ok (.tuple #[.agg #[a, b, c, d], .int .i64 n1, .int .i64 n2]) W := by
 have c0 := h.cell 0 (by simp)
 have c1 := h.cell 1 (by simp)
 have c2 := h.cell 2 (by simp)
 have c3 := h.cell 3 (by simp)
 simp [results, Tryz.f10, go_sem, c0, c1, c2, c3, t2, t3, t4]
set_option maxHeartbeats 8000000 in
theorem readN_any {p : Pm} (hp : p.Ok) (s : ByteArray) (t : Bs) (w : World) (ht : s.data.toList = t) (hl : t.length ≤ 9223372036854775807) (hT : Tab w) (hE : Ety w) :
   Calls Tryz.prog 10 #[.string s] w fun e w' => ReadNR p w w' t e := by
 obtain ⟨W0, hW0⟩ : ∃ W0, w.alloc (.cells fz4 29) = W0 := ⟨_, rfl⟩
 have b0 : Below w.heap.size w W0 := by rw [← hW0]; exact (Below.refl _ w).alloc (Nat.le_refl _) _
 have c0 : CB W0 w.heap.size fz4 29 := by rw [← hW0]; exact CB.new w _ _
 have HP := Lib.hid hp
 have HR := Lib.hid (readS s t W0 ht hl)
 have H0 : Hid (Below w.heap.size w W0 ∧ CB W0 w.heap.size fz4 29 ∧ Ety W0 ∧ Tab W0 ∧ w.heap.size + 1 = W0.heap.size) := Lib.hid ⟨b0, c0, hE.later b0, hT.later b0, by rw [← hW0]; simp⟩
 clear hp ht hl hT hE b0 c0
 go_enter Tryz.func10, Tryz.ntmps10
 go_wp2_with fail
 try rw [hW0]
 clear hW0
 refine HR.out.mono ?_
 rintro e W1 ⟨a1, c1, ps, rfl, hLr, htell, hlen, hb1⟩
 have HW1 : Hid (CB W1 w.heap.size fz4 29 ∧ Below w.heap.size w W1 ∧ Ety W1 ∧ Tab W1 ∧ w.heap.size < W1.heap.size) := Lib.hid ⟨H0.out.2.1.later hb1, H0.out.1.trans (hb1.mono H0.out.1.size), H0.out.2.2.1.later hb1, H0.out.2.2.2.1.later hb1, by have := hb1.size; have := H0.out.2.2.2.2; omega⟩
 obtain ⟨er, her⟩ : ∃ er : Nat, Hid ((rdV t).2.2 = er) := ⟨_, Lib.hid rfl⟩
 obtain ⟨al, hal⟩ : ∃ al : Nat, Hid ((rdV t).2.1 = al) := ⟨_, Lib.hid rfl⟩
 obtain ⟨nl, hnl⟩ : ∃ nl : Nat, Hid ((rdV t).1.length = nl) := ⟨_, Lib.hid rfl⟩
 rw [her.out, hal.out, hnl.out]
 rw [hnl.out] at hLr hlen
 have HLr := Lib.hid hLr
 have HTl := Lib.hid htell
 have HLe := Lib.hid hlen
 have hnl' : nl ≤ 16777217 := by rw [← hnl.out]; exact rdV_count t
 have hnl2 : (nl : Int) ≤ 16777217 := by omega
 have hW0s : Hid (w.heap.size < W0.heap.size) := Lib.hid (by have := H0.out.2.2.2.2; omega)
 clear hLr htell hlen hb1 H0 HR
 by_cases h0 : er = 0
 · subst h0
   have hlw : Lw W1 (.slice a1 nl c1) ps := by
     have := HLr.out.lw (fun q hq x hx => by
       have hm : (q.1, q.2.1) ∈ (rdV t).1 := by rw [← HTl.out]; exact List.mem_map.2 ⟨q, hq, rfl⟩
       have := rdV_short hm x hx
       omega)
     exact this
   have HTk : Hid (Calls Tryz.prog 16 #[.slice a1 nl c1] W1 fun e w' => TakeR p W1 w' (tell ps) e) := Lib.hid (take_any HP.out _ ps W1 hlw (fun q hq x hx => by
       have hm : (q.1, q.2.1) ∈ (rdV t).1 := by rw [← HTl.out]; exact List.mem_map.2 ⟨q, hq, rfl⟩
       have := rdV_short hm x hx
       omega) (by rw [HLe.out]; omega) (fun q hq => by
       have hm : (q.1, q.2.1) ∈ (rdV t).1 := by rw [← HTl.out]; exact List.mem_map.2 ⟨q, hq, rfl⟩
       have : q.1 ≤ 16777218 := rdV_no hm
       omega) HW1.out.2.2.2.1 HW1.out.2.2.1)
   have HLw := Lib.hid hlw
   clear hlw
   obtain ⟨q, hq⟩ : ∃ q, Hid (tkV p (tell ps) = q) := ⟨_, Lib.hid rfl⟩
   unfold TakeR at HTk
   rw [hq.out] at HTk
   have HRf : Hid (rfV p t = if q.2.2.2 = 0 then (if q.2.1 < nl then ((⟨[], false, 0, false⟩ : Fd), ((rdV t).1.getD q.2.1 (0, [])).1, (4 : Int)) else (q.1, 0, 0)) else (⟨[], false, 0, false⟩, q.2.2.1, q.2.2.2)) := Lib.hid (by
     unfold rfV
     rw [if_pos her.out]
     simp only []
     rw [← HTl.out, hq.out, HTl.out, hnl.out])
   obtain ⟨f, n1, at', ex⟩ := q
   try dsimp only at HRf
   go_wp2_with fail
   refine HTk.out.mono ?_
   rintro e W2 ⟨hb2, a, c, ns, z, k, m, rfl, hF⟩
   have c2 : CB W2 w.heap.size fz4 29 := HW1.out.1.later hb2
   have bw2 : Below w.heap.size w W2 := HW1.out.2.1.trans (hb2.mono HW1.out.2.1.size)
   have HN1 : Hid (n1 ≤ 1048577 ∨ True) := Lib.hid (Or.inr trivial)
   obtain ⟨W3, hW3⟩ : ∃ W3, Hid (W2.alloc (.cells #[.slice a ns.length c, .bool z, .int .i64 (k : Nat), .bool m] 29) = W3) := ⟨_, Lib.hid rfl⟩
   have b3 : Below W2.heap.size W2 W3 := by rw [← hW3.out]; exact (Below.refl _ W2).alloc (Nat.le_refl _) _
   have HC : Hid (CB W3 w.heap.size fz4 29 ∧ Below w.heap.size w W3 ∧ CB W3 W2.heap.size #[.slice a ns.length c, .bool z, .int .i64 (k : Nat), .bool m] 29 ∧ FileR W1 W3 a c ns z k m f ∧ w.heap.size < W1.heap.size ∧ w.heap.size < W2.heap.size) := Lib.hid ⟨c2.later b3, bw2.trans (b3.mono bw2.size), by rw [← hW3.out]; exact CB.new W2 _ _, ⟨hF.row.later b3, hF.is, hF.k16, hF.len⟩, HW1.out.2.2.2.2, Nat.lt_of_lt_of_le HW1.out.2.2.2.2 hb2.size⟩
   have HLw3 := Lib.hid ((HLw.out.later hb2).later b3)
   clear c2 bw2 b3 hb2 hF HTk HW1 HLw
   try dsimp only at hq
   rw [← hW3.out] at HC HLw3
   clear hW3 HN1
   by_cases hx0 : ex = 0
   · subst hx0
     by_cases hlt : n1 < nl
     · have hlt' : (n1 : Int) < (nl : Int) := by omega
       have hn0 : (0 : Int) ≤ (n1 : Int) := by omega
       obtain ⟨q, hqq⟩ : ∃ q, ps[n1]? = some q := ⟨_, List.getElem?_eq_getElem (by rw [HLe.out]; exact hlt)⟩
       have HRf2 : Hid (rfV p t = ((⟨[], false, 0, false⟩ : Fd), q.1, (4 : Int))) := Lib.hid (by
         rw [HRf.out, if_pos rfl, if_pos hlt, ← HTl.out, List.getD_eq_getElem?_getD]
         unfold tell
         rw [List.getElem?_map, hqq]; rfl)
       obtain ⟨⟨a2, c2, e2, _, _, hm⟩, _⟩ := HLw3.out
       obtain ⟨g, off, hga, hg, hcell⟩ := hm.resolve_left (fun e => by rw [e] at hqq; simp at hqq)
       cases e2
       subst hga
       obtain ⟨W, hW⟩ : ∃ W, (W2.alloc (.cells #[.slice a ns.length c, .bool z, .int .i64 (k : Nat), .bool m] 29)).drew = W := ⟨_, rfl⟩
       have kno : W.cell? ⟨g, off + n1 * 2, none⟩ = some (.int .i64 (q.1 : Nat)) := by rw [← hW]; exact (hcell n1 q hqq).1
       have HR0 : Hid (CB W w.heap.size fz4 29 ∧ Below w.heap.size w W) := Lib.hid (by rw [← hW]; exact ⟨HC.out.1, HC.out.2.1.drew⟩)
       obtain ⟨k20, k21, k22, k23⟩ := HR0.out.1.cells4
       have f20 := HR0.out.1.frozen 0
       have f21 := HR0.out.1.frozen 1
       have f22 := HR0.out.1.frozen 2
       have f23 := HR0.out.1.frozen 3
       have hgw : g ≠ w.heap.size := by
         have h1 := (World.ownsRow.lt HLr.out.own g rfl).1
         have h2 := hW0s.out
         omega
       have hgw2 : w.heap.size ≠ g := fun e => hgw e.symm
       clear hcell hm hqq HLw3 HC
       go_wp2_with fail
       go_region
       all_goals
         go_wp2
         refine bodyPost_ret (res_readN _ w.heap.size _ _ _ _ _ _ _ (set4 HR0.out.1 _ _ _ _) rfl rfl rfl) rfl ?_
         refine ⟨(((HR0.out.2.setCell (Nat.le_refl _) _).setCell (Nat.le_refl _) _).setCell (Nat.le_refl _) _).setCell (Nat.le_refl _) _, none, 0, [], false, 0, false, by rw [HRf2.out]; rfl, ⟨Nr.nil (World.ownsRow_nil _ _ _ _), by rw [HRf2.out]; rfl, by omega, by simp⟩⟩
     · have hlt' : ¬ ((n1 : Int) < (nl : Int)) := by omega
       have HRf2 : Hid (rfV p t = (f, 0, (0 : Int))) := Lib.hid (by rw [HRf.out, if_pos rfl, if_neg hlt])
       obtain ⟨k40, k41, k42, k43⟩ := HC.out.2.2.1.cells4
       obtain ⟨k20, k21, k22, k23⟩ := HC.out.1.cells4
       have f20 := HC.out.1.frozen 0
       have f21 := HC.out.1.frozen 1
       have f22 := HC.out.1.frozen 2
       have f23 := HC.out.1.frozen 3
       go_wp2
       refine bodyPost_ret (res_readN _ w.heap.size _ _ _ _ _ _ _ (set4 HC.out.1 _ _ _ _) rfl rfl rfl) rfl ?_
       refine ⟨(((HC.out.2.1.setCell (Nat.le_refl _) _).setCell (Nat.le_refl _) _).setCell (Nat.le_refl _) _).setCell (Nat.le_refl _) _, a, c, ns, z, k, m, by rw [HRf2.out]; rfl, ⟨(HC.out.2.2.2.1.row.ob (ob_set4 _ _ _ _ _ _) HC.out.2.2.2.2.1).base (by have := HC.out.2.2.2.2.1; omega), by rw [HRf2.out]; exact HC.out.2.2.2.1.is, HC.out.2.2.2.1.k16, HC.out.2.2.2.1.len⟩⟩
   · have hx' : (ex == 0) = false := by simpa using hx0
     have HRf2 : Hid (rfV p t = ((⟨[], false, 0, false⟩ : Fd), at', ex)) := Lib.hid (by rw [HRf.out, if_neg hx0])
     obtain ⟨k20, k21, k22, k23⟩ := HC.out.1.cells4
     have f20 := HC.out.1.frozen 0
     have f21 := HC.out.1.frozen 1
     have f22 := HC.out.1.frozen 2
     have f23 := HC.out.1.frozen 3
     go_wp2
     refine bodyPost_ret (res_readN _ w.heap.size _ _ _ _ _ _ _ (set4 HC.out.1 _ _ _ _) rfl rfl rfl) rfl ?_
     refine ⟨(((HC.out.2.1.setCell (Nat.le_refl _) _).setCell (Nat.le_refl _) _).setCell (Nat.le_refl _) _).setCell (Nat.le_refl _) _, none, 0, [], false, 0, false, by rw [HRf2.out]; rfl, ⟨Nr.nil (World.ownsRow_nil _ _ _ _), by rw [HRf2.out]; rfl, by omega, by simp⟩⟩
 · have h0' : ((er : Int) == 0) = false := by rw [beq_eq_false_iff_ne]; omega
   have h0n : ¬ ((er : Int) = 0) := by omega
   have HRf : Hid (rfV p t = ((⟨[], false, 0, false⟩ : Fd), al, (er : Int))) := Lib.hid (by
     unfold rfV
     rw [if_neg (by rw [her.out]; exact h0), her.out, hal.out])
   obtain ⟨k20, k21, k22, k23⟩ := HW1.out.1.cells4
   have f20 := HW1.out.1.frozen 0
   have f21 := HW1.out.1.frozen 1
   have f22 := HW1.out.1.frozen 2
   have f23 := HW1.out.1.frozen 3
   go_wp2
   refine bodyPost_ret (res_readN _ w.heap.size _ _ _ _ _ _ _ (set4 HW1.out.1 _ _ _ _) rfl rfl rfl) rfl ?_
   refine ⟨(((HW1.out.2.1.setCell (Nat.le_refl _) _).setCell (Nat.le_refl _) _).setCell (Nat.le_refl _) _).setCell (Nat.le_refl _) _, none, 0, [], false, 0, false, by rw [HRf.out]; rfl, ⟨Nr.nil (World.ownsRow_nil _ _ _ _), by rw [HRf.out]; rfl, by omega, by simp⟩⟩
end

/- The first example of chapter 10: plain. -/
section
set_option maxRecDepth 100000
open Go.RowKit Go.Shelf Go.Lib
theorem rf_of {p : Pm} (hp : p.Ok) {l : Bs} {n e : Int} {v : Nat} (ht : rdTell l = some (n, e)) (fv : Fin64 v) (lv : v < 18446744073709551616) (hv : fval v = (n : Rat) * p2 e) (h0 : n = 0 → v = 0) : p.rf l = (v, 0) := by
 have := FloatR.ok (hp.rf l) ht fv lv hv h0
 exact Prod.ext this.1 this.2
theorem pt_yes {p : Pm} (hp : p.Ok) {x y : Nat} (h : Pt x y) : p.pt x y = true := (hp.pt x y).2 h
theorem rf_0 {p : Pm} (hp : p.Ok) : p.rf [48] = (0, 0) := rf_of hp (n := 0) (e := 0) (by decide +kernel) (by unfold Fin64 frung; decide) (by decide) (by decide +kernel) (by decide)
theorem rf_1 {p : Pm} (hp : p.Ok) : p.rf [49] = (4607182418800017408, 0) := rf_of hp (n := 1) (e := 0) (by decide +kernel) (by unfold Fin64 frung; decide) (by decide) (by decide +kernel) (by decide)
theorem rf_7 {p : Pm} (hp : p.Ok) : p.rf [55] = (4619567317775286272, 0) := rf_of hp (n := 7) (e := 0) (by decide +kernel) (by unfold Fin64 frung; decide) (by decide) (by decide +kernel) (by decide)
theorem rf_8 {p : Pm} (hp : p.Ok) : p.rf [56] = (4620693217682128896, 0) := rf_of hp (n := 8) (e := 0) (by decide +kernel) (by unfold Fin64 frung; decide) (by decide) (by decide +kernel) (by decide)
theorem rf_3 {p : Pm} (hp : p.Ok) : p.rf [51] = (4613937818241073152, 0) := rf_of hp (n := 3) (e := 0) (by decide +kernel) (by unfold Fin64 frung; decide) (by decide) (by decide +kernel) (by decide)
theorem rf_4 {p : Pm} (hp : p.Ok) : p.rf [52] = (4616189618054758400, 0) := rf_of hp (n := 4) (e := 0) (by decide +kernel) (by unfold Fin64 frung; decide) (by decide) (by decide +kernel) (by decide)
theorem rf_1bm1 {p : Pm} (hp : p.Ok) : p.rf [49, 98, 45, 49] = (4602678819172646912, 0) := rf_of hp (n := 1) (e := -1) (by decide +kernel) (by unfold Fin64 frung; decide) (by decide) (by decide +kernel) (by decide)
theorem it_0 : itoa (0) = [48] := (itoa_rd (l := [48]) (n := 0) (by decide +kernel)).2
theorem it_1 : itoa (1) = [49] := (itoa_rd (l := [49]) (n := 1) (by decide +kernel)).2
theorem it_2 : itoa (2) = [50] := (itoa_rd (l := [50]) (n := 2) (by decide +kernel)).2
theorem it_5 : itoa (5) = [53] := (itoa_rd (l := [53]) (n := 5) (by decide +kernel)).2
theorem it_7 : itoa (7) = [55] := (itoa_rd (l := [55]) (n := 7) (by decide +kernel)).2
theorem it_8 : itoa (8) = [56] := (itoa_rd (l := [56]) (n := 8) (by decide +kernel)).2
theorem it_m1 : itoa (-1) = [45, 49] := (itoa_rd (l := [45, 49]) (n := -1) (by decide +kernel)).2
theorem tx_0 {p : Pm} (hp : p.Ok) : p.tx 0 = [48] := by
 rw [(hp.tx 0 (by decide)).whole (by unfold Fin64 frung; decide) (k := 0) (by decide +kernel) (by decide) (by decide), it_0]
theorem tx_1 {p : Pm} (hp : p.Ok) : p.tx 4607182418800017408 = [49] := by
 rw [(hp.tx 4607182418800017408 (by decide)).whole (by unfold Fin64 frung; decide) (k := 1) (by decide +kernel) (by decide) (by decide), it_1]
theorem tx_7 {p : Pm} (hp : p.Ok) : p.tx 4619567317775286272 = [55] := by
 rw [(hp.tx 4619567317775286272 (by decide)).whole (by unfold Fin64 frung; decide) (k := 7) (by decide +kernel) (by decide) (by decide), it_7]
theorem tx_8 {p : Pm} (hp : p.Ok) : p.tx 4620693217682128896 = [56] := by
 rw [(hp.tx 4620693217682128896 (by decide)).whole (by unfold Fin64 frung; decide) (k := 8) (by decide +kernel) (by decide) (by decide), it_8]
theorem nw_half {x : Nat} (hv : fval x = ((1 : Int) : Rat) * p2 (-1)) : ¬ ∃ k : Int, fval x = (k : Rat) ∧ -9007199254740992 < k ∧ k < 9007199254740992 := by
 rintro ⟨k, e, _, _⟩
 rw [hv] at e
 have e2 : ((1 : Int) : Rat) * p2 (-1) = ((2 * k : Int) : Rat) * p2 (-1) := by
   rw [e, Rat.intCast_mul, Rat.mul_comm ((2 : Int) : Rat), Rat.mul_assoc]
   have : ((2 : Int) : Rat) * p2 (-1) = 1 := by decide +kernel
   rw [this, Rat.mul_one]
 have := int_eq (p2_pos _) e2
 omega
theorem tx_half {p : Pm} (hp : p.Ok) : p.tx 4602678819172646912 = [49, 98, 45, 49] := by
 have hv : fval 4602678819172646912 = ((1 : Int) : Rat) * p2 (-1) := by decide +kernel
 rw [(hp.tx 4602678819172646912 (by decide)).odd (by unfold Fin64 frung; decide) (n := 1) (e := -1) (by decide) hv (nw_half hv), it_1, it_m1]
 rfl
abbrev exA : Bs := [50, 32, 50, 32, 49, 32, 49, 10, 49, 32, 48, 32, 48, 32, 55, 32, 53, 10, 50, 32, 49, 98, 45, 49, 32, 49, 32, 56, 32, 48, 10]
abbrev exB : Bs := [49, 32, 50, 32, 48, 32, 48, 10, 48, 32, 51, 32, 52, 10]
theorem exA_rd : rdV exA = ([(1, [[50], [50], [49], [49]]), (2, [[49], [48], [48], [55], [53]]), (3, [[50], [49, 98, 45, 49], [49], [56], [48]])], 0, 0) := by decide +kernel
theorem exB_rd : rdV exB = ([(1, [[49], [50], [48], [48]]), (2, [[48], [51], [52]])], 0, 0) := by decide +kernel
abbrev fd1 : Fd := ⟨[⟨0, 0, [4619567317775286272], 5⟩, ⟨4602678819172646912, 4607182418800017408, [4620693217682128896], 0⟩], false, 1, true⟩
abbrev fd2 : Fd := ⟨[⟨4613937818241073152, 4616189618054758400, [], 0⟩], true, 0, false⟩
theorem ri_0 : rdInt [48] = some 0 := by decide +kernel
theorem ri_1 : rdInt [49] = some 1 := by decide +kernel
theorem ri_2 : rdInt [50] = some 2 := by decide +kernel
theorem ri_5 : rdInt [53] = some 5 := by decide +kernel
theorem exA_go {p : Pm} (hp : p.Ok) : goN p 1 true 0 false [(2, [[49], [48], [48], [55], [53]]), (3, [[50], [49, 98, 45, 49], [49], [56], [48]])] = .inr (fd1.ns, false) := by
 have q1 : p.pt 0 0 = true := pt_yes hp (by decide +kernel)
 have q2 : p.pt 4602678819172646912 4607182418800017408 = true := pt_yes hp (by decide +kernel)
 have n1 : ndE p 1 true (mayN 0 false) [[49], [48], [48], [55], [53]] = 0 := by
   simp [ndE, wid, intE, mayN, fst0, ri_1, ri_5, rf_0 hp, rf_7 hp, q1]
 have n2 : ndE p 1 true (mayN 1 false) [[50], [49, 98, 45, 49], [49], [56], [48]] = 0 := by
   simp [ndE, wid, intE, mayN, fst0, ri_0, ri_2, rf_1bm1 hp, rf_1 hp, rf_8 hp, q2]
 have z1 : zN 0 false [49] = false := by simp [zN, ri_1]
 have z2 : zN 1 false [50] = false := by simp [zN]
 simp [goN, n1, n2, z1, z2, ndV, rf_0 hp, rf_7 hp, rf_1bm1 hp, rf_1 hp, rf_8 hp, ri_5, ri_0]
theorem exA_rf {p : Pm} (hp : p.Ok) : rfV p exA = (fd1, 0, 0) := by
 have h1 : hdE [[50], [50], [49], [49]] = 0 := by decide +kernel
 have h2 : hdP [[50], [50], [49], [49]] = some (2, 1, true) := by decide +kernel
 unfold rfV
 rw [exA_rd]
 simp [tkV, h1, h2, exA_go hp]
theorem exB_go {p : Pm} (hp : p.Ok) : goN p 0 false 0 false [(2, [[48], [51], [52]])] = .inr (fd2.ns, true) := by
 have q1 : p.pt 4613937818241073152 4616189618054758400 = true := pt_yes hp (by decide +kernel)
 have n1 : ndE p 0 false (mayN 0 false) [[48], [51], [52]] = 0 := by
   simp [ndE, wid, intE, mayN, fst0, ri_0, rf_3 hp, rf_4 hp, q1]
 simp [goN, n1, zN, ndV, rf_3 hp, rf_4 hp, ri_0]
theorem exB_rf {p : Pm} (hp : p.Ok) : rfV p exB = (fd2, 0, 0) := by
 have h1 : hdE [[49], [50], [48], [48]] = 0 := by decide +kernel
 have h2 : hdP [[49], [50], [48], [48]] = some (1, 0, false) := by decide +kernel
 unfold rfV
 rw [exB_rd]
 simp [tkV, h1, h2, exB_go hp]
theorem exA_fl {p : Pm} (hp : p.Ok) : flW p fd1 = [[[50], [50], [49], [49]], [[49], [48], [48], [55], [53]], [[50], [49, 98, 45, 49], [49], [56], [48]]] := by
 simp [flW, ndsW, ndW, it_0, it_1, it_2, it_5, tx_0 hp, tx_1 hp, tx_7 hp, tx_8 hp, tx_half hp]
theorem exA_wr {p : Pm} (hp : p.Ok) : wrN p fd1 = (exA, 0) := by
 have q1 : p.pt 0 0 = true := pt_yes hp (by decide +kernel)
 have q2 : p.pt 4602678819172646912 4607182418800017408 = true := pt_yes hp (by decide +kernel)
 have a1 : endl 4619567317775286272 = false := by decide +kernel
 have a2 : endl 4620693217682128896 = false := by decide +kernel
 have hw : wrongN p fd1 = 0 := by
   simp [wrongN, amiss, a1, a2, q1, q2]
 unfold wrN
 rw [if_pos hw, exA_fl hp]
 decide +kernel
end

/- Package nodefile: what is written is read, what is read is written: plain. -/
section
set_option maxRecDepth 100000
open Go.RowKit Go.Shelf Go.Lib
def cz (x : Nat) : Nat := if fval x = 0 then 0 else x
theorem rf_tx {p : Pm} (hp : p.Ok) {x : Nat} (hx : Fin64 x) (lx : x < 18446744073709551616) : p.rf (p.tx x) = (cz x, 0) := by
 obtain ⟨n, e, ht, hv, _⟩ := (hp.tx x lx).tell hx
 unfold cz
 by_cases h : fval x = 0
 · rw [if_pos h]
   exact rf_of hp ht fin_zero (by decide) (by rw [fval_zero, ← hv, h]) (fun _ => rfl)
 · rw [if_neg h]
   refine rf_of hp ht hx lx hv (fun h0 => absurd ?_ h)
   rw [hv, h0]
   show (0 : Rat) * p2 e = 0
   rw [Rat.zero_mul]
theorem crd_cz {x : Nat} (h : Crd x) : Crd (cz x) := by
 unfold cz
 split
 · decide +kernel
 · exact h
theorem pt_cz {p : Pm} (hp : p.Ok) {x y : Nat} (h : p.pt x y = true) : p.pt (cz x) (cz y) = true :=
 pt_yes hp ⟨crd_cz ((hp.pt x y).1 h).1, crd_cz ((hp.pt x y).1 h).2⟩
theorem cz_fin {x : Nat} (h : Fin64 x) : Fin64 (cz x) := by unfold cz; split; exact fin_zero; exact h
theorem cz_val (x : Nat) : fval (cz x) = fval x := by
 unfold cz
 split
 · rename_i h; rw [h, fval_zero]
 · rfl
theorem crd_fin' {x : Nat} (h : Crd x) : Fin64 x := crd_fin h.1
theorem endl_fin {x : Nat} (h : endl x = false) : Fin64 x := by
 unfold endl isnan isinf at h
 unfold Fin64
 simp at h
 omega
def cn (q : Nd) : Nd := ⟨cz q.x, cz q.y, q.a.map cz, q.m⟩
theorem fst0_zero {l : List Int} : fst0 l = 0 ↔ ∀ e ∈ l, e = 0 := by
 induction l with
 | nil => simp [fst0]
 | cons a r ih =>
   rw [fst0]
   by_cases h : a = 0
   · rw [if_pos h, ih]; simp [h]
   · rw [if_neg h]; simp [h]
theorem amiss_no {k : Int} {m : Bool} {q : Nd} : amiss k m q = false ↔ (q.a.length : Int) = k ∧ (∀ x ∈ q.a, endl x = false) ∧ (m = false → q.m = 0) := by
 unfold amiss
 simp only [Bool.or_eq_false_iff, decide_eq_false_iff_not, Bool.and_eq_false_iff, List.any_eq_false]
 constructor
 · rintro ⟨⟨h1, h2⟩, h3⟩
   refine ⟨by simpa using h1, fun x hx => by simpa using h2 x hx, fun hm => ?_⟩
   rcases h3 with h3 | h3
   · simpa using h3
   · rw [hm] at h3; simp at h3
 · rintro ⟨h1, h2, h3⟩
   refine ⟨⟨by simpa using h1, fun x hx => by simpa using h2 x hx⟩, ?_⟩
   cases m
   · left; simp [h3 rfl]
   · right; rfl
section
variable {p : Pm} {k : Nat} {m z : Bool} {i : Nat} {q : Nd}
def nrW (z : Bool) (i : Nat) : Int := if z then (i : Int) else (i : Int) + 1
theorem ndW_is (p : Pm) (z m : Bool) (i : Nat) (q : Nd) : ndW p z m i q = itoa (nrW z i) :: p.tx q.x :: p.tx q.y :: (q.a.map p.tx ++ (if m then [itoa q.m] else [])) := by
 unfold ndW nrW; simp
theorem ndW_parts (hk : q.a.length = k) : (ndW p z m i q).length = wid k m ∧ (ndW p z m i q).getD 0 [] = itoa (nrW z i) ∧ (ndW p z m i q).getD 1 [] = p.tx q.x ∧ (ndW p z m i q).getD 2 [] = p.tx q.y ∧ ((ndW p z m i q).drop 3).take k = q.a.map p.tx ∧ (m = true → (ndW p z m i q).getD (3 + k) [] = itoa q.m) := by
 rw [ndW_is]
 refine ⟨?_, rfl, rfl, rfl, ?_, fun hm => ?_⟩
 · cases m <;> simp [wid, hk] <;> omega
 · show List.take k (q.a.map p.tx ++ _) = _
   rw [List.take_left' (by simpa using hk)]
 · subst hm
   rw [show 3 + k = k + 3 by omega]
   simp only [if_true]
   show ((q.a.map p.tx) ++ [itoa q.m]).getD k [] = _
   rw [List.getD_eq_getElem?_getD, List.getElem?_append_right (by simp [hk])]
   simp [hk]
theorem ndE_back (hp : p.Ok) (hw : wdA q) (ha : amiss (k : Int) m q = false) (hpt : p.pt q.x q.y = true) {zz : Bool} (hz : i = 0 ∨ zz = z) (hi : i ≤ 2000000) : ndE p k m (mayN i zz) (ndW p z m i q) = 0 := by
 obtain ⟨hk, he, hm⟩ := amiss_no.1 ha
 have hk' : q.a.length = k := by omega
 obtain ⟨p1, p2, p3, p4, p5, p6⟩ := ndW_parts (p := p) (z := z) (m := m) (i := i) (q := q) hk'
 have hP := (hp.pt q.x q.y).1 hpt
 have hfa : ∀ x ∈ q.a, p.rf (p.tx x) = (cz x, 0) := fun x hx => rf_tx hp (endl_fin (he x hx)) (hw.2 x hx)
 have hx := rf_tx hp (crd_fin' hP.1) hw.1.1
 have hy := rf_tx hp (crd_fin' hP.2) hw.1.2.1
 unfold ndE
 rw [fst0_zero, p1, p2, p3, p4, p5, hx, hy]
 intro e hh
 simp only [List.mem_append, List.mem_cons, List.not_mem_nil, or_false, List.mem_map] at hh
 rcases hh with (hh | ⟨w, ⟨x, hx, rfl⟩, rfl⟩) | hh
 · rcases hh with rfl | rfl | rfl | rfl | rfl
   · simp
   · unfold intE
     rw [rd_itoa (by unfold nrW; split <;> exact ⟨by omega, by omega⟩)]
     simp only []
     rw [if_pos]
     unfold mayN nrW
     by_cases h0 : i = 0
     · rw [if_pos h0, h0]; cases z <;> decide
     · rw [if_neg h0, hz.resolve_left h0]; cases z <;> simp
   · rfl
   · rfl
   · rw [if_pos (pt_cz hp hpt)]
 · rw [hfa x hx]
 · cases m
   · simp at hh
   · simp only [if_true, List.mem_singleton] at hh
     rw [hh, p6 rfl]
     unfold intE
     rw [rd_itoa hw.1.2.2]
     rfl
theorem ndV_back (hp : p.Ok) (hw : wdA q) (ha : amiss (k : Int) m q = false) (hpt : p.pt q.x q.y = true) : ndV p k m (ndW p z m i q) = cn q := by
 obtain ⟨hk, he, hm⟩ := amiss_no.1 ha
 have hk' : q.a.length = k := by omega
 obtain ⟨p1, p2, p3, p4, p5, p6⟩ := ndW_parts (p := p) (z := z) (m := m) (i := i) (q := q) hk'
 have hP := (hp.pt q.x q.y).1 hpt
 have hx := rf_tx hp (crd_fin' hP.1) hw.1.1
 have hy := rf_tx hp (crd_fin' hP.2) hw.1.2.1
 unfold ndV cn
 rw [p3, p4, p5, hx, hy, List.map_map]
 have h1 : q.a.map ((fun w => (p.rf w).1) ∘ p.tx) = q.a.map cz := List.map_congr_left fun x hx => by
   show (p.rf (p.tx x)).1 = cz x
   rw [rf_tx hp (endl_fin (he x hx)) (hw.2 x hx)]
 rw [h1]
 cases m
 · rw [hm rfl]; simp
 · rw [p6 rfl, rd_itoa hw.1.2.2]; simp
theorem zN_back (i : Nat) (z zz : Bool) (hz : i = 0 ∨ zz = z) : zN i zz (itoa (nrW z i)) = z := by
 unfold zN
 by_cases h0 : i = 0
 · rw [if_pos h0, h0, rd_itoa (by unfold nrW; split <;> exact ⟨by omega, by omega⟩)]
   cases z <;> decide
 · rw [if_neg h0, hz.resolve_left h0]
end
theorem goN_back {p : Pm} (hp : p.Ok) {k : Nat} {m z : Bool} : ∀ (l : List Nd) (i n : Nat) (zz : Bool), (i = 0 ∨ zz = z) → (∀ q ∈ l, wdA q ∧ amiss (k : Int) m q = false ∧ p.pt q.x q.y = true) → i + l.length ≤ 2000000 → goN p k m i zz (nums n (ndsW p z m i l)) = .inr (l.map cn, if l.length = 0 then zz else z) := by
 intro l
 induction l with
 | nil => intro i n zz _ _ _; rfl
 | cons q r ih =>
   intro i n zz hz h hi
   obtain ⟨h1, h2, h3⟩ := h q (by simp)
   rw [ndsW, nums, goN, if_pos (ndE_back hp h1 h2 h3 hz (by simp at hi; omega)), (ndW_parts (k := k) (by have := (amiss_no.1 h2).1; omega)).2.1, zN_back i z zz hz, ih (i + 1) (n + 1) z (Or.inr rfl) (fun x hx => h x (by simp [hx])) (by simp at hi; omega), ndV_back hp h1 h2 h3]
   simp
theorem hdP_back {n : Nat} {k : Int} {m : Bool} (hn : n ≤ 1048576) (h0 : 0 ≤ k) (h16 : k ≤ 16) : hdP [itoa (n : Nat), [50], itoa k, if m then [49] else [48]] = some (n, k.toNat, m) := by
 unfold hdP
 simp only []
 rw [rd_itoa ⟨by omega, by omega⟩, rd_itoa ⟨by omega, by omega⟩, ri_2]
 cases m
 · simp [ri_0, h0]
 · simp [ri_1, h0]
theorem wrN_zero {p : Pm} {f : Fd} (h : (wrN p f).2 = 0) : wrongN p f = 0 ∧ (flW p f).all okL = true ∧ fits (flW p f) = true ∧ (wrN p f).1 = wrT (flW p f) := by
 unfold wrN at h ⊢
 by_cases h0 : wrongN p f = 0
 · rw [if_pos h0] at h ⊢
   obtain ⟨h1, h2, h3⟩ := wrV_zero (L := flW p f) (by simp only [] at h; omega)
   exact ⟨h0, h1, h2, h3⟩
 · rw [if_neg h0] at h
   exact absurd h h0
theorem wr_back {p : Pm} (hp : p.Ok) {f : Fd} (hw : ∀ q ∈ f.ns, wdA q) (h : (wrN p f).2 = 0) : rfV p (wrN p f).1 = (⟨f.ns.map cn, f.z, f.k, f.m⟩, 0, 0) := by
 obtain ⟨h0, h1, h2, h3⟩ := wrN_zero h
 obtain ⟨w1, w2, w3, w4, w5, w6⟩ := wrong_zero h0
 have hk : ((f.k.toNat : Nat) : Int) = f.k := by omega
 have hg := goN_back hp (k := f.k.toNat) (m := f.m) (z := f.z) f.ns 0 2 false (Or.inl rfl) (fun q hq => ⟨hw q hq, by rw [hk]; exact w5 q hq, w6 q hq⟩) (by omega)
 have hz : (if f.ns.length = 0 then false else f.z) = f.z := by
   split
   · rename_i e
     cases hz : f.z
     · rfl
     · exact absurd e (w4 hz)
   · rfl
 rw [hz] at hg
 have hl : (nums 2 (ndsW p f.z f.m 0 f.ns)).length = f.ns.length := by rw [nums_len, ndsW_len]
 have hE : hdE [itoa (f.ns.length : Nat), [50], itoa f.k, if f.m then [49] else [48]] = 0 := by
   unfold hdE
   rw [hdP_back w1 w2 w3]
   simp only []
   rw [if_pos ⟨w1, by omega⟩]
 have ht : tkV p (nums 1 (flW p f)) = (⟨f.ns.map cn, f.z, f.k, f.m⟩, 1 + f.ns.length, 0, 0) := by
   show tkV p ((1, _) :: nums 2 (ndsW p f.z f.m 0 f.ns)) = _
   unfold tkV
   simp only [hE, if_pos, hdP_back w1 w2 w3]
   rw [List.take_of_length_le (by omega), hg]
   simp only []
   rw [if_neg (by omega), hk]
   simp
 rw [h3]
 unfold rfV
 rw [rd_wr h1 h2]
 simp only [if_pos, ht]
 rw [if_neg (by rw [nums_len]; unfold flW; rw [List.length_cons, ndsW_len]; omega)]
/-! ### What is read may be written. -/
theorem wrT_le {L : List (List Bs)} {B : Nat} (h : ∀ ws ∈ L, (jn ws).length ≤ B) : (wrT L).length ≤ L.length * (B + 1) := by
 induction L with
 | nil => simp [wrT]
 | cons a r ih =>
   have := ih (fun ws hws => h ws (by simp [hws]))
   have h1 := h a (by simp)
   rw [show wrT (a :: r) = (jn a ++ [10]) ++ wrT r by simp [wrT], List.length_append, List.length_append, show (a :: r).length = r.length + 1 from rfl, Nat.succ_mul]
   simp only [List.length_cons, List.length_nil]
   omega
theorem flW_jn {p : Pm} (hp : p.Ok) {f : Fd} (hw : ∀ q ∈ f.ns, wdA q) (h : wrongN p f = 0) : ∀ ws ∈ flW p f, (jn ws).length ≤ 880 := by
 obtain ⟨w1, w2, w3, w4, w5, w6⟩ := wrong_zero h
 intro ws hws
 have hs := flW_short hp hw w1 ⟨by omega, by omega⟩ ws hws
 have hl : ws.length ≤ 20 ∧ ws ≠ [] := by
   unfold flW at hws
   rcases List.mem_cons.1 hws with rfl | h
   · simp
   · obtain ⟨j, q, h1, h2, rfl⟩ := ndsW_at p _ _ _ _ _ h
     have := ndW_len p f.z f.m (0 + j) q
     have hk := (amiss_no.1 (w5 q h2)).1
     refine ⟨by omega, by rw [ndW_is]; simp⟩
 have h1 := jn_len hl.2
 have h2 := lens_le hs
 have h3 : ws.length * 43 ≤ 20 * 43 := Nat.mul_le_mul_right _ hl.1
 omega
end

/- The laws of layer 10: what is read again is the same: plain. -/
section
set_option maxRecDepth 100000
open Go.RowKit Go.Shelf Go.Lib
theorem fe_cz {x : Nat} (h : Fin64 x) : FE (cz x) x := FE.of (cz_fin h) h (cz_val x)
theorem same_cn {p : Pm} (hp : p.Ok) {k : Int} {m : Bool} {q : Nd} (ha : amiss k m q = false) (hpt : p.pt q.x q.y = true) : SameN (cn q) q := by
 have hP := (hp.pt q.x q.y).1 hpt
 refine ⟨fe_cz (crd_fin' hP.1), fe_cz (crd_fin' hP.2), rfl, by simp [cn], fun i hi => ?_⟩
 have hi' : i < q.a.length := by simpa [cn] using hi
 show FE ((q.a.map cz).getD i 0) (q.a.getD i 0)
 have hm : q.a[i] ∈ q.a := List.getElem_mem hi'
 rw [List.getD_eq_getElem?_getD, List.getD_eq_getElem?_getD, List.getElem?_map, List.getElem?_eq_getElem hi']
 exact fe_cz (endl_fin ((amiss_no.1 ha).2.1 _ hm))
theorem same_list {p : Pm} (hp : p.Ok) {ms ns : List Nt} {k : Int} {m : Bool} (h : ndsO ms = (ndsO' ns).map cn) (hg : ∀ q ∈ ndsO' ns, amiss k m q = false ∧ p.pt q.x q.y = true) :
   ms.length = ns.length ∧ ∀ (i : Nat) (q r : Nt), ms[i]? = some q → ns[i]? = some r → SameN q.1 r.1 := by
 have hlen : ms.length = ns.length := by
   have := congrArg List.length h
   simpa [ndsO, ndsO'] using this
 refine ⟨hlen, fun i q r hq hr => ?_⟩
 have h1 : (ndsO ms)[i]? = some q.1 := by unfold ndsO; rw [List.getElem?_map, hq]; rfl
 have h2 : ((ndsO' ns).map cn)[i]? = some (cn r.1) := by unfold ndsO'; rw [List.getElem?_map, List.getElem?_map, hr]; rfl
 rw [h, h2] at h1
 have e : cn r.1 = q.1 := by simpa using h1
 rw [← e]
 have hm : r.1 ∈ ndsO' ns := List.mem_map.2 ⟨r, List.mem_of_getElem? hr, rfl⟩
 exact same_cn hp (hg r.1 hm).1 (hg r.1 hm).2
theorem wr_good {p : Pm} {f : Fd} (h : (wrN p f).2 = 0) : f.ns.length ≤ 1048576 ∧ ∀ q ∈ f.ns, (amiss f.k f.m q = false ∧ p.pt q.x q.y = true) ∧ q.a.length ≤ 16 := by
 obtain ⟨w1, w2, w3, w4, w5, w6⟩ := wrong_zero (wrN_zero h).1
 exact ⟨w1, fun q hq => ⟨⟨w5 q hq, w6 q hq⟩, by have := (amiss_no.1 (w5 q hq)).1; omega⟩⟩
end

/- NodefileBlanks: remarks, blanks and lines put between: plain. -/
section
set_option maxRecDepth 100000
open Go.RowKit Go.Shelf Go.Lib
def bt (j n : Int) : Bool := bits .and .u8 n j == j
def pls (pl : List Nat) (k : Nat) : Int := ((pl.getD k 0 : Nat) : Int)
def i2 (pl : List Nat) (k : Nat) : Bs := if bt 2 (pls pl k) then [9, 32, 13] else []
def i1 (rm : Bs) (pl : List Nat) (k : Nat) : Bs := if bt 1 (pls pl k) then 32 :: 9 :: 35 :: rm else []
def i4 (rm : Bs) (pl : List Nat) (k : Nat) : Bs := if bt 4 (pls pl k) then 10 :: 32 :: 32 :: 10 :: 35 :: (rm ++ [10]) else []
def blo (rm : Bs) (pl : List Nat) : Nat → Bs → Bs
 | _, [] => []
 | k, c :: r => if c = 32 then i2 pl k ++ (32 :: blo rm pl (k + 1) r) else if c = 10 then i1 rm pl k ++ (10 :: (i4 rm pl k ++ blo rm pl (k + 1) r)) else c :: blo rm pl k r
def cnt : Bs → Nat
 | [] => 0
 | c :: r => (if c = 32 ∨ c = 10 then 1 else 0) + cnt r
theorem cnt_app (a b : Bs) : cnt (a ++ b) = cnt a + cnt b := by
 induction a with
 | nil => simp [cnt]
 | cons c r ih => rw [List.cons_append, cnt, cnt, ih]; omega
theorem cnt_le (a : Bs) : cnt a ≤ a.length := by
 induction a with
 | nil => simp [cnt]
 | cons c r ih => rw [cnt, List.length_cons]; split <;> omega
theorem blo_app (rm : Bs) (pl : List Nat) : ∀ (a b : Bs) (k : Nat), blo rm pl k (a ++ b) = blo rm pl k a ++ blo rm pl (k + cnt a) b := by
 intro a
 induction a with
 | nil => intro b k; rfl
 | cons c r ih =>
   intro b k
   rw [List.cons_append, blo, blo, cnt]
   by_cases h1 : c = 32
   · rw [if_pos h1, if_pos h1, if_pos (Or.inl h1), ih, show k + 1 + cnt r = k + (1 + cnt r) by omega]; simp
   · rw [if_neg h1, if_neg h1]
     by_cases h2 : c = 10
     · rw [if_pos h2, if_pos h2, if_pos (Or.inr h2), ih, show k + 1 + cnt r = k + (1 + cnt r) by omega]; simp
     · rw [if_neg h2, if_neg h2, if_neg (by simp [h1, h2]), ih, Nat.zero_add]; simp
def flt (ls : List Bs) : Bs := (ls.map (· ++ [10])).flatten
theorem flt_cons (l : Bs) (r : List Bs) : flt (l :: r) = l ++ 10 :: flt r := by simp [flt]
theorem flt_app (a b : List Bs) : flt (a ++ b) = flt a ++ flt b := by simp [flt]
def lnB (rm : Bs) (pl : List Nat) (k : Nat) (l : Bs) : Bs := blo rm pl k l ++ i1 rm pl (k + cnt l)
def xB (rm : Bs) (pl : List Nat) (k : Nat) : List Bs := if bt 4 (pls pl k) then [[], [32, 32], 35 :: rm] else []
theorem xB_flt (rm : Bs) (pl : List Nat) (k : Nat) : flt (xB rm pl k) = i4 rm pl k := by
 unfold xB i4
 split <;> simp [flt]
def lsB (rm : Bs) (pl : List Nat) : Nat → List Bs → List Bs
 | _, [] => []
 | k, l :: r => lnB rm pl k l :: (xB rm pl (k + cnt l) ++ lsB rm pl (k + cnt l + 1) r)
theorem blo_flt (rm : Bs) (pl : List Nat) : ∀ (ls : List Bs) (k : Nat), blo rm pl k (flt ls) = flt (lsB rm pl k ls) := by
 intro ls
 induction ls with
 | nil => intro k; rfl
 | cons l r ih =>
   intro k
   rw [flt_cons, blo_app, lsB, flt_cons, flt_app, xB_flt, ← ih]
   rw [show blo rm pl (k + cnt l) (10 :: flt r) = i1 rm pl (k + cnt l) ++ (10 :: (i4 rm pl (k + cnt l) ++ blo rm pl (k + cnt l + 1) (flt r))) by rw [blo, if_neg (by decide), if_pos rfl]]
   unfold lnB
   simp
theorem wrT_flt (L : List (List Bs)) : wrT L = flt (L.map jn) := by
 unfold wrT flt
 rw [List.map_map]; rfl
theorem lns_flt : ∀ {ls : List Bs}, (∀ l ∈ ls, ∀ c ∈ l, c ≠ 10) → lns (flt ls) = ls ++ [[]] := by
 intro ls
 induction ls with
 | nil => intro _; rfl
 | cons l r ih =>
   intro h
   rw [flt_cons, lns_app (fun c hc => h l (by simp) c hc), ih (fun z hz => h z (by simp [hz]))]
   rfl
theorem flt_len (ls : List Bs) : (flt ls).length = wts ls := by
 induction ls with
 | nil => rfl
 | cons l r ih => rw [flt_cons, List.length_append, List.length_cons, ih]; simp only [wts, List.map_cons, List.sum_cons]; omega
def okc (l : Bs) : Prop := ∀ c ∈ l, gd c = true ∨ c = 32
theorem okc_ne {c : UInt8} (h : gd c = true ∨ c = 32) : c ≠ 10 ∧ c ≠ 35 := gd_ne10 h
theorem i2_bl (pl : List Nat) (k : Nat) : ∀ c ∈ i2 pl k, bl c = true := by
 intro c hc
 unfold i2 at hc
 split at hc
 · simp only [List.mem_cons, List.not_mem_nil, or_false] at hc
   rcases hc with rfl | rfl | rfl <;> decide
 · simp at hc
theorem blo_chars (rm : Bs) (pl : List Nat) : ∀ (l : Bs) (k : Nat), okc l → ∀ c ∈ blo rm pl k l, c ≠ 10 ∧ c ≠ 35 := by
 intro l
 induction l with
 | nil => intro k _ c hc; simp [blo] at hc
 | cons d r ih =>
   intro k h c hc
   have hd := okc_ne (h d (by simp))
   rw [blo] at hc
   by_cases h1 : d = 32
   · rw [if_pos h1] at hc
     rcases List.mem_append.1 hc with e | e
     · have := bl_ne (i2_bl pl k c e); exact ⟨this.2, this.1⟩
     · rcases List.mem_cons.1 e with e | e
       · rw [e]; decide
       · exact ih (k + 1) (fun x hx => h x (by simp [hx])) c e
   · rw [if_neg h1, if_neg hd.1] at hc
     rcases List.mem_cons.1 hc with e | e
     · rw [e]; exact hd
     · exact ih k (fun x hx => h x (by simp [hx])) c e
theorem toks_blo (rm : Bs) (pl : List Nat) : ∀ (l : Bs) (k : Nat) (a : Bs), okc l → (∀ c ∈ a, bl c = false) → toks (a ++ blo rm pl k l) = toks (a ++ l) := by
 intro l
 induction l with
 | nil => intro k a _ _; rfl
 | cons d r ih =>
   intro k a h ha
   have hr : okc r := fun x hx => h x (by simp [hx])
   have hd := okc_ne (h d (by simp))
   rw [blo]
   by_cases h1 : d = 32
   · subst h1
     rw [if_pos rfl]
     have h0 := ih (k + 1) [] hr (fun c hc => by simp at hc)
     rw [List.nil_append, List.nil_append] at h0
     rw [toks_app ha (by decide)]
     unfold i2
     split
     · rw [show ([9, 32, 13] : Bs) ++ 32 :: blo rm pl (k + 1) r = 9 :: ([32, 13, 32] ++ blo rm pl (k + 1) r) by simp, toks_app ha (by decide), toks_blanks (fun c hc => by simp only [List.mem_cons, List.not_mem_nil, or_false] at hc; rcases hc with rfl | rfl | rfl <;> decide), h0]
     · rw [List.nil_append, toks_app ha (by decide), h0]
   · rw [if_neg h1, if_neg hd.1]
     have hb : bl d = false := by
       rcases h d (by simp) with e | e
       · exact (gd_ne e).2
       · exact absurd e h1
     have := ih k (a ++ [d]) hr (fun x hx => by
       rcases List.mem_append.1 hx with e | e
       · exact ha x e
       · rw [List.mem_singleton.1 e]; exact hb)
     simpa using this
theorem lineW_lnB (rm : Bs) (pl : List Nat) (k : Nat) {l : Bs} (h : okc l) : lineW (lnB rm pl k l) = toks l := by
 have h1 := toks_blo rm pl l k [] h (fun c hc => by simp at hc)
 rw [List.nil_append, List.nil_append] at h1
 unfold lineW ahd lnB i1
 split
 · rw [show blo rm pl k l ++ 32 :: 9 :: 35 :: rm = (blo rm pl k l ++ [32, 9]) ++ 35 :: rm by simp]
   rw [cutT_app (fun x hx => by
     rcases List.mem_append.1 hx with e | e
     · exact (blo_chars rm pl l k h x e).2
     · simp only [List.mem_cons, List.not_mem_nil, or_false] at e
       rcases e with rfl | rfl <;> decide)]
   have e1 := toks_snoc (c := 9) (by decide) (blo rm pl k l ++ [32]) [] (fun c hc => by simp at hc)
   have e2 := toks_snoc (c := 32) (by decide) (blo rm pl k l) [] (fun c hc => by simp at hc)
   rw [List.nil_append, List.nil_append] at e1 e2
   rw [show blo rm pl k l ++ [32, 9] = blo rm pl k l ++ [32] ++ [9] by simp, e1, e2, h1]
 · rw [List.append_nil, (cut_none (fun hc => (blo_chars rm pl l k h _ hc).2 rfl)).1, h1]
theorem blo_len (rm : Bs) (pl : List Nat) : ∀ (l : Bs) (k : Nat), okc l → (blo rm pl k l).length ≤ 4 * l.length := by
 intro l
 induction l with
 | nil => intro k _; simp [blo]
 | cons d r ih =>
   intro k h
   have hr : okc r := fun x hx => h x (by simp [hx])
   rw [blo]
   split
   · have := ih (k + 1) hr
     rw [List.length_append, List.length_cons, List.length_cons]
     have h2 : (i2 pl k).length ≤ 3 := by unfold i2; split <;> simp
     omega
   · rw [if_neg (okc_ne (h d (by simp))).1, List.length_cons, List.length_cons]
     have := ih k hr
     omega
theorem lnB_len {rm : Bs} (hr : rm.length ≤ 200) (pl : List Nat) (k : Nat) {l : Bs} (h : okc l) : (lnB rm pl k l).length ≤ 4 * l.length + 203 := by
 have := blo_len rm pl l k h
 have h2 : (i1 rm pl (k + cnt l)).length ≤ 203 := by unfold i1; split <;> simp <;> omega
 unfold lnB
 rw [List.length_append]
 omega
theorem xB_rd {rm : Bs} (hr : rm.length ≤ 200) (pl : List Nat) (k n : Nat) : bad n (xB rm pl k) = none ∧ good n (xB rm pl k) = [] ∧ wts (xB rm pl k) ≤ 300 := by
 unfold xB
 split
 · have h0 := empty_line
   have h1 := line_blank (b := [32, 32]) (by decide) (by decide)
   have h2 : lineW (35 :: rm) = [] ∧ lineE (35 :: rm) = 0 := by
     have e : lineW (35 :: rm) = [] := by
       unfold lineW ahd
       rw [show (35 :: rm : Bs) = [] ++ 35 :: rm from rfl, cutT_app (fun x hx => by simp at hx)]
       rfl
     refine ⟨e, ?_⟩
     rw [lineE_zero, e]
     exact ⟨by simp; omega, rfl⟩
   refine ⟨?_, ?_, ?_⟩
   · rw [bad, if_pos h0.1, bad, if_pos h1.2, bad, if_pos h2.2]; rfl
   · rw [good, good, good, h0.2, h1.1, h2.1]; rfl
   · simp [wts]; omega
 · exact ⟨rfl, rfl, by simp [wts]⟩
theorem lsB_rd {rm : Bs} (hr : rm.length ≤ 200) (pl : List Nat) : ∀ (L : List (List Bs)) (k n : Nat), (∀ ws ∈ L, okL ws = true ∧ (jn ws).length ≤ 880) →
   bad n (lsB rm pl k (L.map jn) ++ [[]]) = none ∧ (good n (lsB rm pl k (L.map jn) ++ [[]])).map (·.2) = L := by
 intro L
 induction L with
 | nil => intro k n _; exact ⟨by simp [lsB, bad, empty_line], by simp [lsB, good, empty_line]⟩
 | cons ws r ih =>
   intro k n h
   obtain ⟨hw, hl⟩ := h ws (by simp)
   have hm := ok_may hw
   have hc : okc (jn ws) := jn_chars hm.2
   have hW : lineW (lnB rm pl k (jn ws)) = ws := by rw [lineW_lnB rm pl k hc, toks_jn hm.2]
   have hE : lineE (lnB rm pl k (jn ws)) = 0 := by
     rw [lineE_zero, hW]
     have := lnB_len hr pl k hc
     exact ⟨by omega, List.all_eq_true.2 hm.2⟩
   obtain ⟨x1, x2, _⟩ := xB_rd hr pl (k + cnt (jn ws)) (n + 1)
   have hi := ih (k + cnt (jn ws) + 1) (n + 1 + (xB rm pl (k + cnt (jn ws))).length) (fun z hz => h z (by simp [hz]))
   rw [List.map_cons, lsB, List.cons_append, List.append_assoc]
   refine ⟨?_, ?_⟩
   · rw [bad, if_pos hE, bad_app x1]; exact hi.1
   · rw [good, good_app, x2, hW, List.nil_append, List.map_append, hi.2]
     cases ws with
     | nil => exact absurd rfl hm.1
     | cons x y => rfl
theorem lsB_no10 {rm : Bs} (hr : ∀ c ∈ rm, c ≠ 10) (pl : List Nat) : ∀ (L : List (List Bs)) (k : Nat), (∀ ws ∈ L, okL ws = true) → ∀ l ∈ lsB rm pl k (L.map jn), ∀ c ∈ l, c ≠ 10 := by
 intro L
 induction L with
 | nil => intro k _ l hl; simp [lsB] at hl
 | cons ws r ih =>
   intro k h l hl c hc
   have hcc : okc (jn ws) := jn_chars (ok_may (h ws (by simp))).2
   rw [List.map_cons, lsB] at hl
   rcases List.mem_cons.1 hl with e | e
   · subst e
     unfold lnB at hc
     rcases List.mem_append.1 hc with e | e
     · exact (blo_chars rm pl _ k hcc c e).1
     · unfold i1 at e
       split at e
       · simp only [List.mem_cons] at e
         rcases e with rfl | rfl | rfl | e
         · decide
         · decide
         · decide
         · exact hr c e
       · simp at e
   · rcases List.mem_append.1 e with e | e
     · unfold xB at e
       split at e
       · simp only [List.mem_cons, List.not_mem_nil, or_false] at e
         rcases e with rfl | rfl | rfl
         · simp at hc
         · simp only [List.mem_cons, List.not_mem_nil, or_false] at hc
           rcases hc with rfl | rfl <;> decide
         · rcases List.mem_cons.1 hc with rfl | hc
           · decide
           · exact hr c hc
       · simp at e
     · exact ih _ (fun z hz => h z (by simp [hz])) l e c hc
theorem wts_app (a b : List Bs) : wts (a ++ b) = wts a + wts b := by simp [wts]
theorem lsB_wts {rm : Bs} (hr : rm.length ≤ 200) (pl : List Nat) : ∀ (L : List (List Bs)) (k : Nat), (∀ ws ∈ L, okL ws = true ∧ (jn ws).length ≤ 880) → wts (lsB rm pl k (L.map jn)) ≤ L.length * 4100 := by
 intro L
 induction L with
 | nil => intro k _; simp [lsB, wts]
 | cons ws r ih =>
   intro k h
   obtain ⟨hw, hl⟩ := h ws (by simp)
   have h1 := lnB_len hr pl k (l := jn ws) (jn_chars (ok_may hw).2)
   have h2 := (xB_rd hr pl (k + cnt (jn ws)) 0).2.2
   have h3 := ih (k + cnt (jn ws) + 1) (fun z hz => h z (by simp [hz]))
   rw [List.map_cons, lsB, show ∀ (a : Bs) (b : List Bs), wts (a :: b) = (a.length + 1) + wts b from fun a b => by simp [wts], wts_app, show (ws :: r).length = r.length + 1 from rfl, Nat.succ_mul]
   omega
theorem rd_blo {rm : Bs} (hr : rm.length ≤ 200) (hn : ∀ c ∈ rm, c ≠ 10) (pl : List Nat) {L : List (List Bs)} (hL : ∀ ws ∈ L, okL ws = true ∧ (jn ws).length ≤ 880) (hl : L.length ≤ 1000) :
   (rdV (blo rm pl 0 (wrT L))).2.2 = 0 ∧ (rdV (blo rm pl 0 (wrT L))).1.map (·.2) = L ∧ (blo rm pl 0 (wrT L)).length ≤ 4100000 := by
 have e : blo rm pl 0 (wrT L) = flt (lsB rm pl 0 (L.map jn)) := by rw [wrT_flt, blo_flt]
 have h1 := lsB_rd hr pl L 0 1 hL
 rw [← lns_flt (lsB_no10 hn pl L 0 (fun ws hws => (hL ws hws).1))] at h1
 have h2 : (flt (lsB rm pl 0 (L.map jn))).length ≤ 4100000 := by
   rw [flt_len]
   have := lsB_wts hr pl L 0 hL
   have h3 := Nat.mul_le_mul_right 4100 hl
   omega
 rw [e, rdV_good (by omega) h1.1]
 exact ⟨rfl, h1.2, h2⟩
theorem goN_words {p : Pm} {k : Nat} {m : Bool} : ∀ {L M : List (Nat × List Bs)} {i : Nat} {z : Bool} {x : List Nd × Bool}, L.map (·.2) = M.map (·.2) → goN p k m i z L = .inr x → goN p k m i z M = .inr x := by
 intro L
 induction L with
 | nil =>
   intro M i z x h hg
   cases M with
   | nil => exact hg
   | cons a r => simp at h
 | cons a r ih =>
   intro M i z x h hg
   cases M with
   | nil => simp at h
   | cons b r' =>
     obtain ⟨no, ws⟩ := a
     obtain ⟨no', ws'⟩ := b
     simp only [List.map_cons, List.cons.injEq] at h
     obtain ⟨rfl, h⟩ := h
     simp only [goN] at hg ⊢
     by_cases h0 : ndE p k m (mayN i z) ws = 0
     · rw [if_pos h0] at hg ⊢
       cases hgg : goN p k m (i + 1) (zN i z (ws.getD 0 [])) r with
       | inl e => rw [hgg] at hg; cases hg
       | inr y =>
         rw [hgg] at hg
         rw [ih h hgg]
         exact hg
     · rw [if_neg h0] at hg; cases hg
theorem goN_ne {p : Pm} {k : Nat} {m : Bool} : ∀ (L : List (Nat × List Bs)) (i : Nat) (z : Bool) (e : Nat × Int), goN p k m i z L = .inl e → e.2 ≠ 0 := by
 intro L
 induction L with
 | nil => intro i z e h; cases h
 | cons a r ih =>
   intro i z e h
   obtain ⟨no, ws⟩ := a
   simp only [goN] at h
   by_cases h0 : ndE p k m (mayN i z) ws = 0
   · rw [if_pos h0] at h
     cases hg : goN p k m (i + 1) (zN i z (ws.getD 0 [])) r with
     | inl x => rw [hg] at h; cases h; exact ih _ _ _ hg
     | inr x => rw [hg] at h; cases h
   · rw [if_neg h0] at h; cases h; exact h0
theorem tk_words {p : Pm} {L M : List (Nat × List Bs)} {f : Fd} {n a : Nat} (h : L.map (·.2) = M.map (·.2)) (ht : tkV p L = (f, n, a, 0)) : tkV p M = (f, n, a, 0) := by
 have hlen : L.length = M.length := by have := congrArg List.length h; simpa using this
 cases L with
 | nil => cases ht
 | cons x r =>
   cases M with
   | nil => simp at h
   | cons y r' =>
     obtain ⟨no, ws⟩ := x
     obtain ⟨no', ws'⟩ := y
     simp only [List.map_cons, List.cons.injEq] at h
     obtain ⟨rfl, h⟩ := h
     unfold tkV at ht ⊢
     by_cases hE : hdE ws = 0
     · simp only [if_pos hE] at ht ⊢
       cases hP : hdP ws with
       | none => rw [hP] at ht; cases ht
       | some q =>
         obtain ⟨c, k, m⟩ := q
         rw [hP] at ht
         simp only [] at ht ⊢
         cases hg : goN p k m 0 false (r.take c) with
         | inl e =>
           rw [hg] at ht
           have e2 := congrArg (fun q => q.2.2.2) ht
           exact absurd e2 (goN_ne _ _ _ _ hg)
         | inr q =>
           rw [goN_words (M := r'.take c) (by rw [List.map_take, List.map_take, h]) hg]
           rw [hg] at ht
           obtain ⟨ns, z⟩ := q
           simp only [] at ht ⊢
           have hl : r.length = r'.length := by simpa using hlen
           by_cases hlt : r.length < c
           · rw [if_pos hlt] at ht; cases ht
           · rw [if_neg hlt] at ht
             rw [if_neg (by omega)]
             exact ht
     · simp only [if_neg hE] at ht
       have e2 := congrArg (fun q => q.2.2.2) ht
       simp only [] at e2
       omega
theorem rf_words {p : Pm} {s t : Bs} {f : Fd} (hs : (rdV s).2.2 = 0) (ht : (rdV t).2.2 = 0) (h : (rdV s).1.map (·.2) = (rdV t).1.map (·.2)) (hf : rfV p s = (f, 0, 0)) : rfV p t = (f, 0, 0) := by
 have hlen : (rdV s).1.length = (rdV t).1.length := by have := congrArg List.length h; simpa using this
 unfold rfV at hf ⊢
 rw [if_pos hs] at hf
 rw [if_pos ht]
 simp only [] at hf ⊢
 obtain ⟨q, hq⟩ : ∃ q, tkV p (rdV s).1 = q := ⟨_, rfl⟩
 obtain ⟨g, n, a, e⟩ := q
 rw [hq] at hf
 simp only [] at hf
 by_cases h0 : e = 0
 · subst h0
   rw [tk_words h hq]
   simp only [if_pos] at hf ⊢
   by_cases hlt : n < (rdV s).1.length
   · rw [if_pos hlt] at hf
     have := congrArg (fun q => q.2.2) hf
     simp at this
   · rw [if_neg hlt] at hf
     rw [if_neg (by omega)]
     exact hf
 · rw [if_neg h0] at hf
   have := congrArg (fun q => q.2.2) hf
   exact absurd this h0
theorem wr_blo {p : Pm} (hp : p.Ok) {f : Fd} (hw : ∀ q ∈ f.ns, wdA q) (hn : f.ns.length ≤ 100) (h : (wrN p f).2 = 0) {rm : Bs} (hr : rm.length ≤ 200) (h10 : ∀ c ∈ rm, c ≠ 10) (pl : List Nat) :
   rfV p (blo rm pl 0 (wrN p f).1) = (⟨f.ns.map cn, f.z, f.k, f.m⟩, 0, 0) ∧ (blo rm pl 0 (wrN p f).1).length ≤ 4100000 := by
 have hb := wr_back hp hw h
 obtain ⟨h0, h1, h2, h3⟩ := wrN_zero h
 have hj := flW_jn hp hw h0
 rw [List.all_eq_true] at h1
 have hl : (flW p f).length ≤ 1000 := by unfold flW; rw [List.length_cons, ndsW_len]; omega
 obtain ⟨r1, r2, r3⟩ := rd_blo hr h10 pl (fun ws hws => ⟨h1 ws hws, hj ws hws⟩) hl
 rw [← h3] at r1 r2 r3
 refine ⟨rf_words ?_ r1 ?_ hb, r3⟩
 · rw [h3, rd_wr (List.all_eq_true.2 h1) h2]
 · rw [r2, h3, rd_wr (List.all_eq_true.2 h1) h2]
   have : ∀ (L : List (List Bs)) (n : Nat), (nums n L).map (·.2) = L := by
     intro L
     induction L with
     | nil => intro n; rfl
     | cons a r ih => intro n; simp [nums, ih]
   exact this _ _
theorem wr_short {p : Pm} (hp : p.Ok) {f : Fd} (hw : ∀ q ∈ f.ns, wdA q) (hn : f.ns.length ≤ 100) (h : (wrN p f).2 = 0) : (wrN p f).1.length ≤ 100000 := by
 obtain ⟨h0, h1, h2, h3⟩ := wrN_zero h
 have hj := flW_jn hp hw h0
 have h4 := wrT_le hj
 have hl : (flW p f).length ≤ 101 := by unfold flW; rw [List.length_cons, ndsW_len]; omega
 have h5 := Nat.mul_le_mul_right (880 + 1) hl
 rw [h3]
 omega
end

/- The first example of chapter 10: awake. -/
section
set_option maxRecDepth 100000
open Go.RowKit Go.Shelf Go.Lib
theorem readA {p : Pm} (hp : p.Ok) (w : World) (hT : Tab w) (hE : Ety w) : Calls Tryz.prog 10 #[.string ⟨exA.toArray⟩] w fun e w' => ∃ a c ns, e = .returned (.tuple #[.agg #[.slice a 2 c, .bool false, .int .i64 1, .bool true], .int .i64 0, .int .i64 0]) ∧ Nr w' w.heap.size (.slice a 2 c) ns ∧ ndsO' ns = fd1.ns ∧ ns.length = 2 ∧ Below w.heap.size w w' := by
 refine (readN_any hp ⟨exA.toArray⟩ exA w (by simp) (by decide) hT hE).mono ?_
 rintro e w' ⟨hb, a, c, ns, z, k, m, rfl, hF⟩
 rw [exA_rf hp] at hF ⊢
 obtain ⟨h1, h2, h3, h4⟩ := hF
 have e1 : ndsO ns = fd1.ns := (congrArg Fd.ns h2).symm
 have e2 : z = false := (congrArg Fd.z h2).symm
 have e3 : ((k : Nat) : Int) = 1 := (congrArg Fd.k h2).symm
 have e4 : m = true := (congrArg Fd.m h2).symm
 have e5 : ns.length = 2 := by have := congrArg List.length e1; simpa [ndsO] using this
 rw [e5] at h1
 exact ⟨a, c, ns, by rw [e2, e4, e5, e3]; rfl, h1, e1, e5, hb⟩
theorem readB {p : Pm} (hp : p.Ok) (w : World) (hT : Tab w) (hE : Ety w) : Calls Tryz.prog 10 #[.string ⟨exB.toArray⟩] w fun e w' => ∃ a c, e = .returned (.tuple #[.agg #[.slice a 1 c, .bool true, .int .i64 0, .bool false], .int .i64 0, .int .i64 0]) ∧ Below w.heap.size w w' := by
 refine (readN_any hp ⟨exB.toArray⟩ exB w (by simp) (by decide) hT hE).mono ?_
 rintro e w' ⟨hb, a, c, ns, z, k, m, rfl, hF⟩
 rw [exB_rf hp] at hF ⊢
 obtain ⟨h1, h2, h3, h4⟩ := hF
 have e1 : ndsO ns = fd2.ns := (congrArg Fd.ns h2).symm
 have e2 : z = true := (congrArg Fd.z h2).symm
 have e3 : ((k : Nat) : Int) = 0 := (congrArg Fd.k h2).symm
 have e4 : m = false := (congrArg Fd.m h2).symm
 have e5 : ns.length = 1 := by have := congrArg List.length e1; simpa [ndsO] using this
 exact ⟨a, c, by rw [e2, e4, e5, e3]; rfl, hb⟩
def T10 (w : World) : Prop := T8 w ∧ Ety w
theorem T10.later {w w' : World} (h : T10 w) (hb : Below w.heap.size w w') : T10 w' := ⟨h.1.later hb, h.2.later hb⟩
set_option maxHeartbeats 8000000 in
theorem awake10 (w : World) (hT : T10 w) : Calls Tryz.prog 8 #[] w fun e w' => e = .returned (.bool true) ∧ Below w.heap.size w w' := by
 obtain ⟨p, hp⟩ := pm_ex
 have HP := Lib.hid hp
 have HT := Lib.hid hT
 have HA := Lib.hid (readA hp w hT.1.1 hT.2)
 clear hp hT
 go_enter Tryz.func8, Tryz.ntmps8
 go_wp2_with fail
 refine HA.out.mono ?_
 rintro e W1 ⟨a, c, ns, rfl, hN, hns, hlen, hb1⟩
 have hnv := hN.nv
 obtain ⟨⟨a', c', e', _, _, hm⟩, _⟩ := hnv
 rw [hlen] at e'
 cases e'
 obtain ⟨g, off, rfl, hg, hcell⟩ := hm.resolve_left (fun e => by rw [e] at hlen; simp at hlen)
 obtain ⟨n0, n1, hns2⟩ : ∃ n0 n1, ns = [n0, n1] := by
   rcases ns with _ | ⟨n0, _ | ⟨n1, _ | ⟨n2, r⟩⟩⟩ <;> simp at hlen
   exact ⟨n0, n1, rfl⟩
 subst hns2
 have d0 : n0.1 = ⟨0, 0, [4619567317775286272], 5⟩ := by have := congrArg (fun l => l[0]?) hns; simpa [ndsO'] using this
 have d1 : n1.1 = ⟨4602678819172646912, 4607182418800017408, [4620693217682128896], 0⟩ := by have := congrArg (fun l => l[1]?) hns; simpa [ndsO'] using this
 have x0 := (hcell 0 n0 rfl).2.2.2
 have x1 := (hcell 1 n1 rfl).1
 have x2 := (hcell 1 n1 rfl).2.1
 rw [d0] at x0
 rw [d1] at x1 x2
 obtain ⟨W2, hW2⟩ : ∃ W2, Hid (W1.alloc (.cells #[.slice (some ⟨g, off, none⟩) 2 c, .bool false, .int .i64 1, .bool true] 29) = W2) := ⟨_, Lib.hid rfl⟩
 have hb2 : Below W1.heap.size W1 W2 := by rw [← hW2.out]; exact (Below.refl _ _).alloc (Nat.le_refl _) _
 have hb02 : Below w.heap.size w W2 := hb1.trans (hb2.mono hb1.size)
 have cf : CB W2 W1.heap.size #[.slice (some ⟨g, off, none⟩) 2 c, .bool false, .int .i64 1, .bool true] 29 := by rw [← hW2.out]; exact CB.new _ _ _
 have HWr : Hid (Calls Tryz.prog 21 #[.agg #[.slice (some ⟨g, off, none⟩) 2 c, .bool false, .int .i64 1, .bool true]] W2 fun e w' => e = .returned (.tuple #[.string ⟨exA.toArray⟩, .int .i64 0]) ∧ Below W2.heap.size W2 w') := Lib.hid (by
   have hnv2 := (hN.later hb2).nv
   have := writeN_any HP.out _ [n0, n1] false 1 true W2 hnv2 (by simp) (HT.out.1.later hb02)
   rw [hns, exA_wr HP.out] at this
   exact this)
 have HX : Hid (∀ W, Below W2.heap.size W2 W → (W.cell? ⟨g, off + 3, none⟩ = some (.int .i64 5) ∧ W.cell? ⟨g, off + 4, none⟩ = some (.float .f64 4602678819172646912) ∧ W.cell? ⟨g, off + 4 + 1, none⟩ = some (.float .f64 4607182418800017408)) ∧ CB W W1.heap.size #[.slice (some ⟨g, off, none⟩) 2 c, .bool false, .int .i64 1, .bool true] 29 ∧ Below w.heap.size w W) := Lib.hid (fun W hW => by
   have h1 := hb2.trans (hW.mono hb2.size)
   refine ⟨⟨?_, ?_, ?_⟩, cf.later hW, hb02.trans (hW.mono hb02.size)⟩
   · have := cell_later h1 hg x0; simpa using this
   · have := cell_later h1 hg x1; simpa using this
   · have := cell_later h1 hg x2; simpa using this)
 have H02 := Lib.hid hb02
 clear hN hns hlen hb1 hm hcell d0 d1 x0 x1 x2 hb2 hb02 cf HA
 rw [← hW2.out] at HWr HX H02
 go_wp2_with fail
 refine HWr.out.mono ?_
 rintro e W3 ⟨rfl, hb3⟩
 rw [hW2.out] at HX H02 hb3
 have HB := Lib.hid (readB HP.out W3 (HT.out.1.1.later (H02.out.trans (hb3.mono H02.out.size))) (HT.out.2.later (H02.out.trans (hb3.mono H02.out.size))))
 have HB3 := Lib.hid hb3
 clear hb3 HWr
 go_wp2_with fail
 refine HB.out.mono ?_
 rintro e W4 ⟨a4, c4, rfl, hb4⟩
 obtain ⟨W5, hW5⟩ : ∃ W5, Hid (W4.alloc (.cells #[.slice a4 1 c4, .bool true, .int .i64 0, .bool false] 29) = W5) := ⟨_, Lib.hid rfl⟩
 have hb5 : Below W4.heap.size W4 W5 := by rw [← hW5.out]; exact (Below.refl _ _).alloc (Nat.le_refl _) _
 have c5 : CB W5 W4.heap.size #[.slice a4 1 c4, .bool true, .int .i64 0, .bool false] 29 := by rw [← hW5.out]; exact CB.new _ _ _
 obtain ⟨⟨y0, y1, y2⟩, cf, hbw⟩ := HX.out W5 ((HB3.out.trans (hb4.mono HB3.out.size)).trans (hb5.mono (Nat.le_trans HB3.out.size hb4.size)))
 rw [← hW5.out] at y0 y1 y2 cf hbw c5
 obtain ⟨k0, k1, k2, k3⟩ := cf.cells4
 obtain ⟨j0, j1, j2, j3⟩ := c5.cells4
 have HBw := Lib.hid hbw
 clear hb4 hb5 c5 cf hbw HX HB HB3 H02 HP HT
 have q1 : ∀ w, (binOp .eql 59 (.agg #[.float .f64 4602678819172646912, .float .f64 4607182418800017408]) (.agg #[.float .f64 4602678819172646912, .float .f64 4607182418800017408])).run Tryz.prog w = .ok (.bool true) w := fun w => by kernel_rfl
 go_wp2
 go_ret
 exact ⟨rfl, HBw.out⟩
end

/- The law NodefileBack. -/
section
set_option maxRecDepth 100000
open Go.RowKit Go.Shelf Go.Lib
theorem readT {p : Pm} (hp : p.Ok) (t : Bs) (w : World) (hl : t.length ≤ 9223372036854775807) (hT : T10 w) (f : Fd) (at' : Nat) (er : Int) (hr : rfV p t = (f, at', er)) :
   Calls Tryz.prog 10 #[sv t] w fun e w' => ∃ a c ns z k m, e = .returned (.tuple #[.agg #[.slice a ns.length c, .bool z, .int .i64 (k : Nat), .bool m], .int .i64 (at' : Nat), .int .i64 er]) ∧ Nr w' w.heap.size (.slice a ns.length c) ns ∧ f = ⟨ndsO ns, z, (k : Nat), m⟩ ∧ k ≤ 16 ∧ Below w.heap.size w w' := by
 refine (readN_any hp ⟨t.toArray⟩ t w (by simp) hl hT.1.1 hT.2).mono ?_
 rintro e w' ⟨hb, a, c, ns, z, k, m, rfl, hF⟩
 rw [hr] at hF ⊢
 exact ⟨a, c, ns, z, k, m, rfl, hF.row, hF.is, hF.k16, hb⟩
end
end Go.Proofs.YtofklahgpkmfmaaGreatDoor
