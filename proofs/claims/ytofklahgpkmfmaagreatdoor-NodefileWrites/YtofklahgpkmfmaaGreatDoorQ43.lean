/- Own texts, put together: Qna Qw Qy Qca Qcb Qwa. -/
import Derived.Test.YtofklahgpkmfmaaGreatDoorQ34
import Derived.Test.YtofklahgpkmfmaaGreatDoorQ37
import Derived.Test.YtofklahgpkmfmaaGreatDoorQ38
import Derived.Test.YtofklahgpkmfmaaGreatDoorQ40
import Derived.Test.YtofklahgpkmfmaaGreatDoorQ41
import Derived.Test.YtofklahgpkmfmaaGreatDoorQ42
import Derived.Deep.RegionHeld3
namespace Go.Proofs.YtofklahgpkmfmaaGreatDoor
/- Package nodefile: Read. -/
section
set_option maxRecDepth 100000
open Go.RowKit Go.Shelf Go.Lib
theorem rdV_short {t : Bs} {q : Nat × List Bs} (hq : q ∈ (rdV t).1) : (∀ x ∈ q.2, x.length ≤ 400) := by
 have h0 := (rdV_word hq).2.2.1
 have hlen : t.length ≤ 16777216 := by
   rcases Nat.lt_or_ge 16777216 t.length with h | h
   · rw [rdV_long h] at hq; simp at hq
   · exact h
 have key : bad 1 (lns t) = none := by
   cases hb : bad 1 (lns t) with
   | none => rfl
   | some p => obtain ⟨n, e⟩ := p; rw [rdV_bad hlen hb] at hq; simp at hq
 rw [rdV_good hlen key] at hq
 intro x hx
 have := ((good_fits (lns t) 1 key).1 q hq).1
 have hm := (ok_may this).2 x hx
 unfold mayW at hm
 rw [Bool.and_eq_true, Bool.and_eq_true] at hm
 simpa using hm.1.2
theorem good_no : ∀ (ls : List Bs) (n : Nat), ∀ q ∈ good n ls, q.1 ≤ n + ls.length := by
 intro ls
 induction ls with
 | nil => intro n q hq; simp [good] at hq
 | cons l r ih =>
   intro n q hq
   rw [good] at hq
   rcases List.mem_append.1 hq with e | e
   · split at e
     · simp at e
     · rw [List.mem_singleton.1 e]; simp
   · have := ih (n + 1) q e
     rw [List.length_cons]; omega
theorem rdV_no {t : Bs} {q : Nat × List Bs} (hq : q ∈ (rdV t).1) : q.1 ≤ 16777218 := by
 have hlen : t.length ≤ 16777216 := by
   rcases Nat.lt_or_ge 16777216 t.length with h | h
   · rw [rdV_long h] at hq; simp at hq
   · exact h
 unfold rdV at hq
 rw [if_neg (by omega)] at hq
 split at hq
 · simp at hq
 · have := good_no _ _ q hq
   have h2 := lns_len t
   omega
theorem rdV_count (t : Bs) : (rdV t).1.length ≤ 16777217 := by
 unfold rdV
 split
 · simp
 · split
   · simp
   · have := good_len (lns t) 1
     have h2 := lns_len t
     simp only []
     omega
def ReadNR (p : Pm) (w w' : World) (t : Bs) (v : Ending) : Prop :=
 Below w.heap.size w w' ∧ ∃ a c ns z k m, v = .returned (.tuple #[.agg #[.slice a ns.length c, .bool z, .int .i64 (k : Nat), .bool m], .int .i64 ((rfV p t).2.1 : Nat), .int .i64 (rfV p t).2.2]) ∧ FileR w w' a c ns z k m (rfV p t).1
theorem res_readN (W : World) (B : Nat) (a b c d : Value) (n1 n2 : Int) (tmps : Array Value) (h : CB W B #[a, b, c, d] 29)
   (t2 : tmps[2]? = some (.pointer (some ⟨B, 0, none⟩))) (t3 : tmps[3]? = some (.int .i64 n1)) (t4 : tmps[4]? = some (.int .i64 n2)) : (results Tryz.f10 tmps).run Tryz.prog W = .ok (.tuple #[.agg #[a, b, c, d], .int .i64 n1, .int .i64 n2]) W := by
 have c0 := h.cell 0 (by simp)
 have c1 := h.cell 1 (by simp)
 have c2 := h.cell 2 (by simp)
 have c3 := h.cell 3 (by simp)
 simp [results, Tryz.f10, go_sem, c0, c1, c2, c3, t2, t3, t4]
set_option maxHeartbeats 8000000 in
theorem readN_any {p : Pm} (hp : p.Ok) (s : ByteArray) (t : Bs) (w : World) (ht : s.data.toList = t) (hl : t.length ≤ 9223372036854775807) (hT : Tab w) (hE : Ety w) :
   Calls Tryz.prog 10 #[.string s] w fun e w' => ReadNR p w w' t e := by
 obtain ⟨W0, hW0⟩ : ∃ W0, w.alloc (.cells fz4 29) = W0 := ⟨_, rfl⟩
 have b0 : Below w.heap.size w W0 := by rw [← hW0]; exact (Below.refl _ w).alloc (Nat.le_refl _) _
 have c0 : CB W0 w.heap.size fz4 29 := by rw [← hW0]; exact CB.new w _ _
 have HP := Lib.hid hp
 have HR := Lib.hid (readS s t W0 ht hl)
 have H0 : Hid (Below w.heap.size w W0 ∧ CB W0 w.heap.size fz4 29 ∧ Ety W0 ∧ Tab W0 ∧ w.heap.size + 1 = W0.heap.size) := Lib.hid ⟨b0, c0, hE.later b0, hT.later b0, by rw [← hW0]; simp⟩
 clear hp ht hl hT hE b0 c0
 go_enter Tryz.func10, Tryz.ntmps10
 go_wp2_with fail
 try rw [hW0]
 clear hW0
 refine HR.out.mono ?_
 rintro e W1 ⟨a1, c1, ps, rfl, hLr, htell, hlen, hb1⟩
 have HW1 : Hid (CB W1 w.heap.size fz4 29 ∧ Below w.heap.size w W1 ∧ Ety W1 ∧ Tab W1 ∧ w.heap.size < W1.heap.size) := Lib.hid ⟨H0.out.2.1.later hb1, H0.out.1.trans (hb1.mono H0.out.1.size), H0.out.2.2.1.later hb1, H0.out.2.2.2.1.later hb1, by have := hb1.size; have := H0.out.2.2.2.2; omega⟩
 obtain ⟨er, her⟩ : ∃ er : Nat, Hid ((rdV t).2.2 = er) := ⟨_, Lib.hid rfl⟩
 obtain ⟨al, hal⟩ : ∃ al : Nat, Hid ((rdV t).2.1 = al) := ⟨_, Lib.hid rfl⟩
 obtain ⟨nl, hnl⟩ : ∃ nl : Nat, Hid ((rdV t).1.length = nl) := ⟨_, Lib.hid rfl⟩
 rw [her.out, hal.out, hnl.out]
 rw [hnl.out] at hLr hlen
 have HLr := Lib.hid hLr
 have HTl := Lib.hid htell
 have HLe := Lib.hid hlen
 have hnl' : nl ≤ 16777217 := by rw [← hnl.out]; exact rdV_count t
 have hnl2 : (nl : Int) ≤ 16777217 := by omega
 have hW0s : Hid (w.heap.size < W0.heap.size) := Lib.hid (by have := H0.out.2.2.2.2; omega)
 clear hLr htell hlen hb1 H0 HR
 by_cases h0 : er = 0
 · subst h0
   have hlw : Lw W1 (.slice a1 nl c1) ps := by
     have := HLr.out.lw (fun q hq x hx => by
       have hm : (q.1, q.2.1) ∈ (rdV t).1 := by rw [← HTl.out]; exact List.mem_map.2 ⟨q, hq, rfl⟩
       have := rdV_short hm x hx
       omega)
     exact this
   have HTk : Hid (Calls Tryz.prog 16 #[.slice a1 nl c1] W1 fun e w' => TakeR p W1 w' (tell ps) e) := Lib.hid (take_any HP.out _ ps W1 hlw (fun q hq x hx => by
       have hm : (q.1, q.2.1) ∈ (rdV t).1 := by rw [← HTl.out]; exact List.mem_map.2 ⟨q, hq, rfl⟩
       have := rdV_short hm x hx
       omega) (by rw [HLe.out]; omega) (fun q hq => by
       have hm : (q.1, q.2.1) ∈ (rdV t).1 := by rw [← HTl.out]; exact List.mem_map.2 ⟨q, hq, rfl⟩
       have : q.1 ≤ 16777218 := rdV_no hm
       omega) HW1.out.2.2.2.1 HW1.out.2.2.1)
   have HLw := Lib.hid hlw
   clear hlw
   obtain ⟨q, hq⟩ : ∃ q, Hid (tkV p (tell ps) = q) := ⟨_, Lib.hid rfl⟩
   unfold TakeR at HTk
   rw [hq.out] at HTk
   have HRf : Hid (rfV p t = if q.2.2.2 = 0 then (if q.2.1 < nl then ((⟨[], false, 0, false⟩ : Fd), ((rdV t).1.getD q.2.1 (0, [])).1, (4 : Int)) else (q.1, 0, 0)) else (⟨[], false, 0, false⟩, q.2.2.1, q.2.2.2)) := Lib.hid (by
     unfold rfV
     rw [if_pos her.out]
     simp only []
     rw [← HTl.out, hq.out, HTl.out, hnl.out])
   obtain ⟨f, n1, at', ex⟩ := q
   try dsimp only at HRf
   go_wp2_with fail
   refine HTk.out.mono ?_
   rintro e W2 ⟨hb2, a, c, ns, z, k, m, rfl, hF⟩
   have c2 : CB W2 w.heap.size fz4 29 := HW1.out.1.later hb2
   have bw2 : Below w.heap.size w W2 := HW1.out.2.1.trans (hb2.mono HW1.out.2.1.size)
   have HN1 : Hid (n1 ≤ 1048577 ∨ True) := Lib.hid (Or.inr trivial)
   obtain ⟨W3, hW3⟩ : ∃ W3, Hid (W2.alloc (.cells #[.slice a ns.length c, .bool z, .int .i64 (k : Nat), .bool m] 29) = W3) := ⟨_, Lib.hid rfl⟩
   have b3 : Below W2.heap.size W2 W3 := by rw [← hW3.out]; exact (Below.refl _ W2).alloc (Nat.le_refl _) _
   have HC : Hid (CB W3 w.heap.size fz4 29 ∧ Below w.heap.size w W3 ∧ CB W3 W2.heap.size #[.slice a ns.length c, .bool z, .int .i64 (k : Nat), .bool m] 29 ∧ FileR W1 W3 a c ns z k m f ∧ w.heap.size < W1.heap.size ∧ w.heap.size < W2.heap.size) := Lib.hid ⟨c2.later b3, bw2.trans (b3.mono bw2.size), by rw [← hW3.out]; exact CB.new W2 _ _, ⟨hF.row.later b3, hF.is, hF.k16, hF.len⟩, HW1.out.2.2.2.2, Nat.lt_of_lt_of_le HW1.out.2.2.2.2 hb2.size⟩
   have HLw3 := Lib.hid ((HLw.out.later hb2).later b3)
   clear c2 bw2 b3 hb2 hF HTk HW1 HLw
   try dsimp only at hq
   rw [← hW3.out] at HC HLw3
   clear hW3 HN1
   by_cases hx0 : ex = 0
   · subst hx0
     by_cases hlt : n1 < nl
     · have hlt' : (n1 : Int) < (nl : Int) := by omega
       have hn0 : (0 : Int) ≤ (n1 : Int) := by omega
       obtain ⟨q, hqq⟩ : ∃ q, ps[n1]? = some q := ⟨_, List.getElem?_eq_getElem (by rw [HLe.out]; exact hlt)⟩
       have HRf2 : Hid (rfV p t = ((⟨[], false, 0, false⟩ : Fd), q.1, (4 : Int))) := Lib.hid (by
         rw [HRf.out, if_pos rfl, if_pos hlt, ← HTl.out, List.getD_eq_getElem?_getD]
         unfold tell
         rw [List.getElem?_map, hqq]; rfl)
       obtain ⟨⟨a2, c2, e2, _, _, hm⟩, _⟩ := HLw3.out
       obtain ⟨g, off, hga, hg, hcell⟩ := hm.resolve_left (fun e => by rw [e] at hqq; simp at hqq)
       cases e2
       subst hga
       obtain ⟨W, hW⟩ : ∃ W, (W2.alloc (.cells #[.slice a ns.length c, .bool z, .int .i64 (k : Nat), .bool m] 29)).drew = W := ⟨_, rfl⟩
       have kno : W.cell? ⟨g, off + n1 * 2, none⟩ = some (.int .i64 (q.1 : Nat)) := by rw [← hW]; exact (hcell n1 q hqq).1
       have HR0 : Hid (CB W w.heap.size fz4 29 ∧ Below w.heap.size w W) := Lib.hid (by rw [← hW]; exact ⟨HC.out.1, HC.out.2.1.drew⟩)
       obtain ⟨k20, k21, k22, k23⟩ := HR0.out.1.cells4
       have f20 := HR0.out.1.frozen 0
       have f21 := HR0.out.1.frozen 1
       have f22 := HR0.out.1.frozen 2
       have f23 := HR0.out.1.frozen 3
       have hgw : g ≠ w.heap.size := by
         have h1 := (World.ownsRow.lt HLr.out.own g rfl).1
         have h2 := hW0s.out
         omega
       have hgw2 : w.heap.size ≠ g := fun e => hgw e.symm
       clear hcell hm hqq HLw3 HC
       go_wp2_with fail
       go_region
       all_goals
         go_wp2
         refine bodyPost_ret (res_readN _ w.heap.size _ _ _ _ _ _ _ (set4 HR0.out.1 _ _ _ _) rfl rfl rfl) rfl ?_
         refine ⟨(((HR0.out.2.setCell (Nat.le_refl _) _).setCell (Nat.le_refl _) _).setCell (Nat.le_refl _) _).setCell (Nat.le_refl _) _, none, 0, [], false, 0, false, by rw [HRf2.out]; rfl, ⟨Nr.nil (World.ownsRow_nil _ _ _ _), by rw [HRf2.out]; rfl, by omega, by simp⟩⟩
     · have hlt' : ¬ ((n1 : Int) < (nl : Int)) := by omega
       have HRf2 : Hid (rfV p t = (f, 0, (0 : Int))) := Lib.hid (by rw [HRf.out, if_pos rfl, if_neg hlt])
       obtain ⟨k40, k41, k42, k43⟩ := HC.out.2.2.1.cells4
       obtain ⟨k20, k21, k22, k23⟩ := HC.out.1.cells4
       have f20 := HC.out.1.frozen 0
       have f21 := HC.out.1.frozen 1
       have f22 := HC.out.1.frozen 2
       have f23 := HC.out.1.frozen 3
       go_wp2
       refine bodyPost_ret (res_readN _ w.heap.size _ _ _ _ _ _ _ (set4 HC.out.1 _ _ _ _) rfl rfl rfl) rfl ?_
       refine ⟨(((HC.out.2.1.setCell (Nat.le_refl _) _).setCell (Nat.le_refl _) _).setCell (Nat.le_refl _) _).setCell (Nat.le_refl _) _, a, c, ns, z, k, m, by rw [HRf2.out]; rfl, ⟨(HC.out.2.2.2.1.row.ob (ob_set4 _ _ _ _ _ _) HC.out.2.2.2.2.1).base (by have := HC.out.2.2.2.2.1; omega), by rw [HRf2.out]; exact HC.out.2.2.2.1.is, HC.out.2.2.2.1.k16, HC.out.2.2.2.1.len⟩⟩
   · have hx' : (ex == 0) = false := by simpa using hx0
     have HRf2 : Hid (rfV p t = ((⟨[], false, 0, false⟩ : Fd), at', ex)) := Lib.hid (by rw [HRf.out, if_neg hx0])
     obtain ⟨k20, k21, k22, k23⟩ := HC.out.1.cells4
     have f20 := HC.out.1.frozen 0
     have f21 := HC.out.1.frozen 1
     have f22 := HC.out.1.frozen 2
     have f23 := HC.out.1.frozen 3
     go_wp2
     refine bodyPost_ret (res_readN _ w.heap.size _ _ _ _ _ _ _ (set4 HC.out.1 _ _ _ _) rfl rfl rfl) rfl ?_
     refine ⟨(((HC.out.2.1.setCell (Nat.le_refl _) _).setCell (Nat.le_refl _) _).setCell (Nat.le_refl _) _).setCell (Nat.le_refl _) _, none, 0, [], false, 0, false, by rw [HRf2.out]; rfl, ⟨Nr.nil (World.ownsRow_nil _ _ _ _), by rw [HRf2.out]; rfl, by omega, by simp⟩⟩
 · have h0' : ((er : Int) == 0) = false := by rw [beq_eq_false_iff_ne]; omega
   have h0n : ¬ ((er : Int) = 0) := by omega
   have HRf : Hid (rfV p t = ((⟨[], false, 0, false⟩ : Fd), al, (er : Int))) := Lib.hid (by
     unfold rfV
     rw [if_neg (by rw [her.out]; exact h0), her.out, hal.out])
   obtain ⟨k20, k21, k22, k23⟩ := HW1.out.1.cells4
   have f20 := HW1.out.1.frozen 0
   have f21 := HW1.out.1.frozen 1
   have f22 := HW1.out.1.frozen 2
   have f23 := HW1.out.1.frozen 3
   go_wp2
   refine bodyPost_ret (res_readN _ w.heap.size _ _ _ _ _ _ _ (set4 HW1.out.1 _ _ _ _) rfl rfl rfl) rfl ?_
   refine ⟨(((HW1.out.2.1.setCell (Nat.le_refl _) _).setCell (Nat.le_refl _) _).setCell (Nat.le_refl _) _).setCell (Nat.le_refl _) _, none, 0, [], false, 0, false, by rw [HRf.out]; rfl, ⟨Nr.nil (World.ownsRow_nil _ _ _ _), by rw [HRf.out]; rfl, by omega, by simp⟩⟩
end

/- The first example of chapter 10: plain. -/
section
set_option maxRecDepth 100000
open Go.RowKit Go.Shelf Go.Lib
theorem rf_of {p : Pm} (hp : p.Ok) {l : Bs} {n e : Int} {v : Nat} (ht : rdTell l = some (n, e)) (fv : Fin64 v) (lv : v < 18446744073709551616) (hv : fval v = (n : Rat) * p2 e) (h0 : n = 0 → v = 0) : p.rf l = (v, 0) := by
 have := FloatR.ok (hp.rf l) ht fv lv hv h0
 exact Prod.ext this.1 this.2
theorem pt_yes {p : Pm} (hp : p.Ok) {x y : Nat} (h : Pt x y) : p.pt x y = true := (hp.pt x y).2 h
theorem rf_0 {p : Pm} (hp : p.Ok) : p.rf [48] = (0, 0) := rf_of hp (n := 0) (e := 0) (by decide +kernel) (by unfold Fin64 frung; decide) (by decide) (by decide +kernel) (by decide)
theorem rf_1 {p : Pm} (hp : p.Ok) : p.rf [49] = (4607182418800017408, 0) := rf_of hp (n := 1) (e := 0) (by decide +kernel) (by unfold Fin64 frung; decide) (by decide) (by decide +kernel) (by decide)
theorem rf_7 {p : Pm} (hp : p.Ok) : p.rf [55] = (4619567317775286272, 0) := rf_of hp (n := 7) (e := 0) (by decide +kernel) (by unfold Fin64 frung; decide) (by decide) (by decide +kernel) (by decide)
theorem rf_8 {p : Pm} (hp : p.Ok) : p.rf [56] = (4620693217682128896, 0) := rf_of hp (n := 8) (e := 0) (by decide +kernel) (by unfold Fin64 frung; decide) (by decide) (by decide +kernel) (by decide)
theorem rf_3 {p : Pm} (hp : p.Ok) : p.rf [51] = (4613937818241073152, 0) := rf_of hp (n := 3) (e := 0) (by decide +kernel) (by unfold Fin64 frung; decide) (by decide) (by decide +kernel) (by decide)
theorem rf_4 {p : Pm} (hp : p.Ok) : p.rf [52] = (4616189618054758400, 0) := rf_of hp (n := 4) (e := 0) (by decide +kernel) (by unfold Fin64 frung; decide) (by decide) (by decide +kernel) (by decide)
theorem rf_1bm1 {p : Pm} (hp : p.Ok) : p.rf [49, 98, 45, 49] = (4602678819172646912, 0) := rf_of hp (n := 1) (e := -1) (by decide +kernel) (by unfold Fin64 frung; decide) (by decide) (by decide +kernel) (by decide)
theorem it_0 : itoa (0) = [48] := (itoa_rd (l := [48]) (n := 0) (by decide +kernel)).2
theorem it_1 : itoa (1) = [49] := (itoa_rd (l := [49]) (n := 1) (by decide +kernel)).2
theorem it_2 : itoa (2) = [50] := (itoa_rd (l := [50]) (n := 2) (by decide +kernel)).2
theorem it_5 : itoa (5) = [53] := (itoa_rd (l := [53]) (n := 5) (by decide +kernel)).2
theorem it_7 : itoa (7) = [55] := (itoa_rd (l := [55]) (n := 7) (by decide +kernel)).2
theorem it_8 : itoa (8) = [56] := (itoa_rd (l := [56]) (n := 8) (by decide +kernel)).2
theorem it_m1 : itoa (-1) = [45, 49] := (itoa_rd (l := [45, 49]) (n := -1) (by decide +kernel)).2
theorem tx_0 {p : Pm} (hp : p.Ok) : p.tx 0 = [48] := by
 rw [(hp.tx 0 (by decide)).whole (by unfold Fin64 frung; decide) (k := 0) (by decide +kernel) (by decide) (by decide), it_0]
theorem tx_1 {p : Pm} (hp : p.Ok) : p.tx 4607182418800017408 = [49] := by
 rw [(hp.tx 4607182418800017408 (by decide)).whole (by unfold Fin64 frung; decide) (k := 1) (by decide +kernel) (by decide) (by decide), it_1]
theorem tx_7 {p : Pm} (hp : p.Ok) : p.tx 4619567317775286272 = [55] := by
 rw [(hp.tx 4619567317775286272 (by decide)).whole (by unfold Fin64 frung; decide) (k := 7) (by decide +kernel) (by decide) (by decide), it_7]
theorem tx_8 {p : Pm} (hp : p.Ok) : p.tx 4620693217682128896 = [56] := by
 rw [(hp.tx 4620693217682128896 (by decide)).whole (by unfold Fin64 frung; decide) (k := 8) (by decide +kernel) (by decide) (by decide), it_8]
theorem nw_half {x : Nat} (hv : fval x = ((1 : Int) : Rat) * p2 (-1)) : ¬ ∃ k : Int, fval x = (k : Rat) ∧ -9007199254740992 < k ∧ k < 9007199254740992 := by
 rintro ⟨k, e, _, _⟩
 rw [hv] at e
 have e2 : ((1 : Int) : Rat) * p2 (-1) = ((2 * k : Int) : Rat) * p2 (-1) := by
   rw [e, Rat.intCast_mul, Rat.mul_comm ((2 : Int) : Rat), Rat.mul_assoc]
   have : ((2 : Int) : Rat) * p2 (-1) = 1 := by decide +kernel
   rw [this, Rat.mul_one]
 have := int_eq (p2_pos _) e2
 omega
theorem tx_half {p : Pm} (hp : p.Ok) : p.tx 4602678819172646912 = [49, 98, 45, 49] := by
 have hv : fval 4602678819172646912 = ((1 : Int) : Rat) * p2 (-1) := by decide +kernel
 rw [(hp.tx 4602678819172646912 (by decide)).odd (by unfold Fin64 frung; decide) (n := 1) (e := -1) (by decide) hv (nw_half hv), it_1, it_m1]
 rfl
abbrev exA : Bs := [50, 32, 50, 32, 49, 32, 49, 10, 49, 32, 48, 32, 48, 32, 55, 32, 53, 10, 50, 32, 49, 98, 45, 49, 32, 49, 32, 56, 32, 48, 10]
abbrev exB : Bs := [49, 32, 50, 32, 48, 32, 48, 10, 48, 32, 51, 32, 52, 10]
theorem exA_rd : rdV exA = ([(1, [[50], [50], [49], [49]]), (2, [[49], [48], [48], [55], [53]]), (3, [[50], [49, 98, 45, 49], [49], [56], [48]])], 0, 0) := by decide +kernel
theorem exB_rd : rdV exB = ([(1, [[49], [50], [48], [48]]), (2, [[48], [51], [52]])], 0, 0) := by decide +kernel
abbrev fd1 : Fd := ⟨[⟨0, 0, [4619567317775286272], 5⟩, ⟨4602678819172646912, 4607182418800017408, [4620693217682128896], 0⟩], false, 1, true⟩
abbrev fd2 : Fd := ⟨[⟨4613937818241073152, 4616189618054758400, [], 0⟩], true, 0, false⟩
theorem ri_0 : rdInt [48] = some 0 := by decide +kernel
theorem ri_1 : rdInt [49] = some 1 := by decide +kernel
theorem ri_2 : rdInt [50] = some 2 := by decide +kernel
theorem ri_5 : rdInt [53] = some 5 := by decide +kernel
theorem exA_go {p : Pm} (hp : p.Ok) : goN p 1 true 0 false [(2, [[49], [48], [48], [55], [53]]), (3, [[50], [49, 98, 45, 49], [49], [56], [48]])] = .inr (fd1.ns, false) := by
 have q1 : p.pt 0 0 = true := pt_yes hp (by decide +kernel)
 have q2 : p.pt 4602678819172646912 4607182418800017408 = true := pt_yes hp (by decide +kernel)
 have n1 : ndE p 1 true (mayN 0 false) [[49], [48], [48], [55], [53]] = 0 := by
   simp [ndE, wid, intE, mayN, fst0, ri_1, ri_5, rf_0 hp, rf_7 hp, q1]
 have n2 : ndE p 1 true (mayN 1 false) [[50], [49, 98, 45, 49], [49], [56], [48]] = 0 := by
   simp [ndE, wid, intE, mayN, fst0, ri_0, ri_2, rf_1bm1 hp, rf_1 hp, rf_8 hp, q2]
 have z1 : zN 0 false [49] = false := by simp [zN, ri_1]
 have z2 : zN 1 false [50] = false := by simp [zN]
 simp [goN, n1, n2, z1, z2, ndV, rf_0 hp, rf_7 hp, rf_1bm1 hp, rf_1 hp, rf_8 hp, ri_5, ri_0]
theorem exA_rf {p : Pm} (hp : p.Ok) : rfV p exA = (fd1, 0, 0) := by
 have h1 : hdE [[50], [50], [49], [49]] = 0 := by decide +kernel
 have h2 : hdP [[50], [50], [49], [49]] = some (2, 1, true) := by decide +kernel
 unfold rfV
 rw [exA_rd]
 simp [tkV, h1, h2, exA_go hp]
theorem exB_go {p : Pm} (hp : p.Ok) : goN p 0 false 0 false [(2, [[48], [51], [52]])] = .inr (fd2.ns, true) := by
 have q1 : p.pt 4613937818241073152 4616189618054758400 = true := pt_yes hp (by decide +kernel)
 have n1 : ndE p 0 false (mayN 0 false) [[48], [51], [52]] = 0 := by
   simp [ndE, wid, intE, mayN, fst0, ri_0, rf_3 hp, rf_4 hp, q1]
 simp [goN, n1, zN, ndV, rf_3 hp, rf_4 hp, ri_0]
theorem exB_rf {p : Pm} (hp : p.Ok) : rfV p exB = (fd2, 0, 0) := by
 have h1 : hdE [[49], [50], [48], [48]] = 0 := by decide +kernel
 have h2 : hdP [[49], [50], [48], [48]] = some (1, 0, false) := by decide +kernel
 unfold rfV
 rw [exB_rd]
 simp [tkV, h1, h2, exB_go hp]
theorem exA_fl {p : Pm} (hp : p.Ok) : flW p fd1 = [[[50], [50], [49], [49]], [[49], [48], [48], [55], [53]], [[50], [49, 98, 45, 49], [49], [56], [48]]] := by
 simp [flW, ndsW, ndW, it_0, it_1, it_2, it_5, tx_0 hp, tx_1 hp, tx_7 hp, tx_8 hp, tx_half hp]
theorem exA_wr {p : Pm} (hp : p.Ok) : wrN p fd1 = (exA, 0) := by
 have q1 : p.pt 0 0 = true := pt_yes hp (by decide +kernel)
 have q2 : p.pt 4602678819172646912 4607182418800017408 = true := pt_yes hp (by decide +kernel)
 have a1 : endl 4619567317775286272 = false := by decide +kernel
 have a2 : endl 4620693217682128896 = false := by decide +kernel
 have hw : wrongN p fd1 = 0 := by
   simp [wrongN, amiss, a1, a2, q1, q2]
 unfold wrN
 rw [if_pos hw, exA_fl hp]
 decide +kernel
end

/- Package nodefile: what is written is read, what is read is written: plain. -/
section
set_option maxRecDepth 100000
open Go.RowKit Go.Shelf Go.Lib
def cz (x : Nat) : Nat := if fval x = 0 then 0 else x
theorem fin_endl {x : Nat} (h : Fin64 x) : endl x = false := by
 have := flagsS h
 unfold endl
 rw [this.1, this.2]; rfl
def cn (q : Nd) : Nd := ⟨cz q.x, cz q.y, q.a.map cz, q.m⟩
theorem amiss_no {k : Int} {m : Bool} {q : Nd} : amiss k m q = false ↔ (q.a.length : Int) = k ∧ (∀ x ∈ q.a, endl x = false) ∧ (m = false → q.m = 0) := by
 unfold amiss
 simp only [Bool.or_eq_false_iff, decide_eq_false_iff_not, Bool.and_eq_false_iff, List.any_eq_false]
 constructor
 · rintro ⟨⟨h1, h2⟩, h3⟩
   refine ⟨by simpa using h1, fun x hx => by simpa using h2 x hx, fun hm => ?_⟩
   rcases h3 with h3 | h3
   · simpa using h3
   · rw [hm] at h3; simp at h3
 · rintro ⟨h1, h2, h3⟩
   refine ⟨⟨by simpa using h1, fun x hx => by simpa using h2 x hx⟩, ?_⟩
   cases m
   · left; simp [h3 rfl]
   · right; rfl
section
variable {p : Pm} {k : Nat} {m z : Bool} {i : Nat} {q : Nd}
def nrW (z : Bool) (i : Nat) : Int := if z then (i : Int) else (i : Int) + 1
theorem ndW_is (p : Pm) (z m : Bool) (i : Nat) (q : Nd) : ndW p z m i q = itoa (nrW z i) :: p.tx q.x :: p.tx q.y :: (q.a.map p.tx ++ (if m then [itoa q.m] else [])) := by
 unfold ndW nrW; simp
end
/-! ### What is read may be written. -/
end

/- The document's side of layer 10: finite, Check. -/
section
set_option maxRecDepth 100000
open Go.RowKit Go.Shelf Go.Lib
attribute [local go_sem] run_store_float
theorem finite10_any (x : Nat) (lx : x < 18446744073709551616) (w : World) : Calls Tryz.prog 74 #[.float .f64 x] w fun e w' => e = .returned (.bool (!endl x)) ∧ Below w.heap.size w w' := by
 rcases Nat.lt_trichotomy (frung x) 9218868437227405312 with hf | hf | hf
 · have fx : Fin64 x := hf
   obtain ⟨z, hz1, hz2⟩ := self_sub fx
   have rs : ∀ w, (binOp .sub 57 (.float .f64 x) (.float .f64 x)).run Tryz.prog w = .ok (.float .f64 z) w := fun w => run_float_arith w .sub _ .f64 _ _ _ hz1
   have q0 : FloatKind.f64.format.order x x = some .eq := FE.of fx fx rfl
   have HE : Hid (endl x = false) := Lib.hid (fin_endl fx)
   rw [HE.out]
   clear hz1 hf fx
   go_enter Tryz.func74, Tryz.ntmps74
   go_wp2
   go_ret
   exact ⟨rfl, Below.refl _ _⟩
 · have hx2 : x = 9218868437227405312 ∨ x = 18442240474082181120 := by unfold frung at hf; omega
   have HE : Hid (endl x = true) := Lib.hid (by unfold endl isnan isinf; rw [hf]; simp)
   rw [HE.out]
   have q0 : FloatKind.f64.format.order x x = some .eq := by rcases hx2 with rfl | rfl <;> decide +kernel
   have h2 : floatBits .sub .f64 x x = none := by rcases hx2 with rfl | rfl <;> decide +kernel
   have rs := run_sub_nan x x h2
   have h3 : ∀ w, FloatKind.f64.format.order (nanW x x w) 0 = none := fun w => nan_order (nanW_nan x x w).1 0
   clear h2 hf hx2
   go_enter Tryz.func74, Tryz.ntmps74
   go_wp2
   go_ret
   exact ⟨rfl, (Below.refl _ _).drew⟩
 · have HE : Hid (endl x = true) := Lib.hid (by unfold endl isnan; simp [hf])
   rw [HE.out]
   have q0 : FloatKind.f64.format.order x x = none := order_nan_left hf
   clear hf
   go_enter Tryz.func74, Tryz.ntmps74
   go_wp2
   go_ret
   exact ⟨rfl, Below.refl _ _⟩
set_option maxHeartbeats 16000000 in
theorem check10_any {p : Pm} (hp : p.Ok) (v : Value) (ns : List Nt) (z : Bool) (k : Int) (m : Bool) (w : World) (hv : Nv w v ns) (hn : ns.length ≤ 1000) (hl : ∀ q ∈ ns, q.1.a.length ≤ 1000) :
   Calls Tryz.prog 42 #[.agg #[v, .bool z, .int .i64 k, .bool m]] w fun e w' => e = .returned (.int .i64 (wrongN p ⟨ndsO' ns, z, k, m⟩)) ∧ Below w.heap.size w w' := by
 have HP := Lib.hid hp
 obtain ⟨W1, hW1⟩ : ∃ W1, w.alloc (.cells #[v, .bool z, .int .i64 k, .bool m] 25) = W1 := ⟨_, rfl⟩
 have b1 : Below w.heap.size w W1 := by rw [← hW1]; exact (Below.refl _ w).alloc (Nat.le_refl _) _
 have c1 : CB W1 w.heap.size #[v, .bool z, .int .i64 k, .bool m] 25 := by rw [← hW1]; exact CB.new w _ _
 have hv1 := hv.later b1
 obtain ⟨va, vc, rfl, hcl⟩ := nv_cells hv1
 have HCl := Lib.hid hcl
 have HV := Lib.hid hv1
 have HL := Lib.hid hl
 obtain ⟨N, hN⟩ : ∃ N, Hid (ns.length = N) := ⟨_, Lib.hid rfl⟩
 rw [hN.out] at c1 hW1 hn ⊢
 have H1 := Lib.hid (And.intro c1 b1)
 obtain ⟨k0, k1, k2, k3⟩ := c1.cells4
 have hN' : (N : Int) ≤ 1000 := by omega
 have HNl : Hid ((ndsO' ns).length = N) := Lib.hid (by simpa [ndsO'] using hN.out)
 clear hv hv1 hcl hp b1 c1 hl
 obtain ⟨R, hR⟩ : ∃ R, Hid (wrongN p ⟨ndsO' ns, z, k, m⟩ = R) := ⟨_, Lib.hid rfl⟩
 rw [hR.out]
 have HR0 : Hid (R = if k < 0 ∨ 16 < k ∨ (z = true ∧ N = 0) then 1 else if (ndsO' ns).any (amiss k m) then 1 else if (ndsO' ns).any (fun q => !p.pt q.x q.y) then 10 else 0) := Lib.hid (by
   rw [← hR.out]
   unfold wrongN
   simp only []
   rw [HNl.out, if_neg (by omega)])
 by_cases hk0 : k < 0
 · have HR1 : Hid (R = 1) := Lib.hid (by rw [HR0.out, if_pos (Or.inl hk0)])
   rw [HR1.out]
   go_enter Tryz.func42, Tryz.ntmps42
   go_wp2
   go_ret
   exact ⟨rfl, H1.out.2⟩
 by_cases hk16 : 16 < k
 · have HR1 : Hid (R = 1) := Lib.hid (by rw [HR0.out, if_pos (Or.inr (Or.inl hk16))])
   rw [HR1.out]
   go_enter Tryz.func42, Tryz.ntmps42
   go_wp2
   go_ret
   exact ⟨rfl, H1.out.2⟩
 by_cases hzz : z = true ∧ N = 0
 · have HR1 : Hid (R = 1) := Lib.hid (by rw [HR0.out, if_pos (Or.inr (Or.inr hzz))])
   rw [HR1.out]
   obtain ⟨rfl, rfl⟩ := hzz
   go_enter Tryz.func42, Tryz.ntmps42
   go_wp2
   go_ret
   exact ⟨rfl, H1.out.2⟩
 have HR2 : Hid (R = if (ndsO' ns).any (amiss k m) then 1 else if (ndsO' ns).any (fun q => !p.pt q.x q.y) then 10 else 0) := Lib.hid (by rw [HR0.out, if_neg (by rintro (h | h | h); exact hk0 h; exact hk16 h; exact hzz h)])
 have HBad : Hid (∀ q ∈ ndsO' ns, amiss k m q = true → R = 1) := Lib.hid (fun q hq h => by rw [HR2.out, if_pos (List.any_eq_true.2 ⟨q, hq, h⟩)])
 have HZ : Hid (z = true → N ≠ 0) := Lib.hid (fun h1 h2 => hzz ⟨h1, h2⟩)
 clear hzz
 cases z
 rotate_left
 focus
   have hN0 : ¬ ((N : Int) = 0) := by have := HZ.out (by first | rfl | trivial); omega
   have hN1 : ((N : Int) == 0) = false := by rw [beq_eq_false_iff_ne]; exact hN0
   go_enter Tryz.func42, Tryz.ntmps42
   go_wp2_with fail
 rotate_left
 focus
   go_enter Tryz.func42, Tryz.ntmps42
   go_wp2_with fail
 all_goals
   try rw [hW1]
   clear hW1
   go_loopw [3] (fun s3 wr => ∃ i : Nat, s3 = .int .i64 (i : Nat) ∧ i ≤ N ∧ Hid ((∀ (j : Nat) (q : Nt), j < i → ns[j]? = some q → amiss k m q.1 = false) ∧ Below W1.heap.size W1 wr)) (fun s3 _ => N - (RowKit.intOf s3).toNat)
   case atStart => exact ⟨0, rfl, by omega, fun j q hj => by omega, Below.refl _ _⟩
   case round =>
     obtain ⟨i, rfl, hi1, hI⟩ := hrel
     obtain ⟨wo, hwo⟩ : ∃ wo, wr = wo := ⟨_, rfl⟩
     rw [hwo] at hI ⊢
     clear hwo
     have cf := H1.out.1.later hI.out.2
     obtain ⟨f0, f1, f2, f3⟩ := cf.cells4
     by_cases hlt : i < N
     · have hlt' : (i : Int) < (N : Int) := by omega
       have hi0 : (0 : Int) ≤ (i : Int) := by omega
       obtain ⟨q, hq⟩ : ∃ q, ns[i]? = some q := ⟨_, List.getElem?_eq_getElem (by rw [hN.out]; exact hlt)⟩
       have hqm := List.mem_of_getElem? hq
       obtain ⟨g, off, rfl, hg, x0, x1, x2, x3⟩ := HCl.out i q hq
       have x0 := cell_later hI.out.2 hg x0
       have x1 := cell_later hI.out.2 hg x1
       have x2 := cell_later hI.out.2 hg x2
       have x3 := cell_later hI.out.2 hg x3
       have hfs := (HV.out.sub q hqm).later hI.out.2
       have hql := HL.out q hqm
       have HBq := Lib.hid (HBad.out q.1 (List.mem_map.2 ⟨q, hqm, rfl⟩))
       have Hq := Lib.hid hq
       have hwd := HV.out.wa q.1 (List.mem_map.2 ⟨q, hqm, rfl⟩)
       obtain ⟨⟨qx, qy, qa, qm⟩, qv⟩ := q
       try dsimp only at x0 x1 x2 x3 hfs hql hwd
       obtain ⟨⟨ya, yc, rfl, y1, y2, y3⟩, y4⟩ := hfs
       obtain ⟨L, hLn⟩ : ∃ L, Hid (qa.length = L) := ⟨_, Lib.hid rfl⟩
       rw [hLn.out] at x2 hql y1
       have hql' : (L : Int) ≤ 1000 := by omega
       have HY3 := Lib.hid y3
       have HWd := Lib.hid hwd
       obtain ⟨W2, hW2⟩ : ∃ W2, wo.alloc (.cells #[.float .f64 qx, .float .f64 qy, .slice ya L yc, .int .i64 qm] 62) = W2 := ⟨_, rfl⟩
       have b2 : Below wo.heap.size wo W2 := by rw [← hW2]; exact (Below.refl _ _).alloc (Nat.le_refl _) _
       have c2 : CB W2 wo.heap.size #[.float .f64 qx, .float .f64 qy, .slice ya L yc, .int .i64 qm] 62 := by rw [← hW2]; exact CB.new wo _ _
       have cf2 := cf.later b2
       obtain ⟨j0, j1, j2, j3⟩ := c2.cells4
       obtain ⟨e0, e1, e2, e3⟩ := cf2.cells4
       have H2b := Lib.hid b2
       have H2 : Hid (CB W2 wo.heap.size #[.float .f64 qx, .float .f64 qy, .slice ya L yc, .int .i64 qm] 62 ∧ Below W1.heap.size W1 W2) := Lib.hid ⟨c2, hI.out.2.trans (b2.mono hI.out.2.size)⟩
       clear hq hqm y3 hwd c2 b2 cf cf2
       by_cases hla : (L : Int) = k
       · have hla' : ((L : Int) == k) = true := by simpa using hla
         have hlb : ((L : Int) != k) = false := by simp [hla]
         by_cases hmk : qm ≠ 0 ∧ m = false
         · have HR1 : Hid (R = 1) := Lib.hid (HBq.out (by unfold amiss; rw [hmk.2]; simp [hmk.1]))
           obtain ⟨hm1, rfl⟩ := hmk
           have hm2 : (qm == 0) = false := by simpa using hm1
           go_wp2
           go_ret
           exact ⟨by rw [HR1.out]; rfl, H1.out.2.trans (H2.out.2.mono H1.out.2.size)⟩
         · have HNm : Hid (qm = 0 ∨ m = true) := Lib.hid (by
             by_cases h1 : qm = 0
             · exact Or.inl h1
             · right
               cases m
               · exact absurd ⟨h1, rfl⟩ hmk
               · rfl)
           clear hmk
           by_cases hm0 : qm = 0
           rotate_left
           focus
             have hm1 : (qm == 0) = false := by simpa using hm0
             have hm3 : (qm != 0) = true := by simpa using hm0
             have hm2 : m = true := HNm.out.resolve_left hm0
             subst hm2
             have Hm0 := Lib.hid hm0
             clear hm0
             go_wp2_with fail
           rotate_left
           focus
             have hm1 : (qm == 0) = true := by simpa using hm0
             have hm3 : (qm != 0) = false := by simp [hm0]
             have Hm0 := Lib.hid hm0
             clear hm0
             go_wp2_with fail
           all_goals
             try rw [hW2]
             clear hW2
             go_loopw [5] (fun s5 wr => ∃ j : Nat, s5 = .int .i64 (j : Nat) ∧ j ≤ L ∧ Hid ((∀ t, t < j → endl (qa.getD t 0) = false) ∧ Below W2.heap.size W2 wr)) (fun s5 _ => L - (RowKit.intOf s5).toNat)
             case atStart => exact ⟨0, rfl, by omega, fun t ht => by omega, Below.refl _ _⟩
             case round =>
               obtain ⟨j, rfl, hj1, hJ⟩ := hrel
               have c3 := H2.out.1.later hJ.out.2
               obtain ⟨u0, u1, u2, u3⟩ := c3.cells4
               by_cases hjl : j < L
               · have hjl' : (j : Int) < (L : Int) := by omega
                 have hj0 : (0 : Int) ≤ (j : Int) := by omega
                 have hjq : j < qa.length := by rw [hLn.out]; exact hjl
                 obtain ⟨ag, aoff, rfl, hac⟩ := HY3.out.resolve_left (fun e => by rw [e] at hjq; simp at hjq)
                 have hay := hac j hjq
                 have hagl : ag < wo.heap.size := World.block_lt_of_cell? _ _ hay
                 have hay := cell_later (H2b.out.trans (hJ.out.2.mono H2b.out.size)) hagl hay
                 obtain ⟨y, hy⟩ : ∃ y, Hid (qa.getD j 0 = y) := ⟨_, Lib.hid rfl⟩
                 rw [hy.out] at hay
                 have hym : y ∈ qa := by rw [← hy.out, List.getD_eq_getElem?_getD, List.getElem?_eq_getElem hjq]; exact List.getElem_mem hjq
                 have HFi := Lib.hid (finite10_any y (HWd.out.2 y hym) wr)
                 have HBe : Hid (endl y = true → R = 1) := Lib.hid (fun h => HBq.out (by unfold amiss; rw [List.any_eq_true.2 ⟨y, hym, h⟩]; simp))
                 clear c3 hac hagl hym hjq
                 go_wp2_with fail
                 refine HFi.out.mono ?_
                 rintro e W3 ⟨rfl, hb3⟩
                 have HB3 := Lib.hid (hJ.out.2.trans (hb3.mono hJ.out.2.size))
                 clear hb3 HFi
                 cases hen : endl y
                 · have HEn := Lib.hid hen
                   go_wp2
                   refine ⟨⟨j + 1, by go_num, by omega, ⟨fun t ht => ?_, HB3.out⟩⟩, by simp [RowKit.intOf]; omega⟩
                   by_cases e : t = j
                   · subst e; rw [hy.out]; exact HEn.out
                   · exact hJ.out.1 t (by omega)
                 · have HR1 := Lib.hid (HBe.out hen)
                   go_wp2
                   go_ret
                   exact ⟨by rw [HR1.out]; rfl, H1.out.2.trans ((H2.out.2.trans (HB3.out.mono H2.out.2.size)).mono H1.out.2.size)⟩
               · obtain rfl : j = L := by omega
                 have HOk : Hid (∀ b, (b = false → qm = 0) → amiss k b ⟨qx, qy, qa, qm⟩ = false) := Lib.hid (fun b hb => amiss_no.2 ⟨by rw [hLn.out]; exact hla, fun x hx => by
                   obtain ⟨t, ht, e⟩ := List.mem_iff_getElem.1 hx
                   have := hJ.out.1 t (by rw [← hLn.out]; exact ht)
                   rw [List.getD_eq_getElem?_getD, List.getElem?_eq_getElem ht] at this
                   rw [← e]; exact this, hb⟩)
                 clear c3
                 go_wp2
                 go_roundw
                 case rel =>
                   refine ⟨i + 1, by go_num, by omega, fun t q ht hq => ?_, H2.out.2.trans (hJ.out.2.mono H2.out.2.size)⟩
                   by_cases e : t = i
                   · subst e
                     rw [Hq.out] at hq
                     obtain rfl : (⟨qx, qy, qa, qm⟩, _) = q := by simpa using hq
                     exact HOk.out _ (fun hm => by
                       rcases HNm.out with h | h
                       · exact h
                       · first | (cases hm; done) | exact absurd (h.symm.trans hm) (by decide))
                   · exact hI.out.1 t q (by omega) hq
                 case measure => simp [RowKit.intOf]; omega
       · have hlb : ((L : Int) != k) = true := by simpa using hla
         have hlc : ((L : Int) == k) = false := by simpa using hla
         have HR1 : Hid (R = 1) := Lib.hid (HBq.out (by unfold amiss; simp [hLn.out, hla]))
         go_wp2
         go_ret
         exact ⟨by rw [HR1.out]; rfl, H1.out.2.trans (H2.out.2.mono H1.out.2.size)⟩
     · obtain rfl : i = N := by omega
       have HAll : Hid (R = if (ndsO' ns).any (fun q => !p.pt q.x q.y) then 10 else 0) := Lib.hid (by
         rw [HR2.out, if_neg]
         rw [List.any_eq_true]
         rintro ⟨q, hq, h⟩
         obtain ⟨r, hr, rfl⟩ := List.mem_map.1 hq
         obtain ⟨t, ht, e⟩ := List.mem_iff_getElem.1 hr
         have := hI.out.1 t r (by rw [← hN.out]; exact ht) (by rw [List.getElem?_eq_getElem ht, e])
         rw [this] at h; cases h)
       have HIb := Lib.hid hI.out.2
       clear cf hI HBad HR2 HR0
       go_wp2_with fail
       go_loopw [6] (fun s6 wr => ∃ t : Nat, s6 = .int .i64 (t : Nat) ∧ t ≤ i ∧ Hid ((∀ (j : Nat) (q : Nt), j < t → ns[j]? = some q → p.pt q.1.x q.1.y = true) ∧ Below W1.heap.size W1 wr)) (fun s6 _ => i - (RowKit.intOf s6).toNat)
       case atStart => exact ⟨0, rfl, by omega, fun j q hj => by omega, HIb.out⟩
       case round =>
         obtain ⟨t, rfl, ht1, hJ⟩ := hrel
         have cf := H1.out.1.later hJ.out.2
         obtain ⟨g0, g1, g2, g3⟩ := cf.cells4
         by_cases htl : t < i
         · have htl' : (t : Int) < (i : Int) := by omega
           have ht0 : (0 : Int) ≤ (t : Int) := by omega
           obtain ⟨q, hq⟩ : ∃ q, ns[t]? = some q := ⟨_, List.getElem?_eq_getElem (by rw [hN.out]; exact htl)⟩
           have hqm := List.mem_of_getElem? hq
           obtain ⟨g, off, rfl, hg, x0, x1, x2, x3⟩ := HCl.out t q hq
           have x0 := cell_later hJ.out.2 hg x0
           have x1 := cell_later hJ.out.2 hg x1
           have hwd := HV.out.wa q.1 (List.mem_map.2 ⟨q, hqm, rfl⟩)
           have HM : Hid (Calls Tryz.prog 58 #[pv q.1.x q.1.y] wr fun e w' => e = .returned (.bool (p.pt q.1.x q.1.y)) ∧ Below wr.heap.size wr w') := Lib.hid (by
             refine (may_any q.1.x q.1.y wr ⟨hwd.1.1, hwd.1.2.1⟩).mono ?_
             rintro e w' ⟨⟨b, rfl, hb⟩, hbw⟩
             have : b = p.pt q.1.x q.1.y := by
               have h2 := HP.out.pt q.1.x q.1.y
               cases b <;> cases hq : p.pt q.1.x q.1.y
               · rfl
               · exact absurd (hb.2 (h2.1 hq)) (by simp)
               · exact absurd (h2.2 (hb.1 rfl)) (by rw [hq]; simp)
               · rfl
             rw [this]; exact ⟨rfl, hbw⟩)
           have HBp : Hid (p.pt q.1.x q.1.y = false → R = 10) := Lib.hid (fun h => by
             rw [HAll.out]
             exact if_pos (List.any_eq_true.2 ⟨q.1, List.mem_map.2 ⟨q, hqm, rfl⟩, by simp [h]⟩))
           have Hq := Lib.hid hq
           clear cf x2 x3 hqm hwd hq
           go_wp2_with fail
           refine HM.out.mono ?_
           rintro e W3 ⟨rfl, hb3⟩
           have HB3 := Lib.hid (hJ.out.2.trans (hb3.mono hJ.out.2.size))
           clear hb3 HM
           cases hpt : p.pt q.1.x q.1.y
           · have HR1 := Lib.hid (HBp.out hpt)
             go_wp2
             go_ret
             exact ⟨by rw [HR1.out]; rfl, H1.out.2.trans (HB3.out.mono H1.out.2.size)⟩
           · have HPt := Lib.hid hpt
             go_wp2
             refine ⟨⟨t + 1, by go_num, by omega, ⟨fun j r hj hr => ?_, HB3.out⟩⟩, by simp [RowKit.intOf]; omega⟩
             by_cases e : j = t
             · subst e
               rw [Hq.out] at hr
               obtain rfl : q = r := by simpa using hr
               exact HPt.out
             · exact hJ.out.1 j r (by omega) hr
         · obtain rfl : t = i := by omega
           have HR1 : Hid (R = 0) := Lib.hid (by
             rw [HAll.out, if_neg]
             rw [List.any_eq_true]
             rintro ⟨q, hq, h⟩
             obtain ⟨r, hr, rfl⟩ := List.mem_map.1 hq
             obtain ⟨j, hj, e⟩ := List.mem_iff_getElem.1 hr
             have := hJ.out.1 j r (by rw [← hN.out]; exact hj) (by rw [List.getElem?_eq_getElem hj, e])
             rw [this] at h; cases h)
           clear cf
           go_wp2
           go_ret
           exact ⟨by rw [HR1.out]; rfl, H1.out.2.trans (hJ.out.2.mono H1.out.2.size)⟩
end

/- The document's side of layer 10: Put. -/
section
set_option maxRecDepth 100000
open Go.RowKit Go.Shelf Go.Lib
attribute [local go_sem] run_store_float
theorem keepC {w W W' : World} {g : Nat} {o1 o2 : Nat} {x1 x2 : Value} (h : W.cell? ⟨g, o1, none⟩ = some x1 ∧ W.cell? ⟨g, o2, none⟩ = some x2 ∧ Below w.heap.size w W) (hb : Below W.heap.size W W') : W'.cell? ⟨g, o1, none⟩ = some x1 ∧ W'.cell? ⟨g, o2, none⟩ = some x2 ∧ Below w.heap.size w W' :=
 ⟨cell_later hb (World.block_lt_of_cell? _ _ h.1) h.1, cell_later hb (World.block_lt_of_cell? _ _ h.1) h.2.1, h.2.2.trans (hb.mono h.2.2.size)⟩
theorem refText_is {p : Pm} (hp : p.Ok) (x : Nat) (lx : x < 18446744073709551616) (w : World) : Calls Tryz.prog 44 #[.float .f64 x] w fun r w' => r = .returned (sv (p.tx x)) ∧ Below w.heap.size w w' :=
 refText_any x (p.tx x) w lx (hp.tx x lx) (tx_short hp lx)
theorem ndsW_get (p : Pm) (z m : Bool) : ∀ (l : List Nd) (j i : Nat), (ndsW p z m j l)[i]? = (l[i]?).map (ndW p z m (j + i)) := by
 intro l
 induction l with
 | nil => intro j i; simp [ndsW]
 | cons a r ih =>
   intro j i
   cases i with
   | zero => simp [ndsW]
   | succ i => rw [ndsW, List.getElem?_cons_succ, List.getElem?_cons_succ, ih, show j + 1 + i = j + (i + 1) by omega]
theorem flW_take {p : Pm} {f : Fd} {i : Nat} {q : Nd} (h : f.ns[i]? = some q) : (flW p f).take (1 + (i + 1)) = (flW p f).take (1 + i) ++ [ndW p f.z f.m i q] := by
 have hg : (flW p f)[1 + i]? = some (ndW p f.z f.m i q) := by
   unfold flW
   rw [Nat.add_comm, List.getElem?_cons_succ, ndsW_get, h, Nat.zero_add]; rfl
 obtain ⟨h1, h2⟩ := List.getElem?_eq_some_iff.1 hg
 rw [show 1 + (i + 1) = (1 + i) + 1 by omega, List.take_succ_eq_append_getElem h1, h2]
theorem own_full (W : World) (cs : Array Value) (t : TypeId) (n : Nat) (hn : cs.size = n) (hm : n ≤ 1000) {B : Nat} (hB : B ≤ W.heap.size) : (W.alloc (.cells cs t)).ownsRow B t 1 (.slice (some ⟨W.heap.size, 0, none⟩) n n) n cs.toList :=
 ⟨by simp [hn], Or.inr ⟨W.heap.size, n, cs, rfl, hB, heap_alloc_new W _, Nat.le_refl _, by unfold maxLen; omega, by omega, by rw [List.take_of_length_le]; simp [hn]⟩⟩
set_option maxHeartbeats 16000000 in
theorem refPut_any {p : Pm} (hp : p.Ok) (v : Value) (ns : List Nt) (z : Bool) (k : Int) (m : Bool) (w : World) (hv : Nv w v ns) (hn : ns.length ≤ 1000) (hl : ∀ q ∈ ns, q.1.a.length ≤ 1000) :
   Calls Tryz.prog 23 #[.agg #[v, .bool z, .int .i64 k, .bool m]] w fun e w' => PutR p w w' ⟨ndsO' ns, z, k, m⟩ e := by
 have HP := Lib.hid hp
 obtain ⟨i0, hi0, hz0, hz1, hz2⟩ := info_parts (show (Tryz.prog.info? 9).map (fun i => (i.zero, i.size, i.bytes)) = some (some (.string ⟨#[]⟩), 1, 16) by kernel_rfl)
 obtain ⟨i1, hy0, hy1, hy2, hy3⟩ := info_parts (show (Tryz.prog.info? 56).map (fun i => (i.zero, i.size, i.bytes)) = some (some (.slice none 0 0), 1, 24) by kernel_rfl)
 obtain ⟨W1, hW1⟩ : ∃ W1, w.alloc (.cells #[v, .bool z, .int .i64 k, .bool m] 25) = W1 := ⟨_, rfl⟩
 have b1 : Below w.heap.size w W1 := by rw [← hW1]; exact (Below.refl _ w).alloc (Nat.le_refl _) _
 have c1 : CB W1 w.heap.size #[v, .bool z, .int .i64 k, .bool m] 25 := by rw [← hW1]; exact CB.new w _ _
 have hv1 := hv.later b1
 have HCk := Lib.hid (check10_any hp v ns z k m W1 hv1 hn hl)
 obtain ⟨va, vc, rfl, hcl⟩ := nv_cells hv1
 have HCl := Lib.hid hcl
 have HV := Lib.hid hv1
 have HL := Lib.hid hl
 obtain ⟨N, hN⟩ : ∃ N, Hid (ns.length = N) := ⟨_, Lib.hid rfl⟩
 rw [hN.out] at c1 hW1 hn HCk ⊢
 have z1 : W1.heap.size = w.heap.size + 1 := by rw [← hW1]; simp
 have H1 := Lib.hid (And.intro c1 (And.intro b1 z1))
 obtain ⟨k0, k1, k2, k3⟩ := c1.cells4
 have hN' : (N : Int) ≤ 1000 := by omega
 obtain ⟨F, hF⟩ : ∃ F, Hid ((⟨ndsO' ns, z, k, m⟩ : Fd) = F) := ⟨_, Lib.hid rfl⟩
 rw [hF.out] at HCk
 rw [hF.out]
 obtain ⟨R, hR⟩ : ∃ R, Hid (wrongN p F = R) := ⟨_, Lib.hid rfl⟩
 rw [hR.out] at HCk
 clear hv hv1 hcl hp b1 c1 hl z1
 go_enter Tryz.func23, Tryz.ntmps23
 go_wp2_with fail
 try rw [hW1]
 clear hW1
 refine HCk.out.mono ?_
 rintro e W2 ⟨rfl, hb2⟩
 have H2 : Hid (CB W2 w.heap.size #[.slice va N vc, .bool z, .int .i64 k, .bool m] 25 ∧ Below w.heap.size w W2 ∧ Below W1.heap.size W1 W2) := Lib.hid ⟨H1.out.1.later hb2, H1.out.2.1.trans (hb2.mono H1.out.2.1.size), hb2⟩
 clear hb2 HCk k0 k1 k2 k3
 by_cases hR0 : R = 0
 rotate_left
 · have hR1 : (R == 0) = false := by simpa using hR0
   have hR2 : (R != 0) = true := by simpa using hR0
   have HRn := Lib.hid hR0
   clear hR0
   go_wp2
   go_ret2
   exact ⟨H2.out.2.1, Or.inl ⟨by rw [hR.out]; exact HRn.out, by rw [hR.out]; rfl⟩⟩
 subst hR0
 obtain ⟨w1, w2, w3, w4, w5, w6⟩ := wrong_zero hR.out
 have hkk : F.k = k := by rw [← hF.out]
 rw [hkk] at w2 w3
 have HW5 := Lib.hid w5
 obtain ⟨kn, rfl⟩ : ∃ kn : Nat, k = ((kn : Nat) : Int) := ⟨k.toNat, by omega⟩
 have hk16 : (kn : Int) ≤ 16 := w3
 have HSh : Hid (∀ (n : Int) (W : World), InR n → Calls Tryz.prog 43 #[.int .i64 n] W fun e w' => e = .returned (sv (itoa n)) ∧ Below W.heap.size W w') := Lib.hid (fun n W h => refShow_any n h W)
 have HTx : Hid (∀ (x : Nat) (W : World), x < 18446744073709551616 → Calls Tryz.prog 44 #[.float .f64 x] W fun e w' => e = .returned (sv (p.tx x)) ∧ Below W.heap.size W w') := Lib.hid (fun x W h => refText_is HP.out x h W)
 have HIn : Hid (InR (N : Int) ∧ InR (kn : Int)) := Lib.hid ⟨⟨by omega, by omega⟩, ⟨by omega, by omega⟩⟩
 obtain ⟨W3, hW3⟩ : ∃ W3, W2.drew = W3 := ⟨_, rfl⟩
 have c3 : CB W3 w.heap.size #[.slice va N vc, .bool z, .int .i64 (kn : Nat), .bool m] 25 := by rw [← hW3]; exact H2.out.1
 have H3 : Hid (CB W3 w.heap.size #[.slice va N vc, .bool z, .int .i64 (kn : Nat), .bool m] 25 ∧ Below w.heap.size w W3 ∧ Below W1.heap.size W1 W3) := Lib.hid ⟨c3, by rw [← hW3]; exact H2.out.2.1.drew, by rw [← hW3]; exact H2.out.2.2.drew⟩
 obtain ⟨e0, e1, e2, e3⟩ := H2.out.1.cells4
 obtain ⟨k0, k1, k2, k3⟩ := c3.cells4
 have hr3 := Below.refl W3.heap.size W3
 have HCc : Hid (∀ W, Below W3.heap.size W3 W → CB W w.heap.size #[.slice va N vc, .bool z, .int .i64 (kn : Nat), .bool m] 25) := Lib.hid (fun W h => c3.later h)
 clear c3 w1 w2 w4 w5 w6 hkk w3
 have HSh2 : Hid (∀ (n : Int) (W : World), InR n → Below W3.heap.size W3 W → Calls Tryz.prog 43 #[.int .i64 n] W fun e w' => e = .returned (sv (itoa n)) ∧ Below W3.heap.size W3 w') := Lib.hid (fun n W h hb => (refShow_any n h W).mono fun e w' h => ⟨h.1, hb.trans (h.2.mono hb.size)⟩)
 obtain ⟨sN, hsN⟩ : ∃ sN, Hid (itoa ((N : Nat) : Int) = sN) := ⟨_, Lib.hid rfl⟩
 obtain ⟨sK, hsK⟩ : ∃ sK, Hid (itoa ((kn : Nat) : Int) = sK) := ⟨_, Lib.hid rfl⟩
 have HShN := Lib.hid (fun (W : World) (hb : Below W3.heap.size W3 W) => HSh2.out (N : Int) W HIn.out.1 hb)
 have HShK := Lib.hid (fun (W : World) (hb : Below W3.heap.size W3 W) => HSh2.out (kn : Int) W HIn.out.2 hb)
 rw [hsN.out] at HShN
 rw [hsK.out] at HShK
 cases m <;> cases z
 all_goals
   obtain ⟨H, hH⟩ : ∃ H : List Bs, Hid ((flW p F).head? = some H) := ⟨_, Lib.hid (by unfold flW; rfl)⟩
   have HH2 : Hid (H = [itoa (F.ns.length : Nat), [50], itoa F.k, if F.m then [49] else [48]]) := Lib.hid (by have := hH.out; unfold flW at this; simpa using this.symm)
   have HFs : Hid (F.ns = ndsO' ns ∧ F.k = (kn : Nat)) := Lib.hid (by rw [← hF.out]; exact ⟨rfl, rfl⟩)
   have HFz : Hid (flW p F = H :: ndsW p F.z F.m 0 (ndsO' ns)) := Lib.hid (by rw [HH2.out]; unfold flW; rw [HFs.out.1])
   go_wp2_with fail
   go_region_held3 (fun W => W.cell? ⟨w.heap.size, 0, none⟩ = some (.slice va N vc) ∧ W.cell? ⟨w.heap.size, 2, none⟩ = some (.int .i64 (kn : Nat)) ∧ Below W3.heap.size W3 W)
     (first
       | assumption
       | (rw [hW3]; exact ⟨k0, k2, hr3⟩)
       | exact ⟨k0, k2, hr3⟩
       | exact keepC ⟨k0, k2, hr3⟩ (by assumption)
       | exact keepC (by assumption) (by assumption)
       | exact keepC (by assumption) ((Below.refl _ _).alloc (Nat.le_refl _) _))
     (first
       | (go_at_call_of 43 N; refine (HSh.out (N : Int) _ HIn.out.1).mono ?_; rintro e Wa ⟨rfl, hba⟩; rw [hsN.out])
       | (go_at_call_of 43 kn; refine (HSh.out (kn : Int) _ HIn.out.2).mono ?_; rintro e Wb ⟨rfl, hbb⟩; rw [hsK.out]))
   have b3b : Below W3.heap.size W3 Wb := hba.trans (hbb.mono hba.size)
   have hwsz : W3.heap.size ≤ Wb.heap.size := b3b.size
   first
     | (obtain ⟨W5, hW5⟩ : ∃ W5, (Wb.alloc (.cells #[sv sN, .string ⟨#[50]⟩, sv sK, .string ⟨#[49]⟩] 9)).alloc (.cells #[.slice (some ⟨Wb.heap.size, 0, none⟩) 4 4] 56) = W5 := ⟨_, rfl⟩; rw [hW5]; have hFm : F.m = true := (by rw [← hF.out]); have HH3 : H = [sN, [50], sK, [49]] := (by rw [HH2.out, hFm, HFs.out.1, HFs.out.2, ← hsN.out, ← hsK.out, show (ndsO' ns).length = N by simpa [ndsO'] using hN.out]; rfl); subst HH3; have HO5 : Hid (Orw W5 W3.heap.size (.slice (some ⟨Wb.heap.size + 1, 0, none⟩) 1 1) [([sN, [50], sK, [49]], .slice (some ⟨Wb.heap.size, 0, none⟩) 4 4)] ∧ Below W3.heap.size W3 W5) := Lib.hid (by
           have o4 := own_full Wb #[sv sN, .string ⟨#[50]⟩, sv sK, .string ⟨#[49]⟩] 9 4 rfl (by omega) hwsz
           have o5 := own_full (Wb.alloc (.cells #[sv sN, .string ⟨#[50]⟩, sv sK, .string ⟨#[49]⟩] 9)) #[.slice (some ⟨Wb.heap.size, 0, none⟩) 4 4] 56 1 rfl (by omega) (B := W3.heap.size) (by simp; omega)
           have b5 : Below W3.heap.size W3 W5 := by rw [← hW5]; exact (b3b.alloc b3b.size _).alloc (by have := b3b.size; simp; omega) _
           rw [World.size_alloc, hW5] at o5
           have o6 := World.ownsRow.alloc o4 (.cells #[.slice (some ⟨Wb.heap.size, 0, none⟩) 4 4] 56)
           rw [hW5] at o6
           exact ⟨⟨o5, fun q hq => by rw [List.mem_singleton.1 hq]; exact o6⟩, b5⟩))
     | (obtain ⟨W5, hW5⟩ : ∃ W5, (Wb.alloc (.cells #[sv sN, .string ⟨#[50]⟩, sv sK, .string ⟨#[48]⟩] 9)).alloc (.cells #[.slice (some ⟨Wb.heap.size, 0, none⟩) 4 4] 56) = W5 := ⟨_, rfl⟩; rw [hW5]; have hFm : F.m = false := (by rw [← hF.out]); have HH3 : H = [sN, [50], sK, [48]] := (by rw [HH2.out, hFm, HFs.out.1, HFs.out.2, ← hsN.out, ← hsK.out, show (ndsO' ns).length = N by simpa [ndsO'] using hN.out]; rfl); subst HH3; have HO5 : Hid (Orw W5 W3.heap.size (.slice (some ⟨Wb.heap.size + 1, 0, none⟩) 1 1) [([sN, [50], sK, [48]], .slice (some ⟨Wb.heap.size, 0, none⟩) 4 4)] ∧ Below W3.heap.size W3 W5) := Lib.hid (by
           have o4 := own_full Wb #[sv sN, .string ⟨#[50]⟩, sv sK, .string ⟨#[48]⟩] 9 4 rfl (by omega) hwsz
           have o5 := own_full (Wb.alloc (.cells #[sv sN, .string ⟨#[50]⟩, sv sK, .string ⟨#[48]⟩] 9)) #[.slice (some ⟨Wb.heap.size, 0, none⟩) 4 4] 56 1 rfl (by omega) (B := W3.heap.size) (by simp; omega)
           have b5 : Below W3.heap.size W3 W5 := by rw [← hW5]; exact (b3b.alloc b3b.size _).alloc (by have := b3b.size; simp; omega) _
           rw [World.size_alloc, hW5] at o5
           have o6 := World.ownsRow.alloc o4 (.cells #[.slice (some ⟨Wb.heap.size, 0, none⟩) 4 4] 56)
           rw [hW5] at o6
           exact ⟨⟨o5, fun q hq => by rw [List.mem_singleton.1 hq]; exact o6⟩, b5⟩))
   clear hW5 hba hbb b3b hwsz e0 e1 e2 e3 k0 k1 k2 k3
   have hFz : F.z = F.z := rfl
   have HFl : Hid ((flW p F).length = 1 + N) := Lib.hid (by unfold flW; rw [List.length_cons, ndsW_len, HFs.out.1]; have := hN.out; simp [ndsO']; omega)
   go_wp2_with fail
   go_loopw [7, 8] (fun s7 s8 wr => ∃ (i : Nat) (L : List Lv), s8 = .int .i64 (i : Nat) ∧ i ≤ N ∧ Hid (Orw wr W3.heap.size s7 L ∧ ls1 L = (flW p F).take (1 + i) ∧ L.length = 1 + i ∧ Below W3.heap.size W3 wr)) (fun _ s8 _ => N - (RowKit.intOf s8).toNat)
   case atStart => exact ⟨0, _, rfl, by omega, ⟨HO5.out.1, by rw [HFz.out]; rfl, rfl, HO5.out.2⟩⟩
   case round =>
     obtain ⟨i, L, rfl, hi1, hI⟩ := hrel
     obtain ⟨wo, hwo⟩ : ∃ wo, wr = wo := ⟨_, rfl⟩
     rw [hwo] at hI ⊢
     clear hwo
     have cf := HCc.out _ hI.out.2.2.2
     obtain ⟨f0, f1, f2, f3⟩ := cf.cells4
     by_cases hlt : i < N
     · have hlt' : (i : Int) < (N : Int) := by omega
       have hii : (0 : Int) ≤ (i : Int) := by omega
       have hi1000 : (i : Int) ≤ 1000 := by omega
       obtain ⟨q, hq⟩ : ∃ q, ns[i]? = some q := ⟨_, List.getElem?_eq_getElem (by rw [hN.out]; exact hlt)⟩
       have hqm := List.mem_of_getElem? hq
       have b1o : Below W1.heap.size W1 wo := H3.out.2.2.trans (hI.out.2.2.2.mono H3.out.2.2.size)
       obtain ⟨g, off, rfl, hg, x0, x1, x2, x3⟩ := HCl.out i q hq
       have x0 := cell_later b1o hg x0
       have x1 := cell_later b1o hg x1
       have x2 := cell_later b1o hg x2
       have x3 := cell_later b1o hg x3
       have hfs := (HV.out.sub q hqm).later b1o
       have hql := HL.out q hqm
       have hwd := HV.out.wa q.1 (List.mem_map.2 ⟨q, hqm, rfl⟩)
       have HTk : Hid ((flW p F).take (1 + (i + 1)) = (flW p F).take (1 + i) ++ [ndW p F.z F.m i q.1]) := Lib.hid (flW_take (by rw [HFs.out.1]; unfold ndsO'; rw [List.getElem?_map, hq]; rfl))
       obtain ⟨⟨qx, qy, qa, qm⟩, qv⟩ := q
       try dsimp only at x0 x1 x2 x3 hfs hql hwd HTk
       obtain ⟨⟨ya, yc, rfl, y1, y2, y3⟩, y4⟩ := hfs
       obtain ⟨LA, hLn⟩ : ∃ L, Hid (qa.length = L) := ⟨_, Lib.hid rfl⟩
       rw [hLn.out] at x2 hql y1
       have hql' : (LA : Int) ≤ 1000 := by omega
       have HY3 := Lib.hid y3
       have HWd := Lib.hid hwd
       obtain ⟨W6, hW6⟩ : ∃ W6, wo.alloc (.cells #[.float .f64 qx, .float .f64 qy, .slice ya LA yc, .int .i64 qm] 62) = W6 := ⟨_, rfl⟩
       obtain ⟨W7, hW7⟩ : ∃ W7, W6.drew = W7 := ⟨_, rfl⟩
       have b7 : Below wo.heap.size wo W7 := by rw [← hW7, ← hW6]; exact ((Below.refl _ _).alloc (Nat.le_refl _) _).drew
       have c7 : CB W7 wo.heap.size #[.float .f64 qx, .float .f64 qy, .slice ya LA yc, .int .i64 qm] 62 := by rw [← hW7, ← hW6]; exact CB.new wo _ _
       obtain ⟨j0, j1, j2, j3⟩ := c7.cells4
       have hr7 := Below.refl W7.heap.size W7
       have H7 : Hid (CB W7 wo.heap.size #[.float .f64 qx, .float .f64 qy, .slice ya LA yc, .int .i64 qm] 62 ∧ Below wo.heap.size wo W7 ∧ wo.heap.size < W7.heap.size) := Lib.hid ⟨c7, b7, c7.lt⟩
       obtain ⟨nr, hnr⟩ : ∃ nr, Hid (nrW F.z i = nr) := ⟨_, Lib.hid rfl⟩
       have HNr : Hid (InR nr) := Lib.hid (by rw [← hnr.out]; unfold nrW; split <;> exact ⟨by omega, by omega⟩)
       have HNz : Hid (F.z = true ∧ nr = (i : Int) ∨ F.z = false ∧ nr = 1 + (i : Int)) := Lib.hid (by
         rw [← hnr.out]
         unfold nrW
         cases hz : F.z
         · right; exact ⟨rfl, by simp; omega⟩
         · left; exact ⟨rfl, by simp⟩)
       have hnr2 : nr = (i : Int) ∨ nr = 1 + (i : Int) := by rcases HNz.out with ⟨_, h⟩ | ⟨_, h⟩; exact Or.inl h; exact Or.inr h
       have hwr0 : IntKind.i64.wrap (i : Int) = (i : Int) := by rw [IntKind.wrap_i64]; omega
       have hwr1 : IntKind.i64.wrap (1 + (i : Int)) = 1 + (i : Int) := by rw [IntKind.wrap_i64]; omega
       clear hq hqm y3 hwd c7 b7 b1o cf hnr2
       go_wp2_with fail
       go_region_held3 (fun W => W.cell? ⟨wo.heap.size, 0, none⟩ = some (.float .f64 qx) ∧ W.cell? ⟨wo.heap.size, 1, none⟩ = some (.float .f64 qy) ∧ Below W7.heap.size W7 W)
         (first
           | assumption
           | (rw [hW7]; exact ⟨j0, j1, hr7⟩)
           | exact ⟨j0, j1, hr7⟩
           | exact keepC ⟨j0, j1, hr7⟩ (by assumption)
           | exact keepC (by assumption) (by assumption)
           | exact keepC (by assumption) ((Below.refl _ _).alloc (Nat.le_refl _) _))
         (first
           | (go_at_call 43; (try rw [hwr0]); (try rw [hwr1]); refine (HSh.out _ _ ⟨by omega, by omega⟩).mono ?_; rintro e Wp ⟨rfl, hbp⟩; first | rw [show itoa (i : Int) = itoa nr from congrArg itoa (by rcases HNz.out with ⟨h, e⟩ | ⟨h, e⟩; exact e.symm; (rw [← hF.out] at h; cases h))] | rw [show itoa (1 + (i : Int)) = itoa nr from congrArg itoa (by rcases HNz.out with ⟨h, e⟩ | ⟨h, e⟩; (rw [← hF.out] at h; cases h); exact e.symm)])
           | (go_at_call_of 44 qx; refine (HTx.out qx _ HWd.out.1.1).mono ?_; rintro e Wq ⟨rfl, hbq⟩)
           | (go_at_call_of 44 qy; refine (HTx.out qy _ HWd.out.1.2.1).mono ?_; rintro e Wr ⟨rfl, hbr⟩))
       obtain ⟨W8, hW8⟩ : ∃ W8, Wr.alloc (.cells #[sv (itoa nr), sv (p.tx qx), sv (p.tx qy)] 9) = W8 := ⟨_, rfl⟩
       rw [hW8]
       have HR8 : Hid (Sr W8 W7.heap.size (.slice (some ⟨Wr.heap.size, 0, none⟩) 3 3) [itoa nr, p.tx qx, p.tx qy] ∧ Below W7.heap.size W7 W8) := Lib.hid (by
         have b7q := hbp.trans (hbq.mono hbp.size)
         have b7r := b7q.trans (hbr.mono b7q.size)
         have o8 := own_full Wr #[sv (itoa nr), sv (p.tx qx), sv (p.tx qy)] 9 3 rfl (by omega) (B := W7.heap.size) b7r.size
         rw [hW8] at o8
         exact ⟨o8, by rw [← hW8]; exact b7r.alloc b7r.size _⟩)
       have HOw : Hid (∀ W, Below W7.heap.size W7 W → Orw W W3.heap.size u7 L ∧ Below W3.heap.size W3 W) := Lib.hid (fun W hW => by
         have bo : Below wo.heap.size wo W := H7.out.2.1.trans (hW.mono H7.out.2.1.size)
         exact ⟨hI.out.1.later bo, hI.out.2.2.2.trans (bo.mono hI.out.2.2.2.size)⟩)
       have HB37 : Hid (W3.heap.size ≤ W7.heap.size) := Lib.hid (Nat.le_trans hI.out.2.2.2.size H7.out.2.1.size)
       obtain ⟨hd3, hhd3⟩ : ∃ hd3, Hid ([itoa nr, p.tx qx, p.tx qy] = hd3) := ⟨_, Lib.hid rfl⟩
       rw [hhd3.out] at HR8
       have HD3 : Hid (hd3.length = 3) := Lib.hid (by rw [← hhd3.out]; rfl)
       clear hW8 hbp hbq hbr hr7 hwr0 hwr1 j0 j1 j2 j3 x0 x1 x2 x3 hW6 hW7
       go_wp2_with fail
       go_loopw [10, 11] (fun s10 s11 wr => ∃ j : Nat, s11 = .int .i64 (j : Nat) ∧ j ≤ LA ∧ Hid (Sr wr W7.heap.size s10 (hd3 ++ (qa.take j).map p.tx) ∧ Below W7.heap.size W7 wr)) (fun _ s11 _ => LA - (RowKit.intOf s11).toNat)
       case atStart => exact ⟨0, rfl, by omega, ⟨by simpa using HR8.out.1, HR8.out.2⟩⟩
       case round =>
         obtain ⟨j, rfl, hj1, hJ⟩ := hrel
         have c8 := H7.out.1.later hJ.out.2
         obtain ⟨j0, j1, j2, j3⟩ := c8.cells4
         have cfj := HCc.out _ (HOw.out _ hJ.out.2).2
         obtain ⟨f0, f1, f2, f3⟩ := cfj.cells4
         by_cases hjl : j < LA
         · have hjl' : (j : Int) < (LA : Int) := by omega
           have hj0 : (0 : Int) ≤ (j : Int) := by omega
           have hjq : j < qa.length := by rw [hLn.out]; exact hjl
           obtain ⟨ag, aoff, rfl, hac⟩ := HY3.out.resolve_left (fun e => by rw [e] at hjq; simp at hjq)
           have hay := hac j hjq
           have hagl : ag < wo.heap.size := World.block_lt_of_cell? _ _ hay
           have hay := cell_later (H7.out.2.1.trans (hJ.out.2.mono H7.out.2.1.size)) hagl hay
           obtain ⟨y, hy⟩ : ∃ y, Hid (qa.getD j 0 = y) := ⟨_, Lib.hid rfl⟩
           rw [hy.out] at hay
           have hym : y ∈ qa := by rw [← hy.out, List.getD_eq_getElem?_getD, List.getElem?_eq_getElem hjq]; exact List.getElem_mem hjq
           have HTy := Lib.hid (HTx.out y wr (HWd.out.2 y hym))
           obtain ⟨pre, hpre⟩ : ∃ pre, Hid (hd3 ++ (qa.take j).map p.tx = pre) := ⟨_, Lib.hid rfl⟩
           rw [hpre.out] at hJ
           have HPl : Hid (pre.length ≤ 2000) := Lib.hid (by rw [← hpre.out, List.length_append, HD3.out, List.length_map, List.length_take]; omega)
           have HPn : Hid (hd3 ++ (qa.take (j + 1)).map p.tx = pre ++ [p.tx y]) := Lib.hid (by
             rw [← hpre.out, List.take_succ_eq_append_getElem hjq, List.map_append, List.append_assoc]
             have : qa[j] = y := by rw [← hy.out, List.getD_eq_getElem?_getD, List.getElem?_eq_getElem hjq]; rfl
             rw [this]; rfl)
           clear c8 cfj hac hagl hym hjq
           go_wp2_with fail
           refine HTy.out.mono ?_
           rintro e W9 ⟨rfl, hb9⟩
           have HR9 := Lib.hid (And.intro (hJ.out.1.later hb9) (hJ.out.2.trans (hb9.mono hJ.out.2.size)))
           clear hb9 HTy
           go_wp2_with (at_builtin; refine wpList_append_own _ rfl _ _ 56 rfl W7.heap.size 9 i0 (.string ⟨#[]⟩) 1 16 Tryz.underlying56 hi0 hz0 hz1 hz2 rfl (by decide) u10 pre.length (svs pre) rfl (World.ownsRow.alloc HR9.out.1 _) ⟨W9.heap.size, 0, none⟩ 1 1 [sv (p.tx y)] rfl rfl (cell_one_new _ _ _) (by simp [Value.oneCell']) (by unfold maxLen; have := HPl.out; omega) (by have := HPl.out; omega) (by have := HR9.out.2.size; simp; omega) ?_; intro v' W10 hown hgrow _; have HR10 := Lib.hid (And.intro (Sr.grew hown HR9.out.1) (below_grew HR9.out.2 HR9.out.1 hgrow)); clear hown hgrow)
           refine ⟨⟨j + 1, by go_num, by omega, Lib.hid (by rw [HPn.out]; exact HR10.out)⟩, by simp [RowKit.intOf]; omega⟩
         · obtain rfl : j = LA := by omega
           obtain ⟨pre, hpre⟩ : ∃ pre, Hid (hd3 ++ (qa.take j).map p.tx = pre) := ⟨_, Lib.hid rfl⟩
           rw [hpre.out] at hJ
           have HPl : Hid (pre.length ≤ 2000) := Lib.hid (by rw [← hpre.out, List.length_append, HD3.out, List.length_map, List.length_take]; omega)
           have HPe : Hid (ndW p F.z F.m i ⟨qx, qy, qa, qm⟩ = pre ++ (if F.m then [itoa qm] else [])) := Lib.hid (by
             rw [ndW_is, hnr.out, ← hpre.out, ← hhd3.out, List.take_of_length_le (by rw [hLn.out]; exact Nat.le_refl _)]; simp)
           have HIq : Hid (InR qm) := Lib.hid HWd.out.1.2.2
           obtain ⟨ra, rc, hrv⟩ := own_slice hJ.out.1
           subst hrv
           obtain ⟨np, hnp⟩ : ∃ np, Hid (pre.length = np) := ⟨_, Lib.hid rfl⟩
           rw [hnp.out] at hJ ⊢
           clear c8 cfj
           go_wp2_with (first
             | (go_at_call 43; refine (HSh.out qm _ HIq.out).mono ?_; rintro e W9 ⟨rfl, hb9⟩; have HR9 := Lib.hid (And.intro (hJ.out.1.later hb9) (hJ.out.2.trans (hb9.mono hJ.out.2.size))); clear hb9)
             | (at_builtin; refine wpList_append_own _ rfl _ _ 56 rfl W7.heap.size 9 i0 (.string ⟨#[]⟩) 1 16 Tryz.underlying56 hi0 hz0 hz1 hz2 rfl (by decide) (.slice ra np rc) pre.length (svs pre) rfl (World.ownsRow.alloc HR9.out.1 _) ⟨W9.heap.size, 0, none⟩ 1 1 [sv (itoa qm)] rfl rfl (cell_one_new _ _ _) (by simp [Value.oneCell']) (by unfold maxLen; have := HPl.out; omega) (by have := HPl.out; omega) (by have := HR9.out.2.size; simp; omega) ?_; intro v' W10 hown hgrow _; have HR10 := Lib.hid (And.intro (Sr.grew hown HR9.out.1) (below_grew HR9.out.2 HR9.out.1 hgrow)); obtain ⟨sa, sc, hsv⟩ := own_slice HR10.out.1; obtain ⟨nq, hnq⟩ : ∃ nq, (pre ++ [itoa qm]).length = nq := ⟨_, rfl⟩; rw [hnq] at hsv; subst hsv; clear hown hgrow hnq)
             | (at_builtin; refine wpList_append_own _ rfl _ _ 51 rfl W3.heap.size 56 i1 (.slice none 0 0) 1 24 Tryz.underlying51 hy0 hy1 hy2 hy3 rfl (by decide) u7 L.length (L.map (·.2)) rfl (World.ownsRow.alloc (HOw.out W10 HR10.out.2).1.own _) ⟨W10.heap.size, 0, none⟩ 1 1 [.slice sa nq sc] rfl rfl (World.news_of_block (cs := #[.slice sa nq sc]) (t := 56) (fr := (0, 0)) (heap_alloc_new W10 _)) (by simp [Value.oneCell']) (by unfold maxLen; have := hI.out.2.2.1; omega) (by have := hI.out.2.2.1; omega) (by have := (HOw.out W10 HR10.out.2).2.size; simp; omega) ?_; intro vz Wz hown hgrow _; have HZz := Lib.hid (And.intro ((HOw.out W10 HR10.out.2).1.grew (q := (pre ++ [itoa qm], .slice sa nq sc)) (Sr.base HR10.out.1 HB37.out) hown hgrow) (below_grew (HOw.out W10 HR10.out.2).2 (HOw.out W10 HR10.out.2).1.own hgrow)); clear hown hgrow)
             | (at_builtin; refine wpList_append_own _ rfl _ _ 51 rfl W3.heap.size 56 i1 (.slice none 0 0) 1 24 Tryz.underlying51 hy0 hy1 hy2 hy3 rfl (by decide) u7 L.length (L.map (·.2)) rfl (World.ownsRow.alloc (HOw.out wr hJ.out.2).1.own _) ⟨wr.heap.size, 0, none⟩ 1 1 [.slice ra np rc] rfl rfl (World.news_of_block (cs := #[.slice ra np rc]) (t := 56) (fr := (0, 0)) (heap_alloc_new wr _)) (by simp [Value.oneCell']) (by unfold maxLen; have := hI.out.2.2.1; omega) (by have := hI.out.2.2.1; omega) (by have := (HOw.out wr hJ.out.2).2.size; simp; omega) ?_; intro vz Wz hown hgrow _; have HZz := Lib.hid (And.intro ((HOw.out wr hJ.out.2).1.grew (q := (pre, .slice ra np rc)) (Sr.base hJ.out.1 HB37.out) hown hgrow) (below_grew (HOw.out wr hJ.out.2).2 (HOw.out wr hJ.out.2).1.own hgrow)); clear hown hgrow))
           go_roundw
           case rel =>
             refine ⟨i + 1, _, by go_num, by omega, ⟨HZz.out.1, ?_, by rw [List.length_append, hI.out.2.2.1]; rfl, HZz.out.2⟩⟩
             rw [HTk.out, HPe.out, ← hI.out.2.1]
             rw [hFm]
             simp [ls1]
           case measure => simp [RowKit.intOf]; omega
     · obtain rfl : i = N := by omega
       have HI := Lib.hid hI.out
       obtain ⟨oa, oc, hov⟩ : ∃ a c, u7 = .slice a L.length c := own_slice hI.out.1.own
       subst hov
       clear cf
       go_wp2
       go_ret2
       exact ⟨H3.out.2.1.trans (HI.out.2.2.2.mono H3.out.2.1.size), Or.inr ⟨hR.out, oa, oc, L, rfl, HI.out.1.base H3.out.2.1.size, by rw [HI.out.2.1, List.take_of_length_le (by rw [HFl.out]; exact Nat.le_refl _)]⟩⟩
end

/- The first example of chapter 10: awake. -/
section
set_option maxRecDepth 100000
open Go.RowKit Go.Shelf Go.Lib
theorem readA {p : Pm} (hp : p.Ok) (w : World) (hT : Tab w) (hE : Ety w) : Calls Tryz.prog 10 #[.string ⟨exA.toArray⟩] w fun e w' => ∃ a c ns, e = .returned (.tuple #[.agg #[.slice a 2 c, .bool false, .int .i64 1, .bool true], .int .i64 0, .int .i64 0]) ∧ Nr w' w.heap.size (.slice a 2 c) ns ∧ ndsO' ns = fd1.ns ∧ ns.length = 2 ∧ Below w.heap.size w w' := by
 refine (readN_any hp ⟨exA.toArray⟩ exA w (by simp) (by decide) hT hE).mono ?_
 rintro e w' ⟨hb, a, c, ns, z, k, m, rfl, hF⟩
 rw [exA_rf hp] at hF ⊢
 obtain ⟨h1, h2, h3, h4⟩ := hF
 have e1 : ndsO ns = fd1.ns := (congrArg Fd.ns h2).symm
 have e2 : z = false := (congrArg Fd.z h2).symm
 have e3 : ((k : Nat) : Int) = 1 := (congrArg Fd.k h2).symm
 have e4 : m = true := (congrArg Fd.m h2).symm
 have e5 : ns.length = 2 := by have := congrArg List.length e1; simpa [ndsO] using this
 rw [e5] at h1
 exact ⟨a, c, ns, by rw [e2, e4, e5, e3]; rfl, h1, e1, e5, hb⟩
theorem readB {p : Pm} (hp : p.Ok) (w : World) (hT : Tab w) (hE : Ety w) : Calls Tryz.prog 10 #[.string ⟨exB.toArray⟩] w fun e w' => ∃ a c, e = .returned (.tuple #[.agg #[.slice a 1 c, .bool true, .int .i64 0, .bool false], .int .i64 0, .int .i64 0]) ∧ Below w.heap.size w w' := by
 refine (readN_any hp ⟨exB.toArray⟩ exB w (by simp) (by decide) hT hE).mono ?_
 rintro e w' ⟨hb, a, c, ns, z, k, m, rfl, hF⟩
 rw [exB_rf hp] at hF ⊢
 obtain ⟨h1, h2, h3, h4⟩ := hF
 have e1 : ndsO ns = fd2.ns := (congrArg Fd.ns h2).symm
 have e2 : z = true := (congrArg Fd.z h2).symm
 have e3 : ((k : Nat) : Int) = 0 := (congrArg Fd.k h2).symm
 have e4 : m = false := (congrArg Fd.m h2).symm
 have e5 : ns.length = 1 := by have := congrArg List.length e1; simpa [ndsO] using this
 exact ⟨a, c, by rw [e2, e4, e5, e3]; rfl, hb⟩
def T10 (w : World) : Prop := T8 w ∧ Ety w
theorem T10.later {w w' : World} (h : T10 w) (hb : Below w.heap.size w w') : T10 w' := ⟨h.1.later hb, h.2.later hb⟩
set_option maxHeartbeats 8000000 in
theorem awake10 (w : World) (hT : T10 w) : Calls Tryz.prog 8 #[] w fun e w' => e = .returned (.bool true) ∧ Below w.heap.size w w' := by
 obtain ⟨p, hp⟩ := pm_ex
 have HP := Lib.hid hp
 have HT := Lib.hid hT
 have HA := Lib.hid (readA hp w hT.1.1 hT.2)
 clear hp hT
 go_enter Tryz.func8, Tryz.ntmps8
 go_wp2_with fail
 refine HA.out.mono ?_
 rintro e W1 ⟨a, c, ns, rfl, hN, hns, hlen, hb1⟩
 have hnv := hN.nv
 obtain ⟨⟨a', c', e', _, _, hm⟩, _⟩ := hnv
 rw [hlen] at e'
 cases e'
 obtain ⟨g, off, rfl, hg, hcell⟩ := hm.resolve_left (fun e => by rw [e] at hlen; simp at hlen)
 obtain ⟨n0, n1, hns2⟩ : ∃ n0 n1, ns = [n0, n1] := by
   rcases ns with _ | ⟨n0, _ | ⟨n1, _ | ⟨n2, r⟩⟩⟩ <;> simp at hlen
   exact ⟨n0, n1, rfl⟩
 subst hns2
 have d0 : n0.1 = ⟨0, 0, [4619567317775286272], 5⟩ := by have := congrArg (fun l => l[0]?) hns; simpa [ndsO'] using this
 have d1 : n1.1 = ⟨4602678819172646912, 4607182418800017408, [4620693217682128896], 0⟩ := by have := congrArg (fun l => l[1]?) hns; simpa [ndsO'] using this
 have x0 := (hcell 0 n0 rfl).2.2.2
 have x1 := (hcell 1 n1 rfl).1
 have x2 := (hcell 1 n1 rfl).2.1
 rw [d0] at x0
 rw [d1] at x1 x2
 obtain ⟨W2, hW2⟩ : ∃ W2, Hid (W1.alloc (.cells #[.slice (some ⟨g, off, none⟩) 2 c, .bool false, .int .i64 1, .bool true] 29) = W2) := ⟨_, Lib.hid rfl⟩
 have hb2 : Below W1.heap.size W1 W2 := by rw [← hW2.out]; exact (Below.refl _ _).alloc (Nat.le_refl _) _
 have hb02 : Below w.heap.size w W2 := hb1.trans (hb2.mono hb1.size)
 have cf : CB W2 W1.heap.size #[.slice (some ⟨g, off, none⟩) 2 c, .bool false, .int .i64 1, .bool true] 29 := by rw [← hW2.out]; exact CB.new _ _ _
 have HWr : Hid (Calls Tryz.prog 21 #[.agg #[.slice (some ⟨g, off, none⟩) 2 c, .bool false, .int .i64 1, .bool true]] W2 fun e w' => e = .returned (.tuple #[.string ⟨exA.toArray⟩, .int .i64 0]) ∧ Below W2.heap.size W2 w') := Lib.hid (by
   have hnv2 := (hN.later hb2).nv
   have := writeN_any HP.out _ [n0, n1] false 1 true W2 hnv2 (by simp) (HT.out.1.later hb02)
   rw [hns, exA_wr HP.out] at this
   exact this)
 have HX : Hid (∀ W, Below W2.heap.size W2 W → (W.cell? ⟨g, off + 3, none⟩ = some (.int .i64 5) ∧ W.cell? ⟨g, off + 4, none⟩ = some (.float .f64 4602678819172646912) ∧ W.cell? ⟨g, off + 4 + 1, none⟩ = some (.float .f64 4607182418800017408)) ∧ CB W W1.heap.size #[.slice (some ⟨g, off, none⟩) 2 c, .bool false, .int .i64 1, .bool true] 29 ∧ Below w.heap.size w W) := Lib.hid (fun W hW => by
   have h1 := hb2.trans (hW.mono hb2.size)
   refine ⟨⟨?_, ?_, ?_⟩, cf.later hW, hb02.trans (hW.mono hb02.size)⟩
   · have := cell_later h1 hg x0; simpa using this
   · have := cell_later h1 hg x1; simpa using this
   · have := cell_later h1 hg x2; simpa using this)
 have H02 := Lib.hid hb02
 clear hN hns hlen hb1 hm hcell d0 d1 x0 x1 x2 hb2 hb02 cf HA
 rw [← hW2.out] at HWr HX H02
 go_wp2_with fail
 refine HWr.out.mono ?_
 rintro e W3 ⟨rfl, hb3⟩
 rw [hW2.out] at HX H02 hb3
 have HB := Lib.hid (readB HP.out W3 (HT.out.1.1.later (H02.out.trans (hb3.mono H02.out.size))) (HT.out.2.later (H02.out.trans (hb3.mono H02.out.size))))
 have HB3 := Lib.hid hb3
 clear hb3 HWr
 go_wp2_with fail
 refine HB.out.mono ?_
 rintro e W4 ⟨a4, c4, rfl, hb4⟩
 obtain ⟨W5, hW5⟩ : ∃ W5, Hid (W4.alloc (.cells #[.slice a4 1 c4, .bool true, .int .i64 0, .bool false] 29) = W5) := ⟨_, Lib.hid rfl⟩
 have hb5 : Below W4.heap.size W4 W5 := by rw [← hW5.out]; exact (Below.refl _ _).alloc (Nat.le_refl _) _
 have c5 : CB W5 W4.heap.size #[.slice a4 1 c4, .bool true, .int .i64 0, .bool false] 29 := by rw [← hW5.out]; exact CB.new _ _ _
 obtain ⟨⟨y0, y1, y2⟩, cf, hbw⟩ := HX.out W5 ((HB3.out.trans (hb4.mono HB3.out.size)).trans (hb5.mono (Nat.le_trans HB3.out.size hb4.size)))
 rw [← hW5.out] at y0 y1 y2 cf hbw c5
 obtain ⟨k0, k1, k2, k3⟩ := cf.cells4
 obtain ⟨j0, j1, j2, j3⟩ := c5.cells4
 have HBw := Lib.hid hbw
 clear hb4 hb5 c5 cf hbw HX HB HB3 H02 HP HT
 have q1 : ∀ w, (binOp .eql 59 (.agg #[.float .f64 4602678819172646912, .float .f64 4607182418800017408]) (.agg #[.float .f64 4602678819172646912, .float .f64 4607182418800017408])).run Tryz.prog w = .ok (.bool true) w := fun w => by kernel_rfl
 go_wp2
 go_ret
 exact ⟨rfl, HBw.out⟩
end
end Go.Proofs.YtofklahgpkmfmaaGreatDoor
