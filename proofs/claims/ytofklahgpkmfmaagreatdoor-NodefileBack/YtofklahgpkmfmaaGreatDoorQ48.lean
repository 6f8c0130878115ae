/- Own texts, put together: Qna Qw Qx Qwa Qxa Qy Qze. -/
import Derived.Test.YtofklahgpkmfmaaGreatDoorQ32
import Derived.Test.YtofklahgpkmfmaaGreatDoorQ44
import Derived.Test.YtofklahgpkmfmaaGreatDoorQ46
import Derived.Test.YtofklahgpkmfmaaGreatDoorQ47
namespace Go.Proofs.YtofklahgpkmfmaaGreatDoor
/- Package nodefile: Read. -/
section
set_option maxRecDepth 100000
open Go.RowKit Go.Shelf Go.Lib
theorem rdV_short {t : Bs} {q : Nat × List Bs} (hq : q ∈ (rdV t).1) : (∀ x ∈ q.2, x.length ≤ 400) := by
 have h0 := (rdV_word hq).2.2.1
 have hlen : t.length ≤ 16777216 := by
   rcases Nat.lt_or_ge 16777216 t.length with h | h
   · rw [rdV_long h] at hq; simp at hq
   · exact h
 have key : bad 1 (lns t) = none := by
   cases hb : bad 1 (lns t) with
   | none => rfl
   | some p => obtain ⟨n, e⟩ := p; rw [rdV_bad hlen hb] at hq; simp at hq
 rw [rdV_good hlen key] at hq
 intro x hx
 have := ((good_fits (lns t) 1 key).1 q hq).1
 have hm := (ok_may this).2 x hx
 unfold mayW at hm
 rw [Bool.and_eq_true, Bool.and_eq_true] at hm
 simpa using hm.1.2
theorem good_no : ∀ (ls : List Bs) (n : Nat), ∀ q ∈ good n ls, q.1 ≤ n + ls.length := by
 intro ls
 induction ls with
 | nil => intro n q hq; simp [good] at hq
 | cons l r ih =>
   intro n q hq
   rw [good] at hq
   rcases List.mem_append.1 hq with e | e
   · split at e
     · simp at e
     · rw [List.mem_singleton.1 e]; simp
   · have := ih (n + 1) q e
     rw [List.length_cons]; omega
theorem rdV_no {t : Bs} {q : Nat × List Bs} (hq : q ∈ (rdV t).1) : q.1 ≤ 16777218 := by
 have hlen : t.length ≤ 16777216 := by
   rcases Nat.lt_or_ge 16777216 t.length with h | h
   · rw [rdV_long h] at hq; simp at hq
   · exact h
 unfold rdV at hq
 rw [if_neg (by omega)] at hq
 split at hq
 · simp at hq
 · have := good_no _ _ q hq
   have h2 := lns_len t
   omega
theorem rdV_count (t : Bs) : (rdV t).1.length ≤ 16777217 := by
 unfold rdV
 split
 · simp
 · split
   · simp
   · have := good_len (lns t) 1
     have h2 := lns_len t
     simp only []
     omega
def ReadNR (p : Pm) (w w' : World) (t : Bs) (v : Ending) : Prop :=
 Below w.heap.size w w' ∧ ∃ a c ns z k m, v = .returned (.tuple #[.agg #[.slice a ns.length c, .bool z, .int .i64 (k : Nat), .bool m], .int .i64 ((rfV p t).2.1 : Nat), .int .i64 (rfV p t).2.2]) ∧ FileR w w' a c ns z k m (rfV p t).1
theorem res_readN (W : World) (B : Nat) (a b c d : Value) (n1 n2 : Int) (tmps : Array Value) (h : CB W B #[a, b, c, d] 29)
   (t2 : tmps[2]? = some (.pointer (some ⟨B, 0, none⟩))) (t3 : tmps[3]? = some (.int .i64 n1)) (t4 : tmps[4]? = some (.int .i64 n2)) : (results Tryz.f10 tmps).run Tryz.prog W = .ok (.tuple #[.agg #[a, b, c, d], .int .i64 n1, .int .i64 n2]) W := by
 have c0 := h.cell 0 (by simp)
 have c1 := h.cell 1 (by simp)
 have c2 := h.cell 2 (by simp)
 have c3 := h.cell 3 (by simp)
 simp [results, Tryz.f10, go_sem, c0, c1, c2, c3, t2, t3, t4]
set_option maxHeartbeats 8000000 in
theorem readN_any {p : Pm} (hp : p.Ok) (s : ByteArray) (t : Bs) (w : World) (ht : s.data.toList = t) (hl : t.length ≤ 9223372036854775807) (hT : Tab w) (hE : Ety w) :
   Calls Tryz.prog 10 #[.string s] w fun e w' => ReadNR p w w' t e := by
 obtain ⟨W0, hW0⟩ : ∃ W0, w.alloc (.cells fz4 29) = W0 := ⟨_, rfl⟩
 have b0 : Below w.heap.size w W0 := by rw [← hW0]; exact (Below.refl _ w).alloc (Nat.le_refl _) _
 have c0 : CB W0 w.heap.size fz4 29 := by rw [← hW0]; exact CB.new w _ _
 have HP := Lib.hid hp
 have HR := Lib.hid (readS s t W0 ht hl)
 have H0 : Hid (Below w.heap.size w W0 ∧ CB W0 w.heap.size fz4 29 ∧ Ety W0 ∧ Tab W0 ∧ w.heap.size + 1 = W0.heap.size) := Lib.hid ⟨b0, c0, hE.later b0, hT.later b0, by rw [← hW0]; simp⟩
 clear hp ht hl hT hE b0 c0
 go_enter Tryz.func10, Tryz.ntmps10
 go_wp2_with fail
 try rw [hW0]
 clear hW0
 refine HR.out.mono ?_
 rintro e W1 ⟨a1, c1, ps, rfl, hLr, htell, hlen, hb1⟩
 have HW1 : Hid (CB W1 w.heap.size fz4 29 ∧ Below w.heap.size w W1 ∧ Ety W1 ∧ Tab W1 ∧ w.heap.size < W1.heap.size) := Lib.hid ⟨H0.out.2.1.later hb1, H0.out.1.trans (hb1.mono H0.out.1.size), H0.out.2.2.1.later hb1, H0.out.2.2.2.1.later hb1, by have := hb1.size; have := H0.out.2.2.2.2; omega⟩
 obtain ⟨er, her⟩ : ∃ er : Nat, Hid ((rdV t).2.2 = er) := ⟨_, Lib.hid rfl⟩
 obtain ⟨al, hal⟩ : ∃ al : Nat, Hid ((rdV t).2.1 = al) := ⟨_, Lib.hid rfl⟩
 obtain ⟨nl, hnl⟩ : ∃ nl : Nat, Hid ((rdV t).1.length = nl) := ⟨_, Lib.hid rfl⟩
 rw [her.out, hal.out, hnl.out]
 rw [hnl.out] at hLr hlen
 have HLr := Lib.hid hLr
 have HTl := Lib.hid htell
 have HLe := Lib.hid hlen
 have hnl' : nl ≤ 16777217 := by rw [← hnl.out]; exact rdV_count t
 have hnl2 : (nl : Int) ≤ 16777217 := by omega
 have hW0s : Hid (w.heap.size < W0.heap.size) := Lib.hid (by have := H0.out.2.2.2.2; omega)
 clear hLr htell hlen hb1 H0 HR
 by_cases h0 : er = 0
 · subst h0
   have hlw : Lw W1 (.slice a1 nl c1) ps := by
     have := HLr.out.lw (fun q hq x hx => by
       have hm : (q.1, q.2.1) ∈ (rdV t).1 := by rw [← HTl.out]; exact List.mem_map.2 ⟨q, hq, rfl⟩
       have := rdV_short hm x hx
       omega)
     exact this
   have HTk : Hid (Calls Tryz.prog 16 #[.slice a1 nl c1] W1 fun e w' => TakeR p W1 w' (tell ps) e) := Lib.hid (take_any HP.out _ ps W1 hlw (fun q hq x hx => by
       have hm : (q.1, q.2.1) ∈ (rdV t).1 := by rw [← HTl.out]; exact List.mem_map.2 ⟨q, hq, rfl⟩
       have := rdV_short hm x hx
       omega) (by rw [HLe.out]; omega) (fun q hq => by
       have hm : (q.1, q.2.1) ∈ (rdV t).1 := by rw [← HTl.out]; exact List.mem_map.2 ⟨q, hq, rfl⟩
       have : q.1 ≤ 16777218 := rdV_no hm
       omega) HW1.out.2.2.2.1 HW1.out.2.2.1)
   have HLw := Lib.hid hlw
   clear hlw
   obtain ⟨q, hq⟩ : ∃ q, Hid (tkV p (tell ps) = q) := ⟨_, Lib.hid rfl⟩
   unfold TakeR at HTk
   rw [hq.out] at HTk
   have HRf : Hid (rfV p t = if q.2.2.2 = 0 then (if q.2.1 < nl then ((⟨[], false, 0, false⟩ : Fd), ((rdV t).1.getD q.2.1 (0, [])).1, (4 : Int)) else (q.1, 0, 0)) else (⟨[], false, 0, false⟩, q.2.2.1, q.2.2.2)) := Lib.hid (by
     unfold rfV
     rw [if_pos her.out]
     simp only []
     rw [← HTl.out, hq.out, HTl.out, hnl.out])
   obtain ⟨f, n1, at', ex⟩ := q
   try dsimp only at HRf
   go_wp2_with fail
   refine HTk.out.mono ?_
   rintro e W2 ⟨hb2, a, c, ns, z, k, m, rfl, hF⟩
   have c2 : CB W2 w.heap.size fz4 29 := HW1.out.1.later hb2
   have bw2 : Below w.heap.size w W2 := HW1.out.2.1.trans (hb2.mono HW1.out.2.1.size)
   have HN1 : Hid (n1 ≤ 1048577 ∨ True) := Lib.hid (Or.inr trivial)
   obtain ⟨W3, hW3⟩ : ∃ W3, Hid (W2.alloc (.cells #[.slice a ns.length c, .bool z, .int .i64 (k : Nat), .bool m] 29) = W3) := ⟨_, Lib.hid rfl⟩
   have b3 : Below W2.heap.size W2 W3 := by rw [← hW3.out]; exact (Below.refl _ W2).alloc (Nat.le_refl _) _
   have HC : Hid (CB W3 w.heap.size fz4 29 ∧ Below w.heap.size w W3 ∧ CB W3 W2.heap.size #[.slice a ns.length c, .bool z, .int .i64 (k : Nat), .bool m] 29 ∧ FileR W1 W3 a c ns z k m f ∧ w.heap.size < W1.heap.size ∧ w.heap.size < W2.heap.size) := Lib.hid ⟨c2.later b3, bw2.trans (b3.mono bw2.size), by rw [← hW3.out]; exact CB.new W2 _ _, ⟨hF.row.later b3, hF.is, hF.k16, hF.len⟩, HW1.out.2.2.2.2, Nat.lt_of_lt_of_le HW1.out.2.2.2.2 hb2.size⟩
   have HLw3 := Lib.hid ((HLw.out.later hb2).later b3)
   clear c2 bw2 b3 hb2 hF HTk HW1 HLw
   try dsimp only at hq
   rw [← hW3.out] at HC HLw3
   clear hW3 HN1
   by_cases hx0 : ex = 0
   · subst hx0
     by_cases hlt : n1 < nl
     · have hlt' : (n1 : Int) < (nl : Int) := by omega
       have hn0 : (0 : Int) ≤ (n1 : Int) := by omega
       obtain ⟨q, hqq⟩ : ∃ q, ps[n1]? = some q := ⟨_, List.getElem?_eq_getElem (by rw [HLe.out]; exact hlt)⟩
       have HRf2 : Hid (rfV p t = ((⟨[], false, 0, false⟩ : Fd), q.1, (4 : Int))) := Lib.hid (by
         rw [HRf.out, if_pos rfl, if_pos hlt, ← HTl.out, List.getD_eq_getElem?_getD]
         unfold tell
         rw [List.getElem?_map, hqq]; rfl)
       obtain ⟨⟨a2, c2, e2, _, _, hm⟩, _⟩ := HLw3.out
       obtain ⟨g, off, hga, hg, hcell⟩ := hm.resolve_left (fun e => by rw [e] at hqq; simp at hqq)
       cases e2
       subst hga
       obtain ⟨W, hW⟩ : ∃ W, (W2.alloc (.cells #[.slice a ns.length c, .bool z, .int .i64 (k : Nat), .bool m] 29)).drew = W := ⟨_, rfl⟩
       have kno : W.cell? ⟨g, off + n1 * 2, none⟩ = some (.int .i64 (q.1 : Nat)) := by rw [← hW]; exact (hcell n1 q hqq).1
       have HR0 : Hid (CB W w.heap.size fz4 29 ∧ Below w.heap.size w W) := Lib.hid (by rw [← hW]; exact ⟨HC.out.1, HC.out.2.1.drew⟩)
       obtain ⟨k20, k21, k22, k23⟩ := HR0.out.1.cells4
       have f20 := HR0.out.1.frozen 0
       have f21 := HR0.out.1.frozen 1
       have f22 := HR0.out.1.frozen 2
       have f23 := HR0.out.1.frozen 3
       have hgw : g ≠ w.heap.size := by
         have h1 := (World.ownsRow.lt HLr.out.own g rfl).1
         have h2 := hW0s.out
         omega
       have hgw2 : w.heap.size ≠ g := fun e => hgw e.symm
       clear hcell hm hqq HLw3 HC
       go_wp2_with fail
       go_region
       all_goals
         go_wp2
         refine bodyPost_ret (res_readN _ w.heap.size _ _ _ _ _ _ _ (set4 HR0.out.1 _ _ _ _) rfl rfl rfl) rfl ?_
         refine ⟨(((HR0.out.2.setCell (Nat.le_refl _) _).setCell (Nat.le_refl _) _).setCell (Nat.le_refl _) _).setCell (Nat.le_refl _) _, none, 0, [], false, 0, false, by rw [HRf2.out]; rfl, ⟨Nr.nil (World.ownsRow_nil _ _ _ _), by rw [HRf2.out]; rfl, by omega, by simp⟩⟩
     · have hlt' : ¬ ((n1 : Int) < (nl : Int)) := by omega
       have HRf2 : Hid (rfV p t = (f, 0, (0 : Int))) := Lib.hid (by rw [HRf.out, if_pos rfl, if_neg hlt])
       obtain ⟨k40, k41, k42, k43⟩ := HC.out.2.2.1.cells4
       obtain ⟨k20, k21, k22, k23⟩ := HC.out.1.cells4
       have f20 := HC.out.1.frozen 0
       have f21 := HC.out.1.frozen 1
       have f22 := HC.out.1.frozen 2
       have f23 := HC.out.1.frozen 3
       go_wp2
       refine bodyPost_ret (res_readN _ w.heap.size _ _ _ _ _ _ _ (set4 HC.out.1 _ _ _ _) rfl rfl rfl) rfl ?_
       refine ⟨(((HC.out.2.1.setCell (Nat.le_refl _) _).setCell (Nat.le_refl _) _).setCell (Nat.le_refl _) _).setCell (Nat.le_refl _) _, a, c, ns, z, k, m, by rw [HRf2.out]; rfl, ⟨(HC.out.2.2.2.1.row.ob (ob_set4 _ _ _ _ _ _) HC.out.2.2.2.2.1).base (by have := HC.out.2.2.2.2.1; omega), by rw [HRf2.out]; exact HC.out.2.2.2.1.is, HC.out.2.2.2.1.k16, HC.out.2.2.2.1.len⟩⟩
   · have hx' : (ex == 0) = false := by simpa using hx0
     have HRf2 : Hid (rfV p t = ((⟨[], false, 0, false⟩ : Fd), at', ex)) := Lib.hid (by rw [HRf.out, if_neg hx0])
     obtain ⟨k20, k21, k22, k23⟩ := HC.out.1.cells4
     have f20 := HC.out.1.frozen 0
     have f21 := HC.out.1.frozen 1
     have f22 := HC.out.1.frozen 2
     have f23 := HC.out.1.frozen 3
     go_wp2
     refine bodyPost_ret (res_readN _ w.heap.size _ _ _ _ _ _ _ (set4 HC.out.1 _ _ _ _) rfl rfl rfl) rfl ?_
     refine ⟨(((HC.out.2.1.setCell (Nat.le_refl _) _).setCell (Nat.le_refl _) _).setCell (Nat.le_refl _) _).setCell (Nat.le_refl _) _, none, 0, [], false, 0, false, by rw [HRf2.out]; rfl, ⟨Nr.nil (World.ownsRow_nil _ _ _ _), by rw [HRf2.out]; rfl, by omega, by simp⟩⟩
 · have h0' : ((er : Int) == 0) = false := by rw [beq_eq_false_iff_ne]; omega
   have h0n : ¬ ((er : Int) = 0) := by omega
   have HRf : Hid (rfV p t = ((⟨[], false, 0, false⟩ : Fd), al, (er : Int))) := Lib.hid (by
     unfold rfV
     rw [if_neg (by rw [her.out]; exact h0), her.out, hal.out])
   obtain ⟨k20, k21, k22, k23⟩ := HW1.out.1.cells4
   have f20 := HW1.out.1.frozen 0
   have f21 := HW1.out.1.frozen 1
   have f22 := HW1.out.1.frozen 2
   have f23 := HW1.out.1.frozen 3
   go_wp2
   refine bodyPost_ret (res_readN _ w.heap.size _ _ _ _ _ _ _ (set4 HW1.out.1 _ _ _ _) rfl rfl rfl) rfl ?_
   refine ⟨(((HW1.out.2.1.setCell (Nat.le_refl _) _).setCell (Nat.le_refl _) _).setCell (Nat.le_refl _) _).setCell (Nat.le_refl _) _, none, 0, [], false, 0, false, by rw [HRf.out]; rfl, ⟨Nr.nil (World.ownsRow_nil _ _ _ _), by rw [HRf.out]; rfl, by omega, by simp⟩⟩
end

/- The first example of chapter 10: plain. -/
section
set_option maxRecDepth 100000
open Go.RowKit Go.Shelf Go.Lib
theorem rf_of {p : Pm} (hp : p.Ok) {l : Bs} {n e : Int} {v : Nat} (ht : rdTell l = some (n, e)) (fv : Fin64 v) (lv : v < 18446744073709551616) (hv : fval v = (n : Rat) * p2 e) (h0 : n = 0 → v = 0) : p.rf l = (v, 0) := by
 have := FloatR.ok (hp.rf l) ht fv lv hv h0
 exact Prod.ext this.1 this.2
theorem rf_form {p : Pm} (hp : p.Ok) {l : Bs} (ht : rdTell l = none) : p.rf l = (0, 4) := by
 have := FloatR.form (hp.rf l) ht
 exact Prod.ext this.1 this.2
theorem pt_yes {p : Pm} (hp : p.Ok) {x y : Nat} (h : Pt x y) : p.pt x y = true := (hp.pt x y).2 h
theorem pt_no {p : Pm} (hp : p.Ok) {x y : Nat} (h : ¬ Pt x y) : p.pt x y = false := by
 cases hq : p.pt x y
 · rfl
 · exact absurd ((hp.pt x y).1 hq) h
theorem rf_0 {p : Pm} (hp : p.Ok) : p.rf [48] = (0, 0) := rf_of hp (n := 0) (e := 0) (by decide +kernel) (by unfold Fin64 frung; decide) (by decide) (by decide +kernel) (by decide)
theorem rf_1 {p : Pm} (hp : p.Ok) : p.rf [49] = (4607182418800017408, 0) := rf_of hp (n := 1) (e := 0) (by decide +kernel) (by unfold Fin64 frung; decide) (by decide) (by decide +kernel) (by decide)
theorem rf_7 {p : Pm} (hp : p.Ok) : p.rf [55] = (4619567317775286272, 0) := rf_of hp (n := 7) (e := 0) (by decide +kernel) (by unfold Fin64 frung; decide) (by decide) (by decide +kernel) (by decide)
theorem rf_8 {p : Pm} (hp : p.Ok) : p.rf [56] = (4620693217682128896, 0) := rf_of hp (n := 8) (e := 0) (by decide +kernel) (by unfold Fin64 frung; decide) (by decide) (by decide +kernel) (by decide)
theorem rf_3 {p : Pm} (hp : p.Ok) : p.rf [51] = (4613937818241073152, 0) := rf_of hp (n := 3) (e := 0) (by decide +kernel) (by unfold Fin64 frung; decide) (by decide) (by decide +kernel) (by decide)
theorem rf_4 {p : Pm} (hp : p.Ok) : p.rf [52] = (4616189618054758400, 0) := rf_of hp (n := 4) (e := 0) (by decide +kernel) (by unfold Fin64 frung; decide) (by decide) (by decide +kernel) (by decide)
theorem rf_1bm1 {p : Pm} (hp : p.Ok) : p.rf [49, 98, 45, 49] = (4602678819172646912, 0) := rf_of hp (n := 1) (e := -1) (by decide +kernel) (by unfold Fin64 frung; decide) (by decide) (by decide +kernel) (by decide)
theorem it_0 : itoa (0) = [48] := (itoa_rd (l := [48]) (n := 0) (by decide +kernel)).2
theorem it_1 : itoa (1) = [49] := (itoa_rd (l := [49]) (n := 1) (by decide +kernel)).2
theorem it_2 : itoa (2) = [50] := (itoa_rd (l := [50]) (n := 2) (by decide +kernel)).2
theorem it_5 : itoa (5) = [53] := (itoa_rd (l := [53]) (n := 5) (by decide +kernel)).2
theorem it_7 : itoa (7) = [55] := (itoa_rd (l := [55]) (n := 7) (by decide +kernel)).2
theorem it_8 : itoa (8) = [56] := (itoa_rd (l := [56]) (n := 8) (by decide +kernel)).2
theorem it_m1 : itoa (-1) = [45, 49] := (itoa_rd (l := [45, 49]) (n := -1) (by decide +kernel)).2
theorem tx_0 {p : Pm} (hp : p.Ok) : p.tx 0 = [48] := by
 rw [(hp.tx 0 (by decide)).whole (by unfold Fin64 frung; decide) (k := 0) (by decide +kernel) (by decide) (by decide), it_0]
theorem tx_1 {p : Pm} (hp : p.Ok) : p.tx 4607182418800017408 = [49] := by
 rw [(hp.tx 4607182418800017408 (by decide)).whole (by unfold Fin64 frung; decide) (k := 1) (by decide +kernel) (by decide) (by decide), it_1]
theorem tx_7 {p : Pm} (hp : p.Ok) : p.tx 4619567317775286272 = [55] := by
 rw [(hp.tx 4619567317775286272 (by decide)).whole (by unfold Fin64 frung; decide) (k := 7) (by decide +kernel) (by decide) (by decide), it_7]
theorem tx_8 {p : Pm} (hp : p.Ok) : p.tx 4620693217682128896 = [56] := by
 rw [(hp.tx 4620693217682128896 (by decide)).whole (by unfold Fin64 frung; decide) (k := 8) (by decide +kernel) (by decide) (by decide), it_8]
theorem nw_half {x : Nat} (hv : fval x = ((1 : Int) : Rat) * p2 (-1)) : ¬ ∃ k : Int, fval x = (k : Rat) ∧ -9007199254740992 < k ∧ k < 9007199254740992 := by
 rintro ⟨k, e, _, _⟩
 rw [hv] at e
 have e2 : ((1 : Int) : Rat) * p2 (-1) = ((2 * k : Int) : Rat) * p2 (-1) := by
   rw [e, Rat.intCast_mul, Rat.mul_comm ((2 : Int) : Rat), Rat.mul_assoc]
   have : ((2 : Int) : Rat) * p2 (-1) = 1 := by decide +kernel
   rw [this, Rat.mul_one]
 have := int_eq (p2_pos _) e2
 omega
theorem tx_half {p : Pm} (hp : p.Ok) : p.tx 4602678819172646912 = [49, 98, 45, 49] := by
 have hv : fval 4602678819172646912 = ((1 : Int) : Rat) * p2 (-1) := by decide +kernel
 rw [(hp.tx 4602678819172646912 (by decide)).odd (by unfold Fin64 frung; decide) (n := 1) (e := -1) (by decide) hv (nw_half hv), it_1, it_m1]
 rfl
abbrev exA : Bs := [50, 32, 50, 32, 49, 32, 49, 10, 49, 32, 48, 32, 48, 32, 55, 32, 53, 10, 50, 32, 49, 98, 45, 49, 32, 49, 32, 56, 32, 48, 10]
abbrev exB : Bs := [49, 32, 50, 32, 48, 32, 48, 10, 48, 32, 51, 32, 52, 10]
theorem exA_rd : rdV exA = ([(1, [[50], [50], [49], [49]]), (2, [[49], [48], [48], [55], [53]]), (3, [[50], [49, 98, 45, 49], [49], [56], [48]])], 0, 0) := by decide +kernel
theorem exB_rd : rdV exB = ([(1, [[49], [50], [48], [48]]), (2, [[48], [51], [52]])], 0, 0) := by decide +kernel
abbrev fd1 : Fd := ⟨[⟨0, 0, [4619567317775286272], 5⟩, ⟨4602678819172646912, 4607182418800017408, [4620693217682128896], 0⟩], false, 1, true⟩
abbrev fd2 : Fd := ⟨[⟨4613937818241073152, 4616189618054758400, [], 0⟩], true, 0, false⟩
theorem ri_0 : rdInt [48] = some 0 := by decide +kernel
theorem ri_1 : rdInt [49] = some 1 := by decide +kernel
theorem ri_2 : rdInt [50] = some 2 := by decide +kernel
theorem ri_5 : rdInt [53] = some 5 := by decide +kernel
theorem exA_go {p : Pm} (hp : p.Ok) : goN p 1 true 0 false [(2, [[49], [48], [48], [55], [53]]), (3, [[50], [49, 98, 45, 49], [49], [56], [48]])] = .inr (fd1.ns, false) := by
 have q1 : p.pt 0 0 = true := pt_yes hp (by decide +kernel)
 have q2 : p.pt 4602678819172646912 4607182418800017408 = true := pt_yes hp (by decide +kernel)
 have n1 : ndE p 1 true (mayN 0 false) [[49], [48], [48], [55], [53]] = 0 := by
   simp [ndE, wid, intE, mayN, fst0, ri_1, ri_5, rf_0 hp, rf_7 hp, q1]
 have n2 : ndE p 1 true (mayN 1 false) [[50], [49, 98, 45, 49], [49], [56], [48]] = 0 := by
   simp [ndE, wid, intE, mayN, fst0, ri_0, ri_2, rf_1bm1 hp, rf_1 hp, rf_8 hp, q2]
 have z1 : zN 0 false [49] = false := by simp [zN, ri_1]
 have z2 : zN 1 false [50] = false := by simp [zN]
 simp [goN, n1, n2, z1, z2, ndV, rf_0 hp, rf_7 hp, rf_1bm1 hp, rf_1 hp, rf_8 hp, ri_5, ri_0]
theorem exA_rf {p : Pm} (hp : p.Ok) : rfV p exA = (fd1, 0, 0) := by
 have h1 : hdE [[50], [50], [49], [49]] = 0 := by decide +kernel
 have h2 : hdP [[50], [50], [49], [49]] = some (2, 1, true) := by decide +kernel
 unfold rfV
 rw [exA_rd]
 simp [tkV, h1, h2, exA_go hp]
theorem exB_go {p : Pm} (hp : p.Ok) : goN p 0 false 0 false [(2, [[48], [51], [52]])] = .inr (fd2.ns, true) := by
 have q1 : p.pt 4613937818241073152 4616189618054758400 = true := pt_yes hp (by decide +kernel)
 have n1 : ndE p 0 false (mayN 0 false) [[48], [51], [52]] = 0 := by
   simp [ndE, wid, intE, mayN, fst0, ri_0, rf_3 hp, rf_4 hp, q1]
 simp [goN, n1, zN, ndV, rf_3 hp, rf_4 hp, ri_0]
theorem exB_rf {p : Pm} (hp : p.Ok) : rfV p exB = (fd2, 0, 0) := by
 have h1 : hdE [[49], [50], [48], [48]] = 0 := by decide +kernel
 have h2 : hdP [[49], [50], [48], [48]] = some (1, 0, false) := by decide +kernel
 unfold rfV
 rw [exB_rd]
 simp [tkV, h1, h2, exB_go hp]
theorem exA_fl {p : Pm} (hp : p.Ok) : flW p fd1 = [[[50], [50], [49], [49]], [[49], [48], [48], [55], [53]], [[50], [49, 98, 45, 49], [49], [56], [48]]] := by
 simp [flW, ndsW, ndW, it_0, it_1, it_2, it_5, tx_0 hp, tx_1 hp, tx_7 hp, tx_8 hp, tx_half hp]
theorem exA_wr {p : Pm} (hp : p.Ok) : wrN p fd1 = (exA, 0) := by
 have q1 : p.pt 0 0 = true := pt_yes hp (by decide +kernel)
 have q2 : p.pt 4602678819172646912 4607182418800017408 = true := pt_yes hp (by decide +kernel)
 have a1 : endl 4619567317775286272 = false := by decide +kernel
 have a2 : endl 4620693217682128896 = false := by decide +kernel
 have hw : wrongN p fd1 = 0 := by
   simp [wrongN, amiss, a1, a2, q1, q2]
 unfold wrN
 rw [if_pos hw, exA_fl hp]
 decide +kernel
end

/- NodefileNames: its table, and what package nodefile tells of it. (gen_qx.py) -/
section
set_option maxRecDepth 100000
open Go.RowKit Go.Shelf Go.Lib
def sX : Nat → Bs
 | 0 => []
 | 1 => [35, 32, 110, 111, 32, 108, 105, 110, 101, 10]
 | 2 => [49, 32, 50, 32, 48, 32, 48]
 | 3 => [10, 49, 32, 50, 32, 48, 32, 48, 10, 10]
 | 4 => [49, 32, 50, 32, 48, 32, 48, 10, 50, 32, 48, 32, 48, 10]
 | 5 => [49, 32, 51, 32, 48, 32, 48, 10]
 | 6 => [49, 32, 50, 32, 49, 55, 32, 48, 10]
 | 7 => [49, 48, 52, 56, 53, 55, 55, 32, 50, 32, 48, 32, 48, 10]
 | 8 => [45, 49, 32, 50, 32, 48, 32, 48, 10]
 | 9 => [49, 32, 50, 32, 48, 32, 48, 10, 49, 32, 49, 98, 49, 53, 48, 32, 48, 10]
 | 10 => [49, 32, 50, 32, 48, 32, 48, 10, 49, 32, 49, 98, 50, 48, 48, 48, 32, 48, 10]
 | 11 => [49, 32, 50, 32, 48, 32, 48, 10, 49, 32, 120, 32, 49, 98, 49, 53, 48, 10]
 | 12 => [49, 32, 50, 32, 48, 32, 48, 10, 49, 32, 49, 98, 49, 53, 48, 32, 120, 10]
 | 13 => [49, 32, 50, 32, 48, 32, 48, 10, 49, 32, 48, 32, 48, 10, 50, 32, 48, 32, 48, 10]
 | 14 => [49, 32, 50, 32, 48, 32, 50, 10]
 | 15 => [49, 32, 50, 32, 48, 10]
 | 16 => [48, 32, 50, 32, 48, 32, 48, 10]
 | 17 => [49, 32, 50, 32, 48, 32, 49, 10, 48, 32, 49, 32, 49, 32, 45, 53, 10]
 | 18 => [50, 32, 50, 32, 48, 32, 48, 10, 49, 32, 48, 32, 48, 10, 51, 32, 48, 32, 48, 10]
 | 19 => [49, 32, 50, 32, 48, 32, 49, 10, 48, 32, 49, 98, 49, 53, 48, 32, 49, 32, 120, 10]
 | 20 => [49, 32, 50, 32, 49, 32, 48, 10, 49, 32, 49, 98, 49, 53, 48, 32, 49, 32, 120, 10]
 | _ => []
def aX : Nat → Nat
 | 0 => 1
 | 1 => 1
 | 2 => 2
 | 3 => 3
 | 4 => 2
 | 5 => 1
 | 6 => 1
 | 7 => 1
 | 8 => 1
 | 9 => 2
 | 10 => 2
 | 11 => 2
 | 12 => 2
 | 13 => 3
 | 14 => 1
 | 15 => 1
 | 16 => 0
 | 17 => 0
 | 18 => 3
 | 19 => 2
 | 20 => 2
 | _ => 0
def eX : Nat → Int
 | 0 => 4
 | 1 => 4
 | 2 => 4
 | 3 => 4
 | 4 => 4
 | 5 => 4
 | 6 => 3
 | 7 => 3
 | 8 => 4
 | 9 => 10
 | 10 => 10
 | 11 => 4
 | 12 => 4
 | 13 => 4
 | 14 => 4
 | 15 => 4
 | 16 => 0
 | 17 => 0
 | 18 => 4
 | 19 => 10
 | 20 => 10
 | _ => 0
theorem rf_150 {p : Pm} (hp : p.Ok) : p.rf [49, 98, 49, 53, 48] = (5282722362905591808, 0) := rf_of hp (n := 1) (e := 150) (by decide +kernel) (by unfold Fin64 frung; decide) (by decide) (by decide +kernel) (by decide)
theorem rf_x {p : Pm} (hp : p.Ok) : p.rf [120] = (0, 4) := rf_form hp (by decide +kernel)
theorem rf_2000 {p : Pm} (hp : p.Ok) : p.rf [49, 98, 50, 48, 48, 48] = (0, 10) := by
 have := FloatR.no (hp.rf [49, 98, 50, 48, 48, 48]) (n := 1) (e := 2000) (by decide +kernel) (no_high (by decide) (by decide))
 exact Prod.ext this.1 this.2
theorem ri_3 : rdInt [51] = some 3 := by decide +kernel
theorem ri_m5 : rdInt [45, 53] = some (-5) := by decide +kernel
theorem rX0 {p : Pm} (_ : p.Ok) : (rfV p (sX 0)).2 = (aX 0, eX 0) := by
 have h0 : rdV (sX 0) = ([], 0, 0) := by decide +kernel
 unfold rfV
 rw [h0]
 simp [tkV, aX, eX]
theorem rX1 {p : Pm} (_ : p.Ok) : (rfV p (sX 1)).2 = (aX 1, eX 1) := by
 have h0 : rdV (sX 1) = ([], 0, 0) := by decide +kernel
 unfold rfV
 rw [h0]
 simp [tkV, aX, eX]
theorem rX2 {p : Pm} (_ : p.Ok) : (rfV p (sX 2)).2 = (aX 2, eX 2) := by
 have h0 : rdV (sX 2) = ([(1, [[49], [50], [48], [48]])], 0, 0) := by decide +kernel
 have h1 : hdE [[49], [50], [48], [48]] = 0 := by decide +kernel
 have h2 : hdP [[49], [50], [48], [48]] = some (1, 0, false) := by decide +kernel
 unfold rfV
 rw [h0]
 simp [tkV, goN, aX, eX, *]
theorem rX3 {p : Pm} (_ : p.Ok) : (rfV p (sX 3)).2 = (aX 3, eX 3) := by
 have h0 : rdV (sX 3) = ([(2, [[49], [50], [48], [48]])], 0, 0) := by decide +kernel
 have h1 : hdE [[49], [50], [48], [48]] = 0 := by decide +kernel
 have h2 : hdP [[49], [50], [48], [48]] = some (1, 0, false) := by decide +kernel
 unfold rfV
 rw [h0]
 simp [tkV, goN, aX, eX, *]
theorem rX4 {p : Pm} (hp : p.Ok) : (rfV p (sX 4)).2 = (aX 4, eX 4) := by
 have h0 : rdV (sX 4) = ([(1, [[49], [50], [48], [48]]), (2, [[50], [48], [48]])], 0, 0) := by decide +kernel
 have h1 : hdE [[49], [50], [48], [48]] = 0 := by decide +kernel
 have h2 : hdP [[49], [50], [48], [48]] = some (1, 0, false) := by decide +kernel
 have q0 : p.pt 0 0 = true := pt_yes hp (by decide +kernel)
 have q1 : p.pt 4607182418800017408 4607182418800017408 = true := pt_yes hp (by decide +kernel)
 have q2 : p.pt 5282722362905591808 0 = false := pt_no hp (by decide +kernel)
 have q3 : p.pt 5282722362905591808 4607182418800017408 = false := pt_no hp (by decide +kernel)
 have i0 := ri_0
 have i1 := ri_1
 have i2 := ri_2
 have i3 := ri_3
 have i5 := ri_m5
 have g0 := rf_0 hp
 have g1 := rf_1 hp
 have g2 := rf_150 hp
 have g3 := rf_2000 hp
 have g4 := rf_x hp
 unfold rfV
 rw [h0]
 simp [tkV, goN, ndE, wid, intE, mayN, fst0, aX, eX, *]
theorem rX5 {p : Pm} (_ : p.Ok) : (rfV p (sX 5)).2 = (aX 5, eX 5) := by
 have h0 : rdV (sX 5) = ([(1, [[49], [51], [48], [48]])], 0, 0) := by decide +kernel
 have h1 : hdE [[49], [51], [48], [48]] = 4 := by decide +kernel
 unfold rfV
 rw [h0]
 simp [tkV, h1, aX, eX]
theorem rX6 {p : Pm} (_ : p.Ok) : (rfV p (sX 6)).2 = (aX 6, eX 6) := by
 have h0 : rdV (sX 6) = ([(1, [[49], [50], [49, 55], [48]])], 0, 0) := by decide +kernel
 have h1 : hdE [[49], [50], [49, 55], [48]] = 3 := by decide +kernel
 unfold rfV
 rw [h0]
 simp [tkV, h1, aX, eX]
theorem rX7 {p : Pm} (_ : p.Ok) : (rfV p (sX 7)).2 = (aX 7, eX 7) := by
 have h0 : rdV (sX 7) = ([(1, [[49, 48, 52, 56, 53, 55, 55], [50], [48], [48]])], 0, 0) := by decide +kernel
 have h1 : hdE [[49, 48, 52, 56, 53, 55, 55], [50], [48], [48]] = 3 := by decide +kernel
 unfold rfV
 rw [h0]
 simp [tkV, h1, aX, eX]
theorem rX8 {p : Pm} (_ : p.Ok) : (rfV p (sX 8)).2 = (aX 8, eX 8) := by
 have h0 : rdV (sX 8) = ([(1, [[45, 49], [50], [48], [48]])], 0, 0) := by decide +kernel
 have h1 : hdE [[45, 49], [50], [48], [48]] = 4 := by decide +kernel
 unfold rfV
 rw [h0]
 simp [tkV, h1, aX, eX]
theorem rX9 {p : Pm} (hp : p.Ok) : (rfV p (sX 9)).2 = (aX 9, eX 9) := by
 have h0 : rdV (sX 9) = ([(1, [[49], [50], [48], [48]]), (2, [[49], [49, 98, 49, 53, 48], [48]])], 0, 0) := by decide +kernel
 have h1 : hdE [[49], [50], [48], [48]] = 0 := by decide +kernel
 have h2 : hdP [[49], [50], [48], [48]] = some (1, 0, false) := by decide +kernel
 have q0 : p.pt 0 0 = true := pt_yes hp (by decide +kernel)
 have q1 : p.pt 4607182418800017408 4607182418800017408 = true := pt_yes hp (by decide +kernel)
 have q2 : p.pt 5282722362905591808 0 = false := pt_no hp (by decide +kernel)
 have q3 : p.pt 5282722362905591808 4607182418800017408 = false := pt_no hp (by decide +kernel)
 have i0 := ri_0
 have i1 := ri_1
 have i2 := ri_2
 have i3 := ri_3
 have i5 := ri_m5
 have g0 := rf_0 hp
 have g1 := rf_1 hp
 have g2 := rf_150 hp
 have g3 := rf_2000 hp
 have g4 := rf_x hp
 unfold rfV
 rw [h0]
 simp [tkV, goN, ndE, wid, intE, mayN, fst0, aX, eX, *]
theorem rX10 {p : Pm} (hp : p.Ok) : (rfV p (sX 10)).2 = (aX 10, eX 10) := by
 have h0 : rdV (sX 10) = ([(1, [[49], [50], [48], [48]]), (2, [[49], [49, 98, 50, 48, 48, 48], [48]])], 0, 0) := by decide +kernel
 have h1 : hdE [[49], [50], [48], [48]] = 0 := by decide +kernel
 have h2 : hdP [[49], [50], [48], [48]] = some (1, 0, false) := by decide +kernel
 have q0 : p.pt 0 0 = true := pt_yes hp (by decide +kernel)
 have q1 : p.pt 4607182418800017408 4607182418800017408 = true := pt_yes hp (by decide +kernel)
 have q2 : p.pt 5282722362905591808 0 = false := pt_no hp (by decide +kernel)
 have q3 : p.pt 5282722362905591808 4607182418800017408 = false := pt_no hp (by decide +kernel)
 have i0 := ri_0
 have i1 := ri_1
 have i2 := ri_2
 have i3 := ri_3
 have i5 := ri_m5
 have g0 := rf_0 hp
 have g1 := rf_1 hp
 have g2 := rf_150 hp
 have g3 := rf_2000 hp
 have g4 := rf_x hp
 unfold rfV
 rw [h0]
 simp [tkV, goN, ndE, wid, intE, mayN, fst0, aX, eX, *]
theorem rX11 {p : Pm} (hp : p.Ok) : (rfV p (sX 11)).2 = (aX 11, eX 11) := by
 have h0 : rdV (sX 11) = ([(1, [[49], [50], [48], [48]]), (2, [[49], [120], [49, 98, 49, 53, 48]])], 0, 0) := by decide +kernel
 have h1 : hdE [[49], [50], [48], [48]] = 0 := by decide +kernel
 have h2 : hdP [[49], [50], [48], [48]] = some (1, 0, false) := by decide +kernel
 have q0 : p.pt 0 0 = true := pt_yes hp (by decide +kernel)
 have q1 : p.pt 4607182418800017408 4607182418800017408 = true := pt_yes hp (by decide +kernel)
 have q2 : p.pt 5282722362905591808 0 = false := pt_no hp (by decide +kernel)
 have q3 : p.pt 5282722362905591808 4607182418800017408 = false := pt_no hp (by decide +kernel)
 have i0 := ri_0
 have i1 := ri_1
 have i2 := ri_2
 have i3 := ri_3
 have i5 := ri_m5
 have g0 := rf_0 hp
 have g1 := rf_1 hp
 have g2 := rf_150 hp
 have g3 := rf_2000 hp
 have g4 := rf_x hp
 unfold rfV
 rw [h0]
 simp [tkV, goN, ndE, wid, intE, mayN, fst0, aX, eX, *]
theorem rX12 {p : Pm} (hp : p.Ok) : (rfV p (sX 12)).2 = (aX 12, eX 12) := by
 have h0 : rdV (sX 12) = ([(1, [[49], [50], [48], [48]]), (2, [[49], [49, 98, 49, 53, 48], [120]])], 0, 0) := by decide +kernel
 have h1 : hdE [[49], [50], [48], [48]] = 0 := by decide +kernel
 have h2 : hdP [[49], [50], [48], [48]] = some (1, 0, false) := by decide +kernel
 have q0 : p.pt 0 0 = true := pt_yes hp (by decide +kernel)
 have q1 : p.pt 4607182418800017408 4607182418800017408 = true := pt_yes hp (by decide +kernel)
 have q2 : p.pt 5282722362905591808 0 = false := pt_no hp (by decide +kernel)
 have q3 : p.pt 5282722362905591808 4607182418800017408 = false := pt_no hp (by decide +kernel)
 have i0 := ri_0
 have i1 := ri_1
 have i2 := ri_2
 have i3 := ri_3
 have i5 := ri_m5
 have g0 := rf_0 hp
 have g1 := rf_1 hp
 have g2 := rf_150 hp
 have g3 := rf_2000 hp
 have g4 := rf_x hp
 unfold rfV
 rw [h0]
 simp [tkV, goN, ndE, wid, intE, mayN, fst0, aX, eX, *]
theorem rX13 {p : Pm} (hp : p.Ok) : (rfV p (sX 13)).2 = (aX 13, eX 13) := by
 have h0 : rdV (sX 13) = ([(1, [[49], [50], [48], [48]]), (2, [[49], [48], [48]]), (3, [[50], [48], [48]])], 0, 0) := by decide +kernel
 have h1 : hdE [[49], [50], [48], [48]] = 0 := by decide +kernel
 have h2 : hdP [[49], [50], [48], [48]] = some (1, 0, false) := by decide +kernel
 have q0 : p.pt 0 0 = true := pt_yes hp (by decide +kernel)
 have q1 : p.pt 4607182418800017408 4607182418800017408 = true := pt_yes hp (by decide +kernel)
 have q2 : p.pt 5282722362905591808 0 = false := pt_no hp (by decide +kernel)
 have q3 : p.pt 5282722362905591808 4607182418800017408 = false := pt_no hp (by decide +kernel)
 have i0 := ri_0
 have i1 := ri_1
 have i2 := ri_2
 have i3 := ri_3
 have i5 := ri_m5
 have g0 := rf_0 hp
 have g1 := rf_1 hp
 have g2 := rf_150 hp
 have g3 := rf_2000 hp
 have g4 := rf_x hp
 unfold rfV
 rw [h0]
 simp [tkV, goN, ndE, wid, intE, mayN, fst0, zN, aX, eX, *]
theorem rX14 {p : Pm} (_ : p.Ok) : (rfV p (sX 14)).2 = (aX 14, eX 14) := by
 have h0 : rdV (sX 14) = ([(1, [[49], [50], [48], [50]])], 0, 0) := by decide +kernel
 have h1 : hdE [[49], [50], [48], [50]] = 4 := by decide +kernel
 unfold rfV
 rw [h0]
 simp [tkV, h1, aX, eX]
theorem rX15 {p : Pm} (_ : p.Ok) : (rfV p (sX 15)).2 = (aX 15, eX 15) := by
 have h0 : rdV (sX 15) = ([(1, [[49], [50], [48]])], 0, 0) := by decide +kernel
 have h1 : hdE [[49], [50], [48]] = 4 := by decide +kernel
 unfold rfV
 rw [h0]
 simp [tkV, h1, aX, eX]
theorem rX16 {p : Pm} (_ : p.Ok) : (rfV p (sX 16)).2 = (aX 16, eX 16) := by
 have h0 : rdV (sX 16) = ([(1, [[48], [50], [48], [48]])], 0, 0) := by decide +kernel
 have h1 : hdE [[48], [50], [48], [48]] = 0 := by decide +kernel
 have h2 : hdP [[48], [50], [48], [48]] = some (0, 0, false) := by decide +kernel
 unfold rfV
 rw [h0]
 simp [tkV, goN, aX, eX, *]
theorem rX17 {p : Pm} (hp : p.Ok) : (rfV p (sX 17)).2 = (aX 17, eX 17) := by
 have h0 : rdV (sX 17) = ([(1, [[49], [50], [48], [49]]), (2, [[48], [49], [49], [45, 53]])], 0, 0) := by decide +kernel
 have h1 : hdE [[49], [50], [48], [49]] = 0 := by decide +kernel
 have h2 : hdP [[49], [50], [48], [49]] = some (1, 0, true) := by decide +kernel
 have q0 : p.pt 0 0 = true := pt_yes hp (by decide +kernel)
 have q1 : p.pt 4607182418800017408 4607182418800017408 = true := pt_yes hp (by decide +kernel)
 have q2 : p.pt 5282722362905591808 0 = false := pt_no hp (by decide +kernel)
 have q3 : p.pt 5282722362905591808 4607182418800017408 = false := pt_no hp (by decide +kernel)
 have i0 := ri_0
 have i1 := ri_1
 have i2 := ri_2
 have i3 := ri_3
 have i5 := ri_m5
 have g0 := rf_0 hp
 have g1 := rf_1 hp
 have g2 := rf_150 hp
 have g3 := rf_2000 hp
 have g4 := rf_x hp
 unfold rfV
 rw [h0]
 simp [tkV, goN, ndE, wid, intE, mayN, fst0, zN, aX, eX, *]
theorem rX18 {p : Pm} (hp : p.Ok) : (rfV p (sX 18)).2 = (aX 18, eX 18) := by
 have h0 : rdV (sX 18) = ([(1, [[50], [50], [48], [48]]), (2, [[49], [48], [48]]), (3, [[51], [48], [48]])], 0, 0) := by decide +kernel
 have h1 : hdE [[50], [50], [48], [48]] = 0 := by decide +kernel
 have h2 : hdP [[50], [50], [48], [48]] = some (2, 0, false) := by decide +kernel
 have q0 : p.pt 0 0 = true := pt_yes hp (by decide +kernel)
 have q1 : p.pt 4607182418800017408 4607182418800017408 = true := pt_yes hp (by decide +kernel)
 have q2 : p.pt 5282722362905591808 0 = false := pt_no hp (by decide +kernel)
 have q3 : p.pt 5282722362905591808 4607182418800017408 = false := pt_no hp (by decide +kernel)
 have i0 := ri_0
 have i1 := ri_1
 have i2 := ri_2
 have i3 := ri_3
 have i5 := ri_m5
 have g0 := rf_0 hp
 have g1 := rf_1 hp
 have g2 := rf_150 hp
 have g3 := rf_2000 hp
 have g4 := rf_x hp
 unfold rfV
 rw [h0]
 simp [tkV, goN, ndE, wid, intE, mayN, fst0, zN, aX, eX, *]
theorem rX19 {p : Pm} (hp : p.Ok) : (rfV p (sX 19)).2 = (aX 19, eX 19) := by
 have h0 : rdV (sX 19) = ([(1, [[49], [50], [48], [49]]), (2, [[48], [49, 98, 49, 53, 48], [49], [120]])], 0, 0) := by decide +kernel
 have h1 : hdE [[49], [50], [48], [49]] = 0 := by decide +kernel
 have h2 : hdP [[49], [50], [48], [49]] = some (1, 0, true) := by decide +kernel
 have q0 : p.pt 0 0 = true := pt_yes hp (by decide +kernel)
 have q1 : p.pt 4607182418800017408 4607182418800017408 = true := pt_yes hp (by decide +kernel)
 have q2 : p.pt 5282722362905591808 0 = false := pt_no hp (by decide +kernel)
 have q3 : p.pt 5282722362905591808 4607182418800017408 = false := pt_no hp (by decide +kernel)
 have i0 := ri_0
 have i1 := ri_1
 have i2 := ri_2
 have i3 := ri_3
 have i5 := ri_m5
 have g0 := rf_0 hp
 have g1 := rf_1 hp
 have g2 := rf_150 hp
 have g3 := rf_2000 hp
 have g4 := rf_x hp
 unfold rfV
 rw [h0]
 simp [tkV, goN, ndE, wid, intE, mayN, fst0, aX, eX, *]
theorem rX20 {p : Pm} (hp : p.Ok) : (rfV p (sX 20)).2 = (aX 20, eX 20) := by
 have h0 : rdV (sX 20) = ([(1, [[49], [50], [49], [48]]), (2, [[49], [49, 98, 49, 53, 48], [49], [120]])], 0, 0) := by decide +kernel
 have h1 : hdE [[49], [50], [49], [48]] = 0 := by decide +kernel
 have h2 : hdP [[49], [50], [49], [48]] = some (1, 1, false) := by decide +kernel
 have q0 : p.pt 0 0 = true := pt_yes hp (by decide +kernel)
 have q1 : p.pt 4607182418800017408 4607182418800017408 = true := pt_yes hp (by decide +kernel)
 have q2 : p.pt 5282722362905591808 0 = false := pt_no hp (by decide +kernel)
 have q3 : p.pt 5282722362905591808 4607182418800017408 = false := pt_no hp (by decide +kernel)
 have i0 := ri_0
 have i1 := ri_1
 have i2 := ri_2
 have i3 := ri_3
 have i5 := ri_m5
 have g0 := rf_0 hp
 have g1 := rf_1 hp
 have g2 := rf_150 hp
 have g3 := rf_2000 hp
 have g4 := rf_x hp
 unfold rfV
 rw [h0]
 simp [tkV, goN, ndE, wid, intE, mayN, fst0, aX, eX, *]
theorem rX_all {p : Pm} (hp : p.Ok) : ∀ k, k < 21 → (rfV p (sX k)).2 = (aX k, eX k) := by
 intro k hk
 have hc : k = 0 ∨ k = 1 ∨ k = 2 ∨ k = 3 ∨ k = 4 ∨ k = 5 ∨ k = 6 ∨ k = 7 ∨ k = 8 ∨ k = 9 ∨ k = 10 ∨ k = 11 ∨ k = 12 ∨ k = 13 ∨ k = 14 ∨ k = 15 ∨ k = 16 ∨ k = 17 ∨ k = 18 ∨ k = 19 ∨ k = 20 := by omega
 rcases hc with rfl | rfl | rfl | rfl | rfl | rfl | rfl | rfl | rfl | rfl | rfl | rfl | rfl | rfl | rfl | rfl | rfl | rfl | rfl | rfl | rfl
 · exact rX0 hp
 · exact rX1 hp
 · exact rX2 hp
 · exact rX3 hp
 · exact rX4 hp
 · exact rX5 hp
 · exact rX6 hp
 · exact rX7 hp
 · exact rX8 hp
 · exact rX9 hp
 · exact rX10 hp
 · exact rX11 hp
 · exact rX12 hp
 · exact rX13 hp
 · exact rX14 hp
 · exact rX15 hp
 · exact rX16 hp
 · exact rX17 hp
 · exact rX18 hp
 · exact rX19 hp
 · exact rX20 hp
theorem sX_len : ∀ k, k < 21 → (sX k).length ≤ 100 := by decide
theorem readX {p : Pm} (hp : p.Ok) (k : Nat) (hk : k < 21) (w : World) (hT : Tab w) (hE : Ety w) : Calls Tryz.prog 10 #[sv (sX k)] w fun e w' => ∃ a n c z kk m, e = .returned (.tuple #[.agg #[.slice a n c, .bool z, .int .i64 (kk : Nat), .bool m], .int .i64 (aX k : Nat), .int .i64 (eX k)]) ∧ Below w.heap.size w w' := by
 refine (readN_any hp ⟨(sX k).toArray⟩ (sX k) w (by simp) (Nat.le_trans (sX_len k hk) (by decide)) hT hE).mono ?_
 rintro e w' ⟨hb, a, c, ns, z, kk, m, rfl, hF⟩
 rw [rX_all hp k hk]
 exact ⟨a, _, c, z, kk, m, rfl, hb⟩
abbrev wA : Fd := ⟨[⟨0, 0, [], 0⟩], false, 1, false⟩
abbrev wB : Fd := ⟨[], true, 0, false⟩
abbrev wC : Fd := ⟨[⟨0, 0, [], 1⟩], false, 0, false⟩
abbrev wD : Fd := ⟨[⟨5062045981164437504, 0, [], 0⟩], false, 0, false⟩
abbrev wE : Fd := ⟨[], false, 17, false⟩
abbrev wG : Fd := ⟨[⟨0, 0, [9218868437227405312], 0⟩], false, 1, false⟩
abbrev wF : Fd := ⟨[], false, 0, false⟩
theorem wrA (p : Pm) : wrN p wA = ([], 1) := by simp [wrN, wrongN, amiss]
theorem wrB (p : Pm) : wrN p wB = ([], 1) := by simp [wrN, wrongN]
theorem wrC (p : Pm) : wrN p wC = ([], 1) := by simp [wrN, wrongN, amiss]
theorem wrD {p : Pm} (hp : p.Ok) : wrN p wD = ([], 10) := by
 have q2 : p.pt 5062045981164437504 0 = false := pt_no hp (by decide +kernel)
 simp [wrN, wrongN, amiss, q2]
theorem wrE (p : Pm) : wrN p wE = ([], 1) := by simp [wrN, wrongN]
theorem wrG (p : Pm) : wrN p wG = ([], 1) := by
 have a1 : endl 9218868437227405312 = true := by decide +kernel
 simp [wrN, wrongN, amiss, a1]
theorem wrF (p : Pm) : wrN p wF = ([48, 32, 50, 32, 48, 32, 48, 10], 0) := by
 have hw : wrongN p wF = 0 := by simp [wrongN]
 have hf : flW p wF = [[[48], [50], [48], [48]]] := by simp [flW, ndsW, it_0]
 unfold wrN
 rw [if_pos hw, hf]
 decide +kernel
end

/- The first example of chapter 10: awake. -/
section
set_option maxRecDepth 100000
open Go.RowKit Go.Shelf Go.Lib
theorem readA {p : Pm} (hp : p.Ok) (w : World) (hT : Tab w) (hE : Ety w) : Calls Tryz.prog 10 #[.string ⟨exA.toArray⟩] w fun e w' => ∃ a c ns, e = .returned (.tuple #[.agg #[.slice a 2 c, .bool false, .int .i64 1, .bool true], .int .i64 0, .int .i64 0]) ∧ Nr w' w.heap.size (.slice a 2 c) ns ∧ ndsO' ns = fd1.ns ∧ ns.length = 2 ∧ Below w.heap.size w w' := by
 refine (readN_any hp ⟨exA.toArray⟩ exA w (by simp) (by decide) hT hE).mono ?_
 rintro e w' ⟨hb, a, c, ns, z, k, m, rfl, hF⟩
 rw [exA_rf hp] at hF ⊢
 obtain ⟨h1, h2, h3, h4⟩ := hF
 have e1 : ndsO ns = fd1.ns := (congrArg Fd.ns h2).symm
 have e2 : z = false := (congrArg Fd.z h2).symm
 have e3 : ((k : Nat) : Int) = 1 := (congrArg Fd.k h2).symm
 have e4 : m = true := (congrArg Fd.m h2).symm
 have e5 : ns.length = 2 := by have := congrArg List.length e1; simpa [ndsO] using this
 rw [e5] at h1
 exact ⟨a, c, ns, by rw [e2, e4, e5, e3]; rfl, h1, e1, e5, hb⟩
theorem readB {p : Pm} (hp : p.Ok) (w : World) (hT : Tab w) (hE : Ety w) : Calls Tryz.prog 10 #[.string ⟨exB.toArray⟩] w fun e w' => ∃ a c, e = .returned (.tuple #[.agg #[.slice a 1 c, .bool true, .int .i64 0, .bool false], .int .i64 0, .int .i64 0]) ∧ Below w.heap.size w w' := by
 refine (readN_any hp ⟨exB.toArray⟩ exB w (by simp) (by decide) hT hE).mono ?_
 rintro e w' ⟨hb, a, c, ns, z, k, m, rfl, hF⟩
 rw [exB_rf hp] at hF ⊢
 obtain ⟨h1, h2, h3, h4⟩ := hF
 have e1 : ndsO ns = fd2.ns := (congrArg Fd.ns h2).symm
 have e2 : z = true := (congrArg Fd.z h2).symm
 have e3 : ((k : Nat) : Int) = 0 := (congrArg Fd.k h2).symm
 have e4 : m = false := (congrArg Fd.m h2).symm
 have e5 : ns.length = 1 := by have := congrArg List.length e1; simpa [ndsO] using this
 exact ⟨a, c, by rw [e2, e4, e5, e3]; rfl, hb⟩
def T10 (w : World) : Prop := T8 w ∧ Ety w
theorem T10.later {w w' : World} (h : T10 w) (hb : Below w.heap.size w w') : T10 w' := ⟨h.1.later hb, h.2.later hb⟩
set_option maxHeartbeats 8000000 in
theorem awake10 (w : World) (hT : T10 w) : Calls Tryz.prog 8 #[] w fun e w' => e = .returned (.bool true) ∧ Below w.heap.size w w' := by
 obtain ⟨p, hp⟩ := pm_ex
 have HP := Lib.hid hp
 have HT := Lib.hid hT
 have HA := Lib.hid (readA hp w hT.1.1 hT.2)
 clear hp hT
 go_enter Tryz.func8, Tryz.ntmps8
 go_wp2_with fail
 refine HA.out.mono ?_
 rintro e W1 ⟨a, c, ns, rfl, hN, hns, hlen, hb1⟩
 have hnv := hN.nv
 obtain ⟨⟨a', c', e', _, _, hm⟩, _⟩ := hnv
 rw [hlen] at e'
 cases e'
 obtain ⟨g, off, rfl, hg, hcell⟩ := hm.resolve_left (fun e => by rw [e] at hlen; simp at hlen)
 obtain ⟨n0, n1, hns2⟩ : ∃ n0 n1, ns = [n0, n1] := by
   rcases ns with _ | ⟨n0, _ | ⟨n1, _ | ⟨n2, r⟩⟩⟩ <;> simp at hlen
   exact ⟨n0, n1, rfl⟩
 subst hns2
 have d0 : n0.1 = ⟨0, 0, [4619567317775286272], 5⟩ := by have := congrArg (fun l => l[0]?) hns; simpa [ndsO'] using this
 have d1 : n1.1 = ⟨4602678819172646912, 4607182418800017408, [4620693217682128896], 0⟩ := by have := congrArg (fun l => l[1]?) hns; simpa [ndsO'] using this
 have x0 := (hcell 0 n0 rfl).2.2.2
 have x1 := (hcell 1 n1 rfl).1
 have x2 := (hcell 1 n1 rfl).2.1
 rw [d0] at x0
 rw [d1] at x1 x2
 obtain ⟨W2, hW2⟩ : ∃ W2, Hid (W1.alloc (.cells #[.slice (some ⟨g, off, none⟩) 2 c, .bool false, .int .i64 1, .bool true] 29) = W2) := ⟨_, Lib.hid rfl⟩
 have hb2 : Below W1.heap.size W1 W2 := by rw [← hW2.out]; exact (Below.refl _ _).alloc (Nat.le_refl _) _
 have hb02 : Below w.heap.size w W2 := hb1.trans (hb2.mono hb1.size)
 have cf : CB W2 W1.heap.size #[.slice (some ⟨g, off, none⟩) 2 c, .bool false, .int .i64 1, .bool true] 29 := by rw [← hW2.out]; exact CB.new _ _ _
 have HWr : Hid (Calls Tryz.prog 21 #[.agg #[.slice (some ⟨g, off, none⟩) 2 c, .bool false, .int .i64 1, .bool true]] W2 fun e w' => e = .returned (.tuple #[.string ⟨exA.toArray⟩, .int .i64 0]) ∧ Below W2.heap.size W2 w') := Lib.hid (by
   have hnv2 := (hN.later hb2).nv
   have := writeN_any HP.out _ [n0, n1] false 1 true W2 hnv2 (by simp) (HT.out.1.later hb02)
   rw [hns, exA_wr HP.out] at this
   exact this)
 have HX : Hid (∀ W, Below W2.heap.size W2 W → (W.cell? ⟨g, off + 3, none⟩ = some (.int .i64 5) ∧ W.cell? ⟨g, off + 4, none⟩ = some (.float .f64 4602678819172646912) ∧ W.cell? ⟨g, off + 4 + 1, none⟩ = some (.float .f64 4607182418800017408)) ∧ CB W W1.heap.size #[.slice (some ⟨g, off, none⟩) 2 c, .bool false, .int .i64 1, .bool true] 29 ∧ Below w.heap.size w W) := Lib.hid (fun W hW => by
   have h1 := hb2.trans (hW.mono hb2.size)
   refine ⟨⟨?_, ?_, ?_⟩, cf.later hW, hb02.trans (hW.mono hb02.size)⟩
   · have := cell_later h1 hg x0; simpa using this
   · have := cell_later h1 hg x1; simpa using this
   · have := cell_later h1 hg x2; simpa using this)
 have H02 := Lib.hid hb02
 clear hN hns hlen hb1 hm hcell d0 d1 x0 x1 x2 hb2 hb02 cf HA
 rw [← hW2.out] at HWr HX H02
 go_wp2_with fail
 refine HWr.out.mono ?_
 rintro e W3 ⟨rfl, hb3⟩
 rw [hW2.out] at HX H02 hb3
 have HB := Lib.hid (readB HP.out W3 (HT.out.1.1.later (H02.out.trans (hb3.mono H02.out.size))) (HT.out.2.later (H02.out.trans (hb3.mono H02.out.size))))
 have HB3 := Lib.hid hb3
 clear hb3 HWr
 go_wp2_with fail
 refine HB.out.mono ?_
 rintro e W4 ⟨a4, c4, rfl, hb4⟩
 obtain ⟨W5, hW5⟩ : ∃ W5, Hid (W4.alloc (.cells #[.slice a4 1 c4, .bool true, .int .i64 0, .bool false] 29) = W5) := ⟨_, Lib.hid rfl⟩
 have hb5 : Below W4.heap.size W4 W5 := by rw [← hW5.out]; exact (Below.refl _ _).alloc (Nat.le_refl _) _
 have c5 : CB W5 W4.heap.size #[.slice a4 1 c4, .bool true, .int .i64 0, .bool false] 29 := by rw [← hW5.out]; exact CB.new _ _ _
 obtain ⟨⟨y0, y1, y2⟩, cf, hbw⟩ := HX.out W5 ((HB3.out.trans (hb4.mono HB3.out.size)).trans (hb5.mono (Nat.le_trans HB3.out.size hb4.size)))
 rw [← hW5.out] at y0 y1 y2 cf hbw c5
 obtain ⟨k0, k1, k2, k3⟩ := cf.cells4
 obtain ⟨j0, j1, j2, j3⟩ := c5.cells4
 have HBw := Lib.hid hbw
 clear hb4 hb5 c5 cf hbw HX HB HB3 H02 HP HT
 have q1 : ∀ w, (binOp .eql 59 (.agg #[.float .f64 4602678819172646912, .float .f64 4607182418800017408]) (.agg #[.float .f64 4602678819172646912, .float .f64 4607182418800017408])).run Tryz.prog w = .ok (.bool true) w := fun w => by kernel_rfl
 go_wp2
 go_ret
 exact ⟨rfl, HBw.out⟩
end

/- The law NodefileNames. (gen_qxa.py) -/
section
set_option maxRecDepth 100000
open Go.RowKit Go.Shelf Go.Lib
theorem run_store_strX (P : Program) (w : World) (a : Addr) (m : Mode) (b : ByteArray) : (store a (.string b) m).run P w = stored P w a (.string b) m := run_store P w a _ m rfl
attribute [local go_sem] run_store_float run_store_strX
def aaX : Array Value := #[.string ⟨#[]⟩, .int .i64 1, .int .i64 4, .string ⟨#[35, 32, 110, 111, 32, 108, 105, 110, 101, 10]⟩, .int .i64 1, .int .i64 4, .string ⟨#[49, 32, 50, 32, 48, 32, 48]⟩, .int .i64 2, .int .i64 4, .string ⟨#[10, 49, 32, 50, 32, 48, 32, 48, 10, 10]⟩, .int .i64 3, .int .i64 4, .string ⟨#[49, 32, 50, 32, 48, 32, 48, 10, 50, 32, 48, 32, 48, 10]⟩, .int .i64 2, .int .i64 4, .string ⟨#[49, 32, 51, 32, 48, 32, 48, 10]⟩, .int .i64 1, .int .i64 4, .string ⟨#[49, 32, 50, 32, 49, 55, 32, 48, 10]⟩, .int .i64 1, .int .i64 3, .string ⟨#[49, 48, 52, 56, 53, 55, 55, 32, 50, 32, 48, 32, 48, 10]⟩, .int .i64 1, .int .i64 3, .string ⟨#[45, 49, 32, 50, 32, 48, 32, 48, 10]⟩, .int .i64 1, .int .i64 4, .string ⟨#[49, 32, 50, 32, 48, 32, 48, 10, 49, 32, 49, 98, 49, 53, 48, 32, 48, 10]⟩, .int .i64 2, .int .i64 10, .string ⟨#[49, 32, 50, 32, 48, 32, 48, 10, 49, 32, 49, 98, 50, 48, 48, 48, 32, 48, 10]⟩, .int .i64 2, .int .i64 10, .string ⟨#[49, 32, 50, 32, 48, 32, 48, 10, 49, 32, 120, 32, 49, 98, 49, 53, 48, 10]⟩, .int .i64 2, .int .i64 4, .string ⟨#[49, 32, 50, 32, 48, 32, 48, 10, 49, 32, 49, 98, 49, 53, 48, 32, 120, 10]⟩, .int .i64 2, .int .i64 4, .string ⟨#[49, 32, 50, 32, 48, 32, 48, 10, 49, 32, 48, 32, 48, 10, 50, 32, 48, 32, 48, 10]⟩, .int .i64 3, .int .i64 4, .string ⟨#[49, 32, 50, 32, 48, 32, 50, 10]⟩, .int .i64 1, .int .i64 4, .string ⟨#[49, 32, 50, 32, 48, 10]⟩, .int .i64 1, .int .i64 4, .string ⟨#[48, 32, 50, 32, 48, 32, 48, 10]⟩, .int .i64 0, .int .i64 0, .string ⟨#[49, 32, 50, 32, 48, 32, 49, 10, 48, 32, 49, 32, 49, 32, 45, 53, 10]⟩, .int .i64 0, .int .i64 0, .string ⟨#[50, 32, 50, 32, 48, 32, 48, 10, 49, 32, 48, 32, 48, 10, 51, 32, 48, 32, 48, 10]⟩, .int .i64 3, .int .i64 4, .string ⟨#[49, 32, 50, 32, 48, 32, 49, 10, 48, 32, 49, 98, 49, 53, 48, 32, 49, 32, 120, 10]⟩, .int .i64 2, .int .i64 10, .string ⟨#[49, 32, 50, 32, 49, 32, 48, 10, 49, 32, 49, 98, 49, 53, 48, 32, 49, 32, 120, 10]⟩, .int .i64 2, .int .i64 10]
def CX (W : World) (g : Nat) : Prop := g < W.heap.size ∧ ∀ k, k < 21 → W.cell? ⟨g, k * 3, none⟩ = some (sv (sX k)) ∧ W.cell? ⟨g, k * 3 + 1, none⟩ = some (.int .i64 (aX k : Nat)) ∧ W.cell? ⟨g, k * 3 + 2, none⟩ = some (.int .i64 (eX k))
theorem CX.later {W W' : World} {g : Nat} (h : CX W g) (hb : Below W.heap.size W W') : CX W' g := ⟨Nat.lt_of_lt_of_le h.1 hb.size, fun k hk => ⟨cell_later hb h.1 (h.2 k hk).1, cell_later hb h.1 (h.2 k hk).2.1, cell_later hb h.1 (h.2 k hk).2.2⟩⟩
theorem cell_newX (w : World) (cs : Array Value) (t : TypeId) (i : Nat) (x : Value) (h : cs[i]? = some x) : (w.alloc (.cells cs t)).cell? ⟨w.heap.size, i, none⟩ = some x := by
 have := heap_alloc_new w (.cells cs t)
 unfold World.cell?
 rw [this]
 exact h
theorem CX.new (w : World) (t : TypeId) : CX (w.alloc (.cells aaX t)) w.heap.size := by
 refine ⟨by simp, ?_⟩
 intro k hk
 have hc : k = 0 ∨ k = 1 ∨ k = 2 ∨ k = 3 ∨ k = 4 ∨ k = 5 ∨ k = 6 ∨ k = 7 ∨ k = 8 ∨ k = 9 ∨ k = 10 ∨ k = 11 ∨ k = 12 ∨ k = 13 ∨ k = 14 ∨ k = 15 ∨ k = 16 ∨ k = 17 ∨ k = 18 ∨ k = 19 ∨ k = 20 := by omega
 rcases hc with rfl | rfl | rfl | rfl | rfl | rfl | rfl | rfl | rfl | rfl | rfl | rfl | rfl | rfl | rfl | rfl | rfl | rfl | rfl | rfl | rfl
 all_goals exact ⟨cell_newX w aaX t _ _ rfl, cell_newX w aaX t _ _ rfl, cell_newX w aaX t _ _ rfl⟩
theorem writeX0 {p : Pm} (hp : p.Ok) (z : Bool) (k : Int) (m : Bool) (w : World) (hT : T8 w) (l : Bs) (e : Int) (h : wrN p ⟨[], z, k, m⟩ = (l, e)) :
   Calls Tryz.prog 21 #[.agg #[.slice none 0 0, .bool z, .int .i64 k, .bool m]] w fun r w' => r = .returned (.tuple #[sv l, .int .i64 e]) ∧ Below w.heap.size w w' := by
 have := writeN_any hp (.slice none 0 0) [] z k m w ⟨⟨none, 0, rfl, by simp, by omega, Or.inl rfl⟩, fun p hp => by simp at hp, fun p hp => by simp at hp⟩ (by simp) hT
 rw [show (⟨ndsO' [], z, k, m⟩ : Fd) = ⟨[], z, k, m⟩ from rfl, h] at this
 exact this
theorem writeX1 {p : Pm} (hp : p.Ok) (B : Nat) (q : Nd) (av : Value) (z : Bool) (k : Int) (m : Bool) (w : World) (hc : CB w B #[.float .f64 q.x, .float .f64 q.y, av, .int .i64 q.m] 62) (ha : Fs w av q.a) (hw : wdN q) (hT : T8 w) (l : Bs) (e : Int) (h : wrN p ⟨[q], z, k, m⟩ = (l, e)) :
   Calls Tryz.prog 21 #[.agg #[.slice (some ⟨B, 0, none⟩) 1 1, .bool z, .int .i64 k, .bool m]] w fun r w' => r = .returned (.tuple #[sv l, .int .i64 e]) ∧ Below w.heap.size w w' := by
 have hnv : Nv w (.slice (some ⟨B, 0, none⟩) 1 1) [(q, av)] := by
   obtain ⟨c0, c1, c2, c3⟩ := hc.cells4
   refine ⟨⟨_, 1, rfl, by simp, by omega, Or.inr ⟨B, 0, rfl, hc.lt, fun j r hj => ?_⟩⟩, fun r hr => by rw [List.mem_singleton.1 hr]; exact ha, fun r hr => by rw [List.mem_singleton.1 hr]; exact hw⟩
   cases j with
   | zero =>
     obtain rfl : (q, av) = r := by simpa using hj
     exact ⟨c0, c1, c2, c3⟩
   | succ j => simp at hj
 have := writeN_any hp _ [(q, av)] z k m w hnv (by simp) hT
 rw [show (⟨ndsO' [(q, av)], z, k, m⟩ : Fd) = ⟨[q], z, k, m⟩ from rfl, h] at this
 exact this
theorem fs_none (w : World) : Fs w (.slice none 0 0) [] := ⟨⟨none, 0, rfl, by simp, by omega, Or.inl rfl⟩, fun x hx => by simp at hx⟩
theorem big_twice (w : World) : (binOp .mul 57 (.float .f64 9214364837600034816) (.float .f64 4611686018427387904)).run Tryz.prog w = .ok (.float .f64 9218868437227405312) w := by kernel_rfl
set_option maxHeartbeats 8000000 in
theorem names10 (w : World) (hT : T10 w) : Calls Tryz.prog 5 #[] w fun e w' => e = .returned (.bool true) ∧ Below w.heap.size w w' := by
 obtain ⟨p, hp⟩ := pm_ex
 have HP := Lib.hid hp
 obtain ⟨W1, hW1⟩ : ∃ W, w.alloc (.cells #[.string ⟨#[]⟩, .int .i64 1, .int .i64 4, .string ⟨#[35, 32, 110, 111, 32, 108, 105, 110, 101, 10]⟩, .int .i64 1, .int .i64 4, .string ⟨#[49, 32, 50, 32, 48, 32, 48]⟩, .int .i64 2, .int .i64 4, .string ⟨#[10, 49, 32, 50, 32, 48, 32, 48, 10, 10]⟩, .int .i64 3, .int .i64 4, .string ⟨#[49, 32, 50, 32, 48, 32, 48, 10, 50, 32, 48, 32, 48, 10]⟩, .int .i64 2, .int .i64 4, .string ⟨#[49, 32, 51, 32, 48, 32, 48, 10]⟩, .int .i64 1, .int .i64 4, .string ⟨#[49, 32, 50, 32, 49, 55, 32, 48, 10]⟩, .int .i64 1, .int .i64 3, .string ⟨#[49, 48, 52, 56, 53, 55, 55, 32, 50, 32, 48, 32, 48, 10]⟩, .int .i64 1, .int .i64 3, .string ⟨#[45, 49, 32, 50, 32, 48, 32, 48, 10]⟩, .int .i64 1, .int .i64 4, .string ⟨#[49, 32, 50, 32, 48, 32, 48, 10, 49, 32, 49, 98, 49, 53, 48, 32, 48, 10]⟩, .int .i64 2, .int .i64 10, .string ⟨#[49, 32, 50, 32, 48, 32, 48, 10, 49, 32, 49, 98, 50, 48, 48, 48, 32, 48, 10]⟩, .int .i64 2, .int .i64 10, .string ⟨#[49, 32, 50, 32, 48, 32, 48, 10, 49, 32, 120, 32, 49, 98, 49, 53, 48, 10]⟩, .int .i64 2, .int .i64 4, .string ⟨#[49, 32, 50, 32, 48, 32, 48, 10, 49, 32, 49, 98, 49, 53, 48, 32, 120, 10]⟩, .int .i64 2, .int .i64 4, .string ⟨#[49, 32, 50, 32, 48, 32, 48, 10, 49, 32, 48, 32, 48, 10, 50, 32, 48, 32, 48, 10]⟩, .int .i64 3, .int .i64 4, .string ⟨#[49, 32, 50, 32, 48, 32, 50, 10]⟩, .int .i64 1, .int .i64 4, .string ⟨#[49, 32, 50, 32, 48, 10]⟩, .int .i64 1, .int .i64 4, .string ⟨#[48, 32, 50, 32, 48, 32, 48, 10]⟩, .int .i64 0, .int .i64 0, .string ⟨#[49, 32, 50, 32, 48, 32, 49, 10, 48, 32, 49, 32, 49, 32, 45, 53, 10]⟩, .int .i64 0, .int .i64 0, .string ⟨#[50, 32, 50, 32, 48, 32, 48, 10, 49, 32, 48, 32, 48, 10, 51, 32, 48, 32, 48, 10]⟩, .int .i64 3, .int .i64 4, .string ⟨#[49, 32, 50, 32, 48, 32, 49, 10, 48, 32, 49, 98, 49, 53, 48, 32, 49, 32, 120, 10]⟩, .int .i64 2, .int .i64 10, .string ⟨#[49, 32, 50, 32, 49, 32, 48, 10, 49, 32, 49, 98, 49, 53, 48, 32, 49, 32, 120, 10]⟩, .int .i64 2, .int .i64 10] 63) = W := ⟨_, rfl⟩
 have HC1 : Hid (CX W1 w.heap.size) := hW1 ▸ CX.new w 63
 have HB1 : Hid (Below w.heap.size w W1) := hW1 ▸ (Below.refl _ w).alloc (Nat.le_refl _) _
 have HT1 := Lib.hid (hT.later HB1.out)
 clear hT hp
 go_enter Tryz.func5, Tryz.ntmps5
 go_wp2_with fail
 clear hW1
 go_loopw [44] (fun i wr => ∃ k : Nat, k ≤ 21 ∧ i = .int .i64 (k : Nat) ∧ Hid (CX wr w.heap.size ∧ T10 wr ∧ Below w.heap.size w wr)) (fun i _ => 21 - (RowKit.intOf i).toNat)
 case atStart => exact ⟨0, by omega, rfl, HC1.out, HT1.out, HB1.out⟩
 case round =>
   obtain ⟨k, hk, rfl, hw⟩ := hrel
   by_cases hlt : k < 21
   · have hlti : (k : Int) < 21 := by omega
     obtain ⟨y0, y1, y2⟩ := hw.out.1.2 k hlt
     have hbA : Below wr.heap.size wr (wr.alloc (.cells #[sv (sX k), .int .i64 (aX k : Nat), .int .i64 (eX k)] 63)) := (Below.refl _ _).alloc (Nat.le_refl _) _
     have HWA := Lib.hid (And.intro (hw.out.1.later hbA) (And.intro (hw.out.2.1.later hbA) (hw.out.2.2.trans (hbA.mono hw.out.2.2.size))))
     clear hbA hw
     have HFL : Hid (∀ w, Tab w → Ety w → Calls Tryz.prog 10 #[sv (sX k)] w fun e w' => ∃ a n c z kk m, e = .returned (.tuple #[.agg #[.slice a n c, .bool z, .int .i64 (kk : Nat), .bool m], .int .i64 (aX k : Nat), .int .i64 (eX k)]) ∧ Below w.heap.size w w') := Lib.hid (readX HP.out k hlt)
     generalize hs : sX k = l at *
     generalize aX k = x at *
     generalize eX k = er at *
     clear hs
     go_wp2_with fail
     refine (HFL.out _ HWA.out.2.1.1.1 HWA.out.2.1.2).mono ?_
     rintro r w2 ⟨fa, fn, fc, fz, fk, fm, rfl, hb2⟩
     have hsz : wr.heap.size < (wr.alloc (.cells #[sv l, .int .i64 (x : Nat), .int .i64 er] 63)).heap.size := by simp
     have hb3 : Below w2.heap.size w2 (w2.alloc (.cells #[.slice fa fn fc, .bool fz, .int .i64 (fk : Nat), .bool fm] 29)) := (Below.refl _ _).alloc (Nat.le_refl _) _
     have z0 := cell_later hb3 (Nat.lt_of_lt_of_le hsz hb2.size) (cell_later hb2 hsz (cell_newX wr #[sv l, .int .i64 (x : Nat), .int .i64 er] 63 1 _ rfl))
     have z1 := cell_later hb3 (Nat.lt_of_lt_of_le hsz hb2.size) (cell_later hb2 hsz (cell_newX wr #[sv l, .int .i64 (x : Nat), .int .i64 er] 63 2 _ rfl))
     have HWB := Lib.hid (And.intro ((HWA.out.1.later hb2).later hb3) (And.intro ((HWA.out.2.1.later hb2).later hb3) ((HWA.out.2.2.trans (hb2.mono HWA.out.2.2.size)).trans (hb3.mono (Nat.le_trans HWA.out.2.2.size hb2.size)))))
     clear hb2 hb3 HWA y0 y1 y2 hsz
     go_wp2
     exact ⟨⟨k + 1, by omega, by go_num, HWB.out⟩, by show 21 - ((k : Int) + 1).toNat < 21 - ((k : Int)).toNat; omega⟩
   · obtain rfl : k = 21 := by omega
     obtain ⟨Wa, hWa⟩ : ∃ W, wr.alloc (.cells #[.float .f64 0, .float .f64 0, .slice none 0 0, .int .i64 0] 62) = W := ⟨_, rfl⟩
     have bA : Below w.heap.size w Wa := hWa ▸ hw.out.2.2.alloc hw.out.2.2.size _
     have cA : CB Wa wr.heap.size #[.float .f64 0, .float .f64 0, .slice none 0 0, .int .i64 0] 62 := hWa ▸ CB.new wr _ _
     have tA : T10 Wa := hWa ▸ hw.out.2.1.later ((Below.refl _ _).alloc (Nat.le_refl _) _)
     have HA := Lib.hid (writeX1 HP.out wr.heap.size ⟨0, 0, [], 0⟩ (.slice none 0 0) false 1 false Wa cA (fs_none _) ⟨by decide, by decide, by decide, by decide⟩ tA.1 [] 1 (wrA p))
     have HBA := Lib.hid (And.intro bA tA)
     clear hw cA bA tA HC1 HB1 HT1 hlt hk
     go_wp2_with fail
     try rw [hWa]
     clear hWa
     refine HA.out.mono ?_
     rintro e W1 ⟨rfl, hb1⟩
     have H1 := Lib.hid (And.intro (HBA.out.1.trans (hb1.mono HBA.out.1.size)) (HBA.out.2.later hb1))
     clear hb1 HA HBA
     go_wp2_with fail
     refine (writeX0 HP.out true 0 false _ H1.out.2.1 [] 1 (wrB p)).mono ?_
     rintro e W2 ⟨rfl, hb2⟩
     have H2 := Lib.hid (And.intro (H1.out.1.trans (hb2.mono H1.out.1.size)) (H1.out.2.later hb2))
     clear hb2 H1
     obtain ⟨Wa, hWa⟩ : ∃ W, W2.alloc (.cells #[.float .f64 0, .float .f64 0, .slice none 0 0, .int .i64 1] 62) = W := ⟨_, rfl⟩
     have bA : Below w.heap.size w Wa := hWa ▸ H2.out.1.alloc H2.out.1.size _
     have cA : CB Wa W2.heap.size #[.float .f64 0, .float .f64 0, .slice none 0 0, .int .i64 1] 62 := hWa ▸ CB.new W2 _ _
     have tA : T10 Wa := hWa ▸ H2.out.2.later ((Below.refl _ _).alloc (Nat.le_refl _) _)
     have HA := Lib.hid (writeX1 HP.out W2.heap.size ⟨0, 0, [], 1⟩ (.slice none 0 0) false 0 false Wa cA (fs_none _) ⟨by decide, by decide, by decide, by decide⟩ tA.1 [] 1 (wrC p))
     have HBA := Lib.hid (And.intro bA tA)
     clear cA bA tA H2
     go_wp2_with fail
     try rw [hWa]
     clear hWa
     refine HA.out.mono ?_
     rintro e W3 ⟨rfl, hb1⟩
     have H3 := Lib.hid (And.intro (HBA.out.1.trans (hb1.mono HBA.out.1.size)) (HBA.out.2.later hb1))
     clear hb1 HA HBA
     obtain ⟨Wa, hWa⟩ : ∃ W, W3.alloc (.cells #[.float .f64 5062045981164437504, .float .f64 0, .slice none 0 0, .int .i64 0] 62) = W := ⟨_, rfl⟩
     have bA : Below w.heap.size w Wa := hWa ▸ H3.out.1.alloc H3.out.1.size _
     have cA : CB Wa W3.heap.size #[.float .f64 5062045981164437504, .float .f64 0, .slice none 0 0, .int .i64 0] 62 := hWa ▸ CB.new W3 _ _
     have tA : T10 Wa := hWa ▸ H3.out.2.later ((Below.refl _ _).alloc (Nat.le_refl _) _)
     have HA := Lib.hid (writeX1 HP.out W3.heap.size ⟨5062045981164437504, 0, [], 0⟩ (.slice none 0 0) false 0 false Wa cA (fs_none _) ⟨by decide, by decide, by decide, by decide⟩ tA.1 [] 10 (wrD HP.out))
     have HBA := Lib.hid (And.intro bA tA)
     clear cA bA tA H3
     go_wp2_with fail
     try rw [hWa]
     clear hWa
     refine HA.out.mono ?_
     rintro e W4 ⟨rfl, hb1⟩
     have H4 := Lib.hid (And.intro (HBA.out.1.trans (hb1.mono HBA.out.1.size)) (HBA.out.2.later hb1))
     clear hb1 HA HBA
     go_wp2_with fail
     refine (writeX0 HP.out false 17 false _ H4.out.2.1 [] 1 (wrE p)).mono ?_
     rintro e W5 ⟨rfl, hb2⟩
     have H5 := Lib.hid (And.intro (H4.out.1.trans (hb2.mono H4.out.1.size)) (H4.out.2.later hb2))
     clear hb2 H4
     obtain ⟨Wf, hWf⟩ : ∃ W, W5.alloc (.cells #[.float .f64 9218868437227405312] 57) = W := ⟨_, rfl⟩
     have cF : CB Wf W5.heap.size #[.float .f64 9218868437227405312] 57 := hWf ▸ CB.new W5 _ _
     have bF : Below W5.heap.size W5 Wf := hWf ▸ (Below.refl _ _).alloc (Nat.le_refl _) _
     obtain ⟨Wa, hWa⟩ : ∃ W, Wf.alloc (.cells #[.float .f64 0, .float .f64 0, .slice (some ⟨W5.heap.size, 0, none⟩) 1 1, .int .i64 0] 62) = W := ⟨_, rfl⟩
     have bA0 : Below Wf.heap.size Wf Wa := hWa ▸ (Below.refl _ _).alloc (Nat.le_refl _) _
     have bA : Below w.heap.size w Wa := (H5.out.1.trans (bF.mono H5.out.1.size)).trans (bA0.mono (Nat.le_trans H5.out.1.size bF.size))
     have cA : CB Wa Wf.heap.size #[.float .f64 0, .float .f64 0, .slice (some ⟨W5.heap.size, 0, none⟩) 1 1, .int .i64 0] 62 := hWa ▸ CB.new Wf _ _
     have tA : T10 Wa := (H5.out.2.later bF).later bA0
     have fA : Fs Wa (.slice (some ⟨W5.heap.size, 0, none⟩) 1 1) [9218868437227405312] := ⟨⟨_, 1, rfl, by simp, by omega, Or.inr ⟨W5.heap.size, 0, rfl, fun j hj => by
       obtain rfl : j = 0 := by simpa using hj
       exact (cF.later bA0).cell 0 (by simp)⟩⟩, fun b hb => by rw [List.mem_singleton.1 hb]; decide⟩
     have HA := Lib.hid (writeX1 HP.out Wf.heap.size ⟨0, 0, [9218868437227405312], 0⟩ (.slice (some ⟨W5.heap.size, 0, none⟩) 1 1) false 1 false Wa cA fA ⟨by decide, by decide, by decide, by decide⟩ tA.1 [] 1 (wrG p))
     have HBA := Lib.hid (And.intro bA tA)
     have hbt := big_twice
     clear cA bA tA H5 cF bF bA0 fA
     go_wp2_with fail
     try rw [hWf]
     try rw [hWa]
     clear hWa hWf
     refine HA.out.mono ?_
     rintro e W6 ⟨rfl, hb1⟩
     have H6 := Lib.hid (And.intro (HBA.out.1.trans (hb1.mono HBA.out.1.size)) (HBA.out.2.later hb1))
     clear hb1 HA HBA hbt
     go_wp2_with fail
     refine (writeX0 HP.out false 0 false _ H6.out.2.1 _ 0 (wrF p)).mono ?_
     rintro e W7 ⟨rfl, hb2⟩
     have H7 := Lib.hid (And.intro (H6.out.1.trans (hb2.mono H6.out.1.size)) (H6.out.2.later hb2))
     clear hb2 H6
     go_wp2_with fail
     refine (awake10 _ H7.out.2).mono ?_
     rintro e W8 ⟨rfl, hb2⟩
     have H8 := Lib.hid (H7.out.1.trans (hb2.mono H7.out.1.size))
     clear hb2 H7
     go_wp2
     go_ret
     exact ⟨rfl, H8.out⟩
end

/- Package nodefile: what is written is read, what is read is written: plain. -/
section
set_option maxRecDepth 100000
open Go.RowKit Go.Shelf Go.Lib
def cz (x : Nat) : Nat := if fval x = 0 then 0 else x
theorem rf_tx {p : Pm} (hp : p.Ok) {x : Nat} (hx : Fin64 x) (lx : x < 18446744073709551616) : p.rf (p.tx x) = (cz x, 0) := by
 obtain ⟨n, e, ht, hv, _⟩ := (hp.tx x lx).tell hx
 unfold cz
 by_cases h : fval x = 0
 · rw [if_pos h]
   exact rf_of hp ht fin_zero (by decide) (by rw [fval_zero, ← hv, h]) (fun _ => rfl)
 · rw [if_neg h]
   refine rf_of hp ht hx lx hv (fun h0 => absurd ?_ h)
   rw [hv, h0]
   show (0 : Rat) * p2 e = 0
   rw [Rat.zero_mul]
theorem crd_cz {x : Nat} (h : Crd x) : Crd (cz x) := by
 unfold cz
 split
 · decide +kernel
 · exact h
theorem pt_cz {p : Pm} (hp : p.Ok) {x y : Nat} (h : p.pt x y = true) : p.pt (cz x) (cz y) = true :=
 pt_yes hp ⟨crd_cz ((hp.pt x y).1 h).1, crd_cz ((hp.pt x y).1 h).2⟩
theorem cz_fin {x : Nat} (h : Fin64 x) : Fin64 (cz x) := by unfold cz; split; exact fin_zero; exact h
theorem cz_val (x : Nat) : fval (cz x) = fval x := by
 unfold cz
 split
 · rename_i h; rw [h, fval_zero]
 · rfl
theorem crd_fin' {x : Nat} (h : Crd x) : Fin64 x := crd_fin h.1
theorem endl_fin {x : Nat} (h : endl x = false) : Fin64 x := by
 unfold endl isnan isinf at h
 unfold Fin64
 simp at h
 omega
theorem fin_endl {x : Nat} (h : Fin64 x) : endl x = false := by
 have := flagsS h
 unfold endl
 rw [this.1, this.2]; rfl
def cn (q : Nd) : Nd := ⟨cz q.x, cz q.y, q.a.map cz, q.m⟩
theorem fst0_zero {l : List Int} : fst0 l = 0 ↔ ∀ e ∈ l, e = 0 := by
 induction l with
 | nil => simp [fst0]
 | cons a r ih =>
   rw [fst0]
   by_cases h : a = 0
   · rw [if_pos h, ih]; simp [h]
   · rw [if_neg h]; simp [h]
theorem amiss_no {k : Int} {m : Bool} {q : Nd} : amiss k m q = false ↔ (q.a.length : Int) = k ∧ (∀ x ∈ q.a, endl x = false) ∧ (m = false → q.m = 0) := by
 unfold amiss
 simp only [Bool.or_eq_false_iff, decide_eq_false_iff_not, Bool.and_eq_false_iff, List.any_eq_false]
 constructor
 · rintro ⟨⟨h1, h2⟩, h3⟩
   refine ⟨by simpa using h1, fun x hx => by simpa using h2 x hx, fun hm => ?_⟩
   rcases h3 with h3 | h3
   · simpa using h3
   · rw [hm] at h3; simp at h3
 · rintro ⟨h1, h2, h3⟩
   refine ⟨⟨by simpa using h1, fun x hx => by simpa using h2 x hx⟩, ?_⟩
   cases m
   · left; simp [h3 rfl]
   · right; rfl
section
variable {p : Pm} {k : Nat} {m z : Bool} {i : Nat} {q : Nd}
def nrW (z : Bool) (i : Nat) : Int := if z then (i : Int) else (i : Int) + 1
theorem ndW_is (p : Pm) (z m : Bool) (i : Nat) (q : Nd) : ndW p z m i q = itoa (nrW z i) :: p.tx q.x :: p.tx q.y :: (q.a.map p.tx ++ (if m then [itoa q.m] else [])) := by
 unfold ndW nrW; simp
theorem ndW_parts (hk : q.a.length = k) : (ndW p z m i q).length = wid k m ∧ (ndW p z m i q).getD 0 [] = itoa (nrW z i) ∧ (ndW p z m i q).getD 1 [] = p.tx q.x ∧ (ndW p z m i q).getD 2 [] = p.tx q.y ∧ ((ndW p z m i q).drop 3).take k = q.a.map p.tx ∧ (m = true → (ndW p z m i q).getD (3 + k) [] = itoa q.m) := by
 rw [ndW_is]
 refine ⟨?_, rfl, rfl, rfl, ?_, fun hm => ?_⟩
 · cases m <;> simp [wid, hk] <;> omega
 · show List.take k (q.a.map p.tx ++ _) = _
   rw [List.take_left' (by simpa using hk)]
 · subst hm
   rw [show 3 + k = k + 3 by omega]
   simp only [if_true]
   show ((q.a.map p.tx) ++ [itoa q.m]).getD k [] = _
   rw [List.getD_eq_getElem?_getD, List.getElem?_append_right (by simp [hk])]
   simp [hk]
theorem ndE_back (hp : p.Ok) (hw : wdA q) (ha : amiss (k : Int) m q = false) (hpt : p.pt q.x q.y = true) {zz : Bool} (hz : i = 0 ∨ zz = z) (hi : i ≤ 2000000) : ndE p k m (mayN i zz) (ndW p z m i q) = 0 := by
 obtain ⟨hk, he, hm⟩ := amiss_no.1 ha
 have hk' : q.a.length = k := by omega
 obtain ⟨p1, p2, p3, p4, p5, p6⟩ := ndW_parts (p := p) (z := z) (m := m) (i := i) (q := q) hk'
 have hP := (hp.pt q.x q.y).1 hpt
 have hfa : ∀ x ∈ q.a, p.rf (p.tx x) = (cz x, 0) := fun x hx => rf_tx hp (endl_fin (he x hx)) (hw.2 x hx)
 have hx := rf_tx hp (crd_fin' hP.1) hw.1.1
 have hy := rf_tx hp (crd_fin' hP.2) hw.1.2.1
 unfold ndE
 rw [fst0_zero, p1, p2, p3, p4, p5, hx, hy]
 intro e hh
 simp only [List.mem_append, List.mem_cons, List.not_mem_nil, or_false, List.mem_map] at hh
 rcases hh with (hh | ⟨w, ⟨x, hx, rfl⟩, rfl⟩) | hh
 · rcases hh with rfl | rfl | rfl | rfl | rfl
   · simp
   · unfold intE
     rw [rd_itoa (by unfold nrW; split <;> exact ⟨by omega, by omega⟩)]
     simp only []
     rw [if_pos]
     unfold mayN nrW
     by_cases h0 : i = 0
     · rw [if_pos h0, h0]; cases z <;> decide
     · rw [if_neg h0, hz.resolve_left h0]; cases z <;> simp
   · rfl
   · rfl
   · rw [if_pos (pt_cz hp hpt)]
 · rw [hfa x hx]
 · cases m
   · simp at hh
   · simp only [if_true, List.mem_singleton] at hh
     rw [hh, p6 rfl]
     unfold intE
     rw [rd_itoa hw.1.2.2]
     rfl
theorem ndV_back (hp : p.Ok) (hw : wdA q) (ha : amiss (k : Int) m q = false) (hpt : p.pt q.x q.y = true) : ndV p k m (ndW p z m i q) = cn q := by
 obtain ⟨hk, he, hm⟩ := amiss_no.1 ha
 have hk' : q.a.length = k := by omega
 obtain ⟨p1, p2, p3, p4, p5, p6⟩ := ndW_parts (p := p) (z := z) (m := m) (i := i) (q := q) hk'
 have hP := (hp.pt q.x q.y).1 hpt
 have hx := rf_tx hp (crd_fin' hP.1) hw.1.1
 have hy := rf_tx hp (crd_fin' hP.2) hw.1.2.1
 unfold ndV cn
 rw [p3, p4, p5, hx, hy, List.map_map]
 have h1 : q.a.map ((fun w => (p.rf w).1) ∘ p.tx) = q.a.map cz := List.map_congr_left fun x hx => by
   show (p.rf (p.tx x)).1 = cz x
   rw [rf_tx hp (endl_fin (he x hx)) (hw.2 x hx)]
 rw [h1]
 cases m
 · rw [hm rfl]; simp
 · rw [p6 rfl, rd_itoa hw.1.2.2]; simp
theorem zN_back (i : Nat) (z zz : Bool) (hz : i = 0 ∨ zz = z) : zN i zz (itoa (nrW z i)) = z := by
 unfold zN
 by_cases h0 : i = 0
 · rw [if_pos h0, h0, rd_itoa (by unfold nrW; split <;> exact ⟨by omega, by omega⟩)]
   cases z <;> decide
 · rw [if_neg h0, hz.resolve_left h0]
end
theorem goN_back {p : Pm} (hp : p.Ok) {k : Nat} {m z : Bool} : ∀ (l : List Nd) (i n : Nat) (zz : Bool), (i = 0 ∨ zz = z) → (∀ q ∈ l, wdA q ∧ amiss (k : Int) m q = false ∧ p.pt q.x q.y = true) → i + l.length ≤ 2000000 → goN p k m i zz (nums n (ndsW p z m i l)) = .inr (l.map cn, if l.length = 0 then zz else z) := by
 intro l
 induction l with
 | nil => intro i n zz _ _ _; rfl
 | cons q r ih =>
   intro i n zz hz h hi
   obtain ⟨h1, h2, h3⟩ := h q (by simp)
   rw [ndsW, nums, goN, if_pos (ndE_back hp h1 h2 h3 hz (by simp at hi; omega)), (ndW_parts (k := k) (by have := (amiss_no.1 h2).1; omega)).2.1, zN_back i z zz hz, ih (i + 1) (n + 1) z (Or.inr rfl) (fun x hx => h x (by simp [hx])) (by simp at hi; omega), ndV_back hp h1 h2 h3]
   simp
theorem hdP_back {n : Nat} {k : Int} {m : Bool} (hn : n ≤ 1048576) (h0 : 0 ≤ k) (h16 : k ≤ 16) : hdP [itoa (n : Nat), [50], itoa k, if m then [49] else [48]] = some (n, k.toNat, m) := by
 unfold hdP
 simp only []
 rw [rd_itoa ⟨by omega, by omega⟩, rd_itoa ⟨by omega, by omega⟩, ri_2]
 cases m
 · simp [ri_0, h0]
 · simp [ri_1, h0]
theorem wrN_zero {p : Pm} {f : Fd} (h : (wrN p f).2 = 0) : wrongN p f = 0 ∧ (flW p f).all okL = true ∧ fits (flW p f) = true ∧ (wrN p f).1 = wrT (flW p f) := by
 unfold wrN at h ⊢
 by_cases h0 : wrongN p f = 0
 · rw [if_pos h0] at h ⊢
   obtain ⟨h1, h2, h3⟩ := wrV_zero (L := flW p f) (by simp only [] at h; omega)
   exact ⟨h0, h1, h2, h3⟩
 · rw [if_neg h0] at h
   exact absurd h h0
theorem wr_back {p : Pm} (hp : p.Ok) {f : Fd} (hw : ∀ q ∈ f.ns, wdA q) (h : (wrN p f).2 = 0) : rfV p (wrN p f).1 = (⟨f.ns.map cn, f.z, f.k, f.m⟩, 0, 0) := by
 obtain ⟨h0, h1, h2, h3⟩ := wrN_zero h
 obtain ⟨w1, w2, w3, w4, w5, w6⟩ := wrong_zero h0
 have hk : ((f.k.toNat : Nat) : Int) = f.k := by omega
 have hg := goN_back hp (k := f.k.toNat) (m := f.m) (z := f.z) f.ns 0 2 false (Or.inl rfl) (fun q hq => ⟨hw q hq, by rw [hk]; exact w5 q hq, w6 q hq⟩) (by omega)
 have hz : (if f.ns.length = 0 then false else f.z) = f.z := by
   split
   · rename_i e
     cases hz : f.z
     · rfl
     · exact absurd e (w4 hz)
   · rfl
 rw [hz] at hg
 have hl : (nums 2 (ndsW p f.z f.m 0 f.ns)).length = f.ns.length := by rw [nums_len, ndsW_len]
 have hE : hdE [itoa (f.ns.length : Nat), [50], itoa f.k, if f.m then [49] else [48]] = 0 := by
   unfold hdE
   rw [hdP_back w1 w2 w3]
   simp only []
   rw [if_pos ⟨w1, by omega⟩]
 have ht : tkV p (nums 1 (flW p f)) = (⟨f.ns.map cn, f.z, f.k, f.m⟩, 1 + f.ns.length, 0, 0) := by
   show tkV p ((1, _) :: nums 2 (ndsW p f.z f.m 0 f.ns)) = _
   unfold tkV
   simp only [hE, if_pos, hdP_back w1 w2 w3]
   rw [List.take_of_length_le (by omega), hg]
   simp only []
   rw [if_neg (by omega), hk]
   simp
 rw [h3]
 unfold rfV
 rw [rd_wr h1 h2]
 simp only [if_pos, ht]
 rw [if_neg (by rw [nums_len]; unfold flW; rw [List.length_cons, ndsW_len]; omega)]
/-! ### What is read may be written. -/
theorem rf_fin {p : Pm} (hp : p.Ok) {l : Bs} (h : (p.rf l).2 = 0) : Fin64 (p.rf l).1 ∧ (p.rf l).1 < 18446744073709551616 := by
 rcases hp.rf l with ⟨_, _, h2⟩ | ⟨n, e, ok, _, ht, h2⟩
 · rw [h2] at h; cases h
 · rcases ht with ⟨_, h3, h4, _⟩ | ⟨rfl, _⟩
   · exact ⟨h3, h4⟩
   · rw [h] at h2; cases h2
theorem nd_good {p : Pm} (hp : p.Ok) {k : Nat} {m : Bool} {may : Int → Bool} {ws : List Bs} (h : ndE p k m may ws = 0) : amiss (k : Int) m (ndV p k m ws) = false ∧ p.pt (ndV p k m ws).x (ndV p k m ws).y = true ∧ wdA (ndV p k m ws) := by
 unfold ndE at h
 rw [fst0_zero] at h
 have hl : ws.length = wid k m := by
   have := h _ (show (if ws.length = wid k m then (0 : Int) else 4) ∈ _ by simp)
   rcases Decidable.em (ws.length = wid k m) with e | e
   · exact e
   · rw [if_neg e] at this; cases this
 have hx := rf_fin hp (h (p.rf (ws.getD 1 [])).2 (by simp))
 have hy := rf_fin hp (h (p.rf (ws.getD 2 [])).2 (by simp))
 have hpt : p.pt (p.rf (ws.getD 1 [])).1 (p.rf (ws.getD 2 [])).1 = true := by
   have := h (if p.pt (p.rf (ws.getD 1 [])).1 (p.rf (ws.getD 2 [])).1 then 0 else 10) (by simp)
   cases hq : p.pt (p.rf (ws.getD 1 [])).1 (p.rf (ws.getD 2 [])).1
   · rw [hq] at this; cases this
   · rfl
 have ha : ∀ w ∈ (ws.drop 3).take k, Fin64 (p.rf w).1 ∧ (p.rf w).1 < 18446744073709551616 := fun w hw => rf_fin hp (h (p.rf w).2 (List.mem_append_left _ (List.mem_append_right _ (List.mem_map.2 ⟨w, hw, rfl⟩))))
 refine ⟨amiss_no.2 ⟨?_, ?_, ?_⟩, hpt, ⟨hx.2, hy.2, inR_nd (p := p) (k := k) (m := m) (ws := ws) rfl⟩, ?_⟩
 · show (((((ws.drop 3).take k).map fun w => (p.rf w).1).length : Nat) : Int) = k
   rw [List.length_map, List.length_take, List.length_drop, hl]
   unfold wid
   split <;> omega
 · intro x hxx
   obtain ⟨w, hw, rfl⟩ := List.mem_map.1 hxx
   exact fin_endl (ha w hw).1
 · intro hm
   show (if m then _ else _) = 0
   rw [hm]; rfl
 · intro b hb
   obtain ⟨w, hw, rfl⟩ := List.mem_map.1 hb
   exact (ha w hw).2
theorem goN_nodes {p : Pm} {k : Nat} {m : Bool} : ∀ {L : List (Nat × List Bs)} {i : Nat} {z z' : Bool} {ns : List Nd}, goN p k m i z L = .inr (ns, z') → (∀ q ∈ ns, ∃ ws may, ndE p k m may ws = 0 ∧ q = ndV p k m ws) ∧ (L = [] → z' = z) := by
 intro L
 induction L with
 | nil => intro i z z' ns h; cases h; exact ⟨fun q hq => by simp at hq, fun _ => rfl⟩
 | cons a r ih =>
   intro i z z' ns h
   obtain ⟨no, ws⟩ := a
   simp only [goN] at h
   by_cases h0 : ndE p k m (mayN i z) ws = 0
   · rw [if_pos h0] at h
     cases hg : goN p k m (i + 1) (zN i z (ws.getD 0 [])) r with
     | inl x => rw [hg] at h; cases h
     | inr x =>
       obtain ⟨ms, y⟩ := x
       rw [hg] at h
       cases h
       refine ⟨fun q hq => ?_, fun e => by cases e⟩
       rcases List.mem_cons.1 hq with rfl | hq
       · exact ⟨ws, _, h0, rfl⟩
       · exact (ih hg).1 q hq
   · rw [if_neg h0] at h; cases h
theorem rf_parts {p : Pm} {t : Bs} (h : (rfV p t).2.2 = 0) : ∃ (no : Nat) (ws : List Bs) (r : List (Nat × List Bs)) (c k : Nat) (m z : Bool) (ns : List Nd), (rdV t).1 = (no, ws) :: r ∧ (rdV t).2.2 = 0 ∧ c ≤ 1048576 ∧ k ≤ 16 ∧ goN p k m 0 false (r.take c) = .inr (ns, z) ∧ c ≤ r.length ∧ rfV p t = (⟨ns, z, (k : Nat), m⟩, 0, 0) := by
 have hr : (rdV t).2.2 = 0 := by
   rcases Decidable.em ((rdV t).2.2 = 0) with e | e
   · exact e
   · unfold rfV at h; rw [if_neg e] at h; simp only [] at h; omega
 have hq : (tkV p (rdV t).1).2.2.2 = 0 := by
   rcases Decidable.em ((tkV p (rdV t).1).2.2.2 = 0) with e | e
   · exact e
   · unfold rfV at h; rw [if_pos hr] at h; simp only [if_neg e] at h; exact absurd h e
 have hf : rfV p t = ((tkV p (rdV t).1).1, 0, 0) := by
   have h' := h
   unfold rfV at h' ⊢
   rw [if_pos hr] at h' ⊢
   simp only [if_pos hq] at h' ⊢
   split
   · rename_i e; rw [if_pos e] at h'; cases h'
   · rfl
 cases hL : (rdV t).1 with
 | nil => rw [hL] at hq; cases hq
 | cons a r =>
   obtain ⟨no, ws⟩ := a
   rw [hL] at hq hf
   unfold tkV at hq hf
   by_cases hE : hdE ws = 0
   · simp only [if_pos hE] at hq hf
     cases hP : hdP ws with
     | none => rw [hP] at hq; cases hq
     | some x =>
       obtain ⟨c, k, m⟩ := x
       rw [hP] at hq hf
       have hck : c ≤ 1048576 ∧ k ≤ 16 := by
         unfold hdE at hE
         rw [hP] at hE
         by_cases hq : c ≤ 1048576 ∧ k ≤ 16
         · exact hq
         · simp only [if_neg hq] at hE; cases hE
       simp only [] at hq hf
       cases hG : goN p k m 0 false (r.take c) with
       | inl e =>
         exfalso
         rw [hG] at hq
         have : ∀ (L : List (Nat × List Bs)) (i : Nat) (z : Bool) (e : Nat × Int), goN p k m i z L = .inl e → e.2 ≠ 0 := by
           intro L
           induction L with
           | nil => intro i z e h; cases h
           | cons a r ih =>
             intro i z e h
             obtain ⟨no, ws⟩ := a
             simp only [goN] at h
             by_cases h0 : ndE p k m (mayN i z) ws = 0
             · rw [if_pos h0] at h
               cases hg : goN p k m (i + 1) (zN i z (ws.getD 0 [])) r with
               | inl x => rw [hg] at h; cases h; exact ih _ _ _ hg
               | inr x => rw [hg] at h; cases h
             · rw [if_neg h0] at h; cases h; exact h0
         exact this _ _ _ _ hG hq
       | inr x =>
         obtain ⟨ns, z⟩ := x
         rw [hG] at hq hf
         simp only [] at hq hf
         by_cases hlt : r.length < c
         · rw [if_pos hlt] at hq; cases hq
         · rw [if_neg hlt] at hf
           exact ⟨no, ws, r, c, k, m, z, ns, rfl, hr, hck.1, hck.2, hG, by omega, hf⟩
   · simp only [if_neg hE] at hq
     exact absurd (by omega) hE
theorem itoa_gd (n : Int) : ∀ c ∈ itoa n, gd c = true := by
 intro c hc
 have h1 : ∀ u, ∀ c ∈ decDigits u, gd c = true := fun u c hc => by
   have := dv_le.1 (dec_digits u c hc)
   unfold gd
   simp only [Bool.and_eq_true, decide_eq_true_eq, Bool.not_eq_true', beq_eq_false_iff_ne]
   omega
 unfold itoa at hc
 split at hc
 · rcases List.mem_cons.1 hc with rfl | hc
   · decide
   · exact h1 _ c hc
 · exact h1 _ c hc
theorem may_itoa {n : Int} (h : InR n) : mayW (itoa n) = true := by
 unfold mayW
 rw [Bool.and_eq_true, Bool.and_eq_true, List.all_eq_true]
 exact ⟨⟨by simpa using itoa_ne n, by have := itoa_short h; simp; omega⟩, itoa_gd n⟩
theorem may_tx {p : Pm} (hp : p.Ok) {x : Nat} (hx : Fin64 x) (lx : x < 18446744073709551616) : mayW (p.tx x) = true := by
 have hs := tx_short hp lx
 have hg : p.tx x ≠ [] ∧ ∀ c ∈ p.tx x, gd c = true := by
   rcases hp.tx x lx with ⟨h, _⟩ | ⟨_, ⟨k, _, _, _, h⟩ | ⟨_, n, e, _, _, _, _, _, _, h⟩⟩
   · exact absurd hx h
   · rw [h]; exact ⟨itoa_ne k, itoa_gd k⟩
   · rw [h]
     refine ⟨by simp, fun c hc => ?_⟩
     rcases List.mem_append.1 hc with hc | hc
     · exact itoa_gd n c hc
     · rcases List.mem_cons.1 hc with rfl | hc
       · decide
       · exact itoa_gd e c hc
 unfold mayW
 rw [Bool.and_eq_true, Bool.and_eq_true, List.all_eq_true]
 exact ⟨⟨by simpa using hg.1, by simp; omega⟩, hg.2⟩
theorem flW_may {p : Pm} (hp : p.Ok) {f : Fd} (hw : ∀ q ∈ f.ns, wdA q) (h : wrongN p f = 0) : (flW p f).all okL = true := by
 obtain ⟨w1, w2, w3, w4, w5, w6⟩ := wrong_zero h
 rw [List.all_eq_true]
 intro ws hws
 unfold okL
 rw [Bool.and_eq_true, List.all_eq_true]
 unfold flW at hws
 rcases List.mem_cons.1 hws with rfl | h
 · refine ⟨fun x hx => ?_, rfl⟩
   simp only [List.mem_cons, List.not_mem_nil, or_false] at hx
   rcases hx with rfl | rfl | rfl | rfl
   · exact may_itoa ⟨by omega, by omega⟩
   · decide
   · exact may_itoa ⟨by omega, by omega⟩
   · split <;> decide
 · obtain ⟨j, q, h1, h2, rfl⟩ := ndsW_at p _ _ _ _ _ h
   obtain ⟨hk, he, hm⟩ := amiss_no.1 (w5 q h2)
   have hP := (hp.pt q.x q.y).1 (w6 q h2)
   rw [ndW_is]
   refine ⟨fun x hx => ?_, rfl⟩
   simp only [List.mem_cons, List.mem_append, List.mem_map] at hx
   rcases hx with rfl | rfl | rfl | ⟨b, hb, rfl⟩ | hx
   · exact may_itoa (by unfold nrW; split <;> exact ⟨by omega, by omega⟩)
   · exact may_tx hp (crd_fin' hP.1) (hw q h2).1.1
   · exact may_tx hp (crd_fin' hP.2) (hw q h2).1.2.1
   · exact may_tx hp (endl_fin (he b hb)) ((hw q h2).2 b hb)
   · split at hx
     · rw [List.mem_singleton.1 hx]; exact may_itoa (hw q h2).1.2.2
     · simp at hx
theorem wrT_le {L : List (List Bs)} {B : Nat} (h : ∀ ws ∈ L, (jn ws).length ≤ B) : (wrT L).length ≤ L.length * (B + 1) := by
 induction L with
 | nil => simp [wrT]
 | cons a r ih =>
   have := ih (fun ws hws => h ws (by simp [hws]))
   have h1 := h a (by simp)
   rw [show wrT (a :: r) = (jn a ++ [10]) ++ wrT r by simp [wrT], List.length_append, List.length_append, show (a :: r).length = r.length + 1 from rfl, Nat.succ_mul]
   simp only [List.length_cons, List.length_nil]
   omega
theorem wrT_ge {L : List (List Bs)} (h : ∀ ws ∈ L, 1 ≤ (jn ws).length) : 2 * L.length ≤ (wrT L).length := by
 induction L with
 | nil => simp [wrT]
 | cons a r ih =>
   have := ih (fun ws hws => h ws (by simp [hws]))
   have h1 := h a (by simp)
   rw [show wrT (a :: r) = (jn a ++ [10]) ++ wrT r by simp [wrT], List.length_append, List.length_append, List.length_cons]
   simp
   omega
theorem jn_ge {ws : List Bs} (h : okL ws = true) : 1 ≤ (jn ws).length := by
 obtain ⟨h1, h2⟩ := ok_may h
 cases ws with
 | nil => exact absurd rfl h1
 | cons x r =>
   have hx := (may_gd (h2 x (by simp))).1
   have : 1 ≤ x.length := by cases x with
     | nil => exact absurd rfl hx
     | cons => simp
   cases r with
   | nil => rw [jn_one]; exact this
   | cons y r => rw [jn_cons2, List.length_append]; omega
theorem rd_len {t : Bs} (ht : t.length ≤ 20000) : (rdV t).1.length ≤ 10000 := by
 cases hb : bad 1 (lns t) with
 | some q => obtain ⟨n, e⟩ := q; rw [rdV_bad (by omega) hb]; simp
 | none =>
   rw [rdV_good (by omega) hb]
   have hg := good_fits (lns t) 1 hb
   have hw : wts (lns t) = t.length + 1 := spl_wts _ _
   have h2 := wrT_ge (L := (good 1 (lns t)).map (·.2)) (fun ws hws => by
     obtain ⟨q, hq, rfl⟩ := List.mem_map.1 hws
     exact jn_ge (hg.1 q hq).1)
   rw [List.length_map] at h2
   have := hg.2
   show (good 1 (lns t)).length ≤ 10000
   omega
theorem flW_jn {p : Pm} (hp : p.Ok) {f : Fd} (hw : ∀ q ∈ f.ns, wdA q) (h : wrongN p f = 0) : ∀ ws ∈ flW p f, (jn ws).length ≤ 880 := by
 obtain ⟨w1, w2, w3, w4, w5, w6⟩ := wrong_zero h
 intro ws hws
 have hs := flW_short hp hw w1 ⟨by omega, by omega⟩ ws hws
 have hl : ws.length ≤ 20 ∧ ws ≠ [] := by
   unfold flW at hws
   rcases List.mem_cons.1 hws with rfl | h
   · simp
   · obtain ⟨j, q, h1, h2, rfl⟩ := ndsW_at p _ _ _ _ _ h
     have := ndW_len p f.z f.m (0 + j) q
     have hk := (amiss_no.1 (w5 q h2)).1
     refine ⟨by omega, by rw [ndW_is]; simp⟩
 have h1 := jn_len hl.2
 have h2 := lens_le hs
 have h3 : ws.length * 43 ≤ 20 * 43 := Nat.mul_le_mul_right _ hl.1
 omega
theorem rd_written {p : Pm} (hp : p.Ok) {t : Bs} (ht : t.length ≤ 20000) (h : (rfV p t).2.2 = 0) : (wrN p (rfV p t).1).2 = 0 ∧ (rfV p t).1.ns.length ≤ 10000 := by
 obtain ⟨no, ws, r, c, k, m, z, ns, hL, hr, hc, hk, hG, hcr, hf⟩ := rf_parts h
 rw [hf]
 have hlen := goN_len hG
 rw [List.length_take, Nat.min_eq_left hcr] at hlen
 have hn := rd_len ht
 rw [hL, List.length_cons] at hn
 obtain ⟨hq, hz⟩ := goN_nodes hG
 have hgood : ∀ q ∈ ns, amiss (k : Int) m q = false ∧ p.pt q.x q.y = true ∧ wdA q := fun q hqq => by
   obtain ⟨ws, may, h1, rfl⟩ := hq q hqq
   exact nd_good hp h1
 have hw0 : wrongN p ⟨ns, z, (k : Nat), m⟩ = 0 := by
   unfold wrongN
   simp only []
   rw [if_neg (by omega), if_neg, if_neg, if_neg]
   · simp only [List.any_eq_true, not_exists, not_and]
     intro q hqq
     rw [(hgood q hqq).2.1]; simp
   · simp only [List.any_eq_true, not_exists, not_and]
     intro q hqq
     rw [(hgood q hqq).1]; simp
   · rintro (h | h | ⟨h1, h2⟩)
     · omega
     · omega
     · have : r.take c = [] := by
         apply List.length_eq_zero_iff.1
         rw [List.length_take, Nat.min_eq_left hcr]; omega
       rw [hz this] at h1; cases h1
 have hwd : ∀ q ∈ (⟨ns, z, (k : Nat), m⟩ : Fd).ns, wdA q := fun q hqq => (hgood q hqq).2.2
 have hok := flW_may hp hwd hw0
 have hj := flW_jn hp hwd hw0
 have hfit : fits (flW p ⟨ns, z, (k : Nat), m⟩) = true := by
   refine fits_yes (fun j hj' => ?_) ?_
   · have := hj _ (List.getElem_mem hj')
     omega
   · have h1 := wrT_le hj
     have h2 : (flW p ⟨ns, z, (k : Nat), m⟩).length ≤ 10001 := by
       unfold flW
       rw [List.length_cons, ndsW_len]
       simp only []
       omega
     have h3 := Nat.mul_le_mul_right (880 + 1) h2
     omega
 refine ⟨?_, by simp only []; omega⟩
 unfold wrN
 rw [if_pos hw0]
 unfold wrV
 rw [if_pos hok, if_pos hfit]
 rfl
end

/- The laws of layer 10: what is read again is the same: plain. -/
section
set_option maxRecDepth 100000
open Go.RowKit Go.Shelf Go.Lib
theorem fe_cz {x : Nat} (h : Fin64 x) : FE (cz x) x := FE.of (cz_fin h) h (cz_val x)
theorem same_cn {p : Pm} (hp : p.Ok) {k : Int} {m : Bool} {q : Nd} (ha : amiss k m q = false) (hpt : p.pt q.x q.y = true) : SameN (cn q) q := by
 have hP := (hp.pt q.x q.y).1 hpt
 refine ⟨fe_cz (crd_fin' hP.1), fe_cz (crd_fin' hP.2), rfl, by simp [cn], fun i hi => ?_⟩
 have hi' : i < q.a.length := by simpa [cn] using hi
 show FE ((q.a.map cz).getD i 0) (q.a.getD i 0)
 have hm : q.a[i] ∈ q.a := List.getElem_mem hi'
 rw [List.getD_eq_getElem?_getD, List.getD_eq_getElem?_getD, List.getElem?_map, List.getElem?_eq_getElem hi']
 exact fe_cz (endl_fin ((amiss_no.1 ha).2.1 _ hm))
theorem same_list {p : Pm} (hp : p.Ok) {ms ns : List Nt} {k : Int} {m : Bool} (h : ndsO ms = (ndsO' ns).map cn) (hg : ∀ q ∈ ndsO' ns, amiss k m q = false ∧ p.pt q.x q.y = true) :
   ms.length = ns.length ∧ ∀ (i : Nat) (q r : Nt), ms[i]? = some q → ns[i]? = some r → SameN q.1 r.1 := by
 have hlen : ms.length = ns.length := by
   have := congrArg List.length h
   simpa [ndsO, ndsO'] using this
 refine ⟨hlen, fun i q r hq hr => ?_⟩
 have h1 : (ndsO ms)[i]? = some q.1 := by unfold ndsO; rw [List.getElem?_map, hq]; rfl
 have h2 : ((ndsO' ns).map cn)[i]? = some (cn r.1) := by unfold ndsO'; rw [List.getElem?_map, List.getElem?_map, hr]; rfl
 rw [h, h2] at h1
 have e : cn r.1 = q.1 := by simpa using h1
 rw [← e]
 have hm : r.1 ∈ ndsO' ns := List.mem_map.2 ⟨r, List.mem_of_getElem? hr, rfl⟩
 exact same_cn hp (hg r.1 hm).1 (hg r.1 hm).2
theorem wr_len {p : Pm} {f : Fd} (h : (wrN p f).2 = 0) : (wrN p f).1.length ≤ 16777216 := by
 obtain ⟨_, _, h2, h3⟩ := wrN_zero h
 rw [h3]
 exact (fits_parts h2).2
theorem wr_good {p : Pm} {f : Fd} (h : (wrN p f).2 = 0) : f.ns.length ≤ 1048576 ∧ ∀ q ∈ f.ns, (amiss f.k f.m q = false ∧ p.pt q.x q.y = true) ∧ q.a.length ≤ 16 := by
 obtain ⟨w1, w2, w3, w4, w5, w6⟩ := wrong_zero (wrN_zero h).1
 exact ⟨w1, fun q hq => ⟨⟨w5 q hq, w6 q hq⟩, by have := (amiss_no.1 (w5 q hq)).1; omega⟩⟩
end
end Go.Proofs.YtofklahgpkmfmaaGreatDoor
