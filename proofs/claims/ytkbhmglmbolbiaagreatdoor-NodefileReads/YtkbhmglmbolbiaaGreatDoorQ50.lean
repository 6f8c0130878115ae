/- Own texts, put together: Qdh Qdi Qdj. -/
import Derived.Test.YtkbhmglmbolbiaaGreatDoorQ30
import Derived.Test.YtkbhmglmbolbiaaGreatDoorQ46
import Derived.Test.YtkbhmglmbolbiaaGreatDoorQ47
import Derived.Test.YtkbhmglmbolbiaaGreatDoorQ49
import Derived.Deep.RegionHeld3
namespace Go.Proofs.YtkbhmglmbolbiaaGreatDoor
/- The document's side of layer 10: Read. -/
section
set_option maxRecDepth 100000
open Go.RowKit Go.Shelf Go.Lib
theorem rdV_words {t : Bs} {q : Nat × List Bs} (hq : q ∈ (rdV t).1) : q.2.length ≤ 20000000 := by
 have hlen : t.length ≤ 16777216 := by
   rcases Nat.lt_or_ge 16777216 t.length with h | h
   · rw [rdV_long h] at hq; simp at hq
   · exact h
 obtain ⟨l, hl, e⟩ := (rdV_word hq).2.2.2
 have h1 := toks_len (ahd l)
 have h2 : (ahd l).length ≤ l.length := cutT_len _ _
 have h3 := (spl_word hl).2.1
 rw [e]
 show (toks (ahd l)).length ≤ _
 omega
def RdD (W : World) (t : Bs) (e : Ending) (w' : World) : Prop := ∃ a c ps, e = .returned (.tuple #[.slice a (rdV t).1.length c, .int .i64 ((rdV t).2.1 : Nat), .int .i64 ((rdV t).2.2 : Nat)]) ∧ Lr 56 w' W.heap.size (.slice a (rdV t).1.length c) ps ∧ tell ps = (rdV t).1 ∧ ps.length = (rdV t).1.length ∧ Below W.heap.size W w'
theorem readD (s : ByteArray) (t : Bs) (W : World) (ht : s.data.toList = t) (hl : t.length ≤ 16777216) : Calls Tryz.prog 11 #[.string s] W fun e w' => RdD W t e w' := by
 refine (refRead_any s t W ht hl).mono ?_
 rintro e w' ⟨v, ps, rfl, h2, h3, h4⟩
 have hlen : ps.length = (rdV t).1.length := by rw [← h3]; simp [tell]
 obtain ⟨a, c, rfl, _, _, _⟩ := h2.form
 rw [hlen] at h2 ⊢
 exact ⟨a, c, ps, rfl, h2, h3, hlen, h4⟩
theorem res_read10 (W : World) (B : Nat) (a b c d : Value) (n1 n2 : Int) (tmps : Array Value) (h : CB W B #[a, b, c, d] 25)
   (t2 : tmps[2]? = some (.pointer (some ⟨B, 0, none⟩))) (t3 : tmps[3]? = some (.int .i64 n1)) (t4 : tmps[4]? = some (.int .i64 n2)) : (results Tryz.f5 tmps).run Tryz.prog W = .ok (.tuple #[.agg #[a, b, c, d], .int .i64 n1, .int .i64 n2]) W := by
 have c0 := h.cell 0 (by simp)
 have c1 := h.cell 1 (by simp)
 have c2 := h.cell 2 (by simp)
 have c3 := h.cell 3 (by simp)
 simp [results, Tryz.f5, go_sem, c0, c1, c2, c3, t2, t3, t4]
set_option maxHeartbeats 8000000 in
theorem read10_any {p : Pm} (hp : p.Ok) (s : ByteArray) (t : Bs) (w : World) (ht : s.data.toList = t) (hl : t.length ≤ 16777216) :
   Calls Tryz.prog 5 #[.string s] w fun e w' => ReadNR p w w' t e := by
 obtain ⟨W0, hW0⟩ : ∃ W0, w.alloc (.cells fz4 25) = W0 := ⟨_, rfl⟩
 have b0 : Below w.heap.size w W0 := by rw [← hW0]; exact (Below.refl _ w).alloc (Nat.le_refl _) _
 have c0 : CB W0 w.heap.size fz4 25 := by rw [← hW0]; exact CB.new w _ _
 have HP := Lib.hid hp
 have HR := Lib.hid (readD s t W0 ht hl)
 have H0 : Hid (Below w.heap.size w W0 ∧ CB W0 w.heap.size fz4 25 ∧ True ∧ True ∧ w.heap.size + 1 = W0.heap.size) := Lib.hid ⟨b0, c0, trivial, trivial, by rw [← hW0]; simp⟩
 clear hp ht hl b0 c0
 go_enter Tryz.func5, Tryz.ntmps5
 go_wp2_with fail
 try rw [hW0]
 clear hW0
 refine HR.out.mono ?_
 rintro e W1 ⟨a1, c1, ps, rfl, hLr, htell, hlen, hb1⟩
 have HW1 : Hid (CB W1 w.heap.size fz4 25 ∧ Below w.heap.size w W1 ∧ True ∧ True ∧ w.heap.size < W1.heap.size) := Lib.hid ⟨H0.out.2.1.later hb1, H0.out.1.trans (hb1.mono H0.out.1.size), trivial, trivial, by have := hb1.size; have := H0.out.2.2.2.2; omega⟩
 obtain ⟨er, her⟩ : ∃ er : Nat, Hid ((rdV t).2.2 = er) := ⟨_, Lib.hid rfl⟩
 obtain ⟨al, hal⟩ : ∃ al : Nat, Hid ((rdV t).2.1 = al) := ⟨_, Lib.hid rfl⟩
 obtain ⟨nl, hnl⟩ : ∃ nl : Nat, Hid ((rdV t).1.length = nl) := ⟨_, Lib.hid rfl⟩
 rw [her.out, hal.out, hnl.out]
 rw [hnl.out] at hLr hlen
 have HLr := Lib.hid hLr
 have HTl := Lib.hid htell
 have HLe := Lib.hid hlen
 have hnl' : nl ≤ 16777217 := by rw [← hnl.out]; exact rdV_count t
 have hnl2 : (nl : Int) ≤ 16777217 := by omega
 have hW0s : Hid (w.heap.size < W0.heap.size) := Lib.hid (by have := H0.out.2.2.2.2; omega)
 clear hLr htell hlen hb1 H0 HR
 by_cases h0 : er = 0
 · subst h0
   have hlw : Lw W1 (.slice a1 nl c1) ps := by
     have := HLr.out.lw (fun q hq x hx => by
       have hm : (q.1, q.2.1) ∈ (rdV t).1 := by rw [← HTl.out]; exact List.mem_map.2 ⟨q, hq, rfl⟩
       have := rdV_short hm x hx
       omega)
     exact this
   have hmm : ∀ q ∈ ps, (q.1, q.2.1) ∈ (rdV t).1 := fun q hq => by rw [← HTl.out]; exact List.mem_map.2 ⟨q, hq, rfl⟩
   have HTk : Hid (Calls Tryz.prog 13 #[.slice a1 nl c1] W1 fun e w' => TakeR p W1 w' (tell ps) e) := Lib.hid (take10_any HP.out _ ps W1 hlw (fun q hq x hx => rdV_short (hmm q hq) x hx) (fun q hq => rdV_words (hmm q hq)) (by rw [HLe.out]; omega) (fun q hq => by
       have : q.1 ≤ 16777218 := rdV_no (hmm q hq)
       omega))
   clear hmm
   have HLw := Lib.hid hlw
   clear hlw
   obtain ⟨q, hq⟩ : ∃ q, Hid (tkV p (tell ps) = q) := ⟨_, Lib.hid rfl⟩
   unfold TakeR at HTk
   rw [hq.out] at HTk
   have HRf : Hid (rfV p t = if q.2.2.2 = 0 then (if q.2.1 < nl then ((⟨[], false, 0, false⟩ : Fd), ((rdV t).1.getD q.2.1 (0, [])).1, (4 : Int)) else (q.1, 0, 0)) else (⟨[], false, 0, false⟩, q.2.2.1, q.2.2.2)) := Lib.hid (by
     unfold rfV
     rw [if_pos her.out]
     simp only []
     rw [← HTl.out, hq.out, HTl.out, hnl.out])
   obtain ⟨f, n1, at', ex⟩ := q
   try dsimp only at HRf
   go_wp2_with fail
   refine HTk.out.mono ?_
   rintro e W2 ⟨hb2, a, c, ns, z, k, m, rfl, hF⟩
   have c2 : CB W2 w.heap.size fz4 25 := HW1.out.1.later hb2
   have bw2 : Below w.heap.size w W2 := HW1.out.2.1.trans (hb2.mono HW1.out.2.1.size)
   have HN1 : Hid (n1 ≤ 1048577 ∨ True) := Lib.hid (Or.inr trivial)
   obtain ⟨W3, hW3⟩ : ∃ W3, Hid (W2.alloc (.cells #[.slice a ns.length c, .bool z, .int .i64 (k : Nat), .bool m] 25) = W3) := ⟨_, Lib.hid rfl⟩
   have b3 : Below W2.heap.size W2 W3 := by rw [← hW3.out]; exact (Below.refl _ W2).alloc (Nat.le_refl _) _
   have HC : Hid (CB W3 w.heap.size fz4 25 ∧ Below w.heap.size w W3 ∧ CB W3 W2.heap.size #[.slice a ns.length c, .bool z, .int .i64 (k : Nat), .bool m] 25 ∧ FileR W1 W3 a c ns z k m f ∧ w.heap.size < W1.heap.size ∧ w.heap.size < W2.heap.size) := Lib.hid ⟨c2.later b3, bw2.trans (b3.mono bw2.size), by rw [← hW3.out]; exact CB.new W2 _ _, ⟨hF.row.later b3, hF.is, hF.k16, hF.len⟩, HW1.out.2.2.2.2, Nat.lt_of_lt_of_le HW1.out.2.2.2.2 hb2.size⟩
   have HLw3 := Lib.hid ((HLw.out.later hb2).later b3)
   clear c2 bw2 b3 hb2 hF HTk HW1 HLw
   try dsimp only at hq
   rw [← hW3.out] at HC HLw3
   clear hW3 HN1
   by_cases hx0 : ex = 0
   · subst hx0
     by_cases hlt : n1 < nl
     · have hlt' : (n1 : Int) < (nl : Int) := by omega
       have hn0 : (0 : Int) ≤ (n1 : Int) := by omega
       obtain ⟨q, hqq⟩ : ∃ q, ps[n1]? = some q := ⟨_, List.getElem?_eq_getElem (by rw [HLe.out]; exact hlt)⟩
       have HRf2 : Hid (rfV p t = ((⟨[], false, 0, false⟩ : Fd), q.1, (4 : Int))) := Lib.hid (by
         rw [HRf.out, if_pos rfl, if_pos hlt, ← HTl.out, List.getD_eq_getElem?_getD]
         unfold tell
         rw [List.getElem?_map, hqq]; rfl)
       obtain ⟨⟨a2, c2, e2, _, _, hm⟩, _⟩ := HLw3.out
       obtain ⟨g, off, hga, hg, hcell⟩ := hm.resolve_left (fun e => by rw [e] at hqq; simp at hqq)
       cases e2
       subst hga
       obtain ⟨W, hW⟩ : ∃ W, (W2.alloc (.cells #[.slice a ns.length c, .bool z, .int .i64 (k : Nat), .bool m] 25)).drew = W := ⟨_, rfl⟩
       have kno : W.cell? ⟨g, off + n1 * 2, none⟩ = some (.int .i64 (q.1 : Nat)) := by rw [← hW]; exact (hcell n1 q hqq).1
       have HR0 : Hid (CB W w.heap.size fz4 25 ∧ Below w.heap.size w W) := Lib.hid (by rw [← hW]; exact ⟨HC.out.1, HC.out.2.1.drew⟩)
       obtain ⟨k20, k21, k22, k23⟩ := HR0.out.1.cells4
       have f20 := HR0.out.1.frozen 0
       have f21 := HR0.out.1.frozen 1
       have f22 := HR0.out.1.frozen 2
       have f23 := HR0.out.1.frozen 3
       have hgw : g ≠ w.heap.size := by
         have h1 := (World.ownsRow.lt HLr.out.own g rfl).1
         have h2 := hW0s.out
         omega
       have hgw2 : w.heap.size ≠ g := fun e => hgw e.symm
       clear hcell hm hqq HLw3 HC
       go_wp2_with fail
       go_region
       all_goals
         go_wp2
         refine bodyPost_ret (res_read10 _ w.heap.size _ _ _ _ _ _ _ (set4 HR0.out.1 _ _ _ _) rfl rfl rfl) rfl ?_
         refine ⟨(((HR0.out.2.setCell (Nat.le_refl _) _).setCell (Nat.le_refl _) _).setCell (Nat.le_refl _) _).setCell (Nat.le_refl _) _, none, 0, [], false, 0, false, by rw [HRf2.out]; rfl, ⟨Nr.nil (World.ownsRow_nil _ _ _ _), by rw [HRf2.out]; rfl, by omega, by simp⟩⟩
     · have hlt' : ¬ ((n1 : Int) < (nl : Int)) := by omega
       have HRf2 : Hid (rfV p t = (f, 0, (0 : Int))) := Lib.hid (by rw [HRf.out, if_pos rfl, if_neg hlt])
       obtain ⟨k40, k41, k42, k43⟩ := HC.out.2.2.1.cells4
       obtain ⟨k20, k21, k22, k23⟩ := HC.out.1.cells4
       have f20 := HC.out.1.frozen 0
       have f21 := HC.out.1.frozen 1
       have f22 := HC.out.1.frozen 2
       have f23 := HC.out.1.frozen 3
       go_wp2
       refine bodyPost_ret (res_read10 _ w.heap.size _ _ _ _ _ _ _ (set4 HC.out.1 _ _ _ _) rfl rfl rfl) rfl ?_
       refine ⟨(((HC.out.2.1.setCell (Nat.le_refl _) _).setCell (Nat.le_refl _) _).setCell (Nat.le_refl _) _).setCell (Nat.le_refl _) _, a, c, ns, z, k, m, by rw [HRf2.out]; rfl, ⟨(HC.out.2.2.2.1.row.ob (ob_set4 _ _ _ _ _ _) HC.out.2.2.2.2.1).base (by have := HC.out.2.2.2.2.1; omega), by rw [HRf2.out]; exact HC.out.2.2.2.1.is, HC.out.2.2.2.1.k16, HC.out.2.2.2.1.len⟩⟩
   · have hx' : (ex == 0) = false := by simpa using hx0
     have HRf2 : Hid (rfV p t = ((⟨[], false, 0, false⟩ : Fd), at', ex)) := Lib.hid (by rw [HRf.out, if_neg hx0])
     obtain ⟨k20, k21, k22, k23⟩ := HC.out.1.cells4
     have f20 := HC.out.1.frozen 0
     have f21 := HC.out.1.frozen 1
     have f22 := HC.out.1.frozen 2
     have f23 := HC.out.1.frozen 3
     go_wp2
     refine bodyPost_ret (res_read10 _ w.heap.size _ _ _ _ _ _ _ (set4 HC.out.1 _ _ _ _) rfl rfl rfl) rfl ?_
     refine ⟨(((HC.out.2.1.setCell (Nat.le_refl _) _).setCell (Nat.le_refl _) _).setCell (Nat.le_refl _) _).setCell (Nat.le_refl _) _, none, 0, [], false, 0, false, by rw [HRf2.out]; rfl, ⟨Nr.nil (World.ownsRow_nil _ _ _ _), by rw [HRf2.out]; rfl, by omega, by simp⟩⟩
 · have h0' : ((er : Int) == 0) = false := by rw [beq_eq_false_iff_ne]; omega
   have h0n : ¬ ((er : Int) = 0) := by omega
   have HRf : Hid (rfV p t = ((⟨[], false, 0, false⟩ : Fd), al, (er : Int))) := Lib.hid (by
     unfold rfV
     rw [if_neg (by rw [her.out]; exact h0), her.out, hal.out])
   obtain ⟨k20, k21, k22, k23⟩ := HW1.out.1.cells4
   have f20 := HW1.out.1.frozen 0
   have f21 := HW1.out.1.frozen 1
   have f22 := HW1.out.1.frozen 2
   have f23 := HW1.out.1.frozen 3
   go_wp2
   refine bodyPost_ret (res_read10 _ w.heap.size _ _ _ _ _ _ _ (set4 HW1.out.1 _ _ _ _) rfl rfl rfl) rfl ?_
   refine ⟨(((HW1.out.2.1.setCell (Nat.le_refl _) _).setCell (Nat.le_refl _) _).setCell (Nat.le_refl _) _).setCell (Nat.le_refl _) _, none, 0, [], false, 0, false, by rw [HRf.out]; rfl, ⟨Nr.nil (World.ownsRow_nil _ _ _ _), by rw [HRf.out]; rfl, by omega, by simp⟩⟩
end

/- The law NodefileReads: what it leans on: plain, and Reads and Takes by name. -/
section
set_option maxRecDepth 100000
open Go.RowKit Go.Shelf Go.Lib
theorem same_self {p : Pm} (hp : p.Ok) {k : Int} {m : Bool} {q : Nd} (ha : amiss k m q = false) (hpt : p.pt q.x q.y = true) : SameN q q := by
 have hP := (hp.pt q.x q.y).1 hpt
 refine ⟨FE.of (crd_fin' hP.1) (crd_fin' hP.1) rfl, FE.of (crd_fin' hP.2) (crd_fin' hP.2) rfl, rfl, rfl, fun i hi => ?_⟩
 have hm : q.a[i] ∈ q.a := List.getElem_mem hi
 rw [List.getD_eq_getElem?_getD, List.getElem?_eq_getElem hi]
 have hf := endl_fin ((amiss_no.1 ha).2.1 _ hm)
 exact FE.of hf hf rfl
def Gn (f : Fd) (n : Nat) : Prop := f.ns.length ≤ n ∧ ∀ q ∈ f.ns, SameN q q ∧ q.a.length ≤ 1000000
theorem gn_nil (z : Bool) (k : Int) (m : Bool) (n : Nat) : Gn ⟨[], z, k, m⟩ n := ⟨by simp, fun q hq => by simp at hq⟩
theorem tk_gn {p : Pm} (hp : p.Ok) (L : List (Nat × List Bs)) : Gn (tkV p L).1 L.length := by
 unfold tkV
 split
 · exact gn_nil _ _ _ _
 · rename_i no ws r
   split
   · rename_i hE
     split
     · exact gn_nil _ _ _ _
     · rename_i c k m hP
       have hk : k ≤ 16 := by
         unfold hdE at hE
         rw [hP] at hE
         by_cases hq : c ≤ 1048576 ∧ k ≤ 16
         · exact hq.2
         · simp only [if_neg hq] at hE; cases hE
       split
       · exact gn_nil _ _ _ _
       · rename_i ns z hg
         split
         · exact gn_nil _ _ _ _
         · refine ⟨?_, fun q hq => ?_⟩
           · show ns.length ≤ _
             rw [goN_len hg, List.length_take, List.length_cons]; omega
           · obtain ⟨ws', may, h1, rfl⟩ := (goN_nodes hg).1 q hq
             obtain ⟨g1, g2, _⟩ := nd_good hp h1
             have := (amiss_no.1 g1).1
             exact ⟨same_self hp g1 g2, by omega⟩
   · exact gn_nil _ _ _ _
theorem rf_gn {p : Pm} (hp : p.Ok) (t : Bs) : Gn (rfV p t).1 (rdV t).1.length := by
 unfold rfV
 split
 · simp only []
   split
   · split
     · exact gn_nil _ _ _ _
     · exact tk_gn hp _
   · exact gn_nil _ _ _ _
 · exact gn_nil _ _ _ _
theorem same_two {ms ns : List Nt} {f : Fd} {n : Nat} (hg : Gn f n) (h1 : f.ns = ndsO ms) (h2 : f.ns = ndsO ns) : ms.length = ns.length ∧ (∀ (i : Nat) (q r : Nt), ms[i]? = some q → ns[i]? = some r → SameN q.1 r.1) ∧ ms.length ≤ n ∧ ∀ q ∈ ms, q.1.a.length ≤ 1000000 := by
 have e : ndsO ms = ndsO ns := h1.symm.trans h2
 have l1 : f.ns.length = ms.length := by rw [h1]; simp [ndsO]
 refine ⟨?_, fun i q r hq hr => ?_, by rw [← l1]; exact hg.1, fun q hq => ?_⟩
 · have := congrArg List.length e
   simpa [ndsO] using this
 · have e1 : (ndsO ms)[i]? = some q.1 := by unfold ndsO; rw [List.getElem?_map, hq]; rfl
   have e2 : (ndsO ns)[i]? = some r.1 := by unfold ndsO; rw [List.getElem?_map, hr]; rfl
   rw [e, e2] at e1
   have e3 : r.1 = q.1 := by simpa using e1
   rw [← e3]
   exact (hg.2 r.1 (by rw [h2]; exact List.mem_map.2 ⟨r, List.mem_of_getElem? hr, rfl⟩)).1
 · exact (hg.2 q.1 (by rw [h1]; exact List.mem_map.2 ⟨q, hq, rfl⟩)).2
def RdN (w w' : World) (f : Fd) (at' : Nat) (er : Int) (e : Ending) : Prop := ∃ a c ns z k m, e = .returned (.tuple #[.agg #[.slice a ns.length c, .bool z, .int .i64 (k : Nat), .bool m], .int .i64 (at' : Nat), .int .i64 er]) ∧ Nr w' w.heap.size (.slice a ns.length c) ns ∧ f = ⟨ndsO ns, z, (k : Nat), m⟩ ∧ ns.length ≤ 1048576 ∧ Below w.heap.size w w'
theorem readN1 {p : Pm} (hp : p.Ok) (t : Bs) (w : World) (hl : t.length ≤ 9223372036854775807) (hT : T10 w) (f : Fd) (at' : Nat) (er : Int) (hr : rfV p t = (f, at', er)) :
   Calls Tryz.prog 6 #[sv t] w fun e w' => RdN w w' f at' er e := by
 refine (readN_any hp ⟨t.toArray⟩ t w (by simp) hl hT.1.1 hT.2).mono ?_
 rintro e w' ⟨hb, a, c, ns, z, k, m, rfl, hF⟩
 rw [hr] at hF ⊢
 exact ⟨a, c, ns, z, k, m, rfl, hF.row, hF.is, hF.len, hb⟩
theorem readD1 {p : Pm} (hp : p.Ok) (t : Bs) (w : World) (hl : t.length ≤ 16777216) (f : Fd) (at' : Nat) (er : Int) (hr : rfV p t = (f, at', er)) :
   Calls Tryz.prog 5 #[sv t] w fun e w' => RdN w w' f at' er e := by
 refine (read10_any hp ⟨t.toArray⟩ t w (by simp) hl).mono ?_
 rintro e w' ⟨hb, a, c, ns, z, k, m, rfl, hF⟩
 rw [hr] at hF ⊢
 exact ⟨a, c, ns, z, k, m, rfl, hF.row, hF.is, hF.len, hb⟩
def TkN (w w' : World) (f : Fd) (n1 at' : Nat) (er : Int) (e : Ending) : Prop := ∃ a c ns z k m, e = .returned (.tuple #[.agg #[.slice a ns.length c, .bool z, .int .i64 (k : Nat), .bool m], .int .i64 (n1 : Nat), .int .i64 (at' : Nat), .int .i64 er]) ∧ Nr w' w.heap.size (.slice a ns.length c) ns ∧ f = ⟨ndsO ns, z, (k : Nat), m⟩ ∧ Below w.heap.size w w'
theorem takeN1 {p : Pm} (hp : p.Ok) (v : Value) (ps : List Lt) (t : Bs) (w : World) (hL : Lw w v ps) (ht : tell ps = (rdV t).1) (hT : T10 w) (f : Fd) (n1 at' : Nat) (er : Int) (hr : tkV p (rdV t).1 = (f, n1, at', er)) :
   Calls Tryz.prog 12 #[v] w fun e w' => TkN w w' f n1 at' er e := by
 have hm : ∀ q ∈ ps, (q.1, q.2.1) ∈ (rdV t).1 := fun q hq => by rw [← ht]; exact List.mem_map.2 ⟨q, hq, rfl⟩
 have hlen : ps.length = (rdV t).1.length := by rw [← ht]; simp [tell]
 refine (take_any hp v ps w hL (fun q hq x hx => by have := rdV_short (hm q hq) x hx; omega) (by rw [hlen]; have := rdV_count t; omega) (fun q hq => by have : q.1 ≤ 16777218 := rdV_no (hm q hq); omega) hT.1.1 hT.2).mono ?_
 rintro e w' ⟨hb, a, c, ns, z, k, m, rfl, hF⟩
 rw [ht, hr] at hF ⊢
 exact ⟨a, c, ns, z, k, m, rfl, hF.row, hF.is, hb⟩
theorem takeD1 {p : Pm} (hp : p.Ok) (v : Value) (ps : List Lt) (t : Bs) (w : World) (hL : Lw w v ps) (ht : tell ps = (rdV t).1) (f : Fd) (n1 at' : Nat) (er : Int) (hr : tkV p (rdV t).1 = (f, n1, at', er)) :
   Calls Tryz.prog 13 #[v] w fun e w' => TkN w w' f n1 at' er e := by
 have hm : ∀ q ∈ ps, (q.1, q.2.1) ∈ (rdV t).1 := fun q hq => by rw [← ht]; exact List.mem_map.2 ⟨q, hq, rfl⟩
 have hlen : ps.length = (rdV t).1.length := by rw [← ht]; simp [tell]
 refine (take10_any hp v ps w hL (fun q hq x hx => rdV_short (hm q hq) x hx) (fun q hq => rdV_words (hm q hq)) (by rw [hlen]; have := rdV_count t; omega) (fun q hq => by have : q.1 ≤ 16777218 := rdV_no (hm q hq); omega)).mono ?_
 rintro e w' ⟨hb, a, c, ns, z, k, m, rfl, hF⟩
 rw [ht, hr] at hF ⊢
 exact ⟨a, c, ns, z, k, m, rfl, hF.row, hF.is, hb⟩
theorem Mid.below {B C : Nat} {w W : World} (h : Mid B C w W) {n : Nat} (hn : n ≤ B) : Below n w W := ⟨h.os, h.tape, h.output, by rw [h.size]; exact Nat.le_refl _, fun k hk => h.block k (Or.inl (by omega))⟩
theorem Mid.own {B C : Nat} {w W : World} (h : Mid B C w W) {base e size n : Nat} {v : Value} {xs : List Value} (ho : w.ownsRow base e size v n xs) (hb : ∀ b, v.ownBlock = some b → b < B ∨ C ≤ b) : W.ownsRow base e size v n xs := by
 refine ⟨ho.1, ?_⟩
 rcases ho.2 with h1 | ⟨g, cap, cur, h1, h2, h3, h4⟩
 · exact Or.inl h1
 · refine Or.inr ⟨g, cap, cur, h1, h2, ?_, h4⟩
   rw [h.block g (hb g (by rw [h1]; rfl))]; exact h3
theorem Mid.nr {B C : Nat} {w W : World} (h : Mid B C w W) {B0 : Nat} {v : Value} {ns : List Nt} (hn : Nr w B0 v ns) (hv : ∀ b, v.ownBlock = some b → b < B ∨ C ≤ b) (hs : ∀ q ∈ ns, ∀ b, q.2.ownBlock = some b → b < B ∨ C ≤ b) : Nr W B0 v ns :=
 ⟨h.own hn.own hv, fun q hq => ⟨h.own (hn.sub q hq).own (hs q hq), (hn.sub q hq).word⟩, hn.wrd⟩
theorem Mid.cb {B C : Nat} {w W : World} (h : Mid B C w W) {b t : Nat} {cs : Array Value} (hc : CB w b cs t) (hb : b < B ∨ C ≤ b) : CB W b cs t := by
 unfold CB at hc ⊢
 rw [h.block b hb]; exact hc
end

/- The law NodefileReads. -/
section
set_option maxRecDepth 100000
open Go.RowKit Go.Shelf Go.Lib
structure Fl (W : World) (b ty : Nat) (v : Value) (z : Bool) (k : Nat) (m : Bool) (B C : Nat) (ns : List Nt) : Prop where
 box : CB W b #[v, .bool z, .int .i64 (k : Nat), .bool m] ty
 row : Nr W B v ns
 top : ∀ x, v.ownBlock = some x → B ≤ x ∧ x < C
 sub : ∀ q ∈ ns, ∀ x, q.2.ownBlock = some x → B ≤ x ∧ x < C
theorem Fl.new {w W : World} {v : Value} {ns : List Nt} {z : Bool} {k : Nat} {m : Bool} {W' : World} {ty : Nat} (h : Nr W w.heap.size v ns) (e : W.alloc (.cells #[v, .bool z, .int .i64 (k : Nat), .bool m] ty) = W') : Fl W' W.heap.size ty v z k m w.heap.size W.heap.size ns :=
 ⟨by rw [← e]; exact CB.new _ _ _, h.later (by rw [← e]; exact (Below.refl _ _).alloc (Nat.le_refl _) _), fun x hx => h.own.lt x hx, fun q hq x hx => (h.sub q hq).own.lt x hx⟩
theorem Fl.later {W W' : World} {b ty : Nat} {v : Value} {z : Bool} {k : Nat} {m : Bool} {B C : Nat} {ns : List Nt} (h : Fl W b ty v z k m B C ns) (hb : Below W.heap.size W W') : Fl W' b ty v z k m B C ns := ⟨h.box.later hb, h.row.later hb, h.top, h.sub⟩
theorem Fl.mid {W W' : World} {b ty : Nat} {v : Value} {z : Bool} {k : Nat} {m : Bool} {B C B' C' : Nat} {ns : List Nt} (h : Fl W b ty v z k m B C ns) (hm : Mid B' C' W W') (hb : b < B' ∨ C' ≤ b) (hr : C ≤ B' ∨ C' ≤ B) : Fl W' b ty v z k m B C ns :=
 ⟨hm.cb h.box hb, hm.nr h.row (fun x hx => by have := h.top x hx; omega) (fun q hq x hx => by have := h.sub q hq x hx; omega), h.top, h.sub⟩
theorem keep8 {w W W' : World} {b1 b2 : Nat} {u0 u1 u2 u3 v0 v1 v2 v3 : Value} (h : W.cell? ⟨b1, 0, none⟩ = some u0 ∧ W.cell? ⟨b1, 1, none⟩ = some u1 ∧ W.cell? ⟨b1, 2, none⟩ = some u2 ∧ W.cell? ⟨b1, 3, none⟩ = some u3 ∧ W.cell? ⟨b2, 0, none⟩ = some v0 ∧ W.cell? ⟨b2, 1, none⟩ = some v1 ∧ W.cell? ⟨b2, 2, none⟩ = some v2 ∧ W.cell? ⟨b2, 3, none⟩ = some v3 ∧ Below w.heap.size w W) (hb : Below W.heap.size W W') :
   W'.cell? ⟨b1, 0, none⟩ = some u0 ∧ W'.cell? ⟨b1, 1, none⟩ = some u1 ∧ W'.cell? ⟨b1, 2, none⟩ = some u2 ∧ W'.cell? ⟨b1, 3, none⟩ = some u3 ∧ W'.cell? ⟨b2, 0, none⟩ = some v0 ∧ W'.cell? ⟨b2, 1, none⟩ = some v1 ∧ W'.cell? ⟨b2, 2, none⟩ = some v2 ∧ W'.cell? ⟨b2, 3, none⟩ = some v3 ∧ Below w.heap.size w W' := by
 obtain ⟨h0, h1, h2, h3, h4, h5, h6, h7, h8⟩ := h
 have l1 := World.block_lt_of_cell? _ _ h0
 have l2 := World.block_lt_of_cell? _ _ h4
 exact ⟨cell_later hb l1 h0, cell_later hb l1 h1, cell_later hb l1 h2, cell_later hb l1 h3, cell_later hb l2 h4, cell_later hb l2 h5, cell_later hb l2 h6, cell_later hb l2 h7, h8.trans (hb.mono h8.size)⟩
theorem keep8_bel {w W : World} {b1 b2 : Nat} {u0 u1 u2 u3 v0 v1 v2 v3 : Value} (h : W.cell? ⟨b1, 0, none⟩ = some u0 ∧ W.cell? ⟨b1, 1, none⟩ = some u1 ∧ W.cell? ⟨b1, 2, none⟩ = some u2 ∧ W.cell? ⟨b1, 3, none⟩ = some u3 ∧ W.cell? ⟨b2, 0, none⟩ = some v0 ∧ W.cell? ⟨b2, 1, none⟩ = some v1 ∧ W.cell? ⟨b2, 2, none⟩ = some v2 ∧ W.cell? ⟨b2, 3, none⟩ = some v3 ∧ Below w.heap.size w W) : Below w.heap.size w W := h.2.2.2.2.2.2.2.2
set_option maxHeartbeats 32000000 in
theorem reads10_law (t : Bs) (w : World) (ht : t.length ≤ 9223372036854775807) (hT : T10 w) :
   Calls Tryz.prog 3 #[sv t] w fun e w' => e = .returned (.bool true) ∧ Below w.heap.size w w' := by
 obtain ⟨p, hp⟩ := pm_ex
 have HP := Lib.hid hp
 have HT := Lib.hid hT
 have hsz : (⟨t.toArray⟩ : ByteArray).size = t.length := by rw [Lib.size_eq]
 have HAw : Hid (∀ W, Below w.heap.size w W → Calls Tryz.prog 4 #[] W fun e w' => e = .returned (.bool true) ∧ Below w.heap.size w w') := Lib.hid fun W hW => (awake10 W (HT.out.later hW)).mono fun e w' h => ⟨h.1, hW.trans (h.2.mono hW.size)⟩
 clear hT hp
 by_cases hlt : 20000 < (t.length : Int)
 · go_enter Tryz.func3, Tryz.ntmps3
   go_wp2_with (go_at_call 4; refine (HAw.out _ (Below.refl _ _)).mono ?_; rintro e W3 ⟨rfl, hb3⟩; have HB3 := Lib.hid hb3; clear hb3)
   go_ret
   exact ⟨rfl, HB3.out⟩
 have htl : t.length ≤ 20000 := by omega
 have HTl := Lib.hid htl
 clear htl
 obtain ⟨⟨f, at', er⟩, hr⟩ : ∃ q, Hid (rfV p t = q) := ⟨_, Lib.hid rfl⟩
 obtain ⟨⟨f2, n1, at2, er2⟩, hr2⟩ : ∃ q, Hid (tkV p (rdV t).1 = q) := ⟨_, Lib.hid rfl⟩
 have HGn : Hid (Gn f 10000) := Lib.hid (by
   have h := rf_gn HP.out t
   rw [hr.out] at h
   exact ⟨Nat.le_trans h.1 (rd_len HTl.out), h.2⟩)
 have HGn2 : Hid (Gn f2 10000) := Lib.hid (by
   have h := tk_gn HP.out (rdV t).1
   rw [hr2.out] at h
   exact ⟨Nat.le_trans h.1 (rd_len HTl.out), h.2⟩)
 go_enter Tryz.func3, Tryz.ntmps3
 go_wp2_with fail
 refine (readD1 HP.out t w (by have := HTl.out; omega) f at' er hr.out).mono ?_
 rintro e V1 ⟨a1, c1, ns1, z, k, m, rfl, hn1, hf1, _, hb1⟩
 obtain ⟨V2, hV2⟩ : ∃ V2, V1.alloc (.cells #[.slice a1 ns1.length c1, .bool z, .int .i64 (k : Nat), .bool m] 25) = V2 := ⟨_, rfl⟩
 obtain ⟨B1, hB1⟩ : ∃ B, V1.heap.size = B := ⟨_, rfl⟩
 have d2 : Below V1.heap.size V1 V2 := by rw [← hV2]; exact (Below.refl _ _).alloc (Nat.le_refl _) _
 have H2 : Hid (Below w.heap.size w V2 ∧ Fl V2 B1 25 (.slice a1 ns1.length c1) z k m w.heap.size B1 ns1 ∧ B1 < V2.heap.size ∧ w.heap.size ≤ B1 ∧ f.ns = ndsO ns1) := Lib.hid ⟨hb1.trans (d2.mono hb1.size), by rw [← hB1]; exact Fl.new hn1 hV2, by rw [← hB1, ← hV2]; simp, by rw [← hB1]; exact hb1.size, by rw [hf1]⟩
 obtain ⟨N1, hN1⟩ : ∃ N, Hid (ns1.length = N) := ⟨_, Lib.hid rfl⟩
 have HF1 := Lib.hid hf1
 have HV2 := Lib.hid hV2
 clear hn1 hf1 hb1 d2 hV2
 go_wp2_with fail
 rw [HV2.out]
 clear HV2
 try rw [hB1]
 clear hB1
 refine (readN1 HP.out t V2 ht (HT.out.later H2.out.1) f at' er hr.out).mono ?_
 rintro e V3 ⟨a2, c2, ns2, z', k', m', rfl, hn2, hf2, hl2, hb3⟩
 obtain rfl : z = z' := by have h := congrArg Fd.z (HF1.out.symm.trans hf2); exact h
 obtain rfl : k = k' := by have h := congrArg Fd.k (HF1.out.symm.trans hf2); simp only [] at h; omega
 obtain rfl : m = m' := by have h := congrArg Fd.m (HF1.out.symm.trans hf2); exact h
 obtain ⟨V4, hV4⟩ : ∃ V4, V3.alloc (.cells #[.slice a2 ns2.length c2, .bool z, .int .i64 (k : Nat), .bool m] 29) = V4 := ⟨_, rfl⟩
 obtain ⟨B2, hB2⟩ : ∃ B, V3.heap.size = B := ⟨_, rfl⟩
 have d4 : Below V3.heap.size V3 V4 := by rw [← hV4]; exact (Below.refl _ _).alloc (Nat.le_refl _) _
 have d24 : Below V2.heap.size V2 V4 := hb3.trans (d4.mono hb3.size)
 have H4 : Hid (Below w.heap.size w V4 ∧ Fl V4 B1 25 (.slice a1 ns1.length c1) z k m w.heap.size B1 ns1 ∧ Fl V4 B2 29 (.slice a2 ns2.length c2) z k m V2.heap.size B2 ns2 ∧ B2 < V4.heap.size ∧ V2.heap.size ≤ B2 ∧ f.ns = ndsO ns2) := Lib.hid ⟨H2.out.1.trans (d24.mono H2.out.1.size), H2.out.2.1.later d24, by rw [← hB2]; exact Fl.new hn2 hV4, by rw [← hB2, ← hV4]; simp, by rw [← hB2]; exact hb3.size, by rw [hf2]⟩
 have HL2 := Lib.hid hl2
 have HV4 := Lib.hid hV4
 clear hn2 hf2 hb3 d4 d24 hV4 hl2
 go_wp2_with fail
 rw [HV4.out]
 clear HV4
 try rw [hB2]
 clear hB2
 refine (readN1 HP.out t V4 ht (HT.out.later H4.out.1) f at' er hr.out).mono ?_
 rintro e V5 ⟨a3, c3, ns3, z', k', m', rfl, hn3, hf3, _, hb5⟩
 obtain rfl : z = z' := by have h := congrArg Fd.z (HF1.out.symm.trans hf3); exact h
 obtain rfl : k = k' := by have h := congrArg Fd.k (HF1.out.symm.trans hf3); simp only [] at h; omega
 obtain rfl : m = m' := by have h := congrArg Fd.m (HF1.out.symm.trans hf3); exact h
 obtain ⟨V6, hV6⟩ : ∃ V6, V5.alloc (.cells #[.slice a3 ns3.length c3, .bool z, .int .i64 (k : Nat), .bool m] 29) = V6 := ⟨_, rfl⟩
 obtain ⟨B3, hB3⟩ : ∃ B, V5.heap.size = B := ⟨_, rfl⟩
 obtain ⟨V7, hV7⟩ : ∃ V7, V6.drew = V7 := ⟨_, rfl⟩
 have d6 : Below V5.heap.size V5 V6 := by rw [← hV6]; exact (Below.refl _ _).alloc (Nat.le_refl _) _
 have d67 : Below V6.heap.size V6 V7 := by rw [← hV7]; exact (Below.refl _ _).drew
 have d47 : Below V4.heap.size V4 V7 := (hb5.trans (d6.mono hb5.size)).trans (d67.mono (Nat.le_trans hb5.size d6.size))
 have F1 := H4.out.2.1.later d47
 have F2 := H4.out.2.2.1.later d47
 have F3 : Fl V7 B3 29 (.slice a3 ns3.length c3) z k m V4.heap.size B3 ns3 := by rw [← hB3]; exact (Fl.new hn3 hV6).later d67
 have H7 : Hid (Below w.heap.size w V7 ∧ Fl V7 B1 25 (.slice a1 ns1.length c1) z k m w.heap.size B1 ns1 ∧ Fl V7 B2 29 (.slice a2 ns2.length c2) z k m V2.heap.size B2 ns2 ∧ Fl V7 B3 29 (.slice a3 ns3.length c3) z k m V4.heap.size B3 ns3 ∧ f.ns = ndsO ns3 ∧ V4.heap.size ≤ B3) := Lib.hid ⟨H4.out.1.trans (d47.mono H4.out.1.size), F1, F2, F3, by rw [hf3], by rw [← hB3]; exact hb5.size⟩
 obtain ⟨x0, x1, x2, x3⟩ := F2.box.cells4
 obtain ⟨y0, y1, y2, y3⟩ := F1.box.cells4
 have HBk : Hid (∀ W' a n c, Below V7.heap.size V7 W' → Calls Tryz.prog 8 #[.agg #[.slice a n c, .bool z, .int .i64 (k : Nat), .bool m]] W' fun e w' => e = .returned (.agg #[.slice a n c, .bool z, .int .i64 (k : Nat), .bool m]) ∧ Below V7.heap.size V7 w') := Lib.hid (fun W' a n c hW' => (back10_any a n c z _ m W').mono fun e w' h => ⟨h.1, hW'.trans (h.2.mono hW'.size)⟩)
 have HSm : Hid (∀ W', Below V7.heap.size V7 W' → Calls Tryz.prog 7 #[.agg #[.slice a2 ns2.length c2, .bool z, .int .i64 (k : Nat), .bool m], .agg #[.slice a1 ns1.length c1, .bool z, .int .i64 (k : Nat), .bool m]] W' fun e w' => e = .returned (.bool true) ∧ Below V7.heap.size V7 w') := Lib.hid (fun W' hW' => by
   obtain ⟨s1, s2, s3, s4⟩ := same_two HGn.out H4.out.2.2.2.2.2 H2.out.2.2.2.2
   exact (same10_any _ _ ns2 ns1 z m _ W' (H7.out.2.2.1.row.nv.later hW') (H7.out.2.1.row.nv.later hW') s1 s2 (by omega) s4).mono fun e w' h => ⟨h.1, hW'.trans (h.2.mono hW'.size)⟩)
 have HCc : Hid (∀ W', Below V7.heap.size V7 W' → CB W' B2 #[.slice a2 ns2.length c2, .bool z, .int .i64 (k : Nat), .bool m] 29 ∧ CB W' B1 #[.slice a1 ns1.length c1, .bool z, .int .i64 (k : Nat), .bool m] 25) := Lib.hid (fun W' h => ⟨H7.out.2.2.1.box.later h, H7.out.2.1.box.later h⟩)
 have hr7 := Below.refl V7.heap.size V7
 clear hn3 hf3 hb5 d6 d67 d47 F1 F2 F3
 go_wp2_with fail
 generalize (Value.tuple #[.agg #[.slice a1 ns1.length c1, .bool z, .int .i64 (k : Nat), .bool m], .int .i64 (at' : Nat), .int .i64 er]) = dt1
 generalize (Value.tuple #[.agg #[.slice a2 ns2.length c2, .bool z, .int .i64 (k : Nat), .bool m], .int .i64 (at' : Nat), .int .i64 er]) = dt2
 generalize (Value.tuple #[.agg #[.slice a3 ns3.length c3, .bool z, .int .i64 (k : Nat), .bool m], .int .i64 (at' : Nat), .int .i64 er]) = dt3
 generalize (Value.agg #[.slice a1 ns1.length c1, .bool z, .int .i64 (k : Nat), .bool m]) = da1
 generalize (Value.agg #[.slice a2 ns2.length c2, .bool z, .int .i64 (k : Nat), .bool m]) = da2
 generalize (Value.agg #[.slice a3 ns3.length c3, .bool z, .int .i64 (k : Nat), .bool m]) = da3
 apply share
 · intro key
   go_region_with (first
     | (go_at_call 8; refine (HBk.out _ _ _ _ (by assumption)).mono ?_; rintro e Va ⟨rfl, hva⟩; obtain ⟨hca, hcb⟩ := HCc.out _ hva; obtain ⟨x0, x1, x2, x3⟩ := hca.cells4; obtain ⟨y0, y1, y2, y3⟩ := hcb.cells4; clear hca hcb)
     | (go_at_call 7; refine (HSm.out _ (by assumption)).mono ?_; rintro e Vb ⟨rfl, hvb⟩; have HBv := Lib.hid hvb; clear hvb))
   all_goals
     clear x0 x1 x2 x3 y0 y1 y2 y3 hva
     try clear Va
     revert HBv
     revert Vb
     exact key.get
 intro Vb HBv
 have F2b := H7.out.2.2.1.later HBv.out
 have g0 := F2b.box.cell 0 (by simp)
 have HSp := Lib.hid (spoil10_any (.slice a2 ns2.length c2) ns2 V2.heap.size B2 Vb F2b.row (fun b hb => (F2b.top b hb).2) (fun q hq b hb => (F2b.sub q hq b hb).2) HL2.out)
 clear F2b x0 x1 x2 x3 y0 y1 y2 y3 HBk HSm HCc hr7
 try clear hV6 hV7 hB3
 go_wp2_with fail
 refine HSp.out.mono ?_
 rintro e W8 ⟨rfl, hmid⟩
 have hw2 : w.heap.size ≤ V2.heap.size := H2.out.1.size
 have hbw : Below w.heap.size w Vb := H7.out.1.trans (HBv.out.mono H7.out.1.size)
 have H8 : Hid (Below w.heap.size w W8 ∧ Fl W8 B1 25 (.slice a1 ns1.length c1) z k m w.heap.size B1 ns1 ∧ Fl W8 B3 29 (.slice a3 ns3.length c3) z k m V4.heap.size B3 ns3) := Lib.hid ⟨hbw.trans (hmid.below hw2), (H7.out.2.1.later HBv.out).mid hmid (Or.inl H2.out.2.2.1) (Or.inl (Nat.le_of_lt H2.out.2.2.1)), (H7.out.2.2.2.1.later HBv.out).mid hmid (Or.inr (by have := H4.out.2.2.2.1; have := H7.out.2.2.2.2.2; omega)) (Or.inr (Nat.le_of_lt H4.out.2.2.2.1))⟩
 clear hmid hbw hw2 HSp g0 HBv
 obtain ⟨nl, hnl⟩ : ∃ nl, Hid ((rdV t).1.length = nl) := ⟨_, Lib.hid rfl⟩
 obtain ⟨al, hal⟩ : ∃ al, Hid ((rdV t).2.1 = al) := ⟨_, Lib.hid rfl⟩
 obtain ⟨el, hel⟩ : ∃ el, Hid ((rdV t).2.2 = el) := ⟨_, Lib.hid rfl⟩
 go_wp2_with fail
 refine (readS ⟨t.toArray⟩ t W8 (by simp) ht).mono ?_
 rintro e W9 ⟨ra, rc, ps, rfl, hLr, htell, hlen, hb9⟩
 rw [hnl.out, hal.out, hel.out]
 rw [hnl.out] at hLr
 have hbw9 : Below w.heap.size w W9 := H8.out.1.trans (hb9.mono H8.out.1.size)
 have H9 : Hid (Below w.heap.size w W9 ∧ Fl W9 B1 25 (.slice a1 ns1.length c1) z k m w.heap.size B1 ns1 ∧ Fl W9 B3 29 (.slice a3 ns3.length c3) z k m V4.heap.size B3 ns3 ∧ Lw W9 (.slice ra nl rc) ps ∧ tell ps = (rdV t).1) := Lib.hid ⟨hbw9, H8.out.2.1.later hb9, H8.out.2.2.later hb9, hLr.lw (fun q hq x hx => by
   have hm : (q.1, q.2.1) ∈ (rdV t).1 := by rw [← htell]; exact List.mem_map.2 ⟨q, hq, rfl⟩
   have := rdV_short hm x hx
   omega), htell⟩
 clear hLr htell hlen hb9 hbw9 H8
 go_wp2_with fail
 refine (readD ⟨t.toArray⟩ t W9 (by simp) (by have := HTl.out; omega)).mono ?_
 rintro e W10 ⟨rb, rd, ps2, rfl, hLr, htell, hlen, hb10⟩
 rw [hnl.out, hal.out, hel.out]
 rw [hnl.out] at hLr
 have hbw10 : Below w.heap.size w W10 := H9.out.1.trans (hb10.mono H9.out.1.size)
 have H10 : Hid (Below w.heap.size w W10 ∧ Fl W10 B1 25 (.slice a1 ns1.length c1) z k m w.heap.size B1 ns1 ∧ Fl W10 B3 29 (.slice a3 ns3.length c3) z k m V4.heap.size B3 ns3 ∧ Lw W10 (.slice ra nl rc) ps ∧ tell ps = (rdV t).1 ∧ Lw W10 (.slice rb nl rd) ps2 ∧ tell ps2 = (rdV t).1) := Lib.hid ⟨hbw10, H9.out.2.1.later hb10, H9.out.2.2.1.later hb10, H9.out.2.2.2.1.later hb10, H9.out.2.2.2.2, hLr.lw (fun q hq x hx => by
   have hm : (q.1, q.2.1) ∈ (rdV t).1 := by rw [← htell]; exact List.mem_map.2 ⟨q, hq, rfl⟩
   have := rdV_short hm x hx
   omega), htell⟩
 clear hLr htell hlen hb10 hbw10 H9
 go_wp2_with fail
 refine (takeN1 HP.out (.slice ra nl rc) ps t W10 H10.out.2.2.2.1 H10.out.2.2.2.2.1 (HT.out.later H10.out.1) f2 n1 at2 er2 hr2.out).mono ?_
 rintro e W11 ⟨a4, c4, ns4, z4, k4, m4, rfl, hn4, hf4, hb11⟩
 obtain ⟨W12, hW12⟩ : ∃ W, W11.alloc (.cells #[.slice a4 ns4.length c4, .bool z4, .int .i64 (k4 : Nat), .bool m4] 29) = W := ⟨_, rfl⟩
 obtain ⟨B4, hB4⟩ : ∃ B, W11.heap.size = B := ⟨_, rfl⟩
 have d12 : Below W11.heap.size W11 W12 := by rw [← hW12]; exact (Below.refl _ _).alloc (Nat.le_refl _) _
 have d1012 : Below W10.heap.size W10 W12 := hb11.trans (d12.mono hb11.size)
 have H12 : Hid (Below w.heap.size w W12 ∧ Fl W12 B1 25 (.slice a1 ns1.length c1) z k m w.heap.size B1 ns1 ∧ Fl W12 B3 29 (.slice a3 ns3.length c3) z k m V4.heap.size B3 ns3 ∧ Lw W12 (.slice rb nl rd) ps2 ∧ tell ps2 = (rdV t).1 ∧ Fl W12 B4 29 (.slice a4 ns4.length c4) z4 k4 m4 W10.heap.size B4 ns4 ∧ f2.ns = ndsO ns4) := Lib.hid ⟨H10.out.1.trans (d1012.mono H10.out.1.size), H10.out.2.1.later d1012, H10.out.2.2.1.later d1012, H10.out.2.2.2.2.2.1.later d1012, H10.out.2.2.2.2.2.2, by rw [← hB4]; exact Fl.new hn4 hW12, by rw [hf4]⟩
 have HF4 := Lib.hid hf4
 have HW12 := Lib.hid hW12
 clear hn4 hf4 hb11 d12 d1012 H10 hW12
 go_wp2_with fail
 rw [HW12.out]
 clear HW12
 try rw [hB4]
 clear hB4
 refine (takeD1 HP.out (.slice rb nl rd) ps2 t W12 H12.out.2.2.2.1 H12.out.2.2.2.2.1 f2 n1 at2 er2 hr2.out).mono ?_
 rintro e W13 ⟨a5, c5, ns5, z', k', m', rfl, hn5, hf5, hb13⟩
 obtain rfl : z4 = z' := by have h := congrArg Fd.z (HF4.out.symm.trans hf5); exact h
 obtain rfl : k4 = k' := by have h := congrArg Fd.k (HF4.out.symm.trans hf5); simp only [] at h; omega
 obtain rfl : m4 = m' := by have h := congrArg Fd.m (HF4.out.symm.trans hf5); exact h
 obtain ⟨W14, hW14⟩ : ∃ W, W13.alloc (.cells #[.slice a5 ns5.length c5, .bool z4, .int .i64 (k4 : Nat), .bool m4] 25) = W := ⟨_, rfl⟩
 obtain ⟨B5, hB5⟩ : ∃ B, W13.heap.size = B := ⟨_, rfl⟩
 obtain ⟨W15, hW15⟩ : ∃ W, W14.drew = W := ⟨_, rfl⟩
 have d14 : Below W13.heap.size W13 W14 := by rw [← hW14]; exact (Below.refl _ _).alloc (Nat.le_refl _) _
 have d15 : Below W14.heap.size W14 W15 := by rw [← hW15]; exact (Below.refl _ _).drew
 have dd : Below W12.heap.size W12 W15 := (hb13.trans (d14.mono hb13.size)).trans (d15.mono (Nat.le_trans hb13.size d14.size))
 have F4 := H12.out.2.2.2.2.2.1.later dd
 have F5 : Fl W15 B5 25 (.slice a5 ns5.length c5) z4 k4 m4 W12.heap.size B5 ns5 := by rw [← hB5]; exact (Fl.new hn5 hW14).later d15
 have H15 : Hid (Below w.heap.size w W15 ∧ Fl W15 B1 25 (.slice a1 ns1.length c1) z k m w.heap.size B1 ns1 ∧ Fl W15 B3 29 (.slice a3 ns3.length c3) z k m V4.heap.size B3 ns3 ∧ Fl W15 B4 29 (.slice a4 ns4.length c4) z4 k4 m4 W10.heap.size B4 ns4 ∧ Fl W15 B5 25 (.slice a5 ns5.length c5) z4 k4 m4 W12.heap.size B5 ns5 ∧ f2.ns = ndsO ns4 ∧ f2.ns = ndsO ns5) := Lib.hid ⟨H12.out.1.trans (dd.mono H12.out.1.size), H12.out.2.1.later dd, H12.out.2.2.1.later dd, F4, F5, H12.out.2.2.2.2.2.2, by rw [hf5]⟩
 obtain ⟨x0, x1, x2, x3⟩ := F4.box.cells4
 obtain ⟨y0, y1, y2, y3⟩ := F5.box.cells4
 have HBk2 : Hid (∀ W' a n c z k m, Below W15.heap.size W15 W' → Calls Tryz.prog 8 #[.agg #[.slice a n c, .bool z, .int .i64 k, .bool m]] W' fun e w' => e = .returned (.agg #[.slice a n c, .bool z, .int .i64 k, .bool m]) ∧ Below W15.heap.size W15 w') := Lib.hid (fun W' a n c z k m hW' => (back10_any a n c z k m W').mono fun e w' h => ⟨h.1, hW'.trans (h.2.mono hW'.size)⟩)
 have HSm4 : Hid (∀ W', Below W15.heap.size W15 W' → Calls Tryz.prog 7 #[.agg #[.slice a4 ns4.length c4, .bool z4, .int .i64 (k4 : Nat), .bool m4], .agg #[.slice a5 ns5.length c5, .bool z4, .int .i64 (k4 : Nat), .bool m4]] W' fun e w' => e = .returned (.bool true) ∧ Below W15.heap.size W15 w') := Lib.hid (fun W' hW' => by
   obtain ⟨s1, s2, s3, s4⟩ := same_two HGn2.out H15.out.2.2.2.2.2.1 H15.out.2.2.2.2.2.2
   exact (same10_any _ _ ns4 ns5 z4 m4 _ W' (H15.out.2.2.2.1.row.nv.later hW') (H15.out.2.2.2.2.1.row.nv.later hW') s1 s2 (by omega) s4).mono fun e w' h => ⟨h.1, hW'.trans (h.2.mono hW'.size)⟩)
 have HCc4 : Hid (∀ W', Below W15.heap.size W15 W' → CB W' B4 #[.slice a4 ns4.length c4, .bool z4, .int .i64 (k4 : Nat), .bool m4] 29 ∧ CB W' B5 #[.slice a5 ns5.length c5, .bool z4, .int .i64 (k4 : Nat), .bool m4] 25) := Lib.hid (fun W' h => ⟨H15.out.2.2.2.1.box.later h, H15.out.2.2.2.2.1.box.later h⟩)
 have HSm3 : Hid (∀ W', Below W15.heap.size W15 W' → Calls Tryz.prog 7 #[.agg #[.slice a3 ns3.length c3, .bool z, .int .i64 (k : Nat), .bool m], .agg #[.slice a1 ns1.length c1, .bool z, .int .i64 (k : Nat), .bool m]] W' fun e w' => e = .returned (.bool true) ∧ Below W15.heap.size W15 w') := Lib.hid (fun W' hW' => by
   obtain ⟨s1, s2, s3, s4⟩ := same_two HGn.out H7.out.2.2.2.2.1 H2.out.2.2.2.2
   exact (same10_any _ _ ns3 ns1 z m _ W' (H15.out.2.2.1.row.nv.later hW') (H15.out.2.1.row.nv.later hW') s1 s2 (by omega) s4).mono fun e w' h => ⟨h.1, hW'.trans (h.2.mono hW'.size)⟩)
 have HCc3 : Hid (∀ W', Below W15.heap.size W15 W' → CB W' B3 #[.slice a3 ns3.length c3, .bool z, .int .i64 (k : Nat), .bool m] 29 ∧ CB W' B1 #[.slice a1 ns1.length c1, .bool z, .int .i64 (k : Nat), .bool m] 25) := Lib.hid (fun W' h => ⟨H15.out.2.2.1.box.later h, H15.out.2.1.box.later h⟩)
 have HAw2 : Hid (∀ W', Below W15.heap.size W15 W' → Calls Tryz.prog 4 #[] W' fun e w' => e = .returned (.bool true) ∧ Below w.heap.size w w') := Lib.hid fun W' h => HAw.out W' (H15.out.1.trans (h.mono H15.out.1.size))
 have hr15 := Below.refl W15.heap.size W15
 clear hn5 hf5 hb13 d14 d15 dd F4 F5
 go_wp2_with fail
 generalize (Value.tuple #[.agg #[.slice a4 ns4.length c4, .bool z4, .int .i64 (k4 : Nat), .bool m4], .int .i64 (n1 : Nat), .int .i64 (at2 : Nat), .int .i64 er2]) = dt4
 generalize (Value.tuple #[.agg #[.slice a5 ns5.length c5, .bool z4, .int .i64 (k4 : Nat), .bool m4], .int .i64 (n1 : Nat), .int .i64 (at2 : Nat), .int .i64 er2]) = dt5
 generalize (Value.agg #[.slice a4 ns4.length c4, .bool z4, .int .i64 (k4 : Nat), .bool m4]) = da4
 generalize (Value.agg #[.slice a5 ns5.length c5, .bool z4, .int .i64 (k4 : Nat), .bool m4]) = da5
 generalize (Value.tuple #[.slice ra nl rc, .int .i64 (al : Nat), .int .i64 (el : Nat)]) = dt6
 generalize (Value.tuple #[.slice rb nl rd, .int .i64 (al : Nat), .int .i64 (el : Nat)]) = dt7
 by_cases hel0 : el = 0
 · subst hel0
   have hst := And.intro x0 (And.intro x1 (And.intro x2 (And.intro x3 (And.intro y0 (And.intro y1 (And.intro y2 (And.intro y3 hr15)))))))
   have HSm5 : Hid (∀ W', Below W15.heap.size W15 W' → Calls Tryz.prog 7 #[.agg #[.slice a4 ns4.length c4, .bool z4, .int .i64 (k4 : Nat), .bool m4], .agg #[.slice a5 ns5.length c5, .bool z4, .int .i64 (k4 : Nat), .bool m4]] W' fun e w' => e = .returned (.bool true) ∧ Below W'.heap.size W' w') := Lib.hid (fun W' hW' => by
     obtain ⟨s1, s2, s3, s4⟩ := same_two HGn2.out H15.out.2.2.2.2.2.1 H15.out.2.2.2.2.2.2
     exact same10_any _ _ ns4 ns5 z4 m4 _ W' (H15.out.2.2.2.1.row.nv.later hW') (H15.out.2.2.2.2.1.row.nv.later hW') s1 s2 (by omega) s4)
   go_region_held3 (fun W => W.cell? ⟨B4, 0, none⟩ = some (.slice a4 ns4.length c4) ∧ W.cell? ⟨B4, 1, none⟩ = some (.bool z4) ∧ W.cell? ⟨B4, 2, none⟩ = some (.int .i64 (k4 : Nat)) ∧ W.cell? ⟨B4, 3, none⟩ = some (.bool m4) ∧ W.cell? ⟨B5, 0, none⟩ = some (.slice a5 ns5.length c5) ∧ W.cell? ⟨B5, 1, none⟩ = some (.bool z4) ∧ W.cell? ⟨B5, 2, none⟩ = some (.int .i64 (k4 : Nat)) ∧ W.cell? ⟨B5, 3, none⟩ = some (.bool m4) ∧ Below W15.heap.size W15 W)
     (first
       | assumption
       | (rw [hW15]; exact hst)
       | exact hst
       | exact keep8 hst (by assumption)
       | exact keep8 (by assumption) (by assumption))
     (first
       | (go_at_call 8; refine (back10_any _ _ _ _ _ _ _).mono ?_; rintro e Va ⟨rfl, hva⟩)
       | (go_at_call 7; refine (HSm5.out _ (keep8_bel (by assumption))).mono ?_; rintro e Vb ⟨rfl, hvb⟩))
   have HBv : Hid (Below W15.heap.size W15 Vb) := Lib.hid (hva.trans (hvb.mono hva.size))
   clear hva hvb hst
   have hr16 := HBv.out.drew
   obtain ⟨Vd, hVd⟩ : ∃ V, Vb.drew = V := ⟨_, rfl⟩
   rw [hVd] at hr16
   obtain ⟨hca, hcb⟩ := HCc3.out _ hr16
   clear x0 x1 x2 x3 y0 y1 y2 y3
   obtain ⟨x0, x1, x2, x3⟩ := hca.cells4
   obtain ⟨y0, y1, y2, y3⟩ := hcb.cells4
   clear hca hcb hr15 HBv
   try clear hW14 hW15 hB5
   go_wp2_with fail
   go_region_with (first
     | (go_at_call 8; refine (HBk2.out _ _ _ _ _ _ _ (by assumption)).mono ?_; rintro e Va ⟨rfl, hva⟩; obtain ⟨hca, hcb⟩ := HCc3.out _ hva; obtain ⟨x0, x1, x2, x3⟩ := hca.cells4; obtain ⟨y0, y1, y2, y3⟩ := hcb.cells4; clear hca hcb)
     | (go_at_call 7; refine (HSm3.out _ (by assumption)).mono ?_; rintro e Vb ⟨rfl, hvb⟩)
     | (go_at_call 4; refine (HAw2.out _ (by assumption)).mono ?_; rintro e Ve ⟨rfl, hve⟩; have HBe := Lib.hid hve; clear hve))
   all_goals
     go_wp2
     go_ret
     exact ⟨rfl, HBe.out⟩
 · have hel1 : ((el : Int) == 0) = false := by rw [beq_eq_false_iff_ne]; omega
   have hel2 : ¬ ((el : Int) = 0) := by omega
   clear x0 x1 x2 x3 y0 y1 y2 y3
   obtain ⟨W16, hW16⟩ : ∃ V, W15.drew = V := ⟨_, rfl⟩
   have hr16 : Below W15.heap.size W15 W16 := by rw [← hW16]; exact hr15.drew
   obtain ⟨hca, hcb⟩ := HCc3.out _ hr16
   obtain ⟨x0, x1, x2, x3⟩ := hca.cells4
   obtain ⟨y0, y1, y2, y3⟩ := hcb.cells4
   clear hca hcb
   go_region
   all_goals
     go_wp2_with fail
     go_region_with (first
       | (go_at_call 8; refine (HBk2.out _ _ _ _ _ _ _ (by assumption)).mono ?_; rintro e Va ⟨rfl, hva⟩; obtain ⟨hca, hcb⟩ := HCc3.out _ hva; obtain ⟨x0, x1, x2, x3⟩ := hca.cells4; obtain ⟨y0, y1, y2, y3⟩ := hcb.cells4; clear hca hcb)
       | (go_at_call 7; refine (HSm3.out _ (by assumption)).mono ?_; rintro e Vb ⟨rfl, hvb⟩)
       | (go_at_call 4; refine (HAw2.out _ (by assumption)).mono ?_; rintro e Ve ⟨rfl, hve⟩; have HBe := Lib.hid hve; clear hve))
     all_goals
       go_wp2
       go_ret
       exact ⟨rfl, HBe.out⟩
end
end Go.Proofs.YtkbhmglmbolbiaaGreatDoor
