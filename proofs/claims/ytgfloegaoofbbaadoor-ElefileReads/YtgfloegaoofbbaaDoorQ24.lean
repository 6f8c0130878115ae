/- Own texts, put together: Efj Efk Ig. -/
import Derived.Test.YtgfloegaoofbbaaDoorQ12
import Derived.Test.YtgfloegaoofbbaaDoorQ19
import Derived.Test.YtgfloegaoofbbaaDoorQ22
namespace Go.Proofs.YtgfloegaoofbbaaDoor
/- Package elefile: Read: what it leans on. -/
section
set_option maxRecDepth 100000
open Go.RowKit Go.Shelf Go.Lib
theorem Lf.later {W W' : World} {v : Value} {ps : List Lt} (h : Lf W v ps) (hb : Below W.heap.size W W') : Lf W' v ps := by
 obtain ⟨⟨a, c, h1, h2, h3, h4⟩, h5⟩ := h
 refine ⟨⟨a, c, h1, h2, h3, ?_⟩, fun p hp => ⟨(h5 p hp).1.later hb, fun b hbb => Nat.lt_of_lt_of_le ((h5 p hp).2 b hbb) hb.size⟩⟩
 rcases h4 with h4 | ⟨g, off, h6, h7, h8⟩
 · exact Or.inl h4
 · exact Or.inr ⟨g, off, h6, Nat.lt_of_lt_of_le h7 hb.size, fun k p hp => ⟨cell_later hb h7 (h8 k p hp).1, cell_later hb h7 (h8 k p hp).2⟩⟩
theorem Lr.lf {e : TypeId} {W : World} {B : Nat} {v : Value} {ps : List Lt} (h : Lr e W B v ps) (hl : ∀ p ∈ ps, ∀ x ∈ p.2.1, x.length ≤ 900000) : Lf W v ps := by
 refine ⟨?_, fun p hp => ⟨(h.sub p hp).sl (fun x hx => by have := hl p hp x hx; omega), fun b hb => (World.ownsRow.lt (h.sub p hp) b hb).2⟩⟩
 have h0 := h.own
 rcases h.own.2 with ⟨h1, h2⟩ | ⟨g, cap, cur, rfl, _, h3, h4, h5, _⟩
 · have : ps = [] := List.length_eq_zero_iff.1 h2
   subst this
   exact ⟨none, 0, h1, by simp, by omega, Or.inl rfl⟩
 · refine ⟨_, cap, rfl, h4, by unfold maxLen at h5; omega, Or.inr ⟨g, 0, rfl, (World.ownsRow.lt h0 g rfl).2, fun k p hk => ?_⟩⟩
   obtain ⟨hlt, rfl⟩ := List.getElem?_eq_some_iff.1 hk
   have := lcs_at ps k hlt
   refine ⟨?_, ?_⟩
   · rw [show k * 2 = 2 * k by omega]; exact own_cellL h0 this.1
   · rw [Nat.add_assoc, show k * 2 + 1 = 2 * k + 1 by omega]; exact own_cellL h0 this.2
theorem Lf.tail {W : World} {g off c : Nat} {q : Lt} {r : List Lt} (h : Lf W (.slice (some ⟨g, off, none⟩) (r.length + 1) c) (q :: r)) : Lf W (.slice (some (if c = 1 then ⟨g, off, none⟩ else ⟨g, off + 2, none⟩)) r.length (c - 1)) r := by
 obtain ⟨⟨a, c', e, h2, h3, h4⟩, h5⟩ := h
 cases e
 rcases h4 with h4 | ⟨g', o', e, hg, hc⟩
 · cases h4
 cases e
 simp only [List.length_cons] at h2
 refine ⟨⟨_, _, rfl, by omega, by omega, ?_⟩, fun p hp => h5 p (by simp [hp])⟩
 by_cases hr : r = []
 · exact Or.inl hr
 · refine Or.inr ⟨g, off + 2, ?_, hg, fun k p hk => ?_⟩
   · have : 0 < r.length := List.length_pos_iff.2 hr
     rw [if_neg (by omega)]
   · have := hc (k + 1) p (by simpa using hk)
     rw [show off + 2 + k * 2 = off + (k + 1) * 2 by omega]
     exact this
def ReR (p : Pm) (w w' : World) (t : Bs) (e : Ending) : Prop := Below w.heap.size w w' ∧
 ∃ a cap rs f' c' k', e = .returned (.tuple #[.agg #[.int .i64 (f' : Nat), .int .i64 (c' : Nat), .int .i64 (k' : Nat), .slice a rs.length cap], .int .i64 ((reV p t).2.1 : Nat), .int .i64 (reV p t).2.2]) ∧ (reV p t).1 = ⟨(f' : Nat), (c' : Nat), (k' : Nat), rs.map (·.1)⟩ ∧ Er w' w.heap.size (.slice a rs.length cap) rs
theorem ReR.bad {p : Pm} {w W : World} {t : Bs} {at' : Nat} {e : Int} (hb : Below w.heap.size w W) (h : reV p t = (fe0, at', e)) : ReR p w W t (.returned (.tuple #[.agg fe4, .int .i64 (at' : Nat), .int .i64 e])) := by
 unfold ReR
 rw [h]
 exact ⟨hb, none, 0, [], 0, 0, 0, rfl, rfl, Er.nil (World.ownsRow_nil _ _ _ _)⟩
theorem res_readE (W : World) (B : Nat) (a b c d : Value) (n1 n2 : Int) (tmps : Array Value) (h : CB W B #[a, b, c, d] 30)
   (t2 : tmps[2]? = some (.pointer (some ⟨B, 0, none⟩))) (t3 : tmps[3]? = some (.int .i64 n1)) (t4 : tmps[4]? = some (.int .i64 n2)) : (results Tryd.f5 tmps).run Tryd.prog W = .ok (.tuple #[.agg #[a, b, c, d], .int .i64 n1, .int .i64 n2]) W := by
 have c0 := h.cell 0 (by simp)
 have c1 := h.cell 1 (by simp)
 have c2 := h.cell 2 (by simp)
 have c3 := h.cell 3 (by simp)
 simp [results, Tryd.f5, go_sem, c0, c1, c2, c3, t2, t3, t4]
theorem re_no {p : Pm} {t : Bs} (h : (rdV t).2.2 ≠ 0) : reV p t = (fe0, (rdV t).2.1, (((rdV t).2.2 : Nat) : Int)) := by unfold reV; rw [if_neg h]
theorem re_nil {p : Pm} {t : Bs} (h : (rdV t).2.2 = 0) (hn : (rdV t).1 = []) : reV p t = (fe0, 0, 4) := by unfold reV; rw [if_pos h, hn]
theorem re_head {p : Pm} {t : Bs} {no : Nat} {ws : List Bs} {r : List (Nat × List Bs)} (h : (rdV t).2.2 = 0) (hl : (rdV t).1 = (no, ws) :: r) (he : heE ws ≠ 0) : reV p t = (fe0, no, ((heE ws : Nat) : Int)) := by
 unfold reV
 rw [if_pos h, hl]
 simp only []
 rw [if_neg he]
theorem re_rows {p : Pm} {t : Bs} {no : Nat} {ws : List Bs} {r : List (Nat × List Bs)} {n c k : Nat} (h : (rdV t).2.2 = 0) (hl : (rdV t).1 = (no, ws) :: r) (he : heE ws = 0) (hp : heP ws = some (n, c, k)) : reV p t = flV p n c k r := by
 unfold reV
 rw [if_pos h, hl]
 simp only []
 rw [if_pos he, hp]
end

/- Package elefile: Read. -/
section
set_option maxRecDepth 100000
open Go.RowKit Go.Shelf Go.Lib
theorem rdV_shortE {t : Bs} {q : Nat × List Bs} (hq : q ∈ (rdV t).1) : (∀ x ∈ q.2, x.length ≤ 400) := by
 have h0 := (rdV_word hq).2.2.1
 have hlen : t.length ≤ 16777216 := by
   rcases Nat.lt_or_ge 16777216 t.length with h | h
   · rw [rdV_long h] at hq; simp at hq
   · exact h
 have key : bad 1 (lns t) = none := by
   cases hb : bad 1 (lns t) with
   | none => rfl
   | some p => obtain ⟨n, e⟩ := p; rw [rdV_bad hlen hb] at hq; simp at hq
 rw [rdV_good hlen key] at hq
 intro x hx
 have := ((good_fits (lns t) 1 key).1 q hq).1
 have hm := (ok_may this).2 x hx
 unfold mayW at hm
 rw [Bool.and_eq_true, Bool.and_eq_true] at hm
 simpa using hm.1.2
theorem good_noE : ∀ (ls : List Bs) (n : Nat), ∀ q ∈ good n ls, q.1 ≤ n + ls.length := by
 intro ls
 induction ls with
 | nil => intro n q hq; simp [good] at hq
 | cons l r ih =>
   intro n q hq
   rw [good] at hq
   rcases List.mem_append.1 hq with e | e
   · split at e
     · simp at e
     · rw [List.mem_singleton.1 e]; simp
   · have := ih (n + 1) q e
     rw [List.length_cons]; omega
theorem rdV_noE {t : Bs} {q : Nat × List Bs} (hq : q ∈ (rdV t).1) : q.1 ≤ 16777218 := by
 have hlen : t.length ≤ 16777216 := by
   rcases Nat.lt_or_ge 16777216 t.length with h | h
   · rw [rdV_long h] at hq; simp at hq
   · exact h
 unfold rdV at hq
 rw [if_neg (by omega)] at hq
 split at hq
 · simp at hq
 · have := good_noE _ _ q hq
   have h2 := lns_len t
   omega
theorem rdV_countE (t : Bs) : (rdV t).1.length ≤ 16777217 := by
 unfold rdV
 split
 · simp
 · split
   · simp
   · have := good_len (lns t) 1
     have h2 := lns_len t
     simp only []
     omega
set_option maxHeartbeats 16000000 in
theorem readE_any {p : Pm} (hp : p.Ok) (s : ByteArray) (t : Bs) (w : World) (ht : s.data.toList = t) (hl : t.length ≤ 9223372036854775807) (hT : Tab w) :
   Calls Tryd.prog 5 #[.string s] w fun e w' => ReR p w w' t e := by
 obtain ⟨W0, hW0⟩ : ∃ W0, w.alloc (.cells fe4 30) = W0 := ⟨_, rfl⟩
 have b0 : Below w.heap.size w W0 := by rw [← hW0]; exact (Below.refl _ w).alloc (Nat.le_refl _) _
 have c0 : CB W0 w.heap.size fe4 30 := by rw [← hW0]; exact CB.new w _ _
 have z0 : W0.heap.size = w.heap.size + 1 := by rw [← hW0]; simp
 have HP := Lib.hid hp
 have HTb := Lib.hid hT
 have HR := Lib.hid (readS s t W0 ht hl)
 have H0 := Lib.hid (And.intro c0 (And.intro b0 z0))
 clear hp ht hl hT b0 c0 z0
 go_enter Tryd.func5, Tryd.ntmps5
 go_wp2_with fail
 try rw [hW0]
 clear hW0
 refine HR.out.mono ?_
 rintro e W1 ⟨a1, c1, ps, rfl, hLr, htell, hlen, hb1⟩
 have HW1 : Hid (CB W1 w.heap.size fe4 30 ∧ Below w.heap.size w W1) := Lib.hid ⟨H0.out.1.later hb1, H0.out.2.1.trans (hb1.mono H0.out.2.1.size)⟩
 have HWs : Hid (w.heap.size < W1.heap.size ∧ ∀ g, W0.heap.size ≤ g → g ≠ w.heap.size) := Lib.hid ⟨by have := hb1.size; have := H0.out.2.2; omega, fun g hg => by have := H0.out.2.2; omega⟩
 obtain ⟨er, her⟩ : ∃ er : Nat, Hid ((rdV t).2.2 = er) := ⟨_, Lib.hid rfl⟩
 obtain ⟨al, hal⟩ : ∃ al : Nat, Hid ((rdV t).2.1 = al) := ⟨_, Lib.hid rfl⟩
 obtain ⟨nl, hnl⟩ : ∃ nl : Nat, Hid ((rdV t).1.length = nl) := ⟨_, Lib.hid rfl⟩
 rw [her.out, hal.out, hnl.out]
 rw [hnl.out] at hLr hlen
 have HLr := Lib.hid hLr
 have HTl := Lib.hid htell
 have HLe := Lib.hid hlen
 have hnl' : nl ≤ 16777217 := by rw [← hnl.out]; exact rdV_countE t
 have hnl2 : (nl : Int) ≤ 16777217 := by omega
 clear hLr htell hlen hb1 HR H0
 by_cases h0 : er = 0
 rotate_left
 · have h0' : ((er : Int) == 0) = false := by rw [beq_eq_false_iff_ne]; omega
   have h0n : ¬ ((er : Int) = 0) := by omega
   have HRv := Lib.hid (re_no (p := p) (t := t) (by rw [her.out]; exact h0))
   rw [her.out, hal.out] at HRv
   obtain ⟨k20, k21, k22, k23⟩ := HW1.out.1.cells4E
   have f20 := HW1.out.1.frozen 0
   have f21 := HW1.out.1.frozen 1
   have f22 := HW1.out.1.frozen 2
   have f23 := HW1.out.1.frozen 3
   go_wp2
   refine bodyPost_ret (res_readE _ w.heap.size _ _ _ _ _ _ _ (set4E HW1.out.1 _ _ _ _) rfl rfl rfl) rfl ?_
   exact ReR.bad ((((HW1.out.2.setCell (Nat.le_refl _) _).setCell (Nat.le_refl _) _).setCell (Nat.le_refl _) _).setCell (Nat.le_refl _) _) HRv.out
 subst h0
 have HMm : Hid (∀ q ∈ ps, (q.1, q.2.1) ∈ (rdV t).1) := Lib.hid fun q hq => by rw [← HTl.out]; exact List.mem_map.2 ⟨q, hq, rfl⟩
 have HLf : Hid (Lf W1 (.slice a1 nl c1) ps) := Lib.hid (HLr.out.lf (fun q hq x hx => by have := rdV_shortE (HMm.out q hq) x hx; omega))
 rcases ps with _ | ⟨p0, rs⟩
 · obtain rfl : nl = 0 := by have := HLe.out; simp at this; omega
   have HRv := Lib.hid (re_nil (p := p) her.out (by rw [← HTl.out]; rfl))
   obtain ⟨k20, k21, k22, k23⟩ := HW1.out.1.cells4E
   have f20 := HW1.out.1.frozen 0
   have f21 := HW1.out.1.frozen 1
   have f22 := HW1.out.1.frozen 2
   have f23 := HW1.out.1.frozen 3
   go_wp2
   refine bodyPost_ret (res_readE _ w.heap.size _ _ _ _ _ _ _ (set4E HW1.out.1 _ _ _ _) rfl rfl rfl) rfl ?_
   exact ReR.bad ((((HW1.out.2.setCell (Nat.le_refl _) _).setCell (Nat.le_refl _) _).setCell (Nat.le_refl _) _).setCell (Nat.le_refl _) _) HRv.out
 obtain ⟨g, off, hga, hg, hcell⟩ : ∃ g off, a1 = some ⟨g, off, none⟩ ∧ g < W1.heap.size ∧ ∀ k p, (p0 :: rs)[k]? = some p → W1.cell? ⟨g, off + k * 2, none⟩ = some (.int .i64 (p.1 : Nat)) ∧ W1.cell? ⟨g, off + k * 2 + 1, none⟩ = some p.2.2 := by
   obtain ⟨a, c, e, _, _, h4⟩ := HLf.out.form
   cases e
   exact h4.resolve_left (by simp)
 subst hga
 have hgw : g ≠ w.heap.size := HWs.out.2 g (World.ownsRow.lt HLr.out.own g rfl).1
 have hgw2 : w.heap.size ≠ g := fun e => hgw e.symm
 have x0 := (hcell 0 p0 rfl).1
 have x1 := (hcell 0 p0 rfl).2
 rw [Nat.zero_mul, Nat.add_zero] at x0 x1
 have hnl3 : (0 : Int) < (nl : Int) := by have := HLe.out; simp at this; omega
 have hnl4 : ((nl : Int) == 0) = false := by rw [beq_eq_false_iff_ne]; omega
 have HSb := HLf.out.sub p0 (by simp)
 have HHd := Lib.hid (headE_any p0.2.2 p0.2.1 W1 HSb.1 HSb.2 (fun x hx => by have := rdV_shortE (HMm.out p0 (by simp)) x hx; omega))
 obtain ⟨no0, ws0, wv0⟩ := p0
 try dsimp only at x0 x1 HHd
 have HRl : Hid ((rdV t).1 = (no0, ws0) :: tell rs) := Lib.hid (by rw [← HTl.out]; rfl)
 clear HSb hcell
 go_wp2_with fail
 refine HHd.out.mono ?_
 rintro e W2 ⟨hb2, n, c, k, rfl, hgood, hbad⟩
 obtain ⟨W4, hW4⟩ : ∃ W, (W2.alloc (.cells #[.int .i64 0, .int .i64 (c : Nat), .int .i64 (k : Nat), .slice none 0 0] 30)).drew = W := ⟨_, rfl⟩
 have b24 : Below W2.heap.size W2 W4 := by rw [← hW4]; exact ((Below.refl _ _).alloc (Nat.le_refl _) _).drew
 have b14 : Below W1.heap.size W1 W4 := hb2.trans (b24.mono hb2.size)
 have HR : Hid (CB W4 w.heap.size fe4 30 ∧ Below w.heap.size w W4) := Lib.hid ⟨HW1.out.1.later b14, HW1.out.2.trans (b14.mono HW1.out.2.size)⟩
 have HB3 : Hid (CB W4 W2.heap.size #[.int .i64 0, .int .i64 (c : Nat), .int .i64 (k : Nat), .slice none 0 0] 30) := Lib.hid (by rw [← hW4]; exact (CB.new _ _ _).drew)
 have HLf4 := Lib.hid (HLf.out.later b14)
 have x2 := cell_later b14 hg x0
 have hBn : W2.heap.size ≠ w.heap.size := by have := hb2.size; have := HWs.out.1; omega
 have hBn2 : w.heap.size ≠ W2.heap.size := fun e => hBn e.symm
 obtain ⟨k20, k21, k22, k23⟩ := HR.out.1.cells4E
 have f20 := HR.out.1.frozen 0
 have f21 := HR.out.1.frozen 1
 have f22 := HR.out.1.frozen 2
 have f23 := HR.out.1.frozen 3
 have HGd := Lib.hid (And.intro hgood hbad)
 obtain ⟨E, hE⟩ : ∃ E : Nat, Hid (heE ws0 = E) := ⟨_, Lib.hid rfl⟩
 rw [hE.out] at HGd ⊢
 clear hgood hbad b24 b14 x0 x1 HHd hb2
 by_cases hE0 : E = 0
 rotate_left
 · have hE1 : ((E : Int) == 0) = false := by rw [beq_eq_false_iff_ne]; omega
   have hE3 : ((E : Int) != 0) = true := by rw [bne_iff_ne]; omega
   have HRv := Lib.hid (re_head (p := p) her.out HRl.out (by rw [hE.out]; exact hE0))
   rw [hE.out] at HRv
   clear hE0
   go_wp2_with fail
   go_region
   all_goals
     go_wp2
     refine bodyPost_ret (res_readE _ w.heap.size _ _ _ _ _ _ _ (set4E HR.out.1 _ _ _ _) rfl rfl rfl) rfl ?_
     exact ReR.bad ((((HR.out.2.setCell (Nat.le_refl _) _).setCell (Nat.le_refl _) _).setCell (Nat.le_refl _) _).setCell (Nat.le_refl _) _) HRv.out
 subst hE0
 obtain ⟨hP, hn1, hk1, hc1⟩ := HGd.out.1 (by first | rfl | trivial)
 have HRv := Lib.hid (re_rows (p := p) her.out HRl.out hE.out hP)
 obtain ⟨y0, y1, y2, y3⟩ := HB3.out.cells4E
 have hnl5 : nl = rs.length + 1 := by have := HLe.out; simp at this; omega
 have HLt : Hid (Lf W4 (.slice (some (if c1 = 1 then (⟨g, off, none⟩ : Addr) else ⟨g, off + 2, none⟩)) rs.length (c1 - 1)) rs) := Lib.hid (by
   have := HLf4.out
   rw [hnl5] at this
   exact this.tail)
 have hcl : nl ≤ c1 := by
   obtain ⟨a, c, e, h2, _, _⟩ := HLf4.out.form
   cases e
   have := HLe.out
   omega
 have hcm : c1 ≤ 9223372036854775807 := by
   obtain ⟨a, c, e, _, h3, _⟩ := HLf4.out.form
   cases e
   exact h3
 have HMr : Hid (∀ q ∈ rs, (q.1, q.2.1) ∈ (rdV t).1) := Lib.hid fun q hq => HMm.out q (by simp [hq])
 have hrl : rs.length ≤ 20000000 := by omega
 have HFi : ∀ v, Lf W4 v rs → Hid (Calls Tryd.prog 13 #[.agg #[.int .i64 0, .int .i64 (c : Nat), .int .i64 (k : Nat), .slice none 0 0], .int .i64 (n : Nat), v] W4 fun e w' => FiR p W4 w' n c k (tell rs) e) := fun v hv => Lib.hid (filledE_any HP.out v rs n c k W4 hv (fun q hq x hx => by have := rdV_shortE (HMr.out q hq) x hx; omega) (fun q hq => (rdV_word (HMr.out q hq)).1) hrl (fun q hq => by have := rdV_noE (HMr.out q hq); simp only [] at this; omega) hn1 (by omega) (by omega) hk1 (HTb.out.later HR.out.2))
 have HEn : Hid (∀ W e, FiR p W4 W n c k (tell rs) e → ∃ (a : Option Addr) (m cap f' c' k' : Nat) (er : Int) (at' : Nat), e = .returned (.tuple #[.agg #[.int .i64 (f' : Nat), .int .i64 (c' : Nat), .int .i64 (k' : Nat), .slice a m cap], .int .i64 (at' : Nat), .int .i64 er]) ∧ CB W w.heap.size fe4 30 ∧ Below w.heap.size w W ∧ ReR p w ((((W.setCell ⟨w.heap.size, 0, none⟩ (.int .i64 (f' : Nat))).setCell ⟨w.heap.size, 1, none⟩ (.int .i64 (c' : Nat))).setCell ⟨w.heap.size, 2, none⟩ (.int .i64 (k' : Nat))).setCell ⟨w.heap.size, 3, none⟩ (.slice a m cap)) t (.returned (.tuple #[.agg #[.int .i64 (f' : Nat), .int .i64 (c' : Nat), .int .i64 (k' : Nat), .slice a m cap], .int .i64 (at' : Nat), .int .i64 er]))) := Lib.hid (by
   rintro W e ⟨hb, a, cap, rs', f', c', k', rfl, hv, hEr⟩
   refine ⟨a, rs'.length, cap, f', c', k', _, _, rfl, HR.out.1.later hb, HR.out.2.trans (hb.mono HR.out.2.size), ?_⟩
   unfold ReR
   rw [HRv.out]
   refine ⟨((((HR.out.2.trans (hb.mono HR.out.2.size)).setCell (Nat.le_refl _) _).setCell (Nat.le_refl _) _).setCell (Nat.le_refl _) _).setCell (Nat.le_refl _) _, a, cap, rs', f', c', k', rfl, hv, ?_⟩
   have hlt : w.heap.size < W4.heap.size := HR.out.1.lt
   have ho := ((((Ob.set w.heap.size 0 W (.int .i64 (f' : Nat))).trans (Ob.set w.heap.size 1 _ (.int .i64 (c' : Nat)))).trans (Ob.set w.heap.size 2 _ (.int .i64 (k' : Nat)))).trans (Ob.set w.heap.size 3 _ (.slice a rs'.length cap)))
   exact (hEr.ob ho hlt).base (by omega))
 subst hnl5
 clear HLf HLf4 HLr HTl HLe HMm HMr her hal hnl HRl hE HGd hP HTb HP HW1 HWs
 by_cases hc11 : c1 = 1
 · subst hc11
   obtain rfl : rs = [] := List.length_eq_zero_iff.1 (by omega)
   have HF := HFi _ HLt.out
   rw [if_pos rfl] at HF
   clear HFi HLt
   try simp only [List.length_nil, Nat.zero_add, Nat.sub_self] at *
   go_wp2_with fail
   go_region_with (go_at_call 13; refine HF.out.mono ?_; rintro e W5 hfi; obtain ⟨a5, m5, c5, f5, c5', k5, er5, at5, rfl, hcb, hbw, hre⟩ := HEn.out _ _ hfi; obtain ⟨z0, z1, z2, z3⟩ := hcb.cells4E; have v0 := hcb.frozen 0; have v1 := hcb.frozen 1; have v2 := hcb.frozen 2; have v3 := hcb.frozen 3; have HC5 := Lib.hid hcb; have HRe := Lib.hid hre; clear hcb hbw hre hfi)
   all_goals
     go_wp2
     refine bodyPost_ret (res_readE _ w.heap.size _ _ _ _ _ _ _ (set4E HC5.out _ _ _ _) rfl rfl rfl) rfl ?_
     exact HRe.out
 · have HF := HFi _ HLt.out
   rw [if_neg hc11] at HF
   obtain ⟨m, hm⟩ : ∃ m, rs.length = m := ⟨_, rfl⟩
   rw [hm] at HF
   try rw [hm]
   simp only [hm] at *
   have hcl' : (m : Int) + 1 ≤ (c1 : Int) := by omega
   have hcm' : (c1 : Int) ≤ 9223372036854775807 := by omega
   clear HFi HLt
   go_wp2_with fail
   clear hnl' hnl2 hnl3 hnl4 hm hcl hrl
   go_region_with (go_at_call 13; refine HF.out.mono ?_; rintro e W5 hfi; obtain ⟨a5, m5, c5, f5, c5', k5, er5, at5, rfl, hcb, hbw, hre⟩ := HEn.out _ _ hfi; obtain ⟨z0, z1, z2, z3⟩ := hcb.cells4E; have v0 := hcb.frozen 0; have v1 := hcb.frozen 1; have v2 := hcb.frozen 2; have v3 := hcb.frozen 3; have HC5 := Lib.hid hcb; have HRe := Lib.hid hre; clear hcb hbw hre hfi)
   all_goals
     go_wp2
     refine bodyPost_ret (res_readE _ w.heap.size _ _ _ _ _ _ _ (set4E HC5.out _ _ _ _) rfl rfl rfl) rfl ?_
     exact HRe.out
end

/- The law DigitsReads. -/
section
open Go.RowKit Go.Shelf Go.Lib
theorem sinv_fin {n e : Int} {l : List UInt8} {x : Nat} {er : Int} (hR : FloatR l x er) (ht : rdTell l = some (n, e)) (h0 : n ≠ 0) :
   ∀ lo, SInv8 (((n.natAbs : Nat) : Rat) * p2 e) lo lo → lo < 9218868437227405312 ∧ ((fval lo = ((n.natAbs : Nat) : Rat) * p2 e → er = 0 ∧ x = if n < 0 then fflip lo else lo) ∧ (fval lo ≠ ((n.natAbs : Nat) : Rat) * p2 e → er = 10 ∧ x = 0)) := by
 intro lo h
 have hlo : lo < 9218868437227405312 := by have := h.2.1; omega
 have ha := abs_total n (p2 e)
 have fl : Fin64 lo := by unfold Fin64 frung; omega
 refine ⟨hlo, fun he => ?_, fun hne => ?_⟩
 · by_cases hn : n < 0
   · rw [if_pos hn] at ha ⊢
     obtain ⟨f1, f2, f3⟩ := eq_flipI fl (by omega)
     obtain ⟨a, b⟩ := hR.ok ht f1 f2 (by rw [f3, he, ha]; grind) (fun h => absurd h h0)
     exact ⟨b, a⟩
   · rw [if_neg hn] at ha ⊢
     obtain ⟨a, b⟩ := hR.ok ht fl (by omega) (by rw [he, ha]) (fun h => absurd h h0)
     exact ⟨b, a⟩
 · obtain ⟨a, b⟩ := hR.no ht (fun y hy ly hv => by
     have hnn := fval_nonneg (r := frung y) hy
     have hQ : (0 : Rat) ≤ ((n.natAbs : Nat) : Rat) * p2 e := Rat.mul_nonneg Rat.natCast_nonneg (Rat.le_of_lt (p2_pos _))
     refine sinv_end h hne (frung y) hy ?_
     generalize ((n.natAbs : Nat) : Rat) * p2 e = Q at *
     rcases fval_sgn hy ly with ⟨_, v⟩ | ⟨_, v⟩ <;> split at ha <;> grind)
   exact ⟨b, a⟩
theorem far_low {n e : Int} (h0 : n ≠ 0) (hn : InR n) (he : e < -2000) : ∀ y, Fin64 y → y < 18446744073709551616 → fval y ≠ (n : Rat) * p2 e := by
 obtain ⟨n', ho, _⟩ := odd_math n h0 hn
 intro y hy _
 rw [odd_val ho]
 have := ho.2.2
 exact no_low ho.2.1 (by omega) y hy
set_option maxHeartbeats 4000000 in
set_option maxRecDepth 100000 in
theorem refFloat_any (s : ByteArray) (w : World) (hs : s.size ≤ 5000) (x : Nat) (er : Int) (hR : FloatR s.data.toList x er) :
   Calls Tryd.prog 10 #[.string s] w fun r w' => r = .returned (.tuple #[.float .f64 x, .int .i64 er]) ∧ Below w.heap.size w w' := by
 obtain ⟨l, hl⟩ : ∃ l, s.data.toList = l := ⟨_, rfl⟩
 have hP := fun w => refParts_any s w (by omega)
 have hsz : s.size = l.length := by rw [Lib.size_eq, hl]
 rw [hl] at hR hP
 cases ht : rdTell l with
 | none =>
   obtain ⟨rfl, rfl⟩ := hR.form ht
   have HP : Hid (∀ w, Calls Tryd.prog 18 #[.string s] w fun r w' => (∃ n p, r = .returned (.tuple #[.int .i64 n, .int .i64 p, .bool false])) ∧ Below w.heap.size w w') := fun w => (hP w).mono (by
     rintro r w' ⟨⟨n, p, ok, rfl, hp⟩, hb⟩
     rcases hp with ⟨_, h⟩ | ⟨rfl, _⟩
     · rw [ht] at h; cases h
     · exact ⟨⟨n, p, rfl⟩, hb⟩)
   clear hP hR ht hsz hl
   go_enter Tryd.func10, Tryd.ntmps10
   go_wp2_with fail
   refine (HP.out _).mono ?_
   rintro r w1 ⟨⟨n, p, rfl⟩, hb1⟩
   have HB1 := Lib.hid hb1
   clear hb1
   by_cases h4 : 400 < s.size
   · have h4i : (400 : Int) < (s.size : Int) := by omega
     go_wp2
     all_goals (go_ret2; exact ⟨rfl, HB1.out⟩)
   · have h4i : ¬ (400 : Int) < (s.size : Int) := by omega
     go_wp2
     all_goals (go_ret2; exact ⟨rfl, HB1.out⟩)
 | some p =>
   obtain ⟨n, e⟩ := p
   have hlen := tell_length ht
   obtain ⟨hn, he, _⟩ := tell_cases ht
   have hPT : ∀ w, Calls Tryd.prog 18 #[.string s] w fun r w' => r = .returned (.tuple #[.int .i64 n, .int .i64 e, .bool true]) ∧ Below w.heap.size w w' := fun w => (hP w).mono (by
     rintro r w' ⟨⟨n', p', ok, rfl, hp⟩, hb⟩
     rcases hp with ⟨rfl, h⟩ | ⟨_, h⟩
     · rw [ht] at h
       simp at h
       obtain ⟨rfl, rfl⟩ := h
       exact ⟨rfl, hb⟩
     · rw [ht] at h; cases h)
   have HPT : Hid (∀ w, Calls Tryd.prog 18 #[.string s] w fun r w' => r = .returned (.tuple #[.int .i64 n, .int .i64 e, .bool true]) ∧ Below w.heap.size w w') := hPT
   have h4i : (s.size : Int) ≤ 400 := by omega
   by_cases h0 : n = 0
   · subst h0
     obtain ⟨rfl, rfl⟩ := hR.ok ht fin_zero (by omega) (by rw [fval_zero]; show (0 : Rat) = 0 * _; grind) (fun _ => rfl)
     clear hP hR ht hsz hl hlen hn he hPT
     go_enter Tryd.func10, Tryd.ntmps10
     go_wp2_with fail
     refine (HPT.out _).mono ?_
     rintro r w1 ⟨rfl, hb1⟩
     go_wp2
     go_ret2
     exact ⟨rfl, hb1⟩
   · by_cases h2 : -2000 ≤ e ∧ e ≤ 2000
     · exact refFloat_core s w (by omega) n e hn h0 h2.1 h2.2 x er hPT (sinv_fin hR ht h0)
     · obtain ⟨rfl, rfl⟩ := hR.no ht (by
         rcases Int.lt_or_le e (-2000) with h | h
         · exact far_low h0 hn h
         · exact no_high h0 (by omega))
       have hn0 : (n == 0) = false := by rw [beq_eq_false_iff_ne]; exact h0
       clear hP hR ht hsz hl hlen hPT
       obtain ⟨he1, he2⟩ := he
       rcases Int.lt_or_le e (-2000) with h | h
       · go_enter Tryd.func10, Tryd.ntmps10
         go_wp2_with fail
         refine (HPT.out _).mono ?_
         rintro r w1 ⟨rfl, hb1⟩
         go_wp2
         go_ret2
         exact ⟨rfl, hb1⟩
       · have h' : 2000 < e := by omega
         go_enter Tryd.func10, Tryd.ntmps10
         go_wp2_with fail
         refine (HPT.out _).mono ?_
         rintro r w1 ⟨rfl, hb1⟩
         go_wp2
         go_ret2
         exact ⟨rfl, hb1⟩
end
end Go.Proofs.YtgfloegaoofbbaaDoor
