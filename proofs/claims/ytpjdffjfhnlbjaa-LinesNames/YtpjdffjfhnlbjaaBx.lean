/- The document's side of layer 9: Write, the walk. -/
import Derived.Test.YtpjdffjfhnlbjaaBw
namespace Go.Proofs.Ytpjdffjfhnlbjaa
open Go.RowKit Go.Shelf Go.Lib

/-- Bytes in memory of one's own. -/
def ByR (W : World) (B : Nat) (v : Value) (l : Bs) : Prop := W.ownsRow B 5 1 v l.length (byteCells l)
theorem ByR.form {W : World} {B : Nat} {v : Value} {l : Bs} (h : ByR W B v l) : ∃ a c, v = .slice a l.length c := by
  rcases h.2 with ⟨h1, h2⟩ | ⟨g, cap, cur, h1, _⟩
  · exact ⟨none, 0, by rw [h1, h2]⟩
  · exact ⟨_, _, h1⟩
theorem ByR.conv {W : World} {B : Nat} {v : Value} {l : Bs} (h : ByR W B v l) : (convert 49 9 v).run Try.prog W = .ok (.string ⟨l.toArray⟩) W := by
  have h0 := h
  rcases h.2 with ⟨h1, h2⟩ | ⟨g, cap, cur, h1, _⟩
  · have : l = [] := List.length_eq_zero_iff.1 h2
    subst this
    rw [h1]
    exact run_convert_bytes_nil W 49 5 Try.underlying49 Try.underlying5 0 0 _ Try.underlying9
  · rw [h1]
    refine run_convert_bytes_back W 49 9 5 ⟨g, 0, none⟩ cap l Try.underlying49 Try.underlying5 Try.underlying9 (fun j hj => ?_)
    have := World.ownsRow.cells h0 (g := g) (by rw [h1]; rfl) j (.int .u8 (l[j].toNat : Int)) (by simp [byteCells, hj])
    exact this
theorem ByR.grew1 {w W W2 : World} {v v' : Value} {l : Bs} {c : UInt8} {tmp : Obj} (hb : Below w.heap.size w W) (h : ByR W w.heap.size v l) (hown : W2.ownsRow w.heap.size 5 1 v' (l.length + 1) (byteCells l ++ [.int .u8 (c.toNat : Int)])) (hg : (W.alloc tmp).grownBy W2 v.ownBlock) : ByR W2 w.heap.size v' (l ++ [c]) ∧ Below w.heap.size w W2 := by
  refine ⟨?_, below_grew hb h hg⟩
  unfold ByR
  rw [List.length_append, byteCells_append]
  exact hown
theorem ByR.grewS {w W W2 : World} {v v' : Value} {l x : Bs} {q : ByteArray} (hq : (⟨x.toArray⟩ : ByteArray) = q) (hb : Below w.heap.size w W) (h : ByR W w.heap.size v l) (hown : W2.ownsRow w.heap.size 5 1 v' (l.length + q.size) (byteCells l ++ strCells q)) (hg : W.grownBy W2 v.ownBlock) : ByR W2 w.heap.size v' (l ++ x) ∧ Below w.heap.size w W2 := by
  subst hq
  refine ⟨?_, hb.trans ((Below.refl _ W).grown hg hb.size (fun k hk => own_ap h k hk))⟩
  unfold ByR
  rw [List.length_append, byteCells_append, ← sv_size x]
  exact hown
theorem jn_take {ws : List Bs} {k : Nat} (hk : k < ws.length) : jn (ws.take (k + 1)) = jn (ws.take k) ++ ((if 0 < k then [32] else []) ++ ws[k]) := by
  have key : ∀ (a : List Bs) (x : Bs), a ≠ [] → jn (a ++ [x]) = jn a ++ 32 :: x := by
    intro a x
    induction a with
    | nil => intro h; exact absurd rfl h
    | cons y r ih =>
      intro _
      cases r with
      | nil => simp only [List.cons_append, List.nil_append]; rw [jn_cons2, jn_one, jn_one]
      | cons z r =>
        rw [List.cons_append, List.cons_append, jn_cons2, jn_cons2, ← List.cons_append, ih (by simp)]; simp
  rw [List.take_succ_eq_append_getElem hk]
  cases k with
  | zero => rw [List.take_zero, List.nil_append, jn_one]; rfl
  | succ k =>
    rw [if_pos (by omega), key]
    · simp
    · intro e
      have := congrArg List.length e
      rw [List.length_take, List.length_nil] at this
      omega
theorem jn_take_len {ws : List Bs} {m : Nat} (h : ∀ x ∈ ws, x.length ≤ m) (k : Nat) : (jn (ws.take k)).length ≤ ws.length * (m + 1) := by
  by_cases h0 : ws.take k = []
  · rw [h0]; simp [jn, join_nil]
  · have h1 := jn_len h0
    have h2 := lens_le (ws := ws.take k) (m := m) (fun x hx => h x (List.mem_of_mem_take hx))
    have h3 : (ws.take k).length ≤ ws.length := by rw [List.length_take]; omega
    have h4 : (ws.take k).length * m ≤ ws.length * m := Nat.mul_le_mul_right _ h3
    rw [Nat.mul_add, Nat.mul_one]
    omega

set_option maxRecDepth 100000 in
set_option maxHeartbeats 16000000 in
theorem refWrite_any (v : Value) (ls : List Lv) (w : World) (h : Ll w v ls) (hM : Mod ls) (hX : ∀ p ∈ ls, ∀ x ∈ p.1, x.length ≤ 200000) : Calls Try.prog 14 #[v] w fun e w' => e = .returned (.tuple #[sv (wrV (ls1 ls)).1, .int .i64 ((wrV (ls1 ls)).2 : Nat)]) ∧ Below w.heap.size w w' := by
  obtain ⟨⟨a, c, rfl, hc1, hc2, hm⟩, hsub⟩ := h
  have HM := Lib.hid hm
  have HU := Lib.hid hsub
  have HMo := Lib.hid hM
  have HXl := Lib.hid hX
  have l0 : (ls.length : Int) ≤ 300000 := by have := hM.1; omega
  clear hsub hm hM hX
  obtain ⟨n, hn⟩ : ∃ n, Hid (ls.length = n) := ⟨_, Lib.hid rfl⟩
  rw [hn.out] at l0 hc1 ⊢
  obtain ⟨L, hL⟩ : ∃ L, Hid (ls1 ls = L) := ⟨_, Lib.hid rfl⟩
  have HLen : Hid (L.length = n) := (by rw [← hL.out, List.length_map, hn.out] : L.length = n)
  have HLk : Hid (∀ k (h : k < ls.length) (h2 : k < L.length), L[k] = ls[k].1) := fun k h h2 => by
    have e := hL.out
    subst e
    rw [List.getElem_map]
  obtain ⟨R, hR⟩ : ∃ R, Hid (wrV L = R) := ⟨_, Lib.hid rfl⟩
  rw [hL.out, hR.out]
  go_enter Try.func14, Try.ntmps14
  go_wp2_with fail
  go_loopw [4] (fun s4 wr => ∃ i : Nat, i ≤ n ∧ s4 = .int .i64 (i : Nat) ∧ Hid ((∀ j (_ : j < i) (h2 : j < L.length), okL L[j] = true) ∧ Below w.heap.size w wr)) (fun s4 _ => n - (RowKit.intOf s4).toNat)
  case atStart => exact ⟨0, Nat.zero_le _, rfl, fun j hj _ => by omega, Below.refl _ _⟩
  case round =>
    obtain ⟨i, hi, rfl, hI⟩ := hrel
    by_cases hlt : i < n
    · have hi2 : i < ls.length := by rw [hn.out]; exact hlt
      have hi3 : i < L.length := by rw [HLen.out]; exact hlt
      have hlt' : (i : Int) < (n : Int) := by omega
      have hi0 : (0 : Int) ≤ (i : Int) := by omega
      obtain ⟨g, off, rfl, hg, hcell⟩ := HM.out.resolve_left (fun e => by rw [e] at hi2; simp at hi2)
      have hc0 := hcell i ls[i] (List.getElem?_eq_getElem hi2)
      obtain ⟨⟨ws, wv⟩, hp⟩ : ∃ p, Hid (ls[i] = p) := ⟨_, Lib.hid rfl⟩
      rw [hp.out] at hc0
      have hmem : (ws, wv) ∈ ls := by rw [← hp.out]; exact List.getElem_mem hi2
      have hS : Sl w wv ws := HU.out _ hmem
      have HJ : Hid (L[i] = ws) := (by rw [HLk.out i hi2 hi3, hp.out] : L[i] = ws)
      have hwl : ws.length ≤ 300000 := HMo.out.2 _ hmem
      have HXw : Hid (∀ x ∈ ws, x.length ≤ 200000) := HXl.out _ hmem
      have hc0' : w.cell? ⟨g, off + i, none⟩ = some wv := hc0
      obtain ⟨⟨a2, c2, rfl, hd1, hd2, hm2⟩, hlen2⟩ := hS
      have HC0 := Lib.hid (And.intro hc0' hg)
      have HM2 := Lib.hid hm2
      obtain ⟨nw, hnw⟩ : ∃ nw, Hid (ws.length = nw) := ⟨_, Lib.hid rfl⟩
      rw [hnw.out] at HC0 hd1 hwl
      have hwl' : (nw : Int) ≤ 300000 := by omega
      have b1 := cell_later hI.out.2 hg HC0.out.1
      clear hcell hmem hm2 hlen2 hc0 hc0'
      by_cases h0 : nw = 0
      · have HN : Hid (R = ([], 1)) := by
          show R = _
          rw [← hR.out]
          refine wrV_arg hi3 ?_
          rw [HJ.out, List.length_eq_zero_iff.1 (hnw.out.trans h0)]; rfl
        subst h0
        go_wp2
        go_ret2
        rw [HN.out]; exact ⟨rfl, hI.out.2⟩
      · have h0' : ((nw : Int) == 0) = false := by simp; omega
        have h0'' : ¬ ((nw : Int) = 0) := by omega
        obtain ⟨wo, hwo⟩ : ∃ wo, wr = wo := ⟨_, rfl⟩
        rw [hwo] at hI b1 ⊢
        clear hwo
        go_wp2_with fail
        go_loopw [5] (fun s5 wr => ∃ k : Nat, k ≤ nw ∧ s5 = .int .i64 (k : Nat) ∧ Hid ((∀ j (_ : j < k) (h2 : j < ws.length), mayW ws[j] = true) ∧ Below w.heap.size w wr)) (fun s5 _ => nw - (RowKit.intOf s5).toNat)
        case atStart => exact ⟨0, Nat.zero_le _, rfl, fun j hj _ => by omega, hI.out.2⟩
        case round =>
          obtain ⟨k, hk, rfl, hK⟩ := hrel
          clear b1
          have b1 := cell_later hK.out.2 HC0.out.2 HC0.out.1
          by_cases hlt2 : k < nw
          · have hk2 : k < ws.length := by rw [hnw.out]; exact hlt2
            have hlt2' : (k : Int) < (nw : Int) := by omega
            have hk0 : (0 : Int) ≤ (k : Int) := by omega
            obtain ⟨g2, off2, rfl, hg2, hcell2⟩ := HM2.out.resolve_left (fun e => by rw [e] at hk2; simp at hk2)
            obtain ⟨q, hq⟩ : ∃ q : ByteArray, (⟨(ws[k]).toArray⟩ : ByteArray) = q := ⟨_, rfl⟩
            have b2w : w.cell? ⟨g2, off2 + k, none⟩ = some (.string q) := by rw [hcell2 k ws[k] (List.getElem?_eq_getElem hk2), ← hq]
            have b2 := cell_later hK.out.2 hg2 b2w
            have HB2 := Lib.hid (And.intro b2w hg2)
            have HWd := Lib.hid (refWord_any q ws[k] wr (by rw [← hq]) (by have := HXw.out _ (List.getElem_mem hk2); omega))
            have HArg : Hid (mayW ws[k] = false → R = ([], 1)) := fun hm => by
              rw [← hR.out]
              exact wrV_arg hi3 (by rw [HJ.out]; exact all_no hk2 hm)
            clear hcell2 hq b2w
            go_wp2_with fail
            refine HWd.out.mono ?_
            rintro e W2 ⟨hb, ⟨hm, g3, c3, rfl, hc3, _, _⟩ | ⟨hm, (rfl | ⟨a3, n3, c3, rfl, hne, hn3⟩ | ⟨g3, c3, q', rfl, hc3, hneq, _, _⟩)⟩⟩
            · have HB3 := Lib.hid (hK.out.2.trans (hb.mono hK.out.2.size))
              have HMy := Lib.hid hm
              have b5 := cell_later HB3.out HC0.out.2 HC0.out.1
              have b6 := cell_later HB3.out HB2.out.2 HB2.out.1
              clear hb hm b1 b2
              go_wp2_with fail
              go_quiet (fail)
              go_wp2
              go_roundw
              case rel =>
                refine ⟨k + 1, by omega, by go_num, fun j hj h2 => ?_, HB3.out.trans (below_drewN _ W2 nq)⟩
                by_cases e : j = k
                · subst e; exact HMy.out
                · exact hK.out.1 j (by omega) h2
              case measure => simp [RowKit.intOf]; omega
            · have HB3 := Lib.hid (hK.out.2.trans (hb.mono hK.out.2.size))
              have HN := Lib.hid (HArg.out hm)
              clear hb hm b1 b2
              go_wp2_with fail
              go_quiet (fail)
              go_wp2
              go_ret2
              rw [HN.out]; exact ⟨rfl, HB3.out.trans (below_drewN _ W2 nq)⟩
            · have HB3 := Lib.hid (hK.out.2.trans (hb.mono hK.out.2.size))
              have HN := Lib.hid (HArg.out hm)
              have hn3' : (n3 : Int) ≤ 1000000001 := by omega
              have f1 : ((n3 : Int) == 1) = false := by simp; omega
              have f2 : ((n3 : Int) != 1) = true := by simp; omega
              clear hb hm b1 b2
              go_wp2_with fail
              go_quiet (fail)
              go_wp2
              go_ret2
              rw [HN.out]; exact ⟨rfl, HB3.out.trans (below_drewN _ W2 nq)⟩
            · have HB3 := Lib.hid (hK.out.2.trans (hb.mono hK.out.2.size))
              have HN := Lib.hid (HArg.out hm)
              have b5 := cell_later HB3.out HC0.out.2 HC0.out.1
              have b6 := cell_later HB3.out HB2.out.2 HB2.out.1
              clear hb hm b1 b2
              go_wp2_with fail
              go_quiet (fail)
              go_wp2
              go_ret2
              rw [HN.out]; exact ⟨rfl, HB3.out.trans (below_drewN _ W2 nq)⟩
          · obtain rfl : nw = k := by omega
            have HOk : Hid (okL ws = true) := by
              show okL ws = true
              rw [all_yes (fun j hj => hK.out.1 j (by rw [← hnw.out]; exact hj) hj), hnw.out]
              exact decide_eq_true (by omega)
            go_wp2
            go_roundw
            case rel =>
              refine ⟨i + 1, by omega, by go_num, fun j hj h2 => ?_, hK.out.2⟩
              by_cases e : j = i
              · subst e; rw [HJ.out]; exact HOk.out
              · exact hI.out.1 j (by omega) h2
            case measure => simp [RowKit.intOf]; omega
    · obtain rfl : n = i := by omega
      have hok : L.all okL = true := by
        rw [List.all_eq_true]
        intro x hx
        obtain ⟨j, hj, rfl⟩ := List.mem_iff_getElem.1 hx
        exact hI.out.1 j (by rw [← HLen.out]; exact hj) hj
      have HOK := Lib.hid hok
      have HBo := Lib.hid hI.out.2
      clear hok hI
      obtain ⟨i0, hi0, hz0, hz1, hz2⟩ := info_parts (show (Try.prog.info? 5).map (fun i => (i.zero, i.size, i.bytes)) = some (some (.int .u8 0), 1, 1) by kernel_rfl)
      go_wp2_with fail
      go_loopw [8, 9] (fun s8 s9 wr => ∃ i : Nat, i ≤ n ∧ s9 = .int .i64 (i : Nat) ∧ Hid (ByR wr w.heap.size s8 (wrT (L.take i)) ∧ Below w.heap.size w wr ∧ (wrT (L.take i)).length ≤ 16777216 ∧ ∀ j (_ : j < i) (h2 : j < L.length), (jn L[j]).length ≤ 65536)) (fun _ s9 _ => n - (RowKit.intOf s9).toNat)
      case atStart => exact ⟨0, Nat.zero_le _, rfl, World.ownsRow_nil _ _ _ _, HBo.out, by simp [wrT], fun j hj _ => by omega⟩
      case round =>
        obtain ⟨i, hi, rfl, hI⟩ := hrel
        by_cases hlt : i < n
        · have hi2 : i < ls.length := by rw [hn.out]; exact hlt
          have hi3 : i < L.length := by rw [HLen.out]; exact hlt
          have hlt' : (i : Int) < (n : Int) := by omega
          have hi00 : (0 : Int) ≤ (i : Int) := by omega
          obtain ⟨g, off, rfl, hg, hcell⟩ := HM.out.resolve_left (fun e => by rw [e] at hi2; simp at hi2)
          have hc0 := hcell i ls[i] (List.getElem?_eq_getElem hi2)
          obtain ⟨⟨ws, wv⟩, hp⟩ : ∃ p, Hid (ls[i] = p) := ⟨_, Lib.hid rfl⟩
          rw [hp.out] at hc0
          have hmem : (ws, wv) ∈ ls := by rw [← hp.out]; exact List.getElem_mem hi2
          have hS : Sl w wv ws := HU.out _ hmem
          have HJ : Hid (L[i] = ws) := (by rw [HLk.out i hi2 hi3, hp.out] : L[i] = ws)
          have hwl : ws.length ≤ 300000 := HMo.out.2 _ hmem
          have hoks : okL ws = true := by
            have := HOK.out
            rw [List.all_eq_true] at this
            have := this _ (List.getElem_mem hi3)
            rwa [HJ.out] at this
          have HW4 : Hid (∀ x ∈ ws, x.length ≤ 400) := fun x hx => may_len ((ok_may hoks).2 x hx)
          have HJL : Hid (∀ k, (jn (ws.take k)).length ≤ 120300000) := fun k => by
            have h1 := jn_take_len HW4.out k
            have h2 : ws.length * (400 + 1) ≤ 300000 * (400 + 1) := Nat.mul_le_mul_right _ hwl
            omega
          have hc0' : w.cell? ⟨g, off + i, none⟩ = some wv := hc0
          obtain ⟨⟨a2, c2, rfl, hd1, hd2, hm2⟩, hlen2⟩ := hS
          have HC0 := Lib.hid (And.intro hc0' hg)
          have HM2 := Lib.hid hm2
          obtain ⟨nw, hnw⟩ : ∃ nw, Hid (ws.length = nw) := ⟨_, Lib.hid rfl⟩
          rw [hnw.out] at HC0 hd1 hwl
          have hwl' : (nw : Int) ≤ 300000 := by omega
          have HTk := Lib.hid (wrT_take hi3)
          rw [HJ.out] at HTk
          obtain ⟨T0, hT0⟩ : ∃ T, Hid (wrT (L.take i) = T) := ⟨_, Lib.hid rfl⟩
          rw [hT0.out] at hI HTk
          obtain ⟨a8, c8, rfl⟩ := hI.out.1.form
          obtain ⟨p0, hp0⟩ : ∃ p, Hid (T0.length = p) := ⟨_, Lib.hid rfl⟩
          have hI1 := hI.out.1
          rw [hp0.out] at hI1
          have HI1 := Lib.hid hI1
          have hp0l : (p0 : Int) ≤ 16777216 := by have := hI.out.2.2.1; rw [hp0.out] at this; omega
          have HI2 := Lib.hid hI.out.2
          have HFs := Lib.hid (fun (hb : 65536 < (jn ws).length ∨ 16777216 < T0.length + ((jn ws).length + 1)) => (by
            refine wrV_full HOK.out (fits_no hi3 ?_)
            rw [HJ.out, HTk.out]
            simp only [List.length_append, List.length_singleton]
            exact hb : wrV L = ([], 3)))
          clear hcell hmem hm2 hlen2 hc0 hc0' hoks hI1
          obtain ⟨wo, hwo⟩ : ∃ wo, wr = wo := ⟨_, rfl⟩
          rw [hwo] at HI1 HI2 ⊢
          clear hwo hI
          rw [hp0.out]
          go_wp2_with fail
          go_loopw [8, 11] (fun s8 s11 wr => ∃ k : Nat, k ≤ nw ∧ s11 = .int .i64 (k : Nat) ∧ Hid (ByR wr w.heap.size s8 (T0 ++ jn (ws.take k)) ∧ Below w.heap.size w wr)) (fun _ s11 _ => nw - (RowKit.intOf s11).toNat)
          case atStart =>
            refine ⟨0, Nat.zero_le _, rfl, ?_, HI2.out.1⟩
            rw [show jn (ws.take 0) = [] from rfl, List.append_nil]
            exact HI1.out
          case round =>
            obtain ⟨k, hk, rfl, hK⟩ := hrel
            have b1 := cell_later hK.out.2 HC0.out.2 HC0.out.1
            obtain ⟨l0, hl0⟩ : ∃ l, Hid (T0 ++ jn (ws.take k) = l) := ⟨_, Lib.hid rfl⟩
            rw [hl0.out] at hK
            have hl0l : l0.length ≤ 140000000 := by
              rw [← hl0.out, List.length_append]
              have h1 := HJL.out k
              have h2 := HI2.out.2.1
              omega
            have HL0 := Lib.hid hl0l
            by_cases hlt2 : k < nw
            · have hk2 : k < ws.length := by rw [hnw.out]; exact hlt2
              have hlt2' : (k : Int) < (nw : Int) := by omega
              have hk0 : (0 : Int) ≤ (k : Int) := by omega
              obtain ⟨g2, off2, rfl, hg2, hcell2⟩ := HM2.out.resolve_left (fun e => by rw [e] at hk2; simp at hk2)
              obtain ⟨q, hq⟩ : ∃ q : ByteArray, (⟨(ws[k]).toArray⟩ : ByteArray) = q := ⟨_, rfl⟩
              have b2w : w.cell? ⟨g2, off2 + k, none⟩ = some (.string q) := by rw [hcell2 k ws[k] (List.getElem?_eq_getElem hk2), ← hq]
              have HB2 := Lib.hid (And.intro b2w hg2)
              have HQ := Lib.hid hq
              have hqs : q.size ≤ 400 := by rw [← hq, sv_size]; exact HW4.out _ (List.getElem_mem hk2)
              have HQS := Lib.hid hqs
              have HJT := Lib.hid (jn_take hk2)
              clear hcell2 hq b2w
              by_cases h0 : 0 < k
              · have h0' : (0 : Int) < (k : Int) := by omega
                rw [if_pos h0] at HJT
                obtain ⟨l1, hl1⟩ : ∃ l, Hid (l0 ++ [32] = l) := ⟨_, Lib.hid rfl⟩
                have HL1 : Hid (l1.length ≤ 140000001) := (by rw [← hl1.out, List.length_append]; have := HL0.out; simp; omega : l1.length ≤ 140000001)
                go_wp2_with (first
                  | (at_builtin; refine wpList_append_own _ rfl _ _ 49 rfl w.heap.size 5 i0 (.int .u8 0) 1 1 Try.underlying49 hi0 hz0 hz1 hz2 rfl (by decide) u8 l0.length (byteCells l0) rfl (World.ownsRow.alloc hK.out.1 _) ⟨wr.heap.size, 0, none⟩ 1 1 [.int .u8 32] rfl rfl (cell_one_new _ _ _) (by simp [Value.oneCell']) (by unfold maxLen; have := HL0.out; omega) (by have := HL0.out; omega) (by have := hK.out.2.size; simp; omega) ?_; intro v1 W4 hown hgrow _; have HR4 := Lib.hid (ByR.grew1 (c := 32) hK.out.2 hK.out.1 hown hgrow); rw [hl1.out] at HR4; have b3 := cell_later HR4.out.2 HC0.out.2 HC0.out.1; have b4 := cell_later HR4.out.2 HB2.out.2 HB2.out.1; clear hown hgrow)
                  | (at_builtin; refine wpList_append_own_string _ rfl _ _ 49 9 rfl w.heap.size 5 i0 Try.underlying49 Try.underlying9 hi0 hz0 hz1 hz2 v1 l1.length (byteCells l1) rfl HR4.out.1 q rfl (by unfold maxLen; have := HL1.out; have := HQS.out; omega) (by have := HL1.out; have := HQS.out; omega) HR4.out.2.size ?_; intro v2 W5 hown hgrow _; have HR5 := Lib.hid (ByR.grewS HQ.out HR4.out.2 HR4.out.1 hown hgrow); clear hown hgrow))
                go_roundw
                case rel =>
                  refine ⟨k + 1, by omega, by go_num, ?_, HR5.out.2⟩
                  rw [HJT.out, ← List.append_assoc, hl0.out, ← List.append_assoc, hl1.out]
                  exact HR5.out.1
                case measure => simp [RowKit.intOf]; omega
              · have h0' : ¬ ((0 : Int) < (k : Int)) := by omega
                rw [if_neg h0] at HJT
                have b2 := cell_later hK.out.2 HB2.out.2 HB2.out.1
                go_wp2_with (first
                  | (at_builtin; refine wpList_append_own_string _ rfl _ _ 49 9 rfl w.heap.size 5 i0 Try.underlying49 Try.underlying9 hi0 hz0 hz1 hz2 u8 l0.length (byteCells l0) rfl hK.out.1 q rfl (by unfold maxLen; have := HL0.out; have := HQS.out; omega) (by have := HL0.out; have := HQS.out; omega) hK.out.2.size ?_; intro v2 W5 hown hgrow _; have HR5 := Lib.hid (ByR.grewS HQ.out hK.out.2 hK.out.1 hown hgrow); clear hown hgrow))
                go_roundw
                case rel =>
                  refine ⟨k + 1, by omega, by go_num, ?_, HR5.out.2⟩
                  rw [HJT.out, ← List.append_assoc, hl0.out]
                  exact HR5.out.1
                case measure => simp [RowKit.intOf]; omega
            · obtain rfl : nw = k := by omega
              have HL1 : Hid (l0 = T0 ++ jn ws) := by
                show l0 = _
                rw [← hl0.out, List.take_of_length_le (by rw [hnw.out]; exact Nat.le_refl _)]
              obtain ⟨jl, hjl⟩ : ∃ j, Hid ((jn ws).length = j) := ⟨_, Lib.hid rfl⟩
              have hlen : l0.length = p0 + jl := by rw [HL1.out, List.length_append, hp0.out, hjl.out]
              obtain ⟨a9, c9, hu9⟩ := hK.out.1.form
              rw [hlen] at hu9
              subst hu9
              have hjl' : (jl : Int) ≤ 140000000 := by omega
              rw [hjl.out, hp0.out] at HFs
              have HLn := Lib.hid hlen
              clear hlen hl0l
              by_cases hf : 65536 < jl ∨ 16777216 < p0 + (jl + 1)
              · have HN : Hid (R = ([], 3)) := by
                  show R = _
                  rw [← hR.out]; exact HFs.out hf
                by_cases hf1 : 65536 < jl
                · have d1 : (65536 : Int) < ((p0 + jl : Nat) : Int) - (p0 : Int) := by omega
                  have d1' : (65536 : Int) < (p0 : Int) + (jl : Int) - (p0 : Int) := by omega
                  clear hf
                  go_wp2
                  go_ret2
                  rw [HN.out]; exact ⟨rfl, hK.out.2⟩
                · have d1 : ¬ ((65536 : Int) < (p0 : Int) + (jl : Int) - (p0 : Int)) := by omega
                  have d2 : (16777216 : Int) < (p0 : Int) + (jl : Int) + 1 := by omega
                  clear hf
                  go_wp2
                  go_ret2
                  rw [HN.out]; exact ⟨rfl, hK.out.2⟩
              · have d1 : ¬ ((65536 : Int) < (p0 : Int) + (jl : Int) - (p0 : Int)) := by omega
                have d2 : ¬ ((16777216 : Int) < (p0 : Int) + (jl : Int) + 1) := by omega
                have HOk2 : Hid (jl ≤ 65536 ∧ p0 + (jl + 1) ≤ 16777216) := (by omega : jl ≤ 65536 ∧ p0 + (jl + 1) ≤ 16777216)
                clear hf
                go_wp2_with (at_builtin; refine wpList_append_own _ rfl _ _ 49 rfl w.heap.size 5 i0 (.int .u8 0) 1 1 Try.underlying49 hi0 hz0 hz1 hz2 rfl (by decide) (.slice a9 (p0 + jl) c9) l0.length (byteCells l0) rfl (World.ownsRow.alloc hK.out.1 _) ⟨wr.heap.size, 0, none⟩ 1 1 [.int .u8 10] rfl rfl (cell_one_new _ _ _) (by simp [Value.oneCell']) (by unfold maxLen; have := HL0.out; omega) (by have := HL0.out; omega) (by have := hK.out.2.size; simp; omega) ?_; intro v1 W4 hown hgrow _; have HR4 := Lib.hid (ByR.grew1 (c := 10) hK.out.2 hK.out.1 hown hgrow); clear hown hgrow)
                go_roundw
                case rel =>
                  refine ⟨i + 1, by omega, by go_num, ?_, HR4.out.2, ?_, fun j hj h2 => ?_⟩
                  · have := HR4.out.1
                    rw [HL1.out, List.append_assoc, ← HTk.out] at this
                    exact this
                  · rw [HTk.out]
                    simp only [List.length_append, List.length_singleton]
                    rw [hp0.out, hjl.out]
                    exact HOk2.out.2
                  · by_cases e : j = i
                    · subst e; rw [HJ.out, hjl.out]; exact HOk2.out.1
                    · exact HI2.out.2.2 j (by omega) h2
                case measure => simp [RowKit.intOf]; omega
        · obtain rfl : n = i := by omega
          have eT : L.take n = L := List.take_of_length_le (by rw [HLen.out]; exact Nat.le_refl _)
          rw [eT] at hI
          have HN : Hid (R = (wrT L, 0)) := by
            show R = _
            rw [← hR.out]
            exact wrV_good HOK.out (fits_yes (fun j hj => hI.out.2.2.2 j (by rw [← HLen.out]; exact hj) hj) hI.out.2.2.1)
          have hconv := hI.out.1.conv
          obtain ⟨q, hq⟩ : ∃ q : ByteArray, (⟨(wrT L).toArray⟩ : ByteArray) = q := ⟨_, rfl⟩
          rw [hq] at hconv
          have HQ := Lib.hid hq
          clear hq eT
          go_wp2
          go_ret2
          rw [HN.out]
          show Ending.returned (.tuple #[.string q, .int .i64 0]) = .returned (.tuple #[.string ⟨(wrT L).toArray⟩, .int .i64 0]) ∧ _
          rw [HQ.out]
          exact ⟨rfl, hI.out.2.1⟩
end Go.Proofs.Ytpjdffjfhnlbjaa
