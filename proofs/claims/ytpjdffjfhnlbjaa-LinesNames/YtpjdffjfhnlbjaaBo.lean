/- The law LinesRead. -/
import Derived.Test.YtpjdffjfhnlbjaaBn
import Derived.Deep.QuietTactic
import Derived.BigQuiet
namespace Go.Proofs.Ytpjdffjfhnlbjaa
open Go.RowKit Go.Shelf Go.Lib
attribute [local go_sem] run_store_str

theorem own_other {w : World} {base e size n : Nat} {v : Value} {xs : List Value} (h : w.ownsRow base e size v n xs) {a : Addr} (hne : v.ownBlock ≠ some a.block) (x : Value) : (w.setCell a x).ownsRow base e size v n xs := by
  obtain ⟨hl, h⟩ := h
  refine ⟨hl, ?_⟩
  rcases h with h | ⟨g, cap, cur, e1, h1, h2, h3⟩
  · exact Or.inl h
  · refine Or.inr ⟨g, cap, cur, e1, h1, ?_, h3⟩
    rw [Below.heap_setCell _ _ _ _ (fun e => hne (by rw [e1]; simp [Value.ownBlock, e]))]; exact h2
theorem own_frozen {w : World} {base e size n g c : Nat} {xs : List Value} (h : w.ownsRow base e size (.slice (some ⟨g, 0, none⟩) n c) n xs) (j : Nat) : w.frozen? ⟨g, j, none⟩ = false := by
  rcases h.2 with ⟨h1, _⟩ | ⟨g', cap, cur, h1, _, h2, _⟩
  · cases h1
  · obtain ⟨rfl, _⟩ : g = g' ∧ c = cap := by simpa using h1
    simp [World.frozen?, h2]
theorem Lr.form {e : TypeId} {W : World} {B : Nat} {v : Value} {ps : List Lt} (h : Lr e W B v ps) : ∃ a c, v = .slice a ps.length c ∧ ps.length ≤ c ∧ c ≤ 9223372036854775807 ∧ (ps = [] ∨ ∃ g, a = some ⟨g, 0, none⟩ ∧ B ≤ g) := by
  rcases h.own.2 with ⟨h1, h2⟩ | ⟨g, cap, cur, h1, h0, _, h3, h4, _⟩
  · exact ⟨none, 0, by rw [h1, h2], by omega, by omega, Or.inl (List.length_eq_zero_iff.1 h2)⟩
  · exact ⟨_, _, h1, h3, by unfold maxLen at h4; omega, Or.inr ⟨g, rfl, h0⟩⟩
theorem row_cells {e : TypeId} {W : World} {B g n c : Nat} {ps : List Lt} (h : W.ownsRow B e 2 (.slice (some ⟨g, 0, none⟩) n c) n (lcs ps)) {k : Nat} (hk : k < ps.length) : W.cell? ⟨g, k * 2, none⟩ = some (.int .i64 (ps[k].1 : Nat)) ∧ W.cell? ⟨g, k * 2 + 1, none⟩ = some ps[k].2.2 := by
  have h1 := own_cell h (lcs_at ps k hk).1
  have h2 := own_cell h (lcs_at ps k hk).2
  rw [Nat.zero_add, Nat.mul_comm 2 k] at h1 h2
  exact ⟨h1, h2⟩
theorem lineW_lens {l : Bs} (hl : l.length ≤ 9223372036854775807) : ∀ x ∈ lineW l, x.length ≤ 9223372036854775807 := fun x hx => by
  have h1 := (toks_word hx).2.2.1
  have h2 : (ahd l).length ≤ l.length := cutT_len _ _
  omega
theorem good_word : ∀ (ls : List Bs) (n : Nat) {p : Nat × List Bs}, p ∈ good n ls → p.2 ≠ [] ∧ ∃ l ∈ ls, p.2 = lineW l := by
  intro ls
  induction ls with
  | nil => intro n p hp; simp [good] at hp
  | cons l r ih =>
    intro n p hp
    rw [good] at hp
    rcases List.mem_append.1 hp with e | e
    · by_cases h : (lineW l).isEmpty = true
      · rw [if_pos h] at e; simp at e
      · rw [if_neg h] at e
        rw [List.mem_singleton.1 e]
        exact ⟨by simpa using h, l, by simp, rfl⟩
    · obtain ⟨h1, x, h2, h3⟩ := ih _ e
      exact ⟨h1, x, by simp [h2], h3⟩
theorem rdV_word {t : Bs} {p : Nat × List Bs} (hp : p ∈ (rdV t).1) : p.2 ≠ [] ∧ (∀ x ∈ p.2, x.length ≤ 16777216) ∧ (rdV t).2.2 = 0 ∧ ∃ l ∈ lns t, p.2 = lineW l := by
  unfold rdV at hp ⊢
  split at hp
  · simp at hp
  · rename_i hl
    rw [if_neg hl]
    split at hp
    · simp at hp
    · obtain ⟨h1, l, h2, h3⟩ := good_word _ _ hp
      refine ⟨h1, fun x hx => ?_, rfl, l, h2, h3⟩
      rw [h3] at hx
      have g1 := (toks_word hx).2.2.1
      have g2 : (ahd l).length ≤ l.length := cutT_len _ _
      have g3 := (spl_word h2).2.1
      omega

/-- What is so while the lines that were read are held against those that were asked for. -/
structure HoldI (w wo W : World) (v gv : Value) (ps gps : List Lt) (i : Nat) : Prop where
  want : Lr 37 W w.heap.size v ps
  row : W.ownsRow wo.heap.size 33 2 gv gps.length (lcs gps)
  sub : ∀ j (h : j < gps.length), i ≤ j → Sr W wo.heap.size gps[j].2.2 gps[j].2.1
  bel : Below w.heap.size w W
  old : ∀ p ∈ ps, ∀ k, p.2.2.ownBlock = some k → k < wo.heap.size
  oldv : ∀ k, v.ownBlock = some k → k < wo.heap.size
theorem HoldI.drewN {w wo W : World} {v gv : Value} {ps gps : List Lt} {i : Nat} (h : HoldI w wo W v gv ps gps i) (m : Nat) : HoldI w wo (W.drewN m) v gv ps gps i :=
  have hb := below_drewN W.heap.size W m
  ⟨h.want.later hb, own_later h.row hb, fun j hj hi => (h.sub j hj hi).later hb, h.bel.trans (hb.mono h.bel.size), h.old, h.oldv⟩
theorem HoldI.mark {w wo W : World} {v gv : Value} {ps gps : List Lt} {i g n c : Nat} (h : HoldI w wo W v gv ps gps i) (hd : gps.Pairwise (fun p q => p.2.2.ownBlock ≠ q.2.2.ownBlock)) (hi : i < gps.length) (hg : gps[i].2.2 = .slice (some ⟨g, 0, none⟩) n c) (hgo : wo.heap.size ≤ g) (hws : w.heap.size ≤ wo.heap.size) (x : Value) : HoldI w wo (W.setCell ⟨g, 0, none⟩ x) v gv ps gps (i + 1) := by
  have hgi : gps[i].2.2.ownBlock = some g := by rw [hg]; rfl
  refine ⟨⟨own_other h.want.own (fun e => ?_) x, fun p hp => own_other (h.want.sub p hp) (fun e => ?_) x, h.want.dis⟩, own_other h.row (fun e => ?_) x, fun j hj hij => own_other (h.sub j hj (by omega)) (fun e => ?_) x, h.bel.setCell (p := ⟨g, 0, none⟩) (by show w.heap.size ≤ g; omega) _, h.old, h.oldv⟩
  · have := h.oldv _ e
    have e2 : (⟨g, 0, none⟩ : Addr).block = g := rfl
    omega
  · have := h.old p hp _ e
    have e2 : (⟨g, 0, none⟩ : Addr).block = g := rfl
    omega
  · have hS := h.sub i hi (Nat.le_refl _)
    rw [hg] at hS
    rcases hS.2 with ⟨h1, _⟩ | ⟨g1, _, cur, h1, _, h2, _⟩
    · cases h1
    · obtain ⟨rfl, _⟩ : g = g1 ∧ _ := by simpa using h1
      rcases h.row.2 with ⟨h3, _⟩ | ⟨g3, _, cur3, h3, _, h4, _⟩
      · rw [h3] at e; cases e
      · rw [h3] at e
        obtain rfl : g3 = g := by simpa [Value.ownBlock] using e
        rw [h2] at h4
        simp at h4
  · have h1 := List.pairwise_iff_getElem.1 hd i j hi hj (by omega)
    rw [hgi] at h1
    exact h1 e.symm
theorem tell_at {ps : List Lt} {L : List (Nat × List Bs)} (h : tell ps = L) {k : Nat} (hk : k < ps.length) : ∃ hk2 : k < L.length, (ps[k].1, ps[k].2.1) = L[k] := by
  subst h
  exact ⟨by simpa [tell] using hk, by simp [tell]⟩

set_option maxRecDepth 100000 in
set_option maxHeartbeats 8000000 in
theorem linesRead_law (s : ByteArray) (w : World) (hs : s.size ≤ 9223372036854775807) : Calls Try.prog 4 #[.string s] w fun e w' => e = .returned (.bool true) ∧ Below w.heap.size w w' := by
  obtain ⟨t, ht⟩ : ∃ t, Hid (s.data.toList = t) := ⟨_, Lib.hid rfl⟩
  have hsz : s.size = t.length := by rw [Lib.size_eq, ht.out]
  have hs1 : (s.size : Int) ≤ 9223372036854775807 := by omega
  by_cases hlong : 200000 < s.size
  · have h1 : (200000 : Int) < (s.size : Int) := by omega
    go_enter Try.func4, Try.ntmps4
    go_wp2
    go_ret
    exact ⟨rfl, Below.refl _ _⟩
  have h1 : ¬ ((200000 : Int) < (s.size : Int)) := by omega
  have HR : Hid (∀ W, Calls Try.prog 9 #[.string s] W fun e w' => ReadR 33 W w' t e) := fun W => read_any s t W ht.out (by omega)
  have HF : Hid (∀ W, Calls Try.prog 12 #[.string s] W fun e w' => ReadR 37 W w' t e) := fun W => refRead_any s t W ht.out (by omega)
  obtain ⟨L, hL⟩ : ∃ L, Hid ((rdV t).1 = L) := ⟨_, Lib.hid rfl⟩
  obtain ⟨at1, hat⟩ : ∃ x, Hid ((rdV t).2.1 = x) := ⟨_, Lib.hid rfl⟩
  obtain ⟨ee, hee⟩ : ∃ x, Hid ((rdV t).2.2 = x) := ⟨_, Lib.hid rfl⟩
  have HLW : Hid (∀ p ∈ L, p.2 ≠ [] ∧ ∀ x ∈ p.2, x.length ≤ 16777216) := fun p hp => by
    rw [← hL.out] at hp
    exact ⟨(rdV_word hp).1, (rdV_word hp).2.1⟩
  have HLn : Hid (L.length ≤ 300000) := by
    show L.length ≤ _
    rw [← hL.out]
    unfold rdV
    split
    · simp
    · split
      · simp
      · have g1 := good_len (lns t) 1
        have g2 := lns_len t
        show (good 1 (lns t)).length ≤ _
        omega
  clear hsz
  have HR' : Hid (∀ W, Calls Try.prog 9 #[.string s] W fun e w' => ∃ a c gps, e = .returned (.tuple #[.slice a L.length c, .int .i64 (at1 : Nat), .int .i64 (ee : Nat)]) ∧ Lr 33 w' W.heap.size (.slice a L.length c) gps ∧ tell gps = L ∧ gps.length = L.length ∧ Below W.heap.size W w') := fun W => by
    refine (HR.out W).mono ?_
    rintro e w' ⟨v, ps, rfl, h2, h3, h4⟩
    rw [hL.out] at h3
    have hlen : ps.length = L.length := by rw [← h3]; simp [tell]
    obtain ⟨a, c, rfl, _, _, _⟩ := h2.form
    rw [hlen] at h2 ⊢
    exact ⟨a, c, ps, by rw [hat.out, hee.out], h2, h3, hlen, h4⟩
  have HF' : Hid (∀ W, Calls Try.prog 12 #[.string s] W fun e w' => ∃ a c gps, e = .returned (.tuple #[.slice a L.length c, .int .i64 (at1 : Nat), .int .i64 (ee : Nat)]) ∧ Lr 37 w' W.heap.size (.slice a L.length c) gps ∧ tell gps = L ∧ gps.length = L.length ∧ Below W.heap.size W w') := fun W => by
    refine (HF.out W).mono ?_
    rintro e w' ⟨v, ps, rfl, h2, h3, h4⟩
    rw [hL.out] at h3
    have hlen : ps.length = L.length := by rw [← h3]; simp [tell]
    obtain ⟨a, c, rfl, _, _, _⟩ := h2.form
    rw [hlen] at h2 ⊢
    exact ⟨a, c, ps, by rw [hat.out, hee.out], h2, h3, hlen, h4⟩
  obtain ⟨n, hn⟩ : ∃ n, Hid (L.length = n) := ⟨_, Lib.hid rfl⟩
  rw [hn.out] at HR' HF' HLn
  have hnl : (n : Int) ≤ 300000 := by have := HLn.out; omega
  clear HR HF
  go_enter Try.func4, Try.ntmps4
  go_wp2_with (go_at_call 12; refine (HF'.out _).mono ?_; rintro e W1 ⟨va, vc, ps, rfl, hW1, hW2, hW3, hW4⟩; have HWt := Lib.hid (And.intro hW1 hW4); have HPs := Lib.hid (And.intro hW2 hW3); clear hW1 hW2 hW3 hW4)
  go_loopw [6] (fun s6 wr => ∃ r : Nat, r ≤ 2 ∧ s6 = .int .i64 (r : Nat) ∧ Hid (Lr 37 wr w.heap.size (.slice va n vc) ps ∧ Below w.heap.size w wr)) (fun s6 _ => 2 - (RowKit.intOf s6).toNat)
  case atStart => exact ⟨0, by omega, rfl, HWt⟩
  case round =>
    obtain ⟨r, hr, rfl, hI⟩ := hrel
    by_cases hr2 : r = 2
    · subst hr2
      go_wp2
      go_ret
      exact ⟨rfl, hI.out.2⟩
    · have hr3 : (r : Int) < 2 := by omega
      have hr4 : (0 : Int) ≤ (r : Int) := by omega
      obtain ⟨wo, hwo⟩ : ∃ wo, wr = wo := ⟨_, rfl⟩
      rw [hwo] at hI ⊢
      clear hwo
      go_wp2_with (go_at_call 9; refine (HR'.out _).mono ?_; rintro e W2 ⟨ga, gc, gps, rfl, hW1, hW2, hW3, hW4⟩; have HG := Lib.hid (And.intro hW1 (And.intro hW2 (And.intro hW3 hW4))); clear hW1 hW2 hW3 hW4)
      have HH : Hid (HoldI w wo W2 (.slice va n vc) (.slice ga n gc) ps gps 0) := by
        obtain ⟨g1, g2, g3, g4⟩ := HG.out
        refine ⟨hI.out.1.later g4, g1.own, fun j hj _ => g1.sub _ (List.getElem_mem hj), hI.out.2.trans (g4.mono hI.out.2.size), fun p hp k hk => (World.ownsRow.lt (hI.out.1.sub p hp) k hk).2, fun k hk => (World.ownsRow.lt hI.out.1.own k hk).2⟩
      go_loopw [10] (fun s10 wr => ∃ i : Nat, i ≤ n ∧ s10 = .int .i64 (i : Nat) ∧ Hid (HoldI w wo wr (.slice va n vc) (.slice ga n gc) ps gps i)) (fun s10 _ => n - (RowKit.intOf s10).toNat)
      case atStart => exact ⟨0, Nat.zero_le _, rfl, HH⟩
      case round =>
        obtain ⟨i, hi, rfl, hJ⟩ := hrel
        by_cases hlt : i < n
        · have hlt' : (i : Int) < (n : Int) := by omega
          have hi0 : (0 : Int) ≤ (i : Int) := by omega
          have hi1 : i < gps.length := by rw [HG.out.2.2.1]; exact hlt
          have hi2 : i < ps.length := by rw [HPs.out.2]; exact hlt
          obtain ⟨a1, c1, e1, hc1, hc1', hf1⟩ := HG.out.1.form
          obtain ⟨a2, c2, e2, hc2, hc2', hf2⟩ := hI.out.1.form
          obtain ⟨g1, ea1, hg1⟩ := hf1.resolve_left (fun e => by rw [e] at hi1; simp at hi1)
          obtain ⟨g2, ea2, hg2⟩ := hf2.resolve_left (fun e => by rw [e] at hi2; simp at hi2)
          have eA : ga = some ⟨g1, 0, none⟩ ∧ gc = c1 := by
            have : ga = a1 ∧ n = gps.length ∧ gc = c1 := by simpa using e1
            exact ⟨this.1.trans ea1, this.2.2⟩
          have eB : va = some ⟨g2, 0, none⟩ ∧ vc = c2 := by
            have : va = a2 ∧ n = ps.length ∧ vc = c2 := by simpa using e2
            exact ⟨this.1.trans ea2, this.2.2⟩
          obtain ⟨rfl, rfl⟩ := eA
          obtain ⟨rfl, rfl⟩ := eB
          have hr1 := hJ.out.row
          have hr2 := hJ.out.want.own
          rw [HG.out.2.2.1] at hr1
          rw [HPs.out.2] at hr2
          obtain ⟨k1, k2⟩ := row_cells hr1 hi1
          obtain ⟨k3, k4⟩ := row_cells hr2 hi2
          obtain ⟨hl1, q1⟩ := tell_at HG.out.2.1 hi1
          obtain ⟨_, q2⟩ := tell_at HPs.out.1 hi2
          obtain ⟨⟨no, ws⟩, hlk⟩ : ∃ p, L[i] = p := ⟨_, rfl⟩
          have hmem : (no, ws) ∈ L := by rw [← hlk]; exact List.getElem_mem hl1
          rw [hlk] at q1 q2
          have s1 := hJ.out.sub i hi1 (Nat.le_refl _)
          have s2 := hJ.out.want.sub _ (List.getElem_mem hi2)
          have q1a : gps[i].1 = no := congrArg Prod.fst q1
          have q1b : gps[i].2.1 = ws := congrArg Prod.snd q1
          have q2a : ps[i].1 = no := congrArg Prod.fst q2
          have q2b : ps[i].2.1 = ws := congrArg Prod.snd q2
          rw [q1b] at s1
          rw [q2b] at s2
          rw [q1a] at k1
          rw [q2a] at k3
          have hws : ws ≠ [] ∧ ∀ x ∈ ws, x.length ≤ 16777216 := HLW.out _ hmem
          have hwp0 : 0 < ws.length := List.length_pos_iff.2 hws.1
          have hlen : ∀ x ∈ ws, x.length ≤ 9223372036854775807 := fun x hx => by have := hws.2 x hx; omega
          obtain ⟨x1, hx1⟩ : ∃ x, gps[i].2.2 = x := ⟨_, rfl⟩
          obtain ⟨x2, hx2⟩ : ∃ x, ps[i].2.2 = x := ⟨_, rfl⟩
          rw [hx1] at s1 k2
          rw [hx2] at s2 k4
          have HTx : Hid (∀ m, Calls Try.prog 13 #[x1, x2] (wr.drewN m) fun e w' => e = .returned (.bool true) ∧ ∃ k, w' = (wr.drewN m).drewN k) := fun m => by
            have hb := below_drewN wr.heap.size wr m
            have := textsN_any x1 x2 ws ws (wr.drewN m) ((s1.sl hlen).later hb) ((s2.sl hlen).later hb)
            rwa [decide_eq_true rfl] at this
          obtain ⟨gw, cw1, rfl, hgw, hwc⟩ : ∃ gw c, x1 = .slice (some ⟨gw, 0, none⟩) ws.length c ∧ wo.heap.size ≤ gw ∧ ws.length ≤ c ∧ c ≤ 9223372036854775807 := by
            rcases s1.2 with ⟨_, h2⟩ | ⟨g, cap, cur, h2, h3, _, h4, h5, _⟩
            · exact absurd (List.length_eq_zero_iff.1 h2) hws.1
            · exact ⟨g, cap, h2, h3, h4, by unfold maxLen at h5; omega⟩
          obtain ⟨a5, c5, rfl, hc5, hc5'⟩ := s2.form
          have hwp : (0 : Int) < (ws.length : Int) := by omega
          have hwl : (ws.length : Int) ≤ 9223372036854775807 := by omega
          obtain ⟨x0, k5⟩ : ∃ x0 : ByteArray, wr.cell? ⟨gw, 0, none⟩ = some (.string x0) := by
            have := own_cell (j := 0) s1 (by rw [List.getElem?_map, List.getElem?_eq_getElem hwp0]; rfl)
            exact ⟨_, this⟩
          have k6 := own_frozen s1 0
          have HMk : Hid (∀ m, HoldI w wo ((wr.drewN m).setCell ⟨gw, 0, none⟩ (.string ⟨#[63]⟩)) (.slice (some ⟨g2, 0, none⟩) n vc) (.slice (some ⟨g1, 0, none⟩) n gc) ps gps (i + 1)) := fun m => (hJ.out.drewN m).mark HG.out.1.dis hi1 hx1 hgw hI.out.2.size _
          clear hmem q1 q2 q1a q1b q2a q2b hx1 hx2 s1 s2 hlk hr1 hr2 e1 e2 hf1 hf2 hlen hws HH HWt hl1
          go_wp2
          go_quiet (first | (go_at_call 13; refine Calls.quiet_of (HTx.out _)))
          go_wp2
          go_roundw
          case rel => exact ⟨i + 1, by omega, by go_num, HMk.out _⟩
          case measure => simp [RowKit.intOf]; omega
        · obtain rfl : n = i := by omega
          go_wp2
          go_roundw
          case rel => exact ⟨r + 1, by omega, by go_num, hJ.out.want, hJ.out.bel⟩
          case measure => simp [RowKit.intOf]; omega
end Go.Proofs.Ytpjdffjfhnlbjaa
