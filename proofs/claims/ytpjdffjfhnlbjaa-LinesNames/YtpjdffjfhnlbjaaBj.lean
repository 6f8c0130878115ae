/- Package lines: Write. -/
import Derived.Test.YtpjdffjfhnlbjaaBi
namespace Go.Proofs.Ytpjdffjfhnlbjaa
open Go.RowKit Go.Shelf Go.Lib

theorem wrV_arg {L : List (List Bs)} {k : Nat} (h : k < L.length) (ho : okL L[k] = false) : wrV L = ([], 1) := by
  unfold wrV
  rw [if_neg]
  rw [List.all_eq_true]
  intro h2
  have := h2 _ (List.getElem_mem h)
  rw [ho] at this; cases this
theorem wrV_full {L : List (List Bs)} (h : L.all okL = true) (hf : fits L = false) : wrV L = ([], 3) := by
  unfold wrV; rw [if_pos h, hf]; rfl
theorem wrV_good {L : List (List Bs)} (h : L.all okL = true) (hf : fits L = true) : wrV L = (wrT L, 0) := by
  unfold wrV; rw [if_pos h, if_pos hf]
theorem fits_len {L : List (List Bs)} (h : fits L = true) : (wrT L).length ≤ 16777216 := by
  unfold fits at h; rw [Bool.and_eq_true] at h; simpa using h.2

theorem join_texts {ws : List Bs} {g off c : Nat} {W : World} (hc : ∀ k x, ws[k]? = some x → W.cell? ⟨g, off + k, none⟩ = some (sv x)) (hg : g < W.heap.size) (hn : ws.length ≤ 300000) (hcap : ws.length ≤ c) (hl : (jn ws).length ≤ 1000000000) :
    Calls Try.prog 22 #[.slice (some ⟨g, off, none⟩) ws.length c, .string ⟨#[32]⟩] W fun e w' => e = .returned (sv (jn ws)) ∧ Below W.heap.size W w' := by
  have e1 : (ws.map fun x => (⟨x.toArray⟩ : ByteArray)).length = ws.length := List.length_map _
  have e2 : (ws.map fun x => (⟨x.toArray⟩ : ByteArray)).map (·.data.toList) = ws := by
    rw [List.map_map]
    conv => rhs; rw [← List.map_id ws]
    exact List.map_congr_left fun x _ => rfl
  have e3 : (⟨#[32]⟩ : ByteArray).data.toList = [32] := rfl
  have h := Try.strings_Join g off c (ws.map fun x => (⟨x.toArray⟩ : ByteArray)) ⟨#[32]⟩ W (fun j x hj => by
    rw [List.getElem?_map] at hj
    cases hw : ws[j]? with
    | none => rw [hw] at hj; cases hj
    | some y =>
      rw [hw] at hj
      obtain rfl : (⟨y.toArray⟩ : ByteArray) = x := by simpa using hj
      exact hc j y hw) hg (by rw [e1]; omega) (by rw [e1]; exact hcap) (by rw [e2, e3]; exact Nat.le_trans hl (by omega))
  rw [e1, e2, e3] at h
  exact h

theorem builder_later {T e B b : Nat} {bs : List Value} {w w' : World} (h : Lib.IsBuilder T e B b bs w) (hb : Below w.heap.size w w') : Lib.IsBuilder T e B b bs w' := by
  have key : ∀ p, Lib.BuilderAt T e B b p bs w → Lib.BuilderAt T e B b p bs w' := by
    rintro p ⟨h1, v, h2, h3, h4⟩
    exact ⟨h1, v, (hb.block b (Array.getElem?_eq_some_iff.1 h2).1).trans h2, own_later h3 hb, h4⟩
  rcases h with h | h
  · exact Or.inl (key _ h)
  · exact Or.inr (key _ h)

set_option maxRecDepth 100000 in
set_option maxHeartbeats 8000000 in
theorem write_any (v : Value) (ls : List Lv) (w : World) (h : Ll w v ls) (hM : Mod ls) : Calls Try.prog 11 #[v] w fun e w' => e = .returned (.tuple #[sv (wrV (ls1 ls)).1, .int .i64 ((wrV (ls1 ls)).2 : Nat)]) ∧ Below w.heap.size w w' := by
  have HA := Lib.hid h
  obtain ⟨⟨a, c, rfl, hc1, hc2, hm⟩, hsub⟩ := h
  have HM := Lib.hid hm
  have HU := Lib.hid hsub
  have HMo := Lib.hid hM
  have l0 : (ls.length : Int) ≤ 300000 := by have := hM.1; omega
  clear hsub hm hM
  obtain ⟨n, hn⟩ : ∃ n, Hid (ls.length = n) := ⟨_, Lib.hid rfl⟩
  rw [hn.out] at l0 hc1 HA ⊢
  obtain ⟨L, hL⟩ : ∃ L, Hid (ls1 ls = L) := ⟨_, Lib.hid rfl⟩
  have HLen : Hid (L.length = n) := (by rw [← hL.out, List.length_map, hn.out] : L.length = n)
  have HLk : Hid (∀ k (h : k < ls.length) (h2 : k < L.length), L[k] = ls[k].1) := fun k h h2 => by
    have e := hL.out
    subst e
    rw [List.getElem_map]
  have HSz : Hid (L.all okL = true → ∀ w', w' = w → Calls Try.prog 19 #[.slice a n c] w' fun e w'' => e = .returned (szR L) ∧ w'' = w') := fun hok w' e => by
    subst e
    have := sizeOf_any (.slice a n c) ls w' HA.out HMo.out (by rw [hL.out]; exact hok)
    rwa [hL.out] at this
  obtain ⟨R, hR⟩ : ∃ R, Hid (wrV L = R) := ⟨_, Lib.hid rfl⟩
  rw [hL.out, hR.out]
  go_enter Try.func11, Try.ntmps11
  go_wp2
  go_loop [13] (fun s13 => ∃ k : Nat, k ≤ n ∧ s13 = .int .i64 (k : Nat) ∧ Hid (∀ j (_ : j < k) (h2 : j < L.length), okL L[j] = true)) (fun s13 => n - (RowKit.intOf s13).toNat)
  case atStart => exact ⟨0, Nat.zero_le _, rfl, fun j hj _ => by omega⟩
  case round =>
    obtain ⟨k, hk, rfl, hI⟩ := hrel
    by_cases hlt : k < n
    · have hk2 : k < ls.length := by rw [hn.out]; exact hlt
      have hk3 : k < L.length := by rw [HLen.out]; exact hlt
      have hlt' : (k : Int) < (n : Int) := by omega
      have hk0 : (0 : Int) ≤ (k : Int) := by omega
      obtain ⟨g, off, rfl, hg, hcell⟩ := HM.out.resolve_left (fun e => by rw [e] at hk2; simp at hk2)
      have b1 := hcell k ls[k] (List.getElem?_eq_getElem hk2)
      obtain ⟨⟨ws, wv⟩, hp⟩ : ∃ p, Hid (ls[k] = p) := ⟨_, Lib.hid rfl⟩
      rw [hp.out] at b1
      have hmem : (ws, wv) ∈ ls := by rw [← hp.out]; exact List.getElem_mem hk2
      have hS : Sl w wv ws := HU.out _ hmem
      have HJ : Hid (L[k] = ws) := (by rw [HLk.out k hk2 hk3, hp.out] : L[k] = ws)
      obtain ⟨m, hm⟩ : ∃ m, Hid (okL ws = m) := ⟨_, Lib.hid rfl⟩
      have HY : Hid (Calls Try.prog 18 #[wv] w fun e w' => e = .returned (.bool m) ∧ w' = w) := by
        have := allMayBe_any wv ws w hS
        rwa [hm.out] at this
      obtain ⟨⟨a2, c2, rfl, hd1, hd2, hm2⟩, hlen2⟩ := hS
      clear hcell hmem hm2 hlen2 HA
      cases m
      · have HN : Hid (R = ([], 1)) := by
          show R = _
          rw [← hR.out]; exact wrV_arg hk3 (by rw [HJ.out]; exact hm.out)
        go_wp2_with (go_at_call 18; refine HY.out.mono ?_; rintro e w' ⟨rfl, rfl⟩)
        go_ret2
        rw [HN.out]; exact ⟨rfl, Below.refl _ _⟩
      · go_wp2_with (go_at_call 18; refine HY.out.mono ?_; rintro e w' ⟨rfl, rfl⟩)
        refine ⟨⟨k + 1, by omega, by go_num, fun j hj hjl => ?_⟩, ?_⟩
        · by_cases e : j = k
          · subst e; rw [HJ.out]; exact hm.out
          · exact hI.out j (by omega) hjl
        · simp [RowKit.intOf]; omega
    · obtain rfl : n = k := by omega
      have hok : L.all okL = true := by
        rw [List.all_eq_true]
        intro x hx
        obtain ⟨j, hj, rfl⟩ := List.mem_iff_getElem.1 hx
        exact hI.out j (by rw [← HLen.out]; exact hj) hj
      have HOK := Lib.hid hok
      have HZ := Lib.hid (HSz.out hok)
      clear hok HSz HA hI
      obtain ⟨f, hf⟩ : ∃ f, Hid (fits L = f) := ⟨_, Lib.hid rfl⟩
      cases f
      · rw [szR_no hf.out] at HZ
        have HN : Hid (R = ([], 3)) := by
          show R = _
          rw [← hR.out]; exact wrV_full HOK.out hf.out
        go_wp2_with (go_at_call 19; refine (HZ.out _ rfl).mono ?_; rintro e w' ⟨rfl, rfl⟩)
        go_ret2
        rw [HN.out]; exact ⟨rfl, Below.refl _ _⟩
      · rw [szR_yes hf.out] at HZ
        have HN : Hid (R = (wrT L, 0)) := by
          show R = _
          rw [← hR.out]; exact wrV_good HOK.out hf.out
        have HFl := Lib.hid (fits_len hf.out)
        obtain ⟨z, hz⟩ : ∃ z, Hid ((wrT L).length = z) := ⟨_, Lib.hid rfl⟩
        rw [hz.out] at HZ HFl
        have hzl : (z : Int) ≤ 16777216 := by have := HFl.out; omega
        go_wp2_with (first
          | (go_at_call 19; refine (HZ.out _ rfl).mono ?_; rintro e w' ⟨rfl, rfl⟩)
          | (go_at_call 20; refine (Try.Builder_Grow_fresh w'.heap.size w'.heap.size z _ (Nat.le_refl _) (World.alloc_heap_new _ _) (by simp) (by have := HFl.out; omega)).mono ?_; rintro e W1 ⟨rfl, hB1, hb1⟩; have HB1 := Lib.hid (And.intro (Or.inr hB1 : Lib.IsBuilder 55 5 w'.heap.size w'.heap.size (byteCells (wrT (L.take 0))) W1) (((Below.refl _ w').alloc (Nat.le_refl _) _).trans hb1)); clear hB1 hb1))
        go_loopw [32] (fun s32 wr => ∃ k : Nat, k ≤ n ∧ s32 = .int .i64 (k : Nat) ∧ Hid (Lib.IsBuilder 55 5 w'.heap.size w'.heap.size (byteCells (wrT (L.take k))) wr ∧ Below w'.heap.size w' wr)) (fun s32 _ => n - (RowKit.intOf s32).toNat)
        case atStart => exact ⟨0, Nat.zero_le _, rfl, HB1⟩
        case round =>
          obtain ⟨k, hk, rfl, hI⟩ := hrel
          by_cases hlt : k < n
          · have hk2 : k < ls.length := by rw [hn.out]; exact hlt
            have hk3 : k < L.length := by rw [HLen.out]; exact hlt
            have hlt' : (k : Int) < (n : Int) := by omega
            have hk0 : (0 : Int) ≤ (k : Int) := by omega
            obtain ⟨g, off, rfl, hg, hcell⟩ := HM.out.resolve_left (fun e => by rw [e] at hk2; simp at hk2)
            have b1 := cell_later hI.out.2 hg (hcell k ls[k] (List.getElem?_eq_getElem hk2))
            obtain ⟨⟨ws, wv⟩, hp⟩ : ∃ p, Hid (ls[k] = p) := ⟨_, Lib.hid rfl⟩
            rw [hp.out] at b1
            have hmem : (ws, wv) ∈ ls := by rw [← hp.out]; exact List.getElem_mem hk2
            have hS : Sl wr wv ws := (HU.out _ hmem).later hI.out.2
            have HJ : Hid (L[k] = ws) := (by rw [HLk.out k hk2 hk3, hp.out] : L[k] = ws)
            have hwn : ws ≠ [] := by
              have := HOK.out
              rw [List.all_eq_true] at this
              have := this _ (List.getElem_mem hk3)
              rw [HJ.out] at this
              exact (ok_may this).1
            have hwl : ws.length ≤ 300000 := HMo.out.2 _ hmem
            have HT : Hid (wrT (L.take (k + 1)) = wrT (L.take k) ++ (jn ws ++ [10])) := by
              show _ = _
              rw [wrT_take hk3, HJ.out]
            have HLl : Hid ((wrT (L.take k)).length + ((jn ws).length + 1) ≤ 16777216) := by
              show _ ≤ _
              have h1 := wrT_take_le L (k + 1)
              rw [HT.out, List.length_append, List.length_append] at h1
              have h2 := HFl.out
              rw [hz.out] at h1
              have : ([10] : Bs).length = 1 := rfl
              omega
            obtain ⟨⟨a2, c2, rfl, hd1, hd2, hm2⟩, hlen2⟩ := hS
            obtain ⟨g2, off2, rfl, hg2, hcell2⟩ := hm2.resolve_left hwn
            obtain ⟨q, hq⟩ : ∃ q : ByteArray, (⟨(jn ws).toArray⟩ : ByteArray) = q := ⟨_, rfl⟩
            have HJn : Hid (Calls Try.prog 22 #[.slice (some ⟨g2, off2, none⟩) ws.length c2, .string ⟨#[32]⟩] wr fun e w' => e = .returned (.string q) ∧ Below wr.heap.size wr w') := by
              have := join_texts (W := wr) hcell2 hg2 hwl hd1 (by have := HLl.out; omega)
              unfold sv at this
              rwa [hq] at this
            have HQ : Hid (q.size = (jn ws).length ∧ strCells q = byteCells (jn ws)) := ⟨by rw [← hq]; exact sv_size _, by rw [← hq]; rfl⟩
            have hwl' : (ws.length : Int) ≤ 300000 := by omega
            clear hcell hmem hlen2 hcell2 hm2 hq
            go_wp2_with (first
              | (go_at_call 22; refine HJn.out.mono ?_; rintro e W2 ⟨rfl, hb2⟩; have HB2 := Lib.hid hb2; clear hb2)
              | (go_at_call 21; refine (Try.Builder_WriteString w'.heap.size w'.heap.size (byteCells (wrT (L.take k))) q W2 (builder_later hI.out.1 HB2.out) (by rw [byteCells_length, HQ.out.1]; have := HLl.out; omega) (Nat.le_trans hI.out.2.size HB2.out.size)).mono ?_; rintro e W3 ⟨rfl, hB3, hb3⟩; have HB3 := Lib.hid (And.intro hB3 ((hI.out.2.trans (HB2.out.mono hI.out.2.size)).trans hb3)); clear hB3 hb3)
              | (go_at_call 23; refine (Try.Builder_WriteByte w'.heap.size w'.heap.size (byteCells (wrT (L.take k)) ++ strCells q) 10 W3 (Or.inr HB3.out.1) (by rw [List.length_append, byteCells_length, strCells_length, HQ.out.1]; have := HLl.out; omega) HB3.out.2.size).mono ?_; rintro e W4 ⟨rfl, hB4, hb4⟩; have HB4 := Lib.hid (And.intro hB4 (HB3.out.2.trans hb4)); clear hB4 hb4))
            refine ⟨⟨k + 1, by omega, by go_num, ?_, HB4.out.2⟩, ?_⟩
            · rw [HT.out, byteCells_append, byteCells_append, ← HQ.out.2, ← List.append_assoc]
              exact Or.inr HB4.out.1
            · simp [RowKit.intOf]; omega
          · obtain rfl : n = k := by omega
            have HTk : Hid (L.take n = L) := List.take_of_length_le (by rw [HLen.out]; exact Nat.le_refl _)
            rw [HTk.out] at hI
            obtain ⟨q, hq⟩ : ∃ q : ByteArray, (⟨(wrT L).toArray⟩ : ByteArray) = q := ⟨_, rfl⟩
            have HSt : Hid (Calls Try.prog 24 #[.pointer (some ⟨w'.heap.size, 0, none⟩)] wr fun e w'' => e = .returned (.string q) ∧ Below w'.heap.size wr w'') := by
              have := Try.Builder_String_any w'.heap.size w'.heap.size (wrT L) wr hI.out.1 hI.out.2.size
              rwa [hq] at this
            have HQ := Lib.hid hq
            clear hq
            go_wp2_with (go_at_call 24; refine HSt.out.mono ?_; rintro e W5 ⟨rfl, hb5⟩)
            go_ret2
            rw [HN.out]
            show Ending.returned (.tuple #[.string q, .int .i64 0]) = .returned (.tuple #[.string ⟨(wrT L).toArray⟩, .int .i64 0]) ∧ _
            rw [HQ.out]
            exact ⟨rfl, hI.out.2.trans hb5⟩
end Go.Proofs.Ytpjdffjfhnlbjaa
