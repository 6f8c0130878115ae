/- Own texts, put together: Bj Bk Br Bl Bm Bn Bo Bq Bpw Bt. -/
import Derived.Test.YtgoadpnoagaflaaGreatDoorQ32
import Derived.Deep.Draws
import Derived.Deep.QuietTactic
import Derived.BigQuiet
import Derived.ProofKit
import Derived.OpenShut
import Derived.Laws.Cover2
import Derived.ChangeOld
import Derived.ChangeMaps5
import Derived.Below
import Derived.Carry
import Derived.Deep.Strs
import Derived.Deep.Slices
import Derived.SizedLaws
import Derived.Deep.DeepCutAuto
namespace Go.Proofs.YtgoadpnoagaflaaGreatDoor
/- Package lines: Write. -/
section
set_option maxRecDepth 100000
open Go.RowKit Go.Shelf Go.Lib
theorem wrV_arg {L : List (List Bs)} {k : Nat} (h : k < L.length) (ho : okL L[k] = false) : wrV L = ([], 1) := by
 unfold wrV
 rw [if_neg]
 rw [List.all_eq_true]
 intro h2
 have := h2 _ (List.getElem_mem h)
 rw [ho] at this; cases this
theorem wrV_full {L : List (List Bs)} (h : L.all okL = true) (hf : fits L = false) : wrV L = ([], 3) := by
 unfold wrV; rw [if_pos h, hf]; rfl
theorem wrV_good {L : List (List Bs)} (h : L.all okL = true) (hf : fits L = true) : wrV L = (wrT L, 0) := by
 unfold wrV; rw [if_pos h, if_pos hf]
theorem fits_len {L : List (List Bs)} (h : fits L = true) : (wrT L).length ≤ 16777216 := by
 unfold fits at h; rw [Bool.and_eq_true] at h; simpa using h.2
theorem join_texts {ws : List Bs} {g off c : Nat} {W : World} (hc : ∀ k x, ws[k]? = some x → W.cell? ⟨g, off + k, none⟩ = some (sv x)) (hg : g < W.heap.size) (hn : ws.length ≤ 300000) (hcap : ws.length ≤ c) (hl : (jn ws).length ≤ 1000000000) :
   Calls Tryz.prog 31 #[.slice (some ⟨g, off, none⟩) ws.length c, .string ⟨#[32]⟩] W fun e w' => e = .returned (sv (jn ws)) ∧ Below W.heap.size W w' := by
 have e1 : (ws.map fun x => (⟨x.toArray⟩ : ByteArray)).length = ws.length := List.length_map _
 have e2 : (ws.map fun x => (⟨x.toArray⟩ : ByteArray)).map (·.data.toList) = ws := by
   rw [List.map_map]
   conv => rhs; rw [← List.map_id ws]
   exact List.map_congr_left fun x _ => rfl
 have e3 : (⟨#[32]⟩ : ByteArray).data.toList = [32] := rfl
 have h := Tryz.strings_Join g off c (ws.map fun x => (⟨x.toArray⟩ : ByteArray)) ⟨#[32]⟩ W (fun j x hj => by
   rw [List.getElem?_map] at hj
   cases hw : ws[j]? with
   | none => rw [hw] at hj; cases hj
   | some y =>
     rw [hw] at hj
     obtain rfl : (⟨y.toArray⟩ : ByteArray) = x := by simpa using hj
     exact hc j y hw) hg (by rw [e1]; omega) (by rw [e1]; exact hcap) (by rw [e2, e3]; exact Nat.le_trans hl (by omega))
 rw [e1, e2, e3] at h
 exact h
theorem builder_later {T e B b : Nat} {bs : List Value} {w w' : World} (h : Lib.IsBuilder T e B b bs w) (hb : Below w.heap.size w w') : Lib.IsBuilder T e B b bs w' := by
 have key : ∀ p, Lib.BuilderAt T e B b p bs w → Lib.BuilderAt T e B b p bs w' := by
   rintro p ⟨h1, v, h2, h3, h4⟩
   exact ⟨h1, v, (hb.block b (Array.getElem?_eq_some_iff.1 h2).1).trans h2, own_later h3 hb, h4⟩
 rcases h with h | h
 · exact Or.inl (key _ h)
 · exact Or.inr (key _ h)
set_option maxRecDepth 100000 in
set_option maxHeartbeats 8000000 in
theorem write_any (v : Value) (ls : List Lv) (w : World) (h : Ll w v ls) (hM : Mod ls) : Calls Tryz.prog 14 #[v] w fun e w' => e = .returned (.tuple #[sv (wrV (ls1 ls)).1, .int .i64 ((wrV (ls1 ls)).2 : Nat)]) ∧ Below w.heap.size w w' := by
 have HA := Lib.hid h
 obtain ⟨⟨a, c, rfl, hc1, hc2, hm⟩, hsub⟩ := h
 have HM := Lib.hid hm
 have HU := Lib.hid hsub
 have HMo := Lib.hid hM
 have l0 : (ls.length : Int) ≤ 300000 := by have := hM.1; omega
 clear hsub hm hM
 obtain ⟨n, hn⟩ : ∃ n, Hid (ls.length = n) := ⟨_, Lib.hid rfl⟩
 rw [hn.out] at l0 hc1 HA ⊢
 obtain ⟨L, hL⟩ : ∃ L, Hid (ls1 ls = L) := ⟨_, Lib.hid rfl⟩
 have HLen : Hid (L.length = n) := (by rw [← hL.out, List.length_map, hn.out] : L.length = n)
 have HLk : Hid (∀ k (h : k < ls.length) (h2 : k < L.length), L[k] = ls[k].1) := fun k h h2 => by
   have e := hL.out
   subst e
   rw [List.getElem_map]
 have HSz : Hid (L.all okL = true → ∀ w', w' = w → Calls Tryz.prog 28 #[.slice a n c] w' fun e w'' => e = .returned (szR L) ∧ w'' = w') := fun hok w' e => by
   subst e
   have := sizeOf_any (.slice a n c) ls w' HA.out HMo.out (by rw [hL.out]; exact hok)
   rwa [hL.out] at this
 obtain ⟨R, hR⟩ : ∃ R, Hid (wrV L = R) := ⟨_, Lib.hid rfl⟩
 rw [hL.out, hR.out]
 go_enter Tryz.func14, Tryz.ntmps14
 go_wp2
 go_loop [13] (fun s13 => ∃ k : Nat, k ≤ n ∧ s13 = .int .i64 (k : Nat) ∧ Hid (∀ j (_ : j < k) (h2 : j < L.length), okL L[j] = true)) (fun s13 => n - (RowKit.intOf s13).toNat)
 case atStart => exact ⟨0, Nat.zero_le _, rfl, fun j hj _ => by omega⟩
 case round =>
   obtain ⟨k, hk, rfl, hI⟩ := hrel
   by_cases hlt : k < n
   · have hk2 : k < ls.length := by rw [hn.out]; exact hlt
     have hk3 : k < L.length := by rw [HLen.out]; exact hlt
     have hlt' : (k : Int) < (n : Int) := by omega
     have hk0 : (0 : Int) ≤ (k : Int) := by omega
     obtain ⟨g, off, rfl, hg, hcell⟩ := HM.out.resolve_left (fun e => by rw [e] at hk2; simp at hk2)
     have b1 := hcell k ls[k] (List.getElem?_eq_getElem hk2)
     obtain ⟨⟨ws, wv⟩, hp⟩ : ∃ p, Hid (ls[k] = p) := ⟨_, Lib.hid rfl⟩
     rw [hp.out] at b1
     have hmem : (ws, wv) ∈ ls := by rw [← hp.out]; exact List.getElem_mem hk2
     have hS : Sl w wv ws := HU.out _ hmem
     have HJ : Hid (L[k] = ws) := (by rw [HLk.out k hk2 hk3, hp.out] : L[k] = ws)
     obtain ⟨m, hm⟩ : ∃ m, Hid (okL ws = m) := ⟨_, Lib.hid rfl⟩
     have HY : Hid (Calls Tryz.prog 27 #[wv] w fun e w' => e = .returned (.bool m) ∧ w' = w) := by
       have := allMayBe_any wv ws w hS
       rwa [hm.out] at this
     obtain ⟨⟨a2, c2, rfl, hd1, hd2, hm2⟩, hlen2⟩ := hS
     clear hcell hmem hm2 hlen2 HA
     cases m
     · have HN : Hid (R = ([], 1)) := by
         show R = _
         rw [← hR.out]; exact wrV_arg hk3 (by rw [HJ.out]; exact hm.out)
       go_wp2_with (go_at_call 27; refine HY.out.mono ?_; rintro e w' ⟨rfl, rfl⟩)
       go_ret2
       rw [HN.out]; exact ⟨rfl, Below.refl _ _⟩
     · go_wp2_with (go_at_call 27; refine HY.out.mono ?_; rintro e w' ⟨rfl, rfl⟩)
       refine ⟨⟨k + 1, by omega, by go_num, fun j hj hjl => ?_⟩, ?_⟩
       · by_cases e : j = k
         · subst e; rw [HJ.out]; exact hm.out
         · exact hI.out j (by omega) hjl
       · simp [RowKit.intOf]; omega
   · obtain rfl : n = k := by omega
     have hok : L.all okL = true := by
       rw [List.all_eq_true]
       intro x hx
       obtain ⟨j, hj, rfl⟩ := List.mem_iff_getElem.1 hx
       exact hI.out j (by rw [← HLen.out]; exact hj) hj
     have HOK := Lib.hid hok
     have HZ := Lib.hid (HSz.out hok)
     clear hok HSz HA hI
     obtain ⟨f, hf⟩ : ∃ f, Hid (fits L = f) := ⟨_, Lib.hid rfl⟩
     cases f
     · rw [szR_no hf.out] at HZ
       have HN : Hid (R = ([], 3)) := by
         show R = _
         rw [← hR.out]; exact wrV_full HOK.out hf.out
       go_wp2_with (go_at_call 28; refine (HZ.out _ rfl).mono ?_; rintro e w' ⟨rfl, rfl⟩)
       go_ret2
       rw [HN.out]; exact ⟨rfl, Below.refl _ _⟩
     · rw [szR_yes hf.out] at HZ
       have HN : Hid (R = (wrT L, 0)) := by
         show R = _
         rw [← hR.out]; exact wrV_good HOK.out hf.out
       have HFl := Lib.hid (fits_len hf.out)
       obtain ⟨z, hz⟩ : ∃ z, Hid ((wrT L).length = z) := ⟨_, Lib.hid rfl⟩
       rw [hz.out] at HZ HFl
       have hzl : (z : Int) ≤ 16777216 := by have := HFl.out; omega
       go_wp2_with (first
         | (go_at_call 28; refine (HZ.out _ rfl).mono ?_; rintro e w' ⟨rfl, rfl⟩)
         | (go_at_call 29; refine (Tryz.Builder_Grow_fresh w'.heap.size w'.heap.size z _ (Nat.le_refl _) (World.alloc_heap_new _ _) (by simp) (by have := HFl.out; omega)).mono ?_; rintro e W1 ⟨rfl, hB1, hb1⟩; have HB1 := Lib.hid (And.intro (Or.inr hB1 : Lib.IsBuilder 72 5 w'.heap.size w'.heap.size (Lib.byteCells (wrT (L.take 0))) W1) (((Below.refl _ w').alloc (Nat.le_refl _) _).trans hb1)); clear hB1 hb1))
       go_loopw [32] (fun s32 wr => ∃ k : Nat, k ≤ n ∧ s32 = .int .i64 (k : Nat) ∧ Hid (Lib.IsBuilder 72 5 w'.heap.size w'.heap.size (Lib.byteCells (wrT (L.take k))) wr ∧ Below w'.heap.size w' wr)) (fun s32 _ => n - (RowKit.intOf s32).toNat)
       case atStart => exact ⟨0, Nat.zero_le _, rfl, HB1⟩
       case round =>
         obtain ⟨k, hk, rfl, hI⟩ := hrel
         by_cases hlt : k < n
         · have hk2 : k < ls.length := by rw [hn.out]; exact hlt
           have hk3 : k < L.length := by rw [HLen.out]; exact hlt
           have hlt' : (k : Int) < (n : Int) := by omega
           have hk0 : (0 : Int) ≤ (k : Int) := by omega
           obtain ⟨g, off, rfl, hg, hcell⟩ := HM.out.resolve_left (fun e => by rw [e] at hk2; simp at hk2)
           have b1 := cell_later hI.out.2 hg (hcell k ls[k] (List.getElem?_eq_getElem hk2))
           obtain ⟨⟨ws, wv⟩, hp⟩ : ∃ p, Hid (ls[k] = p) := ⟨_, Lib.hid rfl⟩
           rw [hp.out] at b1
           have hmem : (ws, wv) ∈ ls := by rw [← hp.out]; exact List.getElem_mem hk2
           have hS : Sl wr wv ws := (HU.out _ hmem).later hI.out.2
           have HJ : Hid (L[k] = ws) := (by rw [HLk.out k hk2 hk3, hp.out] : L[k] = ws)
           have hwn : ws ≠ [] := by
             have := HOK.out
             rw [List.all_eq_true] at this
             have := this _ (List.getElem_mem hk3)
             rw [HJ.out] at this
             exact (ok_may this).1
           have hwl : ws.length ≤ 300000 := HMo.out.2 _ hmem
           have HT : Hid (wrT (L.take (k + 1)) = wrT (L.take k) ++ (jn ws ++ [10])) := by
             show _ = _
             rw [wrT_take hk3, HJ.out]
           have HLl : Hid ((wrT (L.take k)).length + ((jn ws).length + 1) ≤ 16777216) := by
             show _ ≤ _
             have h1 := wrT_take_le L (k + 1)
             rw [HT.out, List.length_append, List.length_append] at h1
             have h2 := HFl.out
             rw [hz.out] at h1
             have : ([10] : Bs).length = 1 := rfl
             omega
           obtain ⟨⟨a2, c2, rfl, hd1, hd2, hm2⟩, hlen2⟩ := hS
           obtain ⟨g2, off2, rfl, hg2, hcell2⟩ := hm2.resolve_left hwn
           obtain ⟨q, hq⟩ : ∃ q : ByteArray, (⟨(jn ws).toArray⟩ : ByteArray) = q := ⟨_, rfl⟩
           have HJn : Hid (Calls Tryz.prog 31 #[.slice (some ⟨g2, off2, none⟩) ws.length c2, .string ⟨#[32]⟩] wr fun e w' => e = .returned (.string q) ∧ Below wr.heap.size wr w') := by
             have := join_texts (W := wr) hcell2 hg2 hwl hd1 (by have := HLl.out; omega)
             unfold sv at this
             rwa [hq] at this
           have HQ : Hid (q.size = (jn ws).length ∧ strCells q = Lib.byteCells (jn ws)) := ⟨by rw [← hq]; exact sv_size _, by rw [← hq]; rfl⟩
           have hwl' : (ws.length : Int) ≤ 300000 := by omega
           clear hcell hmem hlen2 hcell2 hm2 hq
           go_wp2_with (first
             | (go_at_call 31; refine HJn.out.mono ?_; rintro e W2 ⟨rfl, hb2⟩; have HB2 := Lib.hid hb2; clear hb2)
             | (go_at_call 30; refine (Tryz.Builder_WriteString w'.heap.size w'.heap.size (Lib.byteCells (wrT (L.take k))) q W2 (builder_later hI.out.1 HB2.out) (by rw [Lib.byteCells_length, HQ.out.1]; have := HLl.out; omega) (Nat.le_trans hI.out.2.size HB2.out.size)).mono ?_; rintro e W3 ⟨rfl, hB3, hb3⟩; have HB3 := Lib.hid (And.intro hB3 ((hI.out.2.trans (HB2.out.mono hI.out.2.size)).trans hb3)); clear hB3 hb3)
             | (go_at_call 32; refine (Tryz.Builder_WriteByte w'.heap.size w'.heap.size (Lib.byteCells (wrT (L.take k)) ++ strCells q) 10 W3 (Or.inr HB3.out.1) (by rw [List.length_append, Lib.byteCells_length, strCells_length, HQ.out.1]; have := HLl.out; omega) HB3.out.2.size).mono ?_; rintro e W4 ⟨rfl, hB4, hb4⟩; have HB4 := Lib.hid (And.intro hB4 (HB3.out.2.trans hb4)); clear hB4 hb4))
           refine ⟨⟨k + 1, by omega, by go_num, ?_, HB4.out.2⟩, ?_⟩
           · rw [HT.out, byteCells_append, byteCells_append, ← HQ.out.2, ← List.append_assoc]
             exact Or.inr HB4.out.1
           · simp [RowKit.intOf]; omega
         · obtain rfl : n = k := by omega
           have HTk : Hid (L.take n = L) := List.take_of_length_le (by rw [HLen.out]; exact Nat.le_refl _)
           rw [HTk.out] at hI
           obtain ⟨q, hq⟩ : ∃ q : ByteArray, (⟨(wrT L).toArray⟩ : ByteArray) = q := ⟨_, rfl⟩
           have HSt : Hid (Calls Tryz.prog 33 #[.pointer (some ⟨w'.heap.size, 0, none⟩)] wr fun e w'' => e = .returned (.string q) ∧ Below w'.heap.size wr w'') := by
             have := Tryz.Builder_String_any w'.heap.size w'.heap.size (wrT L) wr hI.out.1 hI.out.2.size
             rwa [hq] at this
           have HQ := Lib.hid hq
           clear hq
           go_wp2_with (go_at_call 33; refine HSt.out.mono ?_; rintro e W5 ⟨rfl, hb5⟩)
           go_ret2
           rw [HN.out]
           show Ending.returned (.tuple #[.string q, .int .i64 0]) = .returned (.tuple #[.string ⟨(wrT L).toArray⟩, .int .i64 0]) ∧ _
           rw [HQ.out]
           exact ⟨rfl, hI.out.2.trans hb5⟩
end

/- The document's side of layer 9: words. -/
section
set_option maxRecDepth 100000
open Go.RowKit Go.Shelf Go.Lib
theorem ahd_app {a r : Bs} (h : ∀ x ∈ a, x ≠ 35) : ahd (a ++ r) = a ++ ahd r := by
 unfold ahd cutT
 induction a with
 | nil => rfl
 | cons x a ih =>
   rw [List.cons_append, List.takeWhile_cons_of_pos (p := fun y => y != 35) (by simpa using h x (by simp)), ih (fun y hy => h y (by simp [hy])), List.cons_append]
theorem ahd_stop (r : Bs) : ahd (35 :: r) = [] := by simp [ahd, cutT]
theorem ahd_cons {c : UInt8} {r : Bs} (h : c ≠ 35) : ahd (c :: r) = c :: ahd r := ahd_app (a := [c]) (fun x hx => by rw [List.mem_singleton.1 hx]; exact h)
theorem tok_mem {c : UInt8} (hc : bl c = false) : ∀ {l : Bs}, c ∈ l → ∃ t ∈ toks l, c ∈ t := by
 have key : ∀ {l : Bs}, c ∈ l → ∃ t ∈ spl bl l, c ∈ t := by
   intro l
   induction l with
   | nil => intro h; simp at h
   | cons a r ih =>
     intro h
     rw [spl]
     by_cases hp : bl a = true
     · rw [if_pos hp]
       rcases List.mem_cons.1 h with e | e
       · rw [e, hp] at hc; cases hc
       · obtain ⟨t, h1, h2⟩ := ih e
         exact ⟨t, by simp [h1], h2⟩
     · rw [if_neg hp]
       split
       · rename_i e; exact absurd e (spl_ne _ _)
       · rename_i x y e
         rcases List.mem_cons.1 h with e2 | e2
         · exact ⟨a :: x, by simp, by simp [e2]⟩
         · obtain ⟨t, h1, h2⟩ := ih e2
           rw [e] at h1
           rcases List.mem_cons.1 h1 with e3 | e3
           · exact ⟨a :: x, by simp, by rw [e3] at h2; simp [h2]⟩
           · exact ⟨t, by simp [e3], h2⟩
 intro l h
 obtain ⟨t, h1, h2⟩ := key h
 refine ⟨t, ?_, h2⟩
 unfold toks
 rw [List.mem_filter]
 refine ⟨h1, ?_⟩
 cases t with
 | nil => simp at h2
 | cons a r => rfl
theorem gd_ne {c : UInt8} (h : gd c = true) : c ≠ 35 ∧ bl c = false := by
 unfold gd at h
 simp at h
 refine ⟨fun e => ?_, ?_⟩
 · rw [e] at h; exact absurd h.2 (by decide)
 · unfold bl; simp; omega
structure WInv (l : Bs) (st k : Nat) (ts : List Bs) : Prop where
 all : ts ++ toks (ahd (l.drop st)) = lineW l
 may : ∀ x ∈ ts, mayW x = true
 gds : ∀ c ∈ (l.drop st).take (k - st), gd c = true
 le : st ≤ k
abbrev cw (l : Bs) (st k : Nat) : Bs := (l.drop st).take (k - st)
theorem cw_drop {l : Bs} {st k : Nat} (h : st ≤ k) : l.drop st = cw l st k ++ l.drop k := by
 have := (List.take_append_drop (k - st) (l.drop st)).symm
 rw [List.drop_drop, show st + (k - st) = k by omega] at this
 exact this
theorem WInv.ahd {l : Bs} {st k : Nat} {ts : List Bs} (h : WInv l st k ts) : Go.Proofs.YtgoadpnoagaflaaGreatDoor.ahd (l.drop st) = cw l st k ++ Go.Proofs.YtgoadpnoagaflaaGreatDoor.ahd (l.drop k) := by
 rw [cw_drop (l := l) h.le, ahd_app (fun x hx => (gd_ne (h.gds x hx)).1)]
theorem mayW_gds {x : Bs} (h : ∀ c ∈ x, gd c = true) (h0 : x ≠ []) (hl : x.length ≤ 400) : mayW x = true := mayW_yes h0 hl (fun _ hj => h _ (List.getElem_mem hj))
theorem WInv.more {l : Bs} {st k : Nat} {ts : List Bs} {r : List Bs} (h : WInv l st k ts) (he : toks (Go.Proofs.YtgoadpnoagaflaaGreatDoor.ahd (l.drop st)) = one (cw l st k) ++ r) (hl : (cw l st k).length ≤ 400) : (ts ++ one (cw l st k)) ++ r = lineW l ∧ ∀ x ∈ ts ++ one (cw l st k), mayW x = true := by
 refine ⟨by rw [← h.all, he, List.append_assoc], fun x hx => ?_⟩
 rcases List.mem_append.1 hx with e | e
 · exact h.may x e
 · by_cases h0 : cw l st k = []
   · rw [h0] at e; simp [one] at e
   · rw [one_ne h0, List.mem_singleton] at e
     rw [e]; exact mayW_gds h.gds h0 hl
theorem WInv.fin {l : Bs} {st k : Nat} {ts : List Bs} (h : WInv l st k ts) (hk : k ≤ l.length) (he : ∀ hk : k < l.length, l[k] = 35) : toks (Go.Proofs.YtgoadpnoagaflaaGreatDoor.ahd (l.drop st)) = one (cw l st k) ++ [] := by
 have e : Go.Proofs.YtgoadpnoagaflaaGreatDoor.ahd (l.drop k) = [] := by
   by_cases hlt : k < l.length
   · rw [List.drop_eq_getElem_cons hlt, he hlt, ahd_stop]
   · rw [List.drop_of_length_le (by omega)]; rfl
 rw [h.ahd, e, List.append_nil, List.append_nil, toks_none (fun c hc => (gd_ne (h.gds c hc)).2)]
theorem WInv.blank {l : Bs} {st k : Nat} {ts : List Bs} (h : WInv l st k ts) (hk : k < l.length) (hb : bl l[k] = true) : toks (Go.Proofs.YtgoadpnoagaflaaGreatDoor.ahd (l.drop st)) = one (cw l st k) ++ toks (Go.Proofs.YtgoadpnoagaflaaGreatDoor.ahd (l.drop (k + 1))) := by
 have hne : l[k] ≠ 35 := fun e => by rw [e] at hb; cases hb
 rw [h.ahd, List.drop_eq_getElem_cons hk, ahd_cons hne, toks_app (fun c hc => (gd_ne (h.gds c hc)).2) hb]
theorem WInv.next {l : Bs} {st k : Nat} {ts : List Bs} (h : WInv l st k ts) (hk : k < l.length) (hb : bl l[k] = true) (hl : (cw l st k).length ≤ 400) : WInv l (k + 1) (k + 1) (ts ++ one (cw l st k)) := by
 have := h.more (h.blank hk hb) hl
 exact ⟨this.1, this.2, fun c hc => by simp at hc, Nat.le_refl _⟩
theorem WInv.bad {l : Bs} {st k : Nat} {ts : List Bs} (h : WInv l st k ts) (hk : k < l.length) (hne : l[k] ≠ 35) (hb : bl l[k] = false) (hg : gd l[k] = false) : (lineW l).all mayW = false := by
 have hm : l[k] ∈ Go.Proofs.YtgoadpnoagaflaaGreatDoor.ahd (l.drop st) := by
   rw [h.ahd, List.drop_eq_getElem_cons hk, ahd_cons hne]; simp
 obtain ⟨t, h1, h2⟩ := tok_mem hb hm
 rw [List.all_eq_false]
 refine ⟨t, by rw [← h.all]; simp [h1], ?_⟩
 obtain ⟨j, hj, e⟩ := List.mem_iff_getElem.1 h2
 rw [mayW_no hj (by rw [e]; exact hg)]; simp
theorem WInv.good {l : Bs} {st k : Nat} {ts : List Bs} (h : WInv l st k ts) (hk : k < l.length) (hg : gd l[k] = true) : WInv l st (k + 1) ts := by
 refine ⟨h.all, h.may, fun c hc => ?_, by have := h.le; omega⟩
 have := h.le
 rw [show k + 1 - st = (k - st) + 1 by omega, List.take_add_one] at hc
 rcases List.mem_append.1 hc with e | e
 · exact h.gds c e
 · rw [List.getElem?_drop, show st + (k - st) = k by omega, List.getElem?_eq_getElem hk] at e
   obtain rfl : c = l[k] := by simpa using e
   exact hg
def WdR (w w' : World) (l : Bs) (e : Ending) : Prop := (∃ v, e = .returned (.tuple #[v, .bool ((lineW l).all mayW)]) ∧ ((lineW l).all mayW = true → Sr w' w.heap.size v (lineW l)) ∧ ((lineW l).all mayW = false → v = .slice none 0 0)) ∧ Below w.heap.size w w'
theorem WdR.no {w w' : World} {l : Bs} (h : (lineW l).all mayW = false) (hb : Below w.heap.size w w') : WdR w w' l (.returned (.tuple #[.slice none 0 0, .bool false])) := by
 refine ⟨⟨_, by rw [h], fun e => ?_, fun _ => rfl⟩, hb⟩
 rw [h] at e; cases e
end

/- What is written is read: plain facts. -/
section
set_option maxRecDepth 100000
open Go.RowKit Go.Shelf Go.Lib
theorem jn_cons2 (x y : Bs) (r : List Bs) : jn (x :: y :: r) = x ++ 32 :: jn (y :: r) := by
 unfold jn
 rw [join_cons, join_cons]
 simp [joinTail]
theorem jn_one (x : Bs) : jn [x] = x := join_one x [32]
theorem may_gd {x : Bs} (h : mayW x = true) : x ≠ [] ∧ ∀ c ∈ x, gd c = true := by
 unfold mayW at h
 rw [Bool.and_eq_true, Bool.and_eq_true, List.all_eq_true] at h
 exact ⟨by simpa using h.1.1, h.2⟩
theorem jn_chars : ∀ {ws : List Bs}, (∀ x ∈ ws, mayW x = true) → ∀ c ∈ jn ws, gd c = true ∨ c = 32 := by
 intro ws
 induction ws with
 | nil => intro _ c hc; simp [jn, join_nil] at hc
 | cons x r ih =>
   intro h c hc
   cases r with
   | nil => rw [jn_one] at hc; exact Or.inl ((may_gd (h x (by simp))).2 c hc)
   | cons y r =>
     rw [jn_cons2] at hc
     rcases List.mem_append.1 hc with e | e
     · exact Or.inl ((may_gd (h x (by simp))).2 c e)
     · rcases List.mem_cons.1 e with e | e
       · exact Or.inr e
       · exact ih (fun z hz => h z (by simp [hz])) c e
theorem gd_ne10 {c : UInt8} (h : gd c = true ∨ c = 32) : c ≠ 10 ∧ c ≠ 35 := by
 rcases h with h | rfl
 · refine ⟨fun e => ?_, (gd_ne h).1⟩
   rw [e] at h; exact absurd h (by decide)
 · decide
theorem toks_jn : ∀ {ws : List Bs}, (∀ x ∈ ws, mayW x = true) → toks (jn ws) = ws := by
 intro ws
 induction ws with
 | nil => intro _; rfl
 | cons x r ih =>
   intro h
   have hx := may_gd (h x (by simp))
   have hb : ∀ c ∈ x, bl c = false := fun c hc => (gd_ne (hx.2 c hc)).2
   cases r with
   | nil => rw [jn_one, toks_none hb, one_ne hx.1]
   | cons y r =>
     rw [jn_cons2, toks_app hb (by decide), one_ne hx.1, ih (fun z hz => h z (by simp [hz]))]
     rfl
theorem lineW_jn {ws : List Bs} (h : ∀ x ∈ ws, mayW x = true) : lineW (jn ws) = ws := by
 unfold lineW ahd
 rw [(cut_none (fun hc => (gd_ne10 (jn_chars h _ hc)).2 rfl)).1, toks_jn h]
theorem lineE_jn {ws : List Bs} (h : ∀ x ∈ ws, mayW x = true) (hl : (jn ws).length ≤ 65536) : lineE (jn ws) = 0 := by
 rw [lineE_zero, lineW_jn h]
 exact ⟨hl, List.all_eq_true.2 h⟩
theorem lns_wrT : ∀ {L : List (List Bs)}, (∀ ws ∈ L, okL ws = true) → lns (wrT L) = L.map jn ++ [[]] := by
 intro L
 induction L with
 | nil => intro _; rfl
 | cons ws r ih =>
   intro h
   have e : wrT (ws :: r) = jn ws ++ 10 :: wrT r := by simp [wrT]
   rw [e, lns_app (fun c hc => (gd_ne10 (jn_chars (ok_may (h ws (by simp))).2 c hc)).1), ih (fun z hz => h z (by simp [hz]))]
   rfl
def nums : Nat → List (List Bs) → List (Nat × List Bs)
 | _, [] => []
 | n, ws :: r => (n, ws) :: nums (n + 1) r
theorem nums_len : ∀ (L : List (List Bs)) (n : Nat), (nums n L).length = L.length := by
 intro L
 induction L with
 | nil => intro n; rfl
 | cons a r ih => intro n; simp [nums, ih]
theorem empty_line : lineE [] = 0 ∧ lineW [] = [] := by decide
theorem rd_wrT_aux : ∀ {L : List (List Bs)} (n : Nat), (∀ ws ∈ L, okL ws = true ∧ (jn ws).length ≤ 65536) → bad n (L.map jn ++ [[]]) = none ∧ good n (L.map jn ++ [[]]) = nums n L := by
 intro L
 induction L with
 | nil => intro n _; exact ⟨by simp [bad, empty_line], by simp [good, empty_line, nums]⟩
 | cons ws r ih =>
   intro n h
   have hw := h ws (by simp)
   have hm := ok_may hw.1
   have := ih (n + 1) (fun z hz => h z (by simp [hz]))
   refine ⟨?_, ?_⟩
   · rw [List.map_cons, List.cons_append, bad, if_pos (lineE_jn hm.2 hw.2)]; exact this.1
   · rw [List.map_cons, List.cons_append, good, this.2, lineW_jn hm.2]
     cases ws with
     | nil => exact absurd rfl hm.1
     | cons x y => rfl
theorem fits_parts {L : List (List Bs)} (h : fits L = true) : (∀ ws ∈ L, (jn ws).length ≤ 65536) ∧ (wrT L).length ≤ 16777216 := by
 unfold fits at h
 rw [Bool.and_eq_true, List.all_eq_true] at h
 exact ⟨fun ws hw => by simpa using h.1 ws hw, by simpa using h.2⟩
theorem rd_wr {L : List (List Bs)} (ho : L.all okL = true) (hf : fits L = true) : rdV (wrT L) = (nums 1 L, 0, 0) := by
 rw [List.all_eq_true] at ho
 have hp := fits_parts hf
 have := rd_wrT_aux (L := L) 1 (fun ws hw => ⟨ho ws hw, hp.1 ws hw⟩)
 rw [← lns_wrT ho] at this
 rw [rdV_good hp.2 this.1, this.2]
def wts (l : List Bs) : Nat := (l.map fun x => x.length + 1).sum
theorem spl_wts (p : UInt8 → Bool) : ∀ l : Bs, wts (spl p l) = l.length + 1 := by
 intro l
 induction l with
 | nil => rfl
 | cons a r ih =>
   rw [spl]
   split
   · simp only [wts, List.map_cons, List.sum_cons] at ih ⊢
     rw [ih]; simp; omega
   · split
     · rename_i e; exact absurd e (spl_ne _ _)
     · rename_i e
       rw [e] at ih
       simp only [wts, List.map_cons, List.sum_cons, List.length_cons] at ih ⊢
       omega
theorem filter_wts (q : Bs → Bool) : ∀ l : List Bs, wts (l.filter q) ≤ wts l := by
 intro l
 induction l with
 | nil => exact Nat.le_refl _
 | cons a r ih =>
   rw [List.filter_cons]
   split
   · simp only [wts, List.map_cons, List.sum_cons] at ih ⊢; omega
   · simp only [wts, List.map_cons, List.sum_cons] at ih ⊢; omega
theorem jn_wts : ∀ {ws : List Bs}, ws ≠ [] → (jn ws).length + 1 = wts ws := by
 intro ws
 induction ws with
 | nil => intro h; exact absurd rfl h
 | cons x r ih =>
   intro _
   cases r with
   | nil => rw [jn_one]; simp [wts]
   | cons y r =>
     have := ih (by simp)
     rw [jn_cons2, List.length_append, List.length_cons]
     simp only [wts, List.map_cons, List.sum_cons] at this ⊢
     omega
theorem jn_lineW (l : Bs) : (jn (lineW l)).length ≤ l.length := by
 by_cases h : lineW l = []
 · rw [h]; simp [jn, join_nil]
 · have h1 := jn_wts h
   have h2 : wts (lineW l) ≤ wts (spl bl (ahd l)) := filter_wts _ _
   rw [spl_wts] at h2
   have h3 : (ahd l).length ≤ l.length := cutT_len _ _
   omega
theorem good_fits : ∀ (ls : List Bs) (n : Nat), bad n ls = none → (∀ p ∈ good n ls, okL p.2 = true ∧ (jn p.2).length ≤ 65536) ∧ (wrT ((good n ls).map (·.2))).length ≤ wts ls := by
 intro ls
 induction ls with
 | nil => intro n _; exact ⟨fun p hp => by simp [good] at hp, by simp [good, wrT]⟩
 | cons l r ih =>
   intro n h
   rw [bad] at h
   by_cases he : lineE l = 0
   · rw [if_pos he] at h
     have hz := lineE_zero.1 he
     have hi := ih (n + 1) h
     rw [good]
     by_cases h0 : (lineW l).isEmpty = true
     · rw [if_pos h0, List.nil_append]
       refine ⟨hi.1, ?_⟩
       simp only [wts, List.map_cons, List.sum_cons] at hi ⊢
       omega
     · rw [if_neg h0]
       have hj := jn_lineW l
       refine ⟨fun p hp => ?_, ?_⟩
       · rcases List.mem_append.1 hp with e | e
         · rw [List.mem_singleton.1 e]
           refine ⟨?_, by show (jn (lineW l)).length ≤ 65536; omega⟩
           unfold okL
           rw [hz.2]; simpa using h0
         · exact hi.1 p e
       · rw [List.map_append, show wrT ((([(n, lineW l)] : List (Nat × List Bs)).map (·.2)) ++ (good (n + 1) r).map (·.2)) = (jn (lineW l) ++ [10]) ++ wrT ((good (n + 1) r).map (·.2)) by simp [wrT]]
         have := hi.2
         simp only [wts, List.map_cons, List.sum_cons, List.length_append, List.length_singleton] at this ⊢
         omega
   · rw [if_neg he] at h; cases h
end

/- The document's side of layer 9: words, the walk. -/
section
set_option maxRecDepth 100000
open Go.RowKit Go.Shelf Go.Lib
theorem Sr.grew {W W2 : World} {B : Nat} {v v' : Value} {ts : List Bs} {x : Bs} (hown : W2.ownsRow B 9 1 v' (ts.length + 1) (svs ts ++ [sv x])) (_ : Sr W B v ts) : Sr W2 B v' (ts ++ [x]) := by
 unfold Sr
 rw [List.length_append]
 simpa [svs] using hown
theorem own_ap {W : World} {B e size n : Nat} {v : Value} {xs : List Value} (h : W.ownsRow B e size v n xs) : ∀ k, v.ownBlock = some k → B ≤ k := fun k hk => (World.ownsRow.lt h k hk).1
theorem below_grew {w W W2 : World} {e size n : Nat} {v : Value} {xs : List Value} {tmp : Obj} (hb : Below w.heap.size w W) (h : W.ownsRow w.heap.size e size v n xs) (hg : (W.alloc tmp).grownBy W2 v.ownBlock) : Below w.heap.size w W2 :=
 hb.trans (((Below.refl _ W).alloc hb.size _).grown hg (by simp; have := hb.size; omega) (fun k hk => own_ap h k hk))
end

/- The document's side of layer 9: Read. -/
section
set_option maxRecDepth 100000
open Go.RowKit Go.Shelf Go.Lib
structure RdI (t : Bs) (st k : Nat) (done : List Bs) : Prop where
 all : lns t = done ++ (if st ≤ t.length then lns (t.drop st) else [])
 free : ∀ c ∈ cw t st k, c ≠ 10
 none : bad 1 done = none
 le : st ≤ k
 fin : k = t.length + 1 → st = k
theorem RdI.done {t : Bs} {st : Nat} {done : List Bs} (h : RdI t st (t.length + 1) done) : lns t = done := by
 have := h.all
 rw [h.fin rfl, if_neg (by omega), List.append_nil] at this
 exact this
theorem RdI.go {t : Bs} {st k : Nat} {done : List Bs} (h : RdI t st k done) (hk : k < t.length) (hc : t[k] ≠ 10) : RdI t st (k + 1) done := by
 refine ⟨h.all, fun c hc' => ?_, h.none, by have := h.le; omega, fun e => by omega⟩
 have := h.le
 unfold cw at hc'
 rw [show k + 1 - st = (k - st) + 1 by omega, List.take_add_one] at hc'
 rcases List.mem_append.1 hc' with e | e
 · exact h.free c e
 · rw [List.getElem?_drop, show st + (k - st) = k by omega, List.getElem?_eq_getElem hk] at e
   obtain rfl : c = t[k] := by simpa using e
   exact hc
theorem RdI.line {t : Bs} {st k : Nat} {done : List Bs} (h : RdI t st k done) (hk : k ≤ t.length) (hc : ∀ hk : k < t.length, t[k] = 10) : lns t = done ++ cw t st k :: (if k + 1 ≤ t.length then lns (t.drop (k + 1)) else []) := by
 rw [h.all, if_pos (by have := h.le; omega)]
 congr 1
 have e := cw_drop (l := t) h.le
 by_cases hlt : k < t.length
 · rw [e, List.drop_eq_getElem_cons hlt, hc hlt, lns_app h.free, if_pos (by omega : k + 1 ≤ t.length)]
 · rw [if_neg (by omega : ¬ k + 1 ≤ t.length), e, List.drop_of_length_le (by omega), List.append_nil, lns_none (fun hm => h.free 10 hm rfl)]
theorem RdI.bad {t : Bs} {st k : Nat} {done : List Bs} (h : RdI t st k done) (hk : k ≤ t.length) (hc : ∀ hk : k < t.length, t[k] = 10) (he : lineE (cw t st k) ≠ 0) : bad 1 (lns t) = some (done.length + 1, lineE (cw t st k)) := by
 rw [h.line hk hc, bad_app h.none, Go.Proofs.YtgoadpnoagaflaaGreatDoor.bad, if_neg he, Nat.add_comm]
theorem RdI.step {t : Bs} {st k : Nat} {done : List Bs} (h : RdI t st k done) (hk : k ≤ t.length) (hc : ∀ hk : k < t.length, t[k] = 10) (he : lineE (cw t st k) = 0) : RdI t (k + 1) (k + 1) (done ++ [cw t st k]) := by
 refine ⟨by rw [h.line hk hc, List.append_assoc]; rfl, fun c hc => by simp [cw] at hc, ?_, Nat.le_refl _, fun _ => rfl⟩
 rw [bad_app h.none, Go.Proofs.YtgoadpnoagaflaaGreatDoor.bad, if_pos he]; rfl
theorem RdI.dlen {t : Bs} {st k : Nat} {done : List Bs} (h : RdI t st k done) : done.length ≤ t.length + 1 := by
 have := lns_len t
 rw [h.all, List.length_append] at this
 omega
theorem Lr.below_grew {e : TypeId} {w W W2 : World} {v : Value} {ps : List Lt} {tmp : Obj} (hb : Below w.heap.size w W) (h : Lr e W w.heap.size v ps) (hg : (W.alloc tmp).grownBy W2 v.ownBlock) : Below w.heap.size w W2 := Go.Proofs.YtgoadpnoagaflaaGreatDoor.below_grew hb h.own hg
end

/- The document's side of layer 9: Texts. -/
section
set_option maxRecDepth 100000
open Go.RowKit Go.Shelf Go.Lib
end

/- The law LinesRead. -/
section
set_option maxRecDepth 100000
open Go.RowKit Go.Shelf Go.Lib
attribute [local go_sem] run_store_str
theorem Lr.form {e : TypeId} {W : World} {B : Nat} {v : Value} {ps : List Lt} (h : Lr e W B v ps) : ∃ a c, v = .slice a ps.length c ∧ ps.length ≤ c ∧ c ≤ 9223372036854775807 ∧ (ps = [] ∨ ∃ g, a = some ⟨g, 0, none⟩ ∧ B ≤ g) := by
 rcases h.own.2 with ⟨h1, h2⟩ | ⟨g, cap, cur, h1, h0, _, h3, h4, _⟩
 · exact ⟨none, 0, by rw [h1, h2], by omega, by omega, Or.inl (List.length_eq_zero_iff.1 h2)⟩
 · exact ⟨_, _, h1, h3, by unfold maxLen at h4; omega, Or.inr ⟨g, rfl, h0⟩⟩
theorem good_word : ∀ (ls : List Bs) (n : Nat) {p : Nat × List Bs}, p ∈ good n ls → p.2 ≠ [] ∧ ∃ l ∈ ls, p.2 = lineW l := by
 intro ls
 induction ls with
 | nil => intro n p hp; simp [good] at hp
 | cons l r ih =>
   intro n p hp
   rw [good] at hp
   rcases List.mem_append.1 hp with e | e
   · by_cases h : (lineW l).isEmpty = true
     · rw [if_pos h] at e; simp at e
     · rw [if_neg h] at e
       rw [List.mem_singleton.1 e]
       exact ⟨by simpa using h, l, by simp, rfl⟩
   · obtain ⟨h1, x, h2, h3⟩ := ih _ e
     exact ⟨h1, x, by simp [h2], h3⟩
theorem rdV_word {t : Bs} {p : Nat × List Bs} (hp : p ∈ (rdV t).1) : p.2 ≠ [] ∧ (∀ x ∈ p.2, x.length ≤ 16777216) ∧ (rdV t).2.2 = 0 ∧ ∃ l ∈ lns t, p.2 = lineW l := by
 unfold rdV at hp ⊢
 split at hp
 · simp at hp
 · rename_i hl
   rw [if_neg hl]
   split at hp
   · simp at hp
   · obtain ⟨h1, l, h2, h3⟩ := good_word _ _ hp
     refine ⟨h1, fun x hx => ?_, rfl, l, h2, h3⟩
     rw [h3] at hx
     have g1 := (toks_word hx).2.2.1
     have g2 : (ahd l).length ≤ l.length := cutT_len _ _
     have g3 := (spl_word h2).2.1
     omega
end

/- What package lines is asked first: works. -/
section
set_option maxRecDepth 100000
open Go.RowKit Go.Shelf Go.Lib
end

/- Lists of lists of texts that are handed in, opened, with their bounds. -/
section
set_option maxRecDepth 100000
open Go.ChangeShapes Go.WideShapes Go.ChangeAt Go.RowKit Go.Deep Go.Lib
end

/- The law LinesBack. -/
section
open Go.RowKit Go.Shelf Go.Lib
theorem Lr.sl {e : TypeId} {W : World} {B : Nat} {v : Value} {ps : List Lt} (h : Lr e W B v ps) {t : Bs} (ht : tell ps = (rdV t).1) : ∀ p ∈ ps, Sl W p.2.2 p.2.1 := fun p hp => by
 refine (h.sub p hp).sl (fun x hx => ?_)
 have hm : (p.1, p.2.1) ∈ (rdV t).1 := by rw [← ht]; exact List.mem_map.2 ⟨p, hp, rfl⟩
 have := (rdV_word hm).2.1 x hx
 omega
theorem wrV_zero {L : List (List Bs)} (h : (wrV L).2 = 0) : L.all okL = true ∧ fits L = true ∧ (wrV L).1 = wrT L := by
 unfold wrV at h ⊢
 split at h
 · rename_i h1
   rw [if_pos h1]
   split at h
   · rename_i h2; rw [if_pos h2]; exact ⟨h1, h2, rfl⟩
   · cases h
 · cases h
def RdS (W : World) (t : Bs) (e : Ending) (w' : World) : Prop := ∃ a c ps, e = .returned (.tuple #[.slice a (rdV t).1.length c, .int .i64 ((rdV t).2.1 : Nat), .int .i64 ((rdV t).2.2 : Nat)]) ∧ Lr 56 w' W.heap.size (.slice a (rdV t).1.length c) ps ∧ tell ps = (rdV t).1 ∧ ps.length = (rdV t).1.length ∧ Below W.heap.size W w'
theorem readS (s : ByteArray) (t : Bs) (W : World) (ht : s.data.toList = t) (hl : t.length ≤ 9223372036854775807) : Calls Tryz.prog 15 #[.string s] W fun e w' => RdS W t e w' := by
 refine (read_any s t W ht hl).mono ?_
 rintro e w' ⟨v, ps, rfl, h2, h3, h4⟩
 have hlen : ps.length = (rdV t).1.length := by rw [← h3]; simp [tell]
 obtain ⟨a, c, rfl, _, _, _⟩ := h2.form
 rw [hlen] at h2 ⊢
 exact ⟨a, c, ps, rfl, h2, h3, hlen, h4⟩
end
end Go.Proofs.YtgoadpnoagaflaaGreatDoor
