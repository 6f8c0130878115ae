/- Own texts, put together: Et Ew Ex Bj Bk. -/
import Derived.Test.YtgoadpnoagaflaaDoorQ18
import Derived.Test.YtgoadpnoagaflaaDoorQ19
import Derived.Test.YtgoadpnoagaflaaDoorQ21
namespace Go.Proofs.YtgoadpnoagaflaaDoor
/- Sums of tame words: what is rounded off is told exactly. -/
section
theorem fval_abs (b : Nat) : (fval b = fval (frung b) ∨ fval b = -fval (frung b)) := by
 have e1 : frung (frung b) = frung b := by unfold frung; omega
 have e2 : fneg (frung b) = false := by unfold fneg frung; simp
 rw [fval_eq b, fval_eq (frung b), e1, e2]
 generalize ((fmag (frung b) : Nat) : Rat) * p2 (fpl (frung b)) = z
 cases fneg b <;> simp [sgn1] <;> grind
theorem tame_top : fval 9110782046170513408 = p2 1000 := by
 rw [(fval_pos_lt (by omega)).1, show fmag 9110782046170513408 = 4503599627370496 by decide, show fpl 9110782046170513408 = 948 by decide]
 rw [show (1000 : Int) = 948 + ((52 : Nat) : Int) by omega, p2_add, p2_nat, Rat.mul_comm]
end

/- Products of safe words: what is rounded off is told exactly. -/
section
theorem safe_top : fval 6633802251116740608 = p2 450 := by
 rw [(fval_pos_lt (by omega)).1, show fmag 6633802251116740608 = 4503599627370496 by decide, show fpl 6633802251116740608 = 398 by decide]
 rw [show (450 : Int) = 398 + ((52 : Nat) : Int) by omega, p2_add, p2_nat, Rat.mul_comm]
end

/- What Sum, Diff and Prod answer, and what follows of it. -/
section
open Go.RowKit
def Pair (dom : Prop) (q : Rat) (x y : Nat) : Prop :=
 Fin64 x ∧ Fin64 y ∧ x < 18446744073709551616 ∧ y < 18446744073709551616 ∧ ((dom ∧ RV q (fval x) ∧ fval x + fval y = q) ∨ (¬ dom ∧ x = 0 ∧ y = 0))
theorem flip_lt {a : Nat} (h : a < 18446744073709551616) : fflip a < 18446744073709551616 := by unfold fflip; split <;> omega
theorem frung_flip {a : Nat} (h : a < 18446744073709551616) : frung (fflip a) = frung a := by unfold fflip frung; split <;> omega
theorem fval_flip {a : Nat} (h : a < 18446744073709551616) (hf : Fin64 a) : fval (fflip a) = -fval a := by
 unfold Fin64 frung at hf
 unfold fflip
 split
 · rename_i hs
   rw [Nat.add_comm]; exact fval_word (by omega)
 · rename_i hs
   obtain ⟨r, rfl⟩ : ∃ r, a = 9223372036854775808 + r := ⟨a - 9223372036854775808, by omega⟩
   rw [fval_word (by omega), show 9223372036854775808 + r - 9223372036854775808 = r by omega]; grind
def TameW (a b : Nat) : Prop := frung a ≤ 9110782046170513408 ∧ frung b ≤ 9110782046170513408
def SafeP (a b : Nat) : Prop := SafeW (frung a) ∧ SafeW (frung b)
end

/- Package lines: Write. -/
section
set_option maxRecDepth 100000
open Go.RowKit Go.Shelf Go.Lib
theorem wrV_arg {L : List (List Bs)} {k : Nat} (h : k < L.length) (ho : okL L[k] = false) : wrV L = ([], 1) := by
 unfold wrV
 rw [if_neg]
 rw [List.all_eq_true]
 intro h2
 have := h2 _ (List.getElem_mem h)
 rw [ho] at this; cases this
theorem wrV_full {L : List (List Bs)} (h : L.all okL = true) (hf : fits L = false) : wrV L = ([], 3) := by
 unfold wrV; rw [if_pos h, hf]; rfl
theorem wrV_good {L : List (List Bs)} (h : L.all okL = true) (hf : fits L = true) : wrV L = (wrT L, 0) := by
 unfold wrV; rw [if_pos h, if_pos hf]
theorem fits_len {L : List (List Bs)} (h : fits L = true) : (wrT L).length ≤ 16777216 := by
 unfold fits at h; rw [Bool.and_eq_true] at h; simpa using h.2
theorem join_texts {ws : List Bs} {g off c : Nat} {W : World} (hc : ∀ k x, ws[k]? = some x → W.cell? ⟨g, off + k, none⟩ = some (sv x)) (hg : g < W.heap.size) (hn : ws.length ≤ 300000) (hcap : ws.length ≤ c) (hl : (jn ws).length ≤ 1000000000) :
   Calls Tryd.prog 51 #[.slice (some ⟨g, off, none⟩) ws.length c, .string ⟨#[32]⟩] W fun e w' => e = .returned (sv (jn ws)) ∧ Below W.heap.size W w' := by
 have e1 : (ws.map fun x => (⟨x.toArray⟩ : ByteArray)).length = ws.length := List.length_map _
 have e2 : (ws.map fun x => (⟨x.toArray⟩ : ByteArray)).map (·.data.toList) = ws := by
   rw [List.map_map]
   conv => rhs; rw [← List.map_id ws]
   exact List.map_congr_left fun x _ => rfl
 have e3 : (⟨#[32]⟩ : ByteArray).data.toList = [32] := rfl
 have h := Tryd.strings_Join g off c (ws.map fun x => (⟨x.toArray⟩ : ByteArray)) ⟨#[32]⟩ W (fun j x hj => by
   rw [List.getElem?_map] at hj
   cases hw : ws[j]? with
   | none => rw [hw] at hj; cases hj
   | some y =>
     rw [hw] at hj
     obtain rfl : (⟨y.toArray⟩ : ByteArray) = x := by simpa using hj
     exact hc j y hw) hg (by rw [e1]; omega) (by rw [e1]; exact hcap) (by rw [e2, e3]; exact Nat.le_trans hl (by omega))
 rw [e1, e2, e3] at h
 exact h
theorem builder_later {T e B b : Nat} {bs : List Value} {w w' : World} (h : Lib.IsBuilder T e B b bs w) (hb : Below w.heap.size w w') : Lib.IsBuilder T e B b bs w' := by
 have key : ∀ p, Lib.BuilderAt T e B b p bs w → Lib.BuilderAt T e B b p bs w' := by
   rintro p ⟨h1, v, h2, h3, h4⟩
   exact ⟨h1, v, (hb.block b (Array.getElem?_eq_some_iff.1 h2).1).trans h2, own_later h3 hb, h4⟩
 rcases h with h | h
 · exact Or.inl (key _ h)
 · exact Or.inr (key _ h)
set_option maxRecDepth 100000 in
set_option maxHeartbeats 8000000 in
theorem write_any (v : Value) (ls : List Lv) (w : World) (h : Ll w v ls) (hM : Mod ls) : Calls Tryd.prog 23 #[v] w fun e w' => e = .returned (.tuple #[sv (wrV (ls1 ls)).1, .int .i64 ((wrV (ls1 ls)).2 : Nat)]) ∧ Below w.heap.size w w' := by
 have HA := Lib.hid h
 obtain ⟨⟨a, c, rfl, hc1, hc2, hm⟩, hsub⟩ := h
 have HM := Lib.hid hm
 have HU := Lib.hid hsub
 have HMo := Lib.hid hM
 have l0 : (ls.length : Int) ≤ 300000 := by have := hM.1; omega
 clear hsub hm hM
 obtain ⟨n, hn⟩ : ∃ n, Hid (ls.length = n) := ⟨_, Lib.hid rfl⟩
 rw [hn.out] at l0 hc1 HA ⊢
 obtain ⟨L, hL⟩ : ∃ L, Hid (ls1 ls = L) := ⟨_, Lib.hid rfl⟩
 have HLen : Hid (L.length = n) := (by rw [← hL.out, List.length_map, hn.out] : L.length = n)
 have HLk : Hid (∀ k (h : k < ls.length) (h2 : k < L.length), L[k] = ls[k].1) := fun k h h2 => by
   have e := hL.out
   subst e
   rw [List.getElem_map]
 have HSz : Hid (L.all okL = true → ∀ w', w' = w → Calls Tryd.prog 48 #[.slice a n c] w' fun e w'' => e = .returned (szR L) ∧ w'' = w') := fun hok w' e => by
   subst e
   have := sizeOf_any (.slice a n c) ls w' HA.out HMo.out (by rw [hL.out]; exact hok)
   rwa [hL.out] at this
 obtain ⟨R, hR⟩ : ∃ R, Hid (wrV L = R) := ⟨_, Lib.hid rfl⟩
 rw [hL.out, hR.out]
 go_enter Tryd.func23, Tryd.ntmps23
 go_wp2
 go_loop [13] (fun s13 => ∃ k : Nat, k ≤ n ∧ s13 = .int .i64 (k : Nat) ∧ Hid (∀ j (_ : j < k) (h2 : j < L.length), okL L[j] = true)) (fun s13 => n - (RowKit.intOf s13).toNat)
 case atStart => exact ⟨0, Nat.zero_le _, rfl, fun j hj _ => by omega⟩
 case round =>
   obtain ⟨k, hk, rfl, hI⟩ := hrel
   by_cases hlt : k < n
   · have hk2 : k < ls.length := by rw [hn.out]; exact hlt
     have hk3 : k < L.length := by rw [HLen.out]; exact hlt
     have hlt' : (k : Int) < (n : Int) := by omega
     have hk0 : (0 : Int) ≤ (k : Int) := by omega
     obtain ⟨g, off, rfl, hg, hcell⟩ := HM.out.resolve_left (fun e => by rw [e] at hk2; simp at hk2)
     have b1 := hcell k ls[k] (List.getElem?_eq_getElem hk2)
     obtain ⟨⟨ws, wv⟩, hp⟩ : ∃ p, Hid (ls[k] = p) := ⟨_, Lib.hid rfl⟩
     rw [hp.out] at b1
     have hmem : (ws, wv) ∈ ls := by rw [← hp.out]; exact List.getElem_mem hk2
     have hS : Sl w wv ws := HU.out _ hmem
     have HJ : Hid (L[k] = ws) := (by rw [HLk.out k hk2 hk3, hp.out] : L[k] = ws)
     obtain ⟨m, hm⟩ : ∃ m, Hid (okL ws = m) := ⟨_, Lib.hid rfl⟩
     have HY : Hid (Calls Tryd.prog 47 #[wv] w fun e w' => e = .returned (.bool m) ∧ w' = w) := by
       have := allMayBe_any wv ws w hS
       rwa [hm.out] at this
     obtain ⟨⟨a2, c2, rfl, hd1, hd2, hm2⟩, hlen2⟩ := hS
     clear hcell hmem hm2 hlen2 HA
     cases m
     · have HN : Hid (R = ([], 1)) := by
         show R = _
         rw [← hR.out]; exact wrV_arg hk3 (by rw [HJ.out]; exact hm.out)
       go_wp2_with (go_at_call 47; refine HY.out.mono ?_; rintro e w' ⟨rfl, rfl⟩)
       go_ret2
       rw [HN.out]; exact ⟨rfl, Below.refl _ _⟩
     · go_wp2_with (go_at_call 47; refine HY.out.mono ?_; rintro e w' ⟨rfl, rfl⟩)
       refine ⟨⟨k + 1, by omega, by go_num, fun j hj hjl => ?_⟩, ?_⟩
       · by_cases e : j = k
         · subst e; rw [HJ.out]; exact hm.out
         · exact hI.out j (by omega) hjl
       · simp [RowKit.intOf]; omega
   · obtain rfl : n = k := by omega
     have hok : L.all okL = true := by
       rw [List.all_eq_true]
       intro x hx
       obtain ⟨j, hj, rfl⟩ := List.mem_iff_getElem.1 hx
       exact hI.out j (by rw [← HLen.out]; exact hj) hj
     have HOK := Lib.hid hok
     have HZ := Lib.hid (HSz.out hok)
     clear hok HSz HA hI
     obtain ⟨f, hf⟩ : ∃ f, Hid (fits L = f) := ⟨_, Lib.hid rfl⟩
     cases f
     · rw [szR_no hf.out] at HZ
       have HN : Hid (R = ([], 3)) := by
         show R = _
         rw [← hR.out]; exact wrV_full HOK.out hf.out
       go_wp2_with (go_at_call 48; refine (HZ.out _ rfl).mono ?_; rintro e w' ⟨rfl, rfl⟩)
       go_ret2
       rw [HN.out]; exact ⟨rfl, Below.refl _ _⟩
     · rw [szR_yes hf.out] at HZ
       have HN : Hid (R = (wrT L, 0)) := by
         show R = _
         rw [← hR.out]; exact wrV_good HOK.out hf.out
       have HFl := Lib.hid (fits_len hf.out)
       obtain ⟨z, hz⟩ : ∃ z, Hid ((wrT L).length = z) := ⟨_, Lib.hid rfl⟩
       rw [hz.out] at HZ HFl
       have hzl : (z : Int) ≤ 16777216 := by have := HFl.out; omega
       go_wp2_with (first
         | (go_at_call 48; refine (HZ.out _ rfl).mono ?_; rintro e w' ⟨rfl, rfl⟩)
         | (go_at_call 49; refine (Tryd.Builder_Grow_fresh w'.heap.size w'.heap.size z _ (Nat.le_refl _) (World.alloc_heap_new _ _) (by simp) (by have := HFl.out; omega)).mono ?_; rintro e W1 ⟨rfl, hB1, hb1⟩; have HB1 := Lib.hid (And.intro (Or.inr hB1 : Lib.IsBuilder 103 5 w'.heap.size w'.heap.size (Lib.byteCells (wrT (L.take 0))) W1) (((Below.refl _ w').alloc (Nat.le_refl _) _).trans hb1)); clear hB1 hb1))
       go_loopw [32] (fun s32 wr => ∃ k : Nat, k ≤ n ∧ s32 = .int .i64 (k : Nat) ∧ Hid (Lib.IsBuilder 103 5 w'.heap.size w'.heap.size (Lib.byteCells (wrT (L.take k))) wr ∧ Below w'.heap.size w' wr)) (fun s32 _ => n - (RowKit.intOf s32).toNat)
       case atStart => exact ⟨0, Nat.zero_le _, rfl, HB1⟩
       case round =>
         obtain ⟨k, hk, rfl, hI⟩ := hrel
         by_cases hlt : k < n
         · have hk2 : k < ls.length := by rw [hn.out]; exact hlt
           have hk3 : k < L.length := by rw [HLen.out]; exact hlt
           have hlt' : (k : Int) < (n : Int) := by omega
           have hk0 : (0 : Int) ≤ (k : Int) := by omega
           obtain ⟨g, off, rfl, hg, hcell⟩ := HM.out.resolve_left (fun e => by rw [e] at hk2; simp at hk2)
           have b1 := cell_later hI.out.2 hg (hcell k ls[k] (List.getElem?_eq_getElem hk2))
           obtain ⟨⟨ws, wv⟩, hp⟩ : ∃ p, Hid (ls[k] = p) := ⟨_, Lib.hid rfl⟩
           rw [hp.out] at b1
           have hmem : (ws, wv) ∈ ls := by rw [← hp.out]; exact List.getElem_mem hk2
           have hS : Sl wr wv ws := (HU.out _ hmem).later hI.out.2
           have HJ : Hid (L[k] = ws) := (by rw [HLk.out k hk2 hk3, hp.out] : L[k] = ws)
           have hwn : ws ≠ [] := by
             have := HOK.out
             rw [List.all_eq_true] at this
             have := this _ (List.getElem_mem hk3)
             rw [HJ.out] at this
             exact (ok_may this).1
           have hwl : ws.length ≤ 300000 := HMo.out.2 _ hmem
           have HT : Hid (wrT (L.take (k + 1)) = wrT (L.take k) ++ (jn ws ++ [10])) := by
             show _ = _
             rw [wrT_take hk3, HJ.out]
           have HLl : Hid ((wrT (L.take k)).length + ((jn ws).length + 1) ≤ 16777216) := by
             show _ ≤ _
             have h1 := wrT_take_le L (k + 1)
             rw [HT.out, List.length_append, List.length_append] at h1
             have h2 := HFl.out
             rw [hz.out] at h1
             have : ([10] : Bs).length = 1 := rfl
             omega
           obtain ⟨⟨a2, c2, rfl, hd1, hd2, hm2⟩, hlen2⟩ := hS
           obtain ⟨g2, off2, rfl, hg2, hcell2⟩ := hm2.resolve_left hwn
           obtain ⟨q, hq⟩ : ∃ q : ByteArray, (⟨(jn ws).toArray⟩ : ByteArray) = q := ⟨_, rfl⟩
           have HJn : Hid (Calls Tryd.prog 51 #[.slice (some ⟨g2, off2, none⟩) ws.length c2, .string ⟨#[32]⟩] wr fun e w' => e = .returned (.string q) ∧ Below wr.heap.size wr w') := by
             have := join_texts (W := wr) hcell2 hg2 hwl hd1 (by have := HLl.out; omega)
             unfold sv at this
             rwa [hq] at this
           have HQ : Hid (q.size = (jn ws).length ∧ strCells q = Lib.byteCells (jn ws)) := ⟨by rw [← hq]; exact sv_size _, by rw [← hq]; rfl⟩
           have hwl' : (ws.length : Int) ≤ 300000 := by omega
           clear hcell hmem hlen2 hcell2 hm2 hq
           go_wp2_with (first
             | (go_at_call 51; refine HJn.out.mono ?_; rintro e W2 ⟨rfl, hb2⟩; have HB2 := Lib.hid hb2; clear hb2)
             | (go_at_call 50; refine (Tryd.Builder_WriteString w'.heap.size w'.heap.size (Lib.byteCells (wrT (L.take k))) q W2 (builder_later hI.out.1 HB2.out) (by rw [Lib.byteCells_length, HQ.out.1]; have := HLl.out; omega) (Nat.le_trans hI.out.2.size HB2.out.size)).mono ?_; rintro e W3 ⟨rfl, hB3, hb3⟩; have HB3 := Lib.hid (And.intro hB3 ((hI.out.2.trans (HB2.out.mono hI.out.2.size)).trans hb3)); clear hB3 hb3)
             | (go_at_call 52; refine (Tryd.Builder_WriteByte w'.heap.size w'.heap.size (Lib.byteCells (wrT (L.take k)) ++ strCells q) 10 W3 (Or.inr HB3.out.1) (by rw [List.length_append, Lib.byteCells_length, strCells_length, HQ.out.1]; have := HLl.out; omega) HB3.out.2.size).mono ?_; rintro e W4 ⟨rfl, hB4, hb4⟩; have HB4 := Lib.hid (And.intro hB4 (HB3.out.2.trans hb4)); clear hB4 hb4))
           refine ⟨⟨k + 1, by omega, by go_num, ?_, HB4.out.2⟩, ?_⟩
           · rw [HT.out, byteCells_append, byteCells_append, ← HQ.out.2, ← List.append_assoc]
             exact Or.inr HB4.out.1
           · simp [RowKit.intOf]; omega
         · obtain rfl : n = k := by omega
           have HTk : Hid (L.take n = L) := List.take_of_length_le (by rw [HLen.out]; exact Nat.le_refl _)
           rw [HTk.out] at hI
           obtain ⟨q, hq⟩ : ∃ q : ByteArray, (⟨(wrT L).toArray⟩ : ByteArray) = q := ⟨_, rfl⟩
           have HSt : Hid (Calls Tryd.prog 53 #[.pointer (some ⟨w'.heap.size, 0, none⟩)] wr fun e w'' => e = .returned (.string q) ∧ Below w'.heap.size wr w'') := by
             have := Tryd.Builder_String_any w'.heap.size w'.heap.size (wrT L) wr hI.out.1 hI.out.2.size
             rwa [hq] at this
           have HQ := Lib.hid hq
           clear hq
           go_wp2_with (go_at_call 53; refine HSt.out.mono ?_; rintro e W5 ⟨rfl, hb5⟩)
           go_ret2
           rw [HN.out]
           show Ending.returned (.tuple #[.string q, .int .i64 0]) = .returned (.tuple #[.string ⟨(wrT L).toArray⟩, .int .i64 0]) ∧ _
           rw [HQ.out]
           exact ⟨rfl, hI.out.2.trans hb5⟩
end

/- The document's side of layer 9: words. -/
section
set_option maxRecDepth 100000
open Go.RowKit Go.Shelf Go.Lib
theorem ahd_app {a r : Bs} (h : ∀ x ∈ a, x ≠ 35) : ahd (a ++ r) = a ++ ahd r := by
 unfold ahd cutT
 induction a with
 | nil => rfl
 | cons x a ih =>
   rw [List.cons_append, List.takeWhile_cons_of_pos (p := fun y => y != 35) (by simpa using h x (by simp)), ih (fun y hy => h y (by simp [hy])), List.cons_append]
theorem ahd_stop (r : Bs) : ahd (35 :: r) = [] := by simp [ahd, cutT]
theorem ahd_cons {c : UInt8} {r : Bs} (h : c ≠ 35) : ahd (c :: r) = c :: ahd r := ahd_app (a := [c]) (fun x hx => by rw [List.mem_singleton.1 hx]; exact h)
theorem tok_mem {c : UInt8} (hc : bl c = false) : ∀ {l : Bs}, c ∈ l → ∃ t ∈ toks l, c ∈ t := by
 have key : ∀ {l : Bs}, c ∈ l → ∃ t ∈ spl bl l, c ∈ t := by
   intro l
   induction l with
   | nil => intro h; simp at h
   | cons a r ih =>
     intro h
     rw [spl]
     by_cases hp : bl a = true
     · rw [if_pos hp]
       rcases List.mem_cons.1 h with e | e
       · rw [e, hp] at hc; cases hc
       · obtain ⟨t, h1, h2⟩ := ih e
         exact ⟨t, by simp [h1], h2⟩
     · rw [if_neg hp]
       split
       · rename_i e; exact absurd e (spl_ne _ _)
       · rename_i x y e
         rcases List.mem_cons.1 h with e2 | e2
         · exact ⟨a :: x, by simp, by simp [e2]⟩
         · obtain ⟨t, h1, h2⟩ := ih e2
           rw [e] at h1
           rcases List.mem_cons.1 h1 with e3 | e3
           · exact ⟨a :: x, by simp, by rw [e3] at h2; simp [h2]⟩
           · exact ⟨t, by simp [e3], h2⟩
 intro l h
 obtain ⟨t, h1, h2⟩ := key h
 refine ⟨t, ?_, h2⟩
 unfold toks
 rw [List.mem_filter]
 refine ⟨h1, ?_⟩
 cases t with
 | nil => simp at h2
 | cons a r => rfl
theorem gd_ne {c : UInt8} (h : gd c = true) : c ≠ 35 ∧ bl c = false := by
 unfold gd at h
 simp at h
 refine ⟨fun e => ?_, ?_⟩
 · rw [e] at h; exact absurd h.2 (by decide)
 · unfold bl; simp; omega
structure WInv (l : Bs) (st k : Nat) (ts : List Bs) : Prop where
 all : ts ++ toks (ahd (l.drop st)) = lineW l
 may : ∀ x ∈ ts, mayW x = true
 gds : ∀ c ∈ (l.drop st).take (k - st), gd c = true
 le : st ≤ k
theorem WInv.start (l : Bs) : WInv l 0 0 [] := ⟨rfl, fun x hx => by simp at hx, fun c hc => by simp at hc, Nat.le_refl _⟩
abbrev cw (l : Bs) (st k : Nat) : Bs := (l.drop st).take (k - st)
theorem cw_drop {l : Bs} {st k : Nat} (h : st ≤ k) : l.drop st = cw l st k ++ l.drop k := by
 have := (List.take_append_drop (k - st) (l.drop st)).symm
 rw [List.drop_drop, show st + (k - st) = k by omega] at this
 exact this
theorem WInv.ahd {l : Bs} {st k : Nat} {ts : List Bs} (h : WInv l st k ts) : Go.Proofs.YtgoadpnoagaflaaDoor.ahd (l.drop st) = cw l st k ++ Go.Proofs.YtgoadpnoagaflaaDoor.ahd (l.drop k) := by
 rw [cw_drop (l := l) h.le, ahd_app (fun x hx => (gd_ne (h.gds x hx)).1)]
theorem mayW_gds {x : Bs} (h : ∀ c ∈ x, gd c = true) (h0 : x ≠ []) (hl : x.length ≤ 400) : mayW x = true := mayW_yes h0 hl (fun _ hj => h _ (List.getElem_mem hj))
theorem WInv.long {l : Bs} {st k : Nat} {ts r : List Bs} (h : WInv l st k ts) (he : toks (Go.Proofs.YtgoadpnoagaflaaDoor.ahd (l.drop st)) = one (cw l st k) ++ r) (hl : 400 < (cw l st k).length) : (lineW l).all mayW = false := by
 rw [List.all_eq_false]
 refine ⟨cw l st k, ?_, ?_⟩
 · rw [← h.all, he, one_ne (fun e => by rw [e] at hl; simp at hl)]; simp
 · unfold mayW; rw [decide_eq_false (by omega : ¬ (cw l st k).length ≤ 400)]; simp
theorem WInv.more {l : Bs} {st k : Nat} {ts : List Bs} {r : List Bs} (h : WInv l st k ts) (he : toks (Go.Proofs.YtgoadpnoagaflaaDoor.ahd (l.drop st)) = one (cw l st k) ++ r) (hl : (cw l st k).length ≤ 400) : (ts ++ one (cw l st k)) ++ r = lineW l ∧ ∀ x ∈ ts ++ one (cw l st k), mayW x = true := by
 refine ⟨by rw [← h.all, he, List.append_assoc], fun x hx => ?_⟩
 rcases List.mem_append.1 hx with e | e
 · exact h.may x e
 · by_cases h0 : cw l st k = []
   · rw [h0] at e; simp [one] at e
   · rw [one_ne h0, List.mem_singleton] at e
     rw [e]; exact mayW_gds h.gds h0 hl
theorem WInv.fin {l : Bs} {st k : Nat} {ts : List Bs} (h : WInv l st k ts) (hk : k ≤ l.length) (he : ∀ hk : k < l.length, l[k] = 35) : toks (Go.Proofs.YtgoadpnoagaflaaDoor.ahd (l.drop st)) = one (cw l st k) ++ [] := by
 have e : Go.Proofs.YtgoadpnoagaflaaDoor.ahd (l.drop k) = [] := by
   by_cases hlt : k < l.length
   · rw [List.drop_eq_getElem_cons hlt, he hlt, ahd_stop]
   · rw [List.drop_of_length_le (by omega)]; rfl
 rw [h.ahd, e, List.append_nil, List.append_nil, toks_none (fun c hc => (gd_ne (h.gds c hc)).2)]
theorem WInv.blank {l : Bs} {st k : Nat} {ts : List Bs} (h : WInv l st k ts) (hk : k < l.length) (hb : bl l[k] = true) : toks (Go.Proofs.YtgoadpnoagaflaaDoor.ahd (l.drop st)) = one (cw l st k) ++ toks (Go.Proofs.YtgoadpnoagaflaaDoor.ahd (l.drop (k + 1))) := by
 have hne : l[k] ≠ 35 := fun e => by rw [e] at hb; cases hb
 rw [h.ahd, List.drop_eq_getElem_cons hk, ahd_cons hne, toks_app (fun c hc => (gd_ne (h.gds c hc)).2) hb]
theorem WInv.next {l : Bs} {st k : Nat} {ts : List Bs} (h : WInv l st k ts) (hk : k < l.length) (hb : bl l[k] = true) (hl : (cw l st k).length ≤ 400) : WInv l (k + 1) (k + 1) (ts ++ one (cw l st k)) := by
 have := h.more (h.blank hk hb) hl
 exact ⟨this.1, this.2, fun c hc => by simp at hc, Nat.le_refl _⟩
theorem WInv.bad {l : Bs} {st k : Nat} {ts : List Bs} (h : WInv l st k ts) (hk : k < l.length) (hne : l[k] ≠ 35) (hb : bl l[k] = false) (hg : gd l[k] = false) : (lineW l).all mayW = false := by
 have hm : l[k] ∈ Go.Proofs.YtgoadpnoagaflaaDoor.ahd (l.drop st) := by
   rw [h.ahd, List.drop_eq_getElem_cons hk, ahd_cons hne]; simp
 obtain ⟨t, h1, h2⟩ := tok_mem hb hm
 rw [List.all_eq_false]
 refine ⟨t, by rw [← h.all]; simp [h1], ?_⟩
 obtain ⟨j, hj, e⟩ := List.mem_iff_getElem.1 h2
 rw [mayW_no hj (by rw [e]; exact hg)]; simp
theorem WInv.good {l : Bs} {st k : Nat} {ts : List Bs} (h : WInv l st k ts) (hk : k < l.length) (hg : gd l[k] = true) : WInv l st (k + 1) ts := by
 refine ⟨h.all, h.may, fun c hc => ?_, by have := h.le; omega⟩
 have := h.le
 rw [show k + 1 - st = (k - st) + 1 by omega, List.take_add_one] at hc
 rcases List.mem_append.1 hc with e | e
 · exact h.gds c e
 · rw [List.getElem?_drop, show st + (k - st) = k by omega, List.getElem?_eq_getElem hk] at e
   obtain rfl : c = l[k] := by simpa using e
   exact hg
def WdR (w w' : World) (l : Bs) (e : Ending) : Prop := (∃ v, e = .returned (.tuple #[v, .bool ((lineW l).all mayW)]) ∧ ((lineW l).all mayW = true → Sr w' w.heap.size v (lineW l)) ∧ ((lineW l).all mayW = false → v = .slice none 0 0)) ∧ Below w.heap.size w w'
theorem WdR.no {w w' : World} {l : Bs} (h : (lineW l).all mayW = false) (hb : Below w.heap.size w w') : WdR w w' l (.returned (.tuple #[.slice none 0 0, .bool false])) := by
 refine ⟨⟨_, by rw [h], fun e => ?_, fun _ => rfl⟩, hb⟩
 rw [h] at e; cases e
theorem WdR.yes {w w' : World} {l : Bs} {v : Value} {ts : List Bs} (h : ts = lineW l) (hm : ∀ x ∈ ts, mayW x = true) (hS : Sr w' w.heap.size v ts) (hb : Below w.heap.size w w') : WdR w w' l (.returned (.tuple #[v, .bool true])) := by
 have e : (lineW l).all mayW = true := by rw [← h, List.all_eq_true]; exact hm
 refine ⟨⟨v, by rw [e], fun _ => by rw [← h]; exact hS, fun e2 => ?_⟩, hb⟩
 rw [e] at e2; cases e2
end
end Go.Proofs.YtgoadpnoagaflaaDoor
