/- Own texts, put together: Dd De. -/
import Derived.Test.YtgpbfhennineiaaGreatQ4
import Derived.Test.YtgpbfhennineiaaGreatQ30
import Derived.Test.YtgpbfhennineiaaGreatQ38
import Derived.Laws.AppendOwnNone
namespace Go.Proofs.YtgpbfhennineiaaGreat
/- The document's side of layer 7: Order. -/
section
open Go.RowKit Go.Shelf Go.Sort Go.Lib
attribute [local go_sem ↓] Go.wp_at_zero Go.wp_at_succ
attribute [local go_sem] run_store_float
theorem ord_insert {f : Nat → Nat × Nat} {i m : Nat} {out : List Nat} (h : Ord f i out) (hm : m ≤ i) (hd : ∀ k, m ≤ k → k < i → 0 < hold (f (out.getD k 0)) (f i)) (ht : m = 0 ∨ hold (f (out.getD (m - 1) 0)) (f i) ≤ 0) : Ord f (i + 1) (out.take m ++ i :: out.drop m) := by
 have hl := h.len
 refine ⟨?_, ?_⟩
 · rw [List.range_succ]
   have h1 : (out.take m ++ i :: out.drop m).Perm (i :: (out.take m ++ out.drop m)) := List.perm_middle
   rw [List.take_append_drop] at h1
   exact h1.trans ((List.Perm.cons i h.perm).trans (List.perm_append_singleton i _).symm)
 · have hpw := h.pw
   rw [← List.take_append_drop m out, List.pairwise_append] at hpw
   rw [List.pairwise_append]
   refine ⟨hpw.1, ?_, ?_⟩
   · rw [List.pairwise_cons]
     refine ⟨fun b hb => ?_, hpw.2.1⟩
     obtain ⟨k, hk, rfl⟩ := List.getElem_of_mem hb
     rw [List.getElem_drop]
     rw [List.length_drop] at hk
     have h2 := hd (m + k) (by omega) (by omega)
     have e : out.getD (m + k) 0 = out[m + k]'(by omega) := by simp [List.getD, List.getElem?_eq_getElem (show m + k < out.length by omega)]
     rw [e] at h2
     left
     rw [hold_anti]; omega
   · intro a ha b hb
     rcases List.mem_cons.1 hb with rfl | hb
     · obtain ⟨k, hk, rfl⟩ := List.getElem_of_mem ha
       rw [List.getElem_take]
       rw [List.length_take] at hk
       have hm0 : ¬ m = 0 := by omega
       have h2 := ht.resolve_left hm0
       have hm1 : m - 1 < out.length := by omega
       have e : out.getD (m - 1) 0 = out[m - 1] := by simp [List.getD, List.getElem?_eq_getElem hm1]
       rw [e] at h2
       have h3 : ltO f out[m - 1] b := by
         rcases Int.lt_or_eq_of_le h2 with h4 | h4
         · exact Or.inl h4
         · exact Or.inr ⟨h4, h.lt hm1⟩
       by_cases hkm : k = m - 1
       · subst hkm; exact h3
       · exact ltO_trans ((List.pairwise_iff_getElem.1 h.pw) k (m - 1) (by omega) hm1 (by omega)) h3
     · exact hpw.2.2 a ha b hb
theorem own_base {w : World} {base base' e size n : Nat} {v : Value} {xs : List Value} (h : w.ownsRow base e size v n xs) (hb : base' ≤ base) : w.ownsRow base' e size v n xs := by
 obtain ⟨hl, h⟩ := h
 refine ⟨hl, ?_⟩
 rcases h with h | ⟨g, cap, cur, e1, h1, h3⟩
 · exact Or.inl h
 · exact Or.inr ⟨g, cap, cur, e1, Nat.le_trans hb h1, h3⟩
theorem own_some {w : World} {base n : Nat} {v : Value} {zs : List Nat} (h : w.ownsRow base 3 1 v n (ics zs)) : (v = .slice none 0 0 ∧ n = 0) ∨ ∃ g c, v = .slice (some ⟨g, 0, none⟩) n c ∧ n ≤ c ∧ c ≤ 9223372036854775807 ∧ base ≤ g ∧ g < w.heap.size := by
 obtain ⟨hl, h⟩ := h
 rcases h with h | ⟨g, cap, cur, e1, h1, h2, h3, h4, _⟩
 · exact Or.inl h
 · refine Or.inr ⟨g, cap, e1, h3, by unfold maxLen at h4; omega, h1, ?_⟩
   rcases Nat.lt_or_ge g w.heap.size with e | e
   · exact e
   · rw [Array.getElem?_eq_none e] at h2; cases h2
theorem ics_take {zs : List Nat} {m j : Nat} {u : Value} (h : (ics (zs.take m))[j]? = some u) : (ics zs)[j]? = some u := by
 unfold ics at *
 rw [List.map_take, List.getElem?_take] at h
 split at h
 · exact h
 · cases h
theorem ics_drop {zs : List Nat} {m j : Nat} {u : Value} (h : (ics (zs.drop m))[j]? = some u) : (ics zs)[m + j]? = some u := by
 unfold ics at *
 rwa [List.map_drop, List.getElem?_drop] at h
theorem ics_one {zs : List Nat} : ∀ u ∈ ics zs, u.oneCell' = true := by
 intro u hu
 unfold ics at hu
 obtain ⟨z, _, rfl⟩ := List.mem_map.1 hu
 rfl
theorem own_at {w : World} {base g n c j : Nat} {u : Value} {zs : List Nat} (h : w.ownsRow base 3 1 (.slice (some ⟨g, 0, none⟩) n c) n (ics zs)) (hj : (ics zs)[j]? = some u) : w.cell? ⟨g, j, none⟩ = some u := by
 have := h.cells (g := g) rfl j u hj
 rw [← this]; unfold Addr.add; split
 · rename_i e; rw [e]
 · simp
theorem own_lt {w : World} {base g n c : Nat} {zs : List Nat} (h : w.ownsRow base 3 1 (.slice (some ⟨g, 0, none⟩) n c) n (ics zs)) : g < w.heap.size := (h.lt g rfl).2
theorem add_at (g o j : Nat) : (⟨g, o, none⟩ : Addr).add j = ⟨g, o + j, none⟩ := by
 unfold Addr.add; split
 · rename_i e; rw [e]; rfl
 · rfl
theorem drop_news {w : World} {base g n c m j : Nat} {ad : Addr} {u : Value} {zs : List Nat} (h : w.ownsRow base 3 1 (.slice (some ⟨g, 0, none⟩) n c) n (ics zs)) (had : n - m = 0 ∨ ad = ⟨g, m, none⟩) (hl : (ics (zs.drop m)).length = (n - m) * 1) (hj : (ics (zs.drop m))[j]? = some u) : w.cell? (ad.add j) = some u := by
 rcases had with e | rfl
 · rw [e] at hl
   have e2 : ics (zs.drop m) = [] := List.length_eq_zero_iff.1 (by omega)
   rw [e2] at hj
   simp at hj
 · rw [add_at]; exact own_at h (ics_drop hj)
set_option maxRecDepth 100000 in
set_option maxHeartbeats 4000000 in
theorem refOrder_any (s : Value) (n : Nat) (f : Nat → Nat × Nat) (w : World) (h : Ps w s n f) (hM : MayL n f) : Calls Tryz.prog 11 #[s] w fun e w' => (∃ v os, e = .returned v ∧ Ord f n os ∧ w'.ownsRow w.heap.size 3 1 v n (ics os)) ∧ Below w.heap.size w w' := by
 obtain ⟨a, c, rfl, hc, hm⟩ := h.shape
 have HF : Hid (Ps w (.slice a n c) n f) := h
 have HM : Hid (MayL n f) := hM
 have hn : n ≤ 1048576 := hM.1
 clear h hM
 obtain ⟨i0, hif, hz0, hz1, hz2⟩ := info_parts (show (Tryz.prog.info? 3).map (fun i => (i.zero, i.size, i.bytes)) = some (some (.int .i64 0), 1, 8) by kernel_rfl)
 go_enter Tryz.func11, Tryz.ntmps11
 go_wp2
 go_loopw [3, 4] (fun s3 s4 wr => ∃ (i : Nat) (os : List Nat), i ≤ n ∧ s4 = .int .i64 (i : Nat) ∧ Hid (wr.ownsRow w.heap.size 3 1 s3 i (ics os) ∧ Ord f i os ∧ Below w.heap.size w wr)) (fun _ s4 _ => n - (intOf s4).toNat)
 case atStart => exact ⟨0, [], Nat.zero_le _, rfl, World.ownsRow_nil _ _ _ _, ⟨List.Perm.refl _, List.Pairwise.nil⟩, Below.refl _ _⟩
 case round =>
   obtain ⟨i, os, hi, rfl, hI⟩ := hrel
   by_cases hlt : i < n
   · have hlt' : (i : Int) < (n : Int) := by omega
     have hi0 : (0 : Int) ≤ (i : Int) := by omega
     obtain ⟨g, off, rfl, hg, hcell⟩ := HF.out.some (by omega)
     have HC : Hid (∀ k, k < n → w.cell? ⟨g, off + k * 2, none⟩ = some (.float .f64 (f k).1) ∧ w.cell? ⟨g, off + k * 2 + 1, none⟩ = some (.float .f64 (f k).2)) := hcell
     have HO : Hid (Ord f i os) := hI.out.2.1
     clear hcell
     rcases own_some hI.out.1 with ⟨rfl, hiz⟩ | ⟨g3, c3, rfl, hc3, hc4, hg3, hg4⟩
     · have HI0 : Hid (Below w.heap.size w wr) := hI.out.2.2
       have HIZ : Hid (i = 0) := hiz
       clear hI hiz
       go_wp2
       go_loopw [5] (fun s5 wr => s5 = .int .i64 0 ∧ Hid (Below w.heap.size w wr)) (fun s5 _ => 0)
       case atStart => exact ⟨rfl, HI0.out⟩
       case round =>
         clear HI0
         obtain ⟨rfl, hK⟩ := hrel
         have hbase : w.heap.size ≤ wr.heap.size := hK.out.size
         have b3 := box_cell hK.out (HC.out i hlt).1
         have b4 := box_cell hK.out (HC.out i hlt).2
         go_wp2_with fail
         refine wp_region_held_drew (S := (fun W => W.cell? ⟨g, off + i * 2, none⟩ = some (.float .f64 (f i).1) ∧ W.cell? ⟨g, off + i * 2 + 1, none⟩ = some (.float .f64 (f i).2) ∧ Below wr.heap.size wr W)) (by kernel_rfl) ⟨b3, b4, (Below.refl _ _).drew⟩ (fun hS => ?_)
         refine takA (i := 0) (d := some 15) (v := .int .i64 0) hS ?_
         simp only [AP]
         refine takA (i := 1) (d := some 16) (v := .bool false) hS ?_
         simp only [AP]
         refine takA (i := 2) (d := some 17) (v := .bool false) hS ?_
         simp only [AP]
         refine skip_at 3 (d := some 18) (by kernel_rfl) (by kernel_rfl) (by kernel_rfl) (by kernel_rfl) (fun _ _ _ h => h) (by rfl) hS ?_
         simp only [AP]
         refine skip_at 4 (d := some 19) (by kernel_rfl) (by kernel_rfl) (by kernel_rfl) (by kernel_rfl) (fun _ _ _ h => h) (by rfl) hS ?_
         simp only [AP]
         refine skip_at 5 (d := some 20) (by kernel_rfl) (by kernel_rfl) (by kernel_rfl) (by kernel_rfl) (fun _ _ _ h => h) (by rfl) hS ?_
         simp only [AP]
         refine skip_at 6 (d := some 21) (by kernel_rfl) (by kernel_rfl) (by kernel_rfl) (by kernel_rfl) (fun _ _ _ h => h) (by rfl) hS ?_
         simp only [AP]
         refine skip_at 7 (d := some 22) (by kernel_rfl) (by kernel_rfl) (by kernel_rfl) (by kernel_rfl) (fun _ _ _ h => h) (by rfl) hS ?_
         simp only [AP]
         refine skip_at 8 (d := some 23) (by kernel_rfl) (by kernel_rfl) (by kernel_rfl) (by kernel_rfl) (fun _ _ _ h => h) (by rfl) hS ?_
         simp only [AP]
         refine skip_at 9 (d := some 24) (by kernel_rfl) (by kernel_rfl) (by kernel_rfl) (by kernel_rfl) (fun _ _ _ h => h) (by rfl) hS ?_
         simp only [AP]
         refine skip_at 10 (d := some 25) (by kernel_rfl) (by kernel_rfl) (by kernel_rfl) (by kernel_rfl) (fun _ _ _ h => h) (by rfl) hS ?_
         simp only [AP]
         refine skip_at 11 (d := some 26) (by kernel_rfl) (by kernel_rfl) (by kernel_rfl) (by kernel_rfl) (fun _ _ _ h => h) (by rfl) hS ?_
         simp only [AP]
         refine skip_at 12 (d := some 27) (by kernel_rfl) (by kernel_rfl) (by kernel_rfl) (by kernel_rfl) (fun _ _ _ h => h) (by rfl) hS ?_
         simp only [AP]
         refine skip_at 13 (d := some 28) (by kernel_rfl) (by kernel_rfl) (by kernel_rfl) (by kernel_rfl) (fun _ _ _ h => h) (by rfl) hS ?_
         simp only [AP]
         refine skip_at 14 (d := some 29) (by kernel_rfl) (by kernel_rfl) (by kernel_rfl) (by kernel_rfl) (fun _ _ _ h => h) (by rfl) hS ?_
         simp only [AP]
         refine skip_at 15 (d := some 30) (by kernel_rfl) (by kernel_rfl) (by kernel_rfl) (by kernel_rfl) (fun _ _ _ h => h) (by rfl) hS ?_
         simp only [AP]
         refine skip_at 16 (d := some 31) (by kernel_rfl) (by kernel_rfl) (by kernel_rfl) (by kernel_rfl) (fun _ _ _ h => h) (by rfl) hS ?_
         simp only [AP]
         refine takA (i := 17) (d := some 32) (v := .bool false) hS ?_
         simp only [AP]
         refine wpAnyH_done (by kernel_rfl) ?_ _
         clear hS b3 b4
         have HBW : Hid (Below w.heap.size w wr.drew) := hK.out.drew
         have HRD : Hid (Ord f (i + 1) (os.take 0 ++ i :: os.drop 0)) := ord_insert HO.out (Nat.zero_le _) (fun k _ h2 => by have := HIZ.out; omega) (Or.inl rfl)
         go_wp2_with (first
           | (at_builtin; (refine wpList_append_own_none rfl _ _ _ rfl w.heap.size 3 i0 1 Tryz.underlying26 hif (.slice none 0 0) 0 [] rfl (World.ownsRow_nil _ _ _ _) rfl ?_))
           | (at_builtin; (refine wpList_append_own_none rfl _ _ _ rfl w.heap.size 3 i0 1 Tryz.underlying26 hif v2 (0 + 1) ([] ++ [.int .i64 (i : Nat)]) rfl HP2.out rfl ?_))
           | (at_builtin; (refine wpList_append_own _ rfl _ _ _ rfl w.heap.size 3 i0 _ 1 8 Tryz.underlying26 hif hz0 hz1 hz2 rfl (by omega) (.slice none 0 0) 0 [] rfl (World.ownsRow_nil _ _ _ _) ⟨wr.heap.size, 0, none⟩ 1 1 [.int .i64 (i : Nat)] rfl rfl (World.news_of_block (cs := #[.int .i64 (i : Nat)]) (t := 3) (fr := (0, 0)) (heap_new wr.drew _)) (by simp [Value.oneCell']) (by unfold maxLen; omega) (by omega) (by simp; omega) ?_); intro v2 w2 ho2 hgr2 hnil2
              have HB2' : Hid (Below w.heap.size w w2) := (HBW.out.alloc hbase _).grown hgr2 (by simp; omega) (fun k hk => by cases hk)
              have HP2 : Hid (w2.ownsRow w.heap.size 3 1 v2 (0 + 1) ([] ++ [.int .i64 (i : Nat)])) := ho2
              clear ho2 hgr2 hnil2))
         refine ⟨⟨i + 1, _, by omega, by go_num, ?_, HRD.out, HB2'.out⟩, by simp [intOf]; omega⟩
         have e1 : 0 + 1 = i + 1 := by have := HIZ.out; omega
         have e3 : os = [] := List.length_eq_zero_iff.1 (by rw [HO.out.len, HIZ.out])
         have e2 : [] ++ [.int .i64 (i : Nat)] = ics (os.take 0 ++ i :: os.drop 0) := by rw [e3]; rfl
         have := HP2.out
         rw [e1, e2] at this
         exact this
     · have HG : Hid (w.heap.size ≤ g3) := hg3
       have HI : Hid (wr.ownsRow w.heap.size 3 1 (.slice (some ⟨g3, 0, none⟩) i c3) i (ics os) ∧ Below w.heap.size w wr) := ⟨hI.out.1, hI.out.2.2⟩
       have hg4w : Hid (g3 < wr.heap.size) := hg4
       clear hI hg3 hg4
       go_wp2
       go_loopw [5] (fun s5 wr => ∃ m : Nat, m ≤ i ∧ s5 = .int .i64 (m : Nat) ∧ Hid (wr.ownsRow w.heap.size 3 1 (.slice (some ⟨g3, 0, none⟩) i c3) i (ics os) ∧ Below w.heap.size w wr ∧ ∀ k, m ≤ k → k < i → 0 < hold (f (os.getD k 0)) (f i))) (fun s5 _ => (intOf s5).toNat)
       case atStart => exact ⟨i, Nat.le_refl _, rfl, HI.out.1, HI.out.2, fun k h1 h2 => by omega⟩
       case round =>
         clear HI
         obtain ⟨m, hm', rfl, hK⟩ := hrel
         have hmI : (m : Int) ≤ (i : Int) := by omega
         have hm0' : (0 : Int) ≤ (m : Int) := by omega
         by_cases hm0 : m = 0
         · have HM0 : Hid (m = 0) := hm0
           have hme : ((m : Nat) : Int) = 0 := by omega
           rw [hme]
           have b3 := box_cell hK.out.2.1 (HC.out i hlt).1
           have b4 := box_cell hK.out.2.1 (HC.out i hlt).2
           clear hm0 hme hmI hm0'
           go_wp2_with fail
           refine wp_region_held_drew (S := (fun W => W.cell? ⟨g, off + i * 2, none⟩ = some (.float .f64 (f i).1) ∧ W.cell? ⟨g, off + i * 2 + 1, none⟩ = some (.float .f64 (f i).2) ∧ Below wr.heap.size wr W)) (by kernel_rfl) ⟨b3, b4, (Below.refl _ _).drew⟩ (fun hS => ?_)
           refine takA (i := 0) (d := some 15) (v := .int .i64 0) hS ?_
           simp only [AP]
           refine takA (i := 1) (d := some 16) (v := .bool false) hS ?_
           simp only [AP]
           refine takA (i := 2) (d := some 17) (v := .bool false) hS ?_
           simp only [AP]
           refine skip_at 3 (d := some 18) (by kernel_rfl) (by kernel_rfl) (by kernel_rfl) (by kernel_rfl) (fun _ _ _ h => h) (by rfl) hS ?_
           simp only [AP]
           refine skip_at 4 (d := some 19) (by kernel_rfl) (by kernel_rfl) (by kernel_rfl) (by kernel_rfl) (fun _ _ _ h => h) (by rfl) hS ?_
           simp only [AP]
           refine skip_at 5 (d := some 20) (by kernel_rfl) (by kernel_rfl) (by kernel_rfl) (by kernel_rfl) (fun _ _ _ h => h) (by rfl) hS ?_
           simp only [AP]
           refine skip_at 6 (d := some 21) (by kernel_rfl) (by kernel_rfl) (by kernel_rfl) (by kernel_rfl) (fun _ _ _ h => h) (by rfl) hS ?_
           simp only [AP]
           refine skip_at 7 (d := some 22) (by kernel_rfl) (by kernel_rfl) (by kernel_rfl) (by kernel_rfl) (fun _ _ _ h => h) (by rfl) hS ?_
           simp only [AP]
           refine skip_at 8 (d := some 23) (by kernel_rfl) (by kernel_rfl) (by kernel_rfl) (by kernel_rfl) (fun _ _ _ h => h) (by rfl) hS ?_
           simp only [AP]
           refine skip_at 9 (d := some 24) (by kernel_rfl) (by kernel_rfl) (by kernel_rfl) (by kernel_rfl) (fun _ _ _ h => h) (by rfl) hS ?_
           simp only [AP]
           refine skip_at 10 (d := some 25) (by kernel_rfl) (by kernel_rfl) (by kernel_rfl) (by kernel_rfl) (fun _ _ _ h => h) (by rfl) hS ?_
           simp only [AP]
           refine skip_at 11 (d := some 26) (by kernel_rfl) (by kernel_rfl) (by kernel_rfl) (by kernel_rfl) (fun _ _ _ h => h) (by rfl) hS ?_
           simp only [AP]
           refine skip_at 12 (d := some 27) (by kernel_rfl) (by kernel_rfl) (by kernel_rfl) (by kernel_rfl) (fun _ _ _ h => h) (by rfl) hS ?_
           simp only [AP]
           refine skip_at 13 (d := some 28) (by kernel_rfl) (by kernel_rfl) (by kernel_rfl) (by kernel_rfl) (fun _ _ _ h => h) (by rfl) hS ?_
           simp only [AP]
           refine skip_at 14 (d := some 29) (by kernel_rfl) (by kernel_rfl) (by kernel_rfl) (by kernel_rfl) (fun _ _ _ h => h) (by rfl) hS ?_
           simp only [AP]
           refine skip_at 15 (d := some 30) (by kernel_rfl) (by kernel_rfl) (by kernel_rfl) (by kernel_rfl) (fun _ _ _ h => h) (by rfl) hS ?_
           simp only [AP]
           refine skip_at 16 (d := some 31) (by kernel_rfl) (by kernel_rfl) (by kernel_rfl) (by kernel_rfl) (fun _ _ _ h => h) (by rfl) hS ?_
           simp only [AP]
           refine takA (i := 17) (d := some 32) (v := .bool false) hS ?_
           simp only [AP]
           refine wpAnyH_done (by kernel_rfl) ?_ _
           clear hS b3 b4
           have HOW : Hid (wr.drew.ownsRow w.heap.size 3 1 (.slice (some ⟨g3, 0, none⟩) i c3) i (ics os)) := hK.out.1
           have HBW : Hid (Below w.heap.size w wr.drew) := hK.out.2.1.drew
           have HRD : Hid (Ord f (i + 1) (os.take 0 ++ i :: os.drop 0)) := ord_insert HO.out (by omega) (fun k h1 h2 => hK.out.2.2 k (by have := HM0.out; omega) h2) (Or.inl rfl)
           have HLT : Hid (g3 < wr.heap.size) := own_lt HOW.out
           have hbase : w.heap.size ≤ wr.heap.size := HBW.out.size
           have hlt1 : (os.take 0).length = 0 := by rw [List.length_take, HO.out.len]; omega
           have HL1 : Hid ((ics (os.take 0)).length = 0 * 1) := by unfold Hid ics; rw [List.length_map, hlt1, Nat.mul_one]
           have HL2 : Hid ((ics (os.drop 0)).length = (i - 0) * 1) := by unfold Hid ics; rw [List.length_map, List.length_drop, HO.out.len, Nat.mul_one]
           clear hlt1 hK
           go_wp2_with (first
             | (at_builtin; (refine wpList_append_own _ rfl _ _ _ rfl wr.heap.size 3 i0 _ 1 8 Tryz.underlying26 hif hz0 hz1 hz2 rfl (by omega) (.slice none 0 0) 0 [] rfl (World.ownsRow_nil _ _ _ _) ⟨g3, 0, none⟩ 0 c3 (ics (os.take 0)) rfl HL1.out (fun j u hj => by rw [add_at, Nat.zero_add]; exact own_at HOW.out (ics_take hj)) ics_one (by unfold maxLen; omega) (by omega) (Nat.le_refl _) ?_); intro v1 w1 ho1 hgr1 hnil1
                have HB1 : Hid (Below wr.heap.size wr.drew w1) := (Below.refl _ _).grown hgr1 (Nat.le_refl _) (fun k hk => by cases hk)
                have HO1 : Hid (w1.ownsRow w.heap.size 3 1 (.slice (some ⟨g3, 0, none⟩) i c3) i (ics os)) := own_later HOW.out HB1.out
                have HP1 : Hid (w1.ownsRow wr.heap.size 3 1 v1 (0 + 0) ([] ++ ics (os.take 0))) := ho1
                have hsz1 : wr.heap.size ≤ w1.heap.size := HB1.out.size
                clear ho1 hgr1 hnil1)
             | (at_builtin; (refine wpList_append_own _ rfl _ _ _ rfl wr.heap.size 3 i0 _ 1 8 Tryz.underlying26 hif hz0 hz1 hz2 rfl (by omega) v1 (0 + 0) ([] ++ ics (os.take 0)) rfl (HP1.out.alloc _) ⟨w1.heap.size, 0, none⟩ 1 1 [.int .i64 (i : Nat)] rfl rfl (World.news_of_block (cs := #[.int .i64 (i : Nat)]) (t := 3) (fr := (0, 0)) (heap_new w1 _)) (by simp [Value.oneCell']) (by unfold maxLen; omega) (by omega) (by simp; omega) ?_); intro v2 w2 ho2 hgr2 hnil2
                have HB2' : Hid (Below wr.heap.size wr.drew w2) := (HB1.out.alloc hsz1 _).grown hgr2 (by simp; omega) (fun k hk => (HP1.out.lt k hk).1)
                have HO2 : Hid (w2.ownsRow w.heap.size 3 1 (.slice (some ⟨g3, 0, none⟩) i c3) i (ics os)) := own_later HOW.out HB2'.out
                have HP2 : Hid (w2.ownsRow wr.heap.size 3 1 v2 (0 + 0 + 1) ([] ++ ics (os.take 0) ++ [.int .i64 (i : Nat)])) := ho2
                have hsz2 : wr.heap.size ≤ w2.heap.size := HB2'.out.size
                clear ho2 hgr2 hnil2)
             | (at_builtin; (refine wpList_append_own _ rfl _ _ _ rfl wr.heap.size 3 i0 _ 1 8 Tryz.underlying26 hif hz0 hz1 hz2 rfl (by omega) v2 (0 + 0 + 1) ([] ++ ics (os.take 0) ++ [.int .i64 (i : Nat)]) rfl HP2.out ⟨g3, 0, none⟩ i c3 (ics (os.drop 0)) rfl HL2.out (fun j u hj => drop_news HO2.out (Or.inr rfl) HL2.out hj) ics_one (by unfold maxLen; omega) (by omega) (by omega) ?_); intro v3 w3 ho3 hgr3 hnil3
                have HB3 : Hid (Below wr.heap.size wr.drew w3) := HB2'.out.grown hgr3 (by omega) (fun k hk => (HP2.out.lt k hk).1)
                have HP3 : Hid (w3.ownsRow wr.heap.size 3 1 v3 (0 + 0 + 1 + (i - 0)) ([] ++ ics (os.take 0) ++ [.int .i64 (i : Nat)] ++ ics (os.drop 0))) := ho3
                clear ho3 hgr3 hnil3))
           refine ⟨⟨i + 1, _, by omega, by go_num, ?_, HRD.out, below_step HBW.out HB3.out⟩, by simp [intOf]; omega⟩
           have e1 : 0 + 0 + 1 + (i - 0) = i + 1 := by omega
           have e2 : [] ++ ics (os.take 0) ++ [.int .i64 (i : Nat)] ++ ics (os.drop 0) = ics (os.take 0 ++ i :: os.drop 0) := by unfold ics; simp
           have := own_base HP3.out hbase
           rw [e1, e2] at this
           exact this
         · obtain ⟨y, hy⟩ : ∃ y, os.getD (m - 1) 0 = y := ⟨_, rfl⟩
           have hm1 : (1 : Int) ≤ (m : Int) := by omega
           have hm2 : (0 : Int) < (m : Int) := by omega
           have hm5 : 0 < m := by omega
           have hm3 : (m : Int) - 1 < (i : Int) := by omega
           have hm4 : IntKind.i64.wrap ((m : Int) - 1) = (m : Int) - 1 := by rw [IntKind.wrap_i64]; omega
           have hol : m - 1 < os.length := by rw [HO.out.len]; omega
           have hyn : y < n := by
             have h1 := HO.out.lt hol
             have e : os.getD (m - 1) 0 = os[m - 1] := by simp [List.getD, List.getElem?_eq_getElem hol]
             omega
           have hyn' : (y : Int) < (n : Int) := by omega
           have hy0 : (0 : Int) ≤ (y : Int) := by omega
           have a1 := own_at hK.out.1 (ics_at hol)
           rw [hy] at a1
           have HY : Hid (os.getD (m - 1) 0 = y) := hy
           have b1 := box_cell hK.out.2.1 (HC.out y hyn).1
           have b2 := box_cell hK.out.2.1 (HC.out y hyn).2
           have b3 := box_cell hK.out.2.1 (HC.out i hlt).1
           have b4 := box_cell hK.out.2.1 (HC.out i hlt).2
           clear hy hol
           by_cases hh : 0 < hold (f y) (f i)
           · have HIK : Hid ((Fin64 (f y).1 ∧ Fin64 (f y).2) ∧ (Fin64 (f i).1 ∧ Fin64 (f i).2) ∧ hold (f y) (f i) = 1) := ⟨HM.out.fin y hyn, HM.out.fin i hlt, by have := hold_vals (f y) (f i); omega⟩
             clear hh
             go_wp2_with fail
             refine wp_region_held_drew (S := (fun W => W.cell? ⟨g3, m - 1, none⟩ = some (.int .i64 (y : Int)) ∧ W.cell? ⟨g, off + y * 2, none⟩ = some (.float .f64 (f y).1) ∧ W.cell? ⟨g, off + y * 2 + 1, none⟩ = some (.float .f64 (f y).2) ∧ W.cell? ⟨g, off + i * 2, none⟩ = some (.float .f64 (f i).1) ∧ W.cell? ⟨g, off + i * 2 + 1, none⟩ = some (.float .f64 (f i).2) ∧ Below wr.heap.size wr W)) (by kernel_rfl) ⟨a1, b1, b2, b3, b4, (Below.refl _ _).drew⟩ (fun hS => ?_)
             refine takA (i := 0) (d := some 15) (v := .int .i64 (m : Int)) hS ?_
             simp only [AP]
             refine takA (i := 1) (d := some 16) (v := .bool true) hS ?_
             simp only [AP]
             refine takA (i := 2) (d := some 17) (v := .bool true) hS ?_
             simp only [AP]
             refine takA (i := 3) (d := some 18) (v := .slice (some ⟨g, off, none⟩) n c) hS ?_
             simp only [AP]
             refine takA (i := 4) (d := some 19) (v := .slice (some ⟨g3, 0, none⟩) i c3) hS ?_
             simp only [AP]
             refine takA (i := 5) (d := some 20) (v := .int .i64 (m : Int)) hS ?_
             simp only [AP]
             refine takA (i := 6) (d := some 21) (v := .int .i64 ((m : Int) - 1 : Int)) hS ?_
             simp only [AP]
             refine takA (i := 7) (d := some 22) (v := .pointer (some ⟨g3, m - 1, none⟩)) hS ?_
             simp only [AP]
             refine takA (i := 8) (d := some 23) (v := .int .i64 (y : Int)) hS ?_
             simp only [AP]
             refine takA (i := 9) (d := some 24) (v := .pointer (some ⟨g, off + y * 2, none⟩)) hS ?_
             simp only [AP]
             refine takA (i := 10) (d := some 25) (v := .agg #[.float .f64 (f y).1, .float .f64 (f y).2]) hS ?_
             simp only [AP]
             refine takA (i := 11) (d := some 26) (v := .slice (some ⟨g, off, none⟩) n c) hS ?_
             simp only [AP]
             refine takA (i := 12) (d := some 27) (v := .int .i64 (i : Int)) hS ?_
             simp only [AP]
             refine takA (i := 13) (d := some 28) (v := .pointer (some ⟨g, off + i * 2, none⟩)) hS ?_
             simp only [AP]
             refine takA (i := 14) (d := some 29) (v := .agg #[.float .f64 (f i).1, .float .f64 (f i).2]) hS ?_
             simp only [AP]
             refine calA 15 fun KF hK => ?_
             go_simp
             refine (holdR_any (f y) (f i) HIK.out.1 HIK.out.2.1 _).mono ?_
             rintro e wx ⟨rfl, hbx⟩
             rw [HIK.out.2.2]
             go_wp2_with fail
             refine hK.out _ _ (kp5 hbx hS) ?_
             clear hS hbx
             intro hS
             clear hK KF
             try simp only [AP]
             refine takA (i := 16) (d := some 31) (v := .bool true) hS ?_
             simp only [AP]
             refine takA (i := 17) (d := some 32) (v := .bool true) hS ?_
             simp only [AP]
             refine wpAnyH_done (by kernel_rfl) ?_ _
             have HB2 : Hid (Below wr.heap.size wr _) := hS.2.2.2.2.2
             clear hS a1 b1 b2 b3 b4
             go_wp2
             refine ⟨⟨m - 1, by omega, by go_num, own_later hK.out.1 HB2.out, below_step hK.out.2.1 HB2.out, fun k h1 h2 => ?_⟩, by simp [intOf]; omega⟩
             by_cases e : k = m - 1
             · rw [e, HY.out]; have := HIK.out.2.2; omega
             · exact hK.out.2.2 k (by omega) h2
           · obtain ⟨cz, hcz⟩ : ∃ cz, hold (f y) (f i) = cz := ⟨_, rfl⟩
             have hcz0 : ¬ 0 < cz := by rw [← hcz]; exact hh
             have HIK : Hid ((Fin64 (f y).1 ∧ Fin64 (f y).2) ∧ (Fin64 (f i).1 ∧ Fin64 (f i).2) ∧ hold (f y) (f i) = cz) := ⟨HM.out.fin y hyn, HM.out.fin i hlt, hcz⟩
             clear hh hcz
             go_wp2_with fail
             refine wp_region_held_drew (S := (fun W => W.cell? ⟨g3, m - 1, none⟩ = some (.int .i64 (y : Int)) ∧ W.cell? ⟨g, off + y * 2, none⟩ = some (.float .f64 (f y).1) ∧ W.cell? ⟨g, off + y * 2 + 1, none⟩ = some (.float .f64 (f y).2) ∧ W.cell? ⟨g, off + i * 2, none⟩ = some (.float .f64 (f i).1) ∧ W.cell? ⟨g, off + i * 2 + 1, none⟩ = some (.float .f64 (f i).2) ∧ Below wr.heap.size wr W)) (by kernel_rfl) ⟨a1, b1, b2, b3, b4, (Below.refl _ _).drew⟩ (fun hS => ?_)
             refine takA (i := 0) (d := some 15) (v := .int .i64 (m : Int)) hS ?_
             simp only [AP]
             refine takA (i := 1) (d := some 16) (v := .bool true) hS ?_
             simp only [AP]
             refine takA (i := 2) (d := some 17) (v := .bool true) hS ?_
             simp only [AP]
             refine takA (i := 3) (d := some 18) (v := .slice (some ⟨g, off, none⟩) n c) hS ?_
             simp only [AP]
             refine takA (i := 4) (d := some 19) (v := .slice (some ⟨g3, 0, none⟩) i c3) hS ?_
             simp only [AP]
             refine takA (i := 5) (d := some 20) (v := .int .i64 (m : Int)) hS ?_
             simp only [AP]
             refine takA (i := 6) (d := some 21) (v := .int .i64 ((m : Int) - 1 : Int)) hS ?_
             simp only [AP]
             refine takA (i := 7) (d := some 22) (v := .pointer (some ⟨g3, m - 1, none⟩)) hS ?_
             simp only [AP]
             refine takA (i := 8) (d := some 23) (v := .int .i64 (y : Int)) hS ?_
             simp only [AP]
             refine takA (i := 9) (d := some 24) (v := .pointer (some ⟨g, off + y * 2, none⟩)) hS ?_
             simp only [AP]
             refine takA (i := 10) (d := some 25) (v := .agg #[.float .f64 (f y).1, .float .f64 (f y).2]) hS ?_
             simp only [AP]
             refine takA (i := 11) (d := some 26) (v := .slice (some ⟨g, off, none⟩) n c) hS ?_
             simp only [AP]
             refine takA (i := 12) (d := some 27) (v := .int .i64 (i : Int)) hS ?_
             simp only [AP]
             refine takA (i := 13) (d := some 28) (v := .pointer (some ⟨g, off + i * 2, none⟩)) hS ?_
             simp only [AP]
             refine takA (i := 14) (d := some 29) (v := .agg #[.float .f64 (f i).1, .float .f64 (f i).2]) hS ?_
             simp only [AP]
             refine calA 15 fun KF hK => ?_
             go_simp
             refine (holdR_any (f y) (f i) HIK.out.1 HIK.out.2.1 _).mono ?_
             rintro e wx ⟨rfl, hbx⟩
             rw [HIK.out.2.2]
             go_wp2_with fail
             refine hK.out _ _ (kp5 hbx hS) ?_
             clear hS hbx
             intro hS
             clear hK KF
             try simp only [AP]
             refine takA (i := 16) (d := some 31) (v := .bool false) hS ?_
             simp only [AP]
             refine takA (i := 17) (d := some 32) (v := .bool false) hS ?_
             simp only [AP]
             refine wpAnyH_done (by kernel_rfl) ?_ _
             have HB2 : Hid (Below wr.heap.size wr _) := hS.2.2.2.2.2
             clear hS a1 b1 b2 b3 b4
             have hcz1 : cz ≤ 0 := by omega
             have HOW : Hid (wx.ownsRow w.heap.size 3 1 (.slice (some ⟨g3, 0, none⟩) i c3) i (ics os)) := own_later hK.out.1 HB2.out
             have HBW : Hid (Below w.heap.size w wx) := below_step hK.out.2.1 HB2.out
             have HRD : Hid (Ord f (i + 1) (os.take m ++ i :: os.drop m)) := ord_insert HO.out (by omega) (fun k h1 h2 => hK.out.2.2 k h1 h2) (Or.inr (by rw [HY.out, HIK.out.2.2]; exact hcz1))
             have HLT : Hid (g3 < wx.heap.size) := own_lt HOW.out
             have hbase : w.heap.size ≤ wx.heap.size := HBW.out.size
             have hlt1 : (os.take m).length = m := by rw [List.length_take, HO.out.len]; omega
             have HL1 : Hid ((ics (os.take m)).length = m * 1) := by unfold Hid ics; rw [List.length_map, hlt1, Nat.mul_one]
             have HL2 : Hid ((ics (os.drop m)).length = (i - m) * 1) := by unfold Hid ics; rw [List.length_map, List.length_drop, HO.out.len, Nat.mul_one]
             clear hlt1 hK
             obtain ⟨ad, hao, HAD⟩ : ∃ ad : Addr, (if c3 = m then some (⟨g3, 0, none⟩ : Addr) else some ⟨g3, m, none⟩) = some ad ∧ Hid (i - m = 0 ∨ ad = ⟨g3, m, none⟩) := by
               by_cases e : c3 = m
               · exact ⟨_, by rw [if_pos e], Or.inl (by omega)⟩
               · exact ⟨_, by rw [if_neg e], Or.inr rfl⟩
             go_wp2_with (first
               | (at_builtin; (refine wpList_append_own _ rfl _ _ _ rfl wx.heap.size 3 i0 _ 1 8 Tryz.underlying26 hif hz0 hz1 hz2 rfl (by omega) (.slice none 0 0) 0 [] rfl (World.ownsRow_nil _ _ _ _) ⟨g3, 0, none⟩ m c3 (ics (os.take m)) rfl HL1.out (fun j u hj => by rw [add_at, Nat.zero_add]; exact own_at HOW.out (ics_take hj)) ics_one (by unfold maxLen; omega) (by omega) (Nat.le_refl _) ?_); intro v1 w1 ho1 hgr1 hnil1
                  have HB1 : Hid (Below wx.heap.size wx w1) := (Below.refl _ _).grown hgr1 (Nat.le_refl _) (fun k hk => by cases hk)
                  have HO1 : Hid (w1.ownsRow w.heap.size 3 1 (.slice (some ⟨g3, 0, none⟩) i c3) i (ics os)) := own_later HOW.out HB1.out
                  have HP1 : Hid (w1.ownsRow wx.heap.size 3 1 v1 (0 + m) ([] ++ ics (os.take m))) := ho1
                  have hsz1 : wx.heap.size ≤ w1.heap.size := HB1.out.size
                  clear ho1 hgr1 hnil1)
               | (at_builtin; (refine wpList_append_own _ rfl _ _ _ rfl wx.heap.size 3 i0 _ 1 8 Tryz.underlying26 hif hz0 hz1 hz2 rfl (by omega) v1 (0 + m) ([] ++ ics (os.take m)) rfl (HP1.out.alloc _) ⟨w1.heap.size, 0, none⟩ 1 1 [.int .i64 (i : Nat)] rfl rfl (World.news_of_block (cs := #[.int .i64 (i : Nat)]) (t := 3) (fr := (0, 0)) (heap_new w1 _)) (by simp [Value.oneCell']) (by unfold maxLen; omega) (by omega) (by simp; omega) ?_); intro v2 w2 ho2 hgr2 hnil2
                  have HB2' : Hid (Below wx.heap.size wx w2) := (HB1.out.alloc hsz1 _).grown hgr2 (by simp; omega) (fun k hk => (HP1.out.lt k hk).1)
                  have HO2 : Hid (w2.ownsRow w.heap.size 3 1 (.slice (some ⟨g3, 0, none⟩) i c3) i (ics os)) := own_later HOW.out HB2'.out
                  have HP2 : Hid (w2.ownsRow wx.heap.size 3 1 v2 (0 + m + 1) ([] ++ ics (os.take m) ++ [.int .i64 (i : Nat)])) := ho2
                  have hsz2 : wx.heap.size ≤ w2.heap.size := HB2'.out.size
                  clear ho2 hgr2 hnil2)
               | (at_builtin; (refine wpList_append_own _ rfl _ _ _ rfl wx.heap.size 3 i0 _ 1 8 Tryz.underlying26 hif hz0 hz1 hz2 rfl (by omega) v2 (0 + m + 1) ([] ++ ics (os.take m) ++ [.int .i64 (i : Nat)]) rfl HP2.out ad (i - m) (c3 - m) (ics (os.drop m)) rfl HL2.out (fun j u hj => drop_news HO2.out HAD.out HL2.out hj) ics_one (by unfold maxLen; omega) (by omega) (by omega) ?_); intro v3 w3 ho3 hgr3 hnil3
                  have HB3 : Hid (Below wx.heap.size wx w3) := HB2'.out.grown hgr3 (by omega) (fun k hk => (HP2.out.lt k hk).1)
                  have HP3 : Hid (w3.ownsRow wx.heap.size 3 1 v3 (0 + m + 1 + (i - m)) ([] ++ ics (os.take m) ++ [.int .i64 (i : Nat)] ++ ics (os.drop m))) := ho3
                  clear ho3 hgr3 hnil3))
             refine ⟨⟨i + 1, _, by omega, by go_num, ?_, HRD.out, below_step HBW.out HB3.out⟩, by simp [intOf]; omega⟩
             have e1 : 0 + m + 1 + (i - m) = i + 1 := by omega
             have e2 : [] ++ ics (os.take m) ++ [.int .i64 (i : Nat)] ++ ics (os.drop m) = ics (os.take m ++ i :: os.drop m) := by unfold ics; simp
             have := own_base HP3.out hbase
             rw [e1, e2] at this
             exact this
   · obtain rfl : n = i := by omega
     have hltb : decide ((n : Int) < (n : Int)) = false := decide_eq_false (by omega)
     go_wp2
     go_ret
     exact ⟨⟨_, _, rfl, hI.out.2.1, hI.out.1⟩, hI.out.2.2⟩
end

/- The document's side of layer 7: Unlike. -/
section
open Go.RowKit Go.Shelf Go.Sort Go.Lib
attribute [local go_sem ↓] Go.wp_at_zero Go.wp_at_succ
attribute [local go_sem] run_store_float
def ownO (f : Nat → Nat × Nat) (os : List Nat) : List Nat := os.filter fun i => decide (tw f i = i)
theorem ownO_step {f : Nat → Nat × Nat} {os : List Nat} {i x : Nat} (hi : i < os.length) (hx : os.getD i 0 = x) : ownO f (os.take (i + 1)) = ownO f (os.take i) ++ (if tw f x = x then [x] else []) := by
 unfold ownO
 have e : os[i] = x := by rw [← hx]; simp [List.getD, List.getElem?_eq_getElem hi]
 rw [List.take_succ_eq_append_getElem hi, List.filter_append, e]
 by_cases h : tw f x = x
 · rw [if_pos h]; simp [h]
 · rw [if_neg h]; simp [h]
theorem ownO_len (f : Nat → Nat × Nat) (os : List Nat) (i : Nat) : (ownO f (os.take i)).length ≤ i :=
 Nat.le_trans (List.length_filter_le _ _) (by rw [List.length_take]; omega)
set_option maxRecDepth 100000 in
set_option maxHeartbeats 4000000 in
theorem refUnlike_any (s : Value) (n : Nat) (f : Nat → Nat × Nat) (w : World) (h : Ps w s n f) (hM : MayL n f) : Calls Tryz.prog 13 #[s] w fun e w' => (∃ v os, e = .returned v ∧ Ord f n os ∧ w'.ownsRow w.heap.size 3 1 v (ownO f os).length (ics (ownO f os))) ∧ Below w.heap.size w w' := by
 have HF : Hid (Ps w s n f) := h
 have HM : Hid (MayL n f) := hM
 have hn : n ≤ 1048576 := hM.1
 obtain ⟨a, c, rfl, hc, hm⟩ := h.shape
 clear h hM
 obtain ⟨i0, hif, hz0, hz1, hz2⟩ := info_parts (show (Tryz.prog.info? 3).map (fun i => (i.zero, i.size, i.bytes)) = some (some (.int .i64 0), 1, 8) by kernel_rfl)
 go_enter Tryz.func13, Tryz.ntmps13
 go_wp2_with fail
 refine (refOrder_any _ n f w HF.out HM.out).mono ?_
 rintro e w1 ⟨⟨v3, os, rfl, ho, hr⟩, hb⟩
 have HB1 : Hid (Below w.heap.size w w1) := hb
 have HO : Hid (Ord f n os) := ho
 have HI3 : Hid (Iz w1 v3 os) := iz_own ho.len hr
 have hol : Hid (os.length = n) := ho.len
 clear hb ho hr
 go_wp2_with fail
 refine (refTwins_any _ n f w1 (HF.out.later HB1.out) HM.out).mono ?_
 rintro e w2 ⟨⟨v4, rfl, hr⟩, hb⟩
 have HB2 : Hid (Below w.heap.size w w2) := below_step HB1.out hb
 have HI3 : Hid (Iz w2 v3 os) := HI3.out.later hb
 have HI4 : Hid (Iz w2 v4 (tws f n)) := iz_own (tws_len f n) hr
 clear hb hr HB1
 obtain ⟨a3, c3, rfl, k3⟩ := HI3.out
 obtain ⟨a4, c4, rfl, k4⟩ := HI4.out
 rw [hol.out] at k3
 rw [hol.out]
 rw [tws_len] at k4
 rw [tws_len]
 have HK : Hid ((os = [] ∨ ∃ g, a3 = some ⟨g, 0, none⟩ ∧ ∀ k, k < n → w2.cell? ⟨g, k, none⟩ = some (.int .i64 (os.getD k 0 : Nat))) ∧ (tws f n = [] ∨ ∃ g, a4 = some ⟨g, 0, none⟩ ∧ ∀ k, k < n → w2.cell? ⟨g, k, none⟩ = some (.int .i64 ((tws f n).getD k 0 : Nat)))) := ⟨k3, k4⟩
 clear k3 k4 HI3 HI4
 go_wp2
 go_loopw [5, 6] (fun s5 s6 wr => ∃ i : Nat, i ≤ n ∧ s6 = .int .i64 (i : Nat) ∧ Hid (wr.ownsRow w2.heap.size 3 1 s5 (ownO f (os.take i)).length (ics (ownO f (os.take i))) ∧ Below w2.heap.size w2 wr)) (fun _ s6 _ => n - (intOf s6).toNat)
 case atStart => exact ⟨0, Nat.zero_le _, rfl, World.ownsRow_nil _ _ _ _, Below.refl _ _⟩
 case round =>
   obtain ⟨i, hi, rfl, hI⟩ := hrel
   by_cases hlt : i < n
   · have hlt' : (i : Int) < (n : Int) := by omega
     have hi0 : (0 : Int) ≤ (i : Int) := by omega
     have hil : i < os.length := by rw [hol.out]; exact hlt
     obtain ⟨g3, rfl, q3⟩ := HK.out.1.resolve_left (fun h => by rw [h] at hil; simp at hil)
     obtain ⟨g4, rfl, q4⟩ := HK.out.2.resolve_left (fun h => by have := tws_len f n; rw [h] at this; simp at this; omega)
     obtain ⟨x, hx⟩ : ∃ x, os.getD i 0 = x := ⟨_, rfl⟩
     have hxn : x < n := by
       have h1 := HO.out.lt hil
       have e : os.getD i 0 = os[i] := by simp [List.getD, List.getElem?_eq_getElem hil]
       omega
     have hxn' : (x : Int) < (n : Int) := by omega
     have hx0 : (0 : Int) ≤ (x : Int) := by omega
     have HST := ownO_step (f := f) hil hx
     have a1 := box_cell hI.out.2 (q3 i hlt)
     have a2 := box_cell hI.out.2 (q4 x hxn)
     rw [hx] at a1
     rw [tws_at f hxn] at a2
     clear q3 q4 hil hx
     obtain ⟨us, hus⟩ : ∃ us, ownO f (os.take i) = us := ⟨_, rfl⟩
     have hul : us.length ≤ i := by rw [← hus]; exact ownO_len f os i
     rw [hus] at HST
     have HI : Hid (wr.ownsRow w2.heap.size 3 1 u5 us.length (ics us) ∧ Below w2.heap.size w2 wr) := by rw [← hus]; exact hI.out
     have hbase : w2.heap.size ≤ wr.heap.size := hI.out.2.size
     clear hI hus
     by_cases hown : tw f x = x
     · rw [if_pos hown] at HST
       rw [hown] at a2
       have HS : Hid (ownO f (os.take (i + 1)) = us ++ [x]) := HST
       clear hown HST
       go_wp2_with fail
       refine wp_region_held_drew (S := (fun W => W.cell? ⟨g3, i, none⟩ = some (.int .i64 (x : Int)) ∧ W.cell? ⟨g4, x, none⟩ = some (.int .i64 (x : Int)) ∧ Below wr.heap.size wr W)) (by kernel_rfl) ⟨a1, a2, (Below.refl _ _).drew⟩ (fun hS => ?_)
       refine takA (i := 0) (d := some 17) (v := .slice (some ⟨g4, 0, none⟩) n c4) hS ?_
       simp only [AP]
       refine takA (i := 1) (d := some 18) (v := .slice (some ⟨g3, 0, none⟩) n c3) hS ?_
       simp only [AP]
       refine takA (i := 2) (d := some 19) (v := .int .i64 (i : Int)) hS ?_
       simp only [AP]
       refine takA (i := 3) (d := some 20) (v := .pointer (some ⟨g3, i, none⟩)) hS ?_
       simp only [AP]
       refine takA (i := 4) (d := some 21) (v := .int .i64 (x : Int)) hS ?_
       simp only [AP]
       refine takA (i := 5) (d := some 22) (v := .pointer (some ⟨g4, x, none⟩)) hS ?_
       simp only [AP]
       refine takA (i := 6) (d := some 23) (v := .int .i64 (x : Int)) hS ?_
       simp only [AP]
       refine takA (i := 7) (d := some 24) (v := .slice (some ⟨g3, 0, none⟩) n c3) hS ?_
       simp only [AP]
       refine takA (i := 8) (d := some 25) (v := .int .i64 (i : Int)) hS ?_
       simp only [AP]
       refine takA (i := 9) (d := some 26) (v := .pointer (some ⟨g3, i, none⟩)) hS ?_
       simp only [AP]
       refine takA (i := 10) (d := some 27) (v := .int .i64 (x : Int)) hS ?_
       simp only [AP]
       refine takA (i := 11) (d := some 28) (v := .bool true) hS ?_
       simp only [AP]
       refine wpAnyH_done (by kernel_rfl) ?_ _
       clear hS
       have HR : wr.drew.ownsRow w2.heap.size 3 1 u5 us.length (ics us) := HI.out.1
       have HBD : Hid (Below w2.heap.size w2 wr.drew) := HI.out.2.drew
       go_wp2_with (at_builtin; (refine wpList_append_own _ rfl _ _ _ rfl w2.heap.size 3 i0 _ 1 8 Tryz.underlying26 hif hz0 hz1 hz2 rfl (by omega) _ us.length _ rfl (HR.alloc _) ⟨wr.heap.size, 0, none⟩ 1 1 [.int .i64 (x : Nat)] rfl rfl (World.news_of_block (cs := #[.int .i64 (x : Nat)]) (t := 3) (fr := (0, 0)) (heap_new wr.drew _)) (by simp [Value.oneCell']) (by unfold maxLen; omega) (by omega) (by simp; omega) ?_); intro v' w3 hown1 hgrow hnil)
       refine ⟨⟨i + 1, by omega, by go_num, ?_, ?_⟩, by simp [intOf]; omega⟩
       · rw [HS.out, List.length_append]
         have e2 : ics (us ++ [x]) = ics us ++ [.int .i64 (x : Nat)] := by unfold ics; simp
         rw [e2]
         exact hown1
       · exact (HBD.out.alloc hbase _).grown hgrow (by simp; omega) (fun k hk => (HR.lt k hk).1)
     · rw [if_neg hown, List.append_nil] at HST
       obtain ⟨tx, htx⟩ : ∃ tx, tw f x = tx := ⟨_, rfl⟩
       rw [htx] at a2 hown
       have hown' : ¬ (tx : Int) = (x : Int) := by omega
       have hownb : ((tx : Int) == (x : Int)) = false := by simp; omega
       have HS : Hid (ownO f (os.take (i + 1)) = us) := HST
       clear HST htx
       go_wp2_with fail
       refine wp_region_held_drew (S := (fun W => W.cell? ⟨g3, i, none⟩ = some (.int .i64 (x : Int)) ∧ W.cell? ⟨g4, x, none⟩ = some (.int .i64 (tx : Int)) ∧ Below wr.heap.size wr W)) (by kernel_rfl) ⟨a1, a2, (Below.refl _ _).drew⟩ (fun hS => ?_)
       refine takA (i := 0) (d := some 17) (v := .slice (some ⟨g4, 0, none⟩) n c4) hS ?_
       simp only [AP]
       refine takA (i := 1) (d := some 18) (v := .slice (some ⟨g3, 0, none⟩) n c3) hS ?_
       simp only [AP]
       refine takA (i := 2) (d := some 19) (v := .int .i64 (i : Int)) hS ?_
       simp only [AP]
       refine takA (i := 3) (d := some 20) (v := .pointer (some ⟨g3, i, none⟩)) hS ?_
       simp only [AP]
       refine takA (i := 4) (d := some 21) (v := .int .i64 (x : Int)) hS ?_
       simp only [AP]
       refine takA (i := 5) (d := some 22) (v := .pointer (some ⟨g4, x, none⟩)) hS ?_
       simp only [AP]
       refine takA (i := 6) (d := some 23) (v := .int .i64 (tx : Int)) hS ?_
       simp only [AP]
       refine takA (i := 7) (d := some 24) (v := .slice (some ⟨g3, 0, none⟩) n c3) hS ?_
       simp only [AP]
       refine takA (i := 8) (d := some 25) (v := .int .i64 (i : Int)) hS ?_
       simp only [AP]
       refine takA (i := 9) (d := some 26) (v := .pointer (some ⟨g3, i, none⟩)) hS ?_
       simp only [AP]
       refine takA (i := 10) (d := some 27) (v := .int .i64 (x : Int)) hS ?_
       simp only [AP]
       refine takA (i := 11) (d := some 28) (v := .bool false) hS ?_
       simp only [AP]
       refine wpAnyH_done (by kernel_rfl) ?_ _
       clear hS
       go_wp2
       refine ⟨⟨i + 1, by omega, by go_num, ?_, HI.out.2.drew⟩, by simp [intOf]; omega⟩
       rw [HS.out]
       exact HI.out.1
   · obtain rfl : n = i := by omega
     have hltb : decide ((n : Int) < (n : Int)) = false := decide_eq_false (by omega)
     go_wp2
     go_ret
     have e : os.take n = os := List.take_of_length_le (by rw [hol.out]; omega)
     have h1 := hI.out.1
     rw [e] at h1
     exact ⟨⟨_, os, rfl, HO.out, own_base h1 HB2.out.size⟩, below_step HB2.out hI.out.2⟩
end
end Go.Proofs.YtgpbfhennineiaaGreat
