/- Own texts, put together: Efc Efd. -/
import Derived.Test.YtgoadpnoagaflaaGreatDoorQ35
namespace Go.Proofs.YtgoadpnoagaflaaGreatDoor
/- Package elefile: texts. -/
section
set_option maxRecDepth 100000
open Go.RowKit Go.Shelf Go.Lib
attribute [local go_sem] run_store_str
def TxR (w w' : World) (B : Nat) (ws : List Bs) (count : Nat) (e : Ending) : Prop :=
 ∃ v, e = .returned (.tuple #[v, .bool (decide (ws.length = count))]) ∧ Ob B w w' ∧ (ws.length = count → w'.ownsRow w.heap.size 9 1 v count (svs ws))
set_option maxHeartbeats 8000000 in
theorem texts_anyE {N : Nat} (B : Nat) (ws : List Bs) (count : Nat) (w : World) (h : Tr N w B ws) (hc : count ≤ 1000) :
   Calls Tryz.prog 39 #[.func (.func 58) #[] #[.pointer (some ⟨B, 0, none⟩)], .int .i64 (count : Nat)] w fun e w' => TxR w w' B ws count e := by
 obtain ⟨cs, hcs, hmk⟩ := makeS_ex count hc
 obtain ⟨i0, hi0, hz0, hz1, hz2⟩ := info_parts (show (Tryz.prog.info? 9).map (fun i => (i.zero, i.size, i.bytes)) = some (some (.string ⟨#[]⟩), 1, 16) by kernel_rfl)
 have hBl := h.lt
 obtain ⟨W1, hW1⟩ : ∃ W1, w.alloc (.cells cs 9) = W1 := ⟨_, rfl⟩
 have b1 : Below w.heap.size w W1 := by rw [← hW1]; exact (Below.refl _ w).alloc (Nat.le_refl _) _
 have H1 : Hid (Tr N W1 B ws ∧ W1.ownsRow w.heap.size 9 1 (.slice (some ⟨w.heap.size, 0, none⟩) 0 count) 0 [] ∧ Ob B w W1) := Lib.hid ⟨h.later b1, by rw [← hW1]; exact own_room hcs (by omega), Ob.of_below b1⟩
 have hc' : (count : Int) ≤ 1000 := by omega
 clear h b1 hcs
 go_enter Tryz.func39, Tryz.ntmps39
 go_wp2_with fail
 try rw [hW1]
 clear hW1 hmk
 go_loopw [6, 14] (fun s6 s14 wr => ∃ (j : Nat) (nv : Value), s14 = .int .i64 (j : Nat) ∧ s6 = nv ∧ j ≤ count ∧ Hid (Tr N wr B (ws.drop j) ∧ j ≤ ws.length ∧ wr.ownsRow w.heap.size 9 1 nv j (svs (ws.take j)) ∧ Ob B w wr)) (fun _ s14 _ => count - (RowKit.intOf s14).toNat)
 case atStart => exact ⟨0, _, rfl, rfl, by omega, H1.out.1, by omega, H1.out.2.1, H1.out.2.2⟩
 case round =>
   obtain ⟨j, nv, rfl, rfl, hj, hI⟩ := hrel
   have HNx := Lib.hid (nextE_any B (ws.drop j) wr hI.out.1)
   obtain ⟨d, hd⟩ : ∃ d, Hid (ws.drop j = d) := ⟨_, Lib.hid rfl⟩
   rw [hd.out] at HNx
   by_cases hlt : j < count
   · have hlt' : (j : Int) < (count : Int) := by omega
     have HI0 := Lib.hid hI.out.2
     clear hI
     rcases d with _ | ⟨x, r⟩
     · have HBad : Hid (decide (ws.length = count) = false ∧ ws.length ≠ count) := Lib.hid (by
         have : ws.length ≤ j := by
           have := congrArg List.length hd.out
           rw [List.length_drop] at this; simp at this; omega
         have h2 : ws.length ≠ count := by omega
         exact ⟨by simpa using h2, h2⟩)
       try dsimp only [List.headD, List.isEmpty] at HNx
       go_wp2_with fail
       refine HNx.out.mono ?_
       rintro e W2 ⟨rfl, hT2, ho2⟩
       have H2 := Lib.hid (And.intro hT2 (HI0.out.2.2.trans ho2))
       clear hT2 ho2 HNx
       go_wp2
       go_ret2
       exact ⟨_, by rw [HBad.out.1]; rfl, H2.out.2, fun h => absurd h HBad.out.2⟩
     · have HD := Lib.hid (drop_headE hd.out)
       try dsimp only [List.headD, List.isEmpty, List.tail] at HNx
       go_wp2_with fail
       refine HNx.out.mono ?_
       rintro e W2 ⟨rfl, hT2, ho2⟩
       have H2 := Lib.hid (And.intro hT2 (And.intro (own_obE HI0.out.2.1 ho2 hBl) (HI0.out.2.2.trans ho2)))
       clear hT2 ho2 HNx
       have hWs : Hid (w.heap.size ≤ W2.heap.size) := Lib.hid H2.out.2.2.size
       go_wp2_with (at_builtin; refine wpList_append_own _ rfl _ _ 48 rfl w.heap.size 9 i0 (.string ⟨#[]⟩) 1 16 Tryz.underlying48 hi0 hz0 hz1 hz2 rfl (by decide) u6 j (svs (ws.take j)) rfl (World.ownsRow.alloc H2.out.2.1 _) ⟨W2.heap.size, 0, none⟩ 1 1 [sv x] rfl rfl (cell_one_new _ _ _) (by simp [Value.oneCell']) (by unfold maxLen; omega) (by omega) (by have := hWs.out; simp; omega) ?_; intro v' W4 hown hgrow _; have H4 := Lib.hid (And.intro (H2.out.1.grew H2.out.2.1 hBl hgrow) (And.intro hown (H2.out.2.2.grew H2.out.2.1 hgrow))); clear hown hgrow)
       refine ⟨⟨j + 1, _, by go_num, rfl, by omega, ?_, HD.out.1, ?_, H4.out.2.2⟩, by simp [RowKit.intOf]; omega⟩
       · rw [HD.out.2.2.1]; exact H4.out.1
       · rw [HD.out.2.1]
         have := H4.out.2.1
         simpa [svs] using this
   · obtain rfl : j = count := by omega
     have HI0 := Lib.hid hI.out.2
     obtain ⟨na, nc, rfl⟩ := own_sliceE hI.out.2.2.1
     clear hI
     rcases d with _ | ⟨x, r⟩
     · have hln : Hid (ws.length = j) := Lib.hid (by
         have := congrArg List.length hd.out
         rw [List.length_drop] at this; simp at this
         have := HI0.out.1; omega)
       try dsimp only [List.headD, List.isEmpty] at HNx
       go_wp2_with fail
       refine HNx.out.mono ?_
       rintro e W2 ⟨rfl, hT2, ho2⟩
       have H2 := Lib.hid (And.intro (own_obE HI0.out.2.1 ho2 hBl) (HI0.out.2.2.trans ho2))
       clear hT2 ho2 HNx
       go_wp2
       go_ret2
       refine ⟨_, by rw [decide_eq_true hln.out]; rfl, H2.out.2, fun _ => ?_⟩
       have := H2.out.1
       rwa [List.take_of_length_le (by rw [hln.out]; omega)] at this
     · have hln : Hid (ws.length ≠ j) := Lib.hid (by have := (drop_headE hd.out).1; omega)
       try dsimp only [List.headD, List.isEmpty, List.tail] at HNx
       go_wp2_with fail
       refine HNx.out.mono ?_
       rintro e W2 ⟨rfl, hT2, ho2⟩
       have H2 := Lib.hid (HI0.out.2.2.trans ho2)
       clear hT2 ho2 HNx
       go_wp2
       go_ret2
       exact ⟨_, by rw [decide_eq_false hln.out]; rfl, H2.out, fun h => absurd h hln.out⟩
end

/- Package elefile: head. -/
section
set_option maxRecDepth 100000
open Go.RowKit Go.Shelf Go.Lib
abbrev fe4 : Array Value := #[.int .i64 0, .int .i64 0, .int .i64 0, .slice none 0 0]
theorem CB.cells4E {W : World} {B t : Nat} {a b c d : Value} (h : CB W B #[a, b, c, d] t) : W.cell? ⟨B, 0, none⟩ = some a ∧ W.cell? ⟨B, 1, none⟩ = some b ∧ W.cell? ⟨B, 2, none⟩ = some c ∧ W.cell? ⟨B, 3, none⟩ = some d := ⟨h.cell 0 (by simp), h.cell 1 (by simp), h.cell 2 (by simp), h.cell 3 (by simp)⟩
theorem set4E {W : World} {B t : Nat} {a b c d : Value} (h : CB W B #[a, b, c, d] t) (a' b' c' d' : Value) : CB ((((W.setCell ⟨B, 0, none⟩ a').setCell ⟨B, 1, none⟩ b').setCell ⟨B, 2, none⟩ c').setCell ⟨B, 3, none⟩ d') B #[a', b', c', d'] t := by
 have := (((h.set 0 a').set 1 b').set 2 c').set 3 d'
 simpa using this
theorem heP_no {ws : List Bs} (h : ws.length ≠ 3 ∨ intsE (ws.take 3) = none) : heP ws = none := by
 unfold heP
 split
 · rename_i a b c
   split
   · rename_i n t k h1 h2 h3
     rcases h with h | h
     · simp at h
     · simp [intsE, h1, h2, h3] at h
   · rfl
 · rfl
theorem heP_is {ws : List Bs} {n t k : Int} (hl : ws.length = 3) (h : intsE (ws.take 3) = some [n, t, k]) : heP ws = if 0 ≤ n ∧ 0 ≤ k ∧ (t = 3 ∨ t = 6) then some (n.toNat, t.toNat, k.toNat) else none := by
 rcases ws with _ | ⟨a, _ | ⟨b, _ | ⟨c, _ | ⟨d, r⟩⟩⟩⟩ <;> simp at hl
 simp only [List.take, intsE] at h
 cases h1 : rdInt a with
 | none => rw [h1] at h; cases h
 | some n' =>
   cases h2 : rdInt b with
   | none => rw [h1, h2] at h; cases h
   | some t' =>
     cases h3 : rdInt c with
     | none => rw [h1, h2, h3] at h; cases h
     | some k' =>
       rw [h1, h2, h3] at h
       simp at h
       obtain ⟨rfl, rfl, rfl⟩ := h
       unfold heP
       simp only [h1, h2, h3]
theorem ints3 {ws : List Bs} {ns : List Int} (hl : 3 ≤ ws.length) (h : intsE (ws.take 3) = some ns) : ∃ n t k, ns = [n, t, k] := by
 have := intsE_len h
 rw [List.length_take, Nat.min_eq_left hl] at this
 rcases ns with _ | ⟨a, _ | ⟨b, _ | ⟨c, _ | ⟨d, r⟩⟩⟩⟩ <;> simp at this
 exact ⟨a, b, c, rfl⟩
def HeR (w w' : World) (ws : List Bs) (e : Ending) : Prop := Below w.heap.size w w' ∧
 ∃ (n c k : Nat), e = .returned (.tuple #[.agg #[.int .i64 0, .int .i64 (c : Nat), .int .i64 (k : Nat), .slice none 0 0], .int .i64 (n : Nat), .int .i64 (heE ws : Nat)]) ∧ (heE ws = 0 → heP ws = some (n, c, k) ∧ n ≤ 1048576 ∧ k ≤ 16 ∧ (c = 3 ∨ c = 6)) ∧ (heE ws ≠ 0 → n = 0 ∧ c = 0 ∧ k = 0)
theorem HeR.bad {w W : World} {ws : List Bs} {e : Nat} (hb : Below w.heap.size w W) (he : heE ws = e) (h0 : e ≠ 0) : HeR w W ws (.returned (.tuple #[.agg fe4, .int .i64 0, .int .i64 (e : Nat)])) :=
 ⟨hb, 0, 0, 0, by rw [he]; rfl, fun h => absurd (he ▸ h) h0, fun _ => ⟨rfl, rfl, rfl⟩⟩
theorem res_headE (W : World) (B : Nat) (a b c d : Value) (n1 n2 : Int) (tmps : Array Value) (h : CB W B #[a, b, c, d] 32)
   (t2 : tmps[2]? = some (.pointer (some ⟨B, 0, none⟩))) (t3 : tmps[3]? = some (.int .i64 n1)) (t4 : tmps[4]? = some (.int .i64 n2)) : (results Tryz.f16 tmps).run Tryz.prog W = .ok (.tuple #[.agg #[a, b, c, d], .int .i64 n1, .int .i64 n2]) W := by
 have c0 := h.cell 0 (by simp)
 have c1 := h.cell 1 (by simp)
 have c2 := h.cell 2 (by simp)
 have c3 := h.cell 3 (by simp)
 simp [results, Tryz.f16, go_sem, c0, c1, c2, c3, t2, t3, t4]
set_option maxHeartbeats 16000000 in
theorem headE_any (v : Value) (ws : List Bs) (w : World) (hS : Sl w v ws) (hK : Bk w.heap.size v) (hl : ∀ x ∈ ws, x.length ≤ 900000) :
   Calls Tryz.prog 16 #[v] w fun e w' => HeR w w' ws e := by
 obtain ⟨W0, hW0⟩ : ∃ W0, w.alloc (.cells fe4 32) = W0 := ⟨_, rfl⟩
 have b0 : Below w.heap.size w W0 := by rw [← hW0]; exact (Below.refl _ w).alloc (Nat.le_refl _) _
 have c0 : CB W0 w.heap.size fe4 32 := by rw [← hW0]; exact CB.new w _ _
 have z0 : W0.heap.size = w.heap.size + 1 := by rw [← hW0]; simp
 have H1 := Lib.hid (oneByOne_any v ws W0 (hS.later b0) (fun b hb => by have := hK b hb; omega))
 have H0 := Lib.hid (And.intro c0 (And.intro b0 z0))
 have HL := Lib.hid hl
 obtain ⟨a, c, rfl, _⟩ := hS.form
 clear hS hK hl b0 c0
 rw [z0] at H1
 go_enter Tryz.func16, Tryz.ntmps16
 go_wp2_with fail
 try rw [hW0]
 clear hW0
 refine H1.out.mono ?_
 rintro e W1 ⟨rfl, hT1, hb1, hz1⟩
 have hb1' : Below W0.heap.size W0 W1 := by rw [z0]; exact hb1
 have HB1 : Hid (CB W1 w.heap.size fe4 32 ∧ Below w.heap.size w W1) := Lib.hid ⟨H0.out.1.later hb1', H0.out.2.1.trans (hb1'.mono H0.out.2.1.size)⟩
 have HW := Lib.hid (wholes_any (w.heap.size + 1) ws 3 W1 hT1 HL.out (by omega))
 clear hT1 hb1 hb1' H1 z0
 go_wp2_with fail
 refine HW.out.mono ?_
 rintro e W2 ⟨nv, ok, rfl, hob2, hcase⟩
 have HB2 : Hid (CB W2 w.heap.size fe4 32 ∧ Below w.heap.size w W2 ∧ w.heap.size < W2.heap.size) := Lib.hid ⟨hob2.cb HB1.out.1 (by omega), HB1.out.2.trans (hob2.below (by omega) HB1.out.2.size), Nat.lt_of_lt_of_le HB1.out.1.lt hob2.size⟩
 have HW1s : Hid (W1.heap.size = w.heap.size + 2) := Lib.hid (by rw [hz1])
 clear HW HB1 hob2 hz1
 rcases hcase with ⟨rfl, ns, hle, hns, hown, hT2⟩ | ⟨rfl, rfl, hbad, ws', hT2, hsub⟩
 · obtain ⟨n, t, k, rfl⟩ := ints3 hle hns
   have HTx := Lib.hid (texts_anyE (w.heap.size + 1) (ws.drop 3) 0 W2 hT2 (by omega))
   obtain ⟨g, gc, hnv, hg1, hg2, hg3, hg4, hcell, _⟩ := own_cellE hown (by omega)
   subst hnv
   have HCe : Hid (∀ (W : World), (∀ b, b < W2.heap.size → b ≠ w.heap.size + 1 → W.heap[b]? = W2.heap[b]?) → W.cell? ⟨g, 0, none⟩ = some (.int .i64 n) ∧ W.cell? ⟨g, 1, none⟩ = some (.int .i64 t) ∧ W.cell? ⟨g, 2, none⟩ = some (.int .i64 k)) := Lib.hid (fun W hW => by
     have hh : W.heap[g]? = W2.heap[g]? := hW g hg2 (by have := HW1s.out; omega)
     have key : ∀ i, W.cell? ⟨g, i, none⟩ = W2.cell? ⟨g, i, none⟩ := fun i => World.cell?_of_block (w := W2) hh
     exact ⟨(key 0).trans (hcell 0 _ rfl), (key 1).trans (hcell 1 _ rfl), (key 2).trans (hcell 2 _ rfl)⟩)
   have HNs := Lib.hid hns
   have HLe := Lib.hid hle
   have hgw : g ≠ w.heap.size := by have := HW1s.out; omega
   have hgw2 : w.heap.size ≠ g := fun e => hgw e.symm
   have hg3' : (3 : Int) ≤ (gc : Int) := by omega
   clear hown hT2 hns hle hg1 hg2 hcell
   go_wp2_with fail
   refine HTx.out.mono ?_
   rintro e W3 ⟨tv, rfl, hob3, _⟩
   have HB3 : Hid (CB W3 w.heap.size fe4 32 ∧ Below w.heap.size w W3) := Lib.hid ⟨hob3.cb HB2.out.1 (by omega), HB2.out.2.1.trans (hob3.below (by omega) HB2.out.2.1.size)⟩
   have hce := HCe.out W3 hob3.block
   have hced := HCe.out W3.drew hob3.block
   clear HTx hob3 HB2 hce
   by_cases hlen : ws.length = 3
   rotate_left
   · have hd : decide ((ws.drop 3).length = 0) = false := by
       rw [decide_eq_false_iff_not, List.length_drop]; have := HLe.out; omega
     rw [hd]
     have HE := Lib.hid (show heE ws = 4 by unfold heE; rw [heP_no (Or.inl hlen)])
     obtain ⟨k0, k1, k2, k3⟩ := HB3.out.1.cells4E
     have f0 := HB3.out.1.frozen 0
     have f1 := HB3.out.1.frozen 1
     have f2 := HB3.out.1.frozen 2
     have f3 := HB3.out.1.frozen 3
     clear hd hlen hced
     go_wp2
     refine bodyPost_ret (res_headE _ w.heap.size _ _ _ _ _ _ _ (set4E HB3.out.1 _ _ _ _) rfl rfl rfl) rfl ?_
     exact HeR.bad ((((HB3.out.2.setCell (Nat.le_refl _) _).setCell (Nat.le_refl _) _).setCell (Nat.le_refl _) _).setCell (Nat.le_refl _) _) HE.out (by decide)
   · have hd : decide ((ws.drop 3).length = 0) = true := by
       rw [decide_eq_true_iff, List.length_drop]; omega
     rw [hd]
     have HP := Lib.hid (heP_is hlen HNs.out)
     obtain ⟨W4, hW4⟩ : ∃ W, W3.drew = W := ⟨_, rfl⟩
     have HB4 : Hid (CB W4 w.heap.size fe4 32 ∧ Below w.heap.size w W4) := Lib.hid ⟨by rw [← hW4]; exact HB3.out.1, by rw [← hW4]; exact HB3.out.2.drew⟩
     rw [hW4] at hced
     obtain ⟨q0, q1, q2⟩ := hced
     obtain ⟨k0, k1, k2, k3⟩ := HB4.out.1.cells4E
     have f0 := HB4.out.1.frozen 0
     have f1 := HB4.out.1.frozen 1
     have f2 := HB4.out.1.frozen 2
     have f3 := HB4.out.1.frozen 3
     clear hd hlen HB3
     go_wp2_with fail
     go_region
     have HBd : Hid (∀ (W : World) (e : Nat), Below w.heap.size w W → heE ws = e → e ≠ 0 → HeR w W ws (.returned (.tuple #[.agg fe4, .int .i64 0, .int .i64 (e : Nat)]))) := Lib.hid fun W e hb he h0 => HeR.bad hb he h0
     have HS4 := Lib.hid ((((HB4.out.2.setCell (p := ⟨w.heap.size, 0, none⟩) (Nat.le_refl _) (.int .i64 0)).setCell (p := ⟨w.heap.size, 1, none⟩) (Nat.le_refl _) (.int .i64 0)).setCell (p := ⟨w.heap.size, 2, none⟩) (Nat.le_refl _) (.int .i64 0)).setCell (p := ⟨w.heap.size, 3, none⟩) (Nat.le_refl _) (.slice none 0 0))
     by_cases hn : n < 0
     · have HE := Lib.hid (show heE ws = 4 by unfold heE; rw [HP.out, if_neg (by omega)])
       go_wp2
       refine bodyPost_ret (res_headE _ w.heap.size _ _ _ _ _ _ _ (set4E HB4.out.1 _ _ _ _) rfl rfl rfl) rfl ?_
       exact HBd.out _ 4 HS4.out HE.out (by decide)
     by_cases hk : k < 0
     · have HE := Lib.hid (show heE ws = 4 by unfold heE; rw [HP.out, if_neg (by omega)])
       go_wp2
       refine bodyPost_ret (res_headE _ w.heap.size _ _ _ _ _ _ _ (set4E HB4.out.1 _ _ _ _) rfl rfl rfl) rfl ?_
       exact HBd.out _ 4 HS4.out HE.out (by decide)
     by_cases ht : t = 3 ∨ t = 6
     rotate_left
     · have HE := Lib.hid (show heE ws = 4 by unfold heE; rw [HP.out, if_neg (by rintro ⟨_, _, h⟩; exact ht h)])
       have ht3 : ¬ t = 3 := fun h => ht (Or.inl h)
       have ht6 : ¬ t = 6 := fun h => ht (Or.inr h)
       have ht3' : (t == 3) = false := by simpa using ht3
       have ht6' : (t == 6) = false := by simpa using ht6
       have ht3n : (t != 3) = true := by simpa using ht3
       have ht6n : (t != 6) = true := by simpa using ht6
       have hn0 : 0 ≤ n := by omega
       have hk0 : 0 ≤ k := by omega
       have hn0' : decide (n < 0) = false := by simpa using hn0
       have hk0' : decide (k < 0) = false := by simpa using hk0
       clear ht
       go_wp2
       refine bodyPost_ret (res_headE _ w.heap.size _ _ _ _ _ _ _ (set4E HB4.out.1 _ _ _ _) rfl rfl rfl) rfl ?_
       exact HBd.out _ 4 HS4.out HE.out (by decide)
     obtain ⟨n', rfl⟩ : ∃ m : Nat, n = (m : Nat) := ⟨n.toNat, by omega⟩
     obtain ⟨k', rfl⟩ : ∃ m : Nat, k = (m : Nat) := ⟨k.toNat, by omega⟩
     have HP2 : Hid (heP ws = some (n', t.toNat, k')) := Lib.hid (by rw [HP.out, if_pos ⟨by omega, by omega, ht⟩]; simp)
     by_cases hbig : n' ≤ 1048576 ∧ k' ≤ 16
     rotate_left
     · have HE := Lib.hid (show heE ws = 3 by unfold heE; rw [HP2.out]; simp only [if_neg hbig])
       by_cases h1 : (1048576 : Int) < (n' : Int)
       · clear hbig
         rcases ht with rfl | rfl
         all_goals
           go_wp2
           refine bodyPost_ret (res_headE _ w.heap.size _ _ _ _ _ _ _ (set4E HB4.out.1 _ _ _ _) rfl rfl rfl) rfl ?_
           exact HBd.out _ 3 HS4.out HE.out (by decide)
       · have h2 : (16 : Int) < (k' : Int) := by omega
         clear hbig
         rcases ht with rfl | rfl
         all_goals
           go_wp2
           refine bodyPost_ret (res_headE _ w.heap.size _ _ _ _ _ _ _ (set4E HB4.out.1 _ _ _ _) rfl rfl rfl) rfl ?_
           exact HBd.out _ 3 HS4.out HE.out (by decide)
     · have HE := Lib.hid (show heE ws = 0 by unfold heE; rw [HP2.out]; simp only [if_pos hbig])
       have h1 : ¬ ((1048576 : Int) < (n' : Int)) := by omega
       have h2 : ¬ ((16 : Int) < (k' : Int)) := by omega
       have HBg := Lib.hid hbig
       clear hbig
       rcases ht with rfl | rfl
       all_goals
         go_wp2
         refine bodyPost_ret (res_headE _ w.heap.size _ _ _ _ _ _ _ (set4E HB4.out.1 _ _ _ _) rfl rfl rfl) rfl ?_
       · exact ⟨(((HB4.out.2.setCell (Nat.le_refl _) _).setCell (Nat.le_refl _) _).setCell (Nat.le_refl _) _).setCell (Nat.le_refl _) _, n', 3, k', by rw [HE.out]; rfl, fun _ => ⟨HP2.out, HBg.out.1, HBg.out.2, Or.inl rfl⟩, fun h => absurd HE.out h⟩
       · exact ⟨(((HB4.out.2.setCell (Nat.le_refl _) _).setCell (Nat.le_refl _) _).setCell (Nat.le_refl _) _).setCell (Nat.le_refl _) _, n', 6, k', by rw [HE.out]; rfl, fun _ => ⟨HP2.out, HBg.out.1, HBg.out.2, Or.inr rfl⟩, fun h => absurd HE.out h⟩
 · have HTx := Lib.hid (texts_anyE (w.heap.size + 1) ws' 0 W2 hT2 (by omega))
   have HE := Lib.hid (show heE ws = 4 by
     unfold heE
     rw [heP_no]
     rcases hbad with h | h
     · exact Or.inl (by omega)
     · exact Or.inr h)
   clear hT2 hsub hbad
   go_wp2_with fail
   refine HTx.out.mono ?_
   rintro e W3 ⟨tv, rfl, hob3, _⟩
   have HB3 : Hid (CB W3 w.heap.size fe4 32 ∧ Below w.heap.size w W3) := Lib.hid ⟨hob3.cb HB2.out.1 (by omega), HB2.out.2.1.trans (hob3.below (by omega) HB2.out.2.1.size)⟩
   obtain ⟨dd, hdd⟩ : ∃ d, decide (ws'.length = 0) = d := ⟨_, rfl⟩
   rw [hdd]
   obtain ⟨k0, k1, k2, k3⟩ := HB3.out.1.cells4E
   have f0 := HB3.out.1.frozen 0
   have f1 := HB3.out.1.frozen 1
   have f2 := HB3.out.1.frozen 2
   have f3 := HB3.out.1.frozen 3
   clear HTx hob3 HB2 hdd
   go_wp2
   refine bodyPost_ret (res_headE _ w.heap.size _ _ _ _ _ _ _ (set4E HB3.out.1 _ _ _ _) rfl rfl rfl) rfl ?_
   exact HeR.bad ((((HB3.out.2.setCell (Nat.le_refl _) _).setCell (Nat.le_refl _) _).setCell (Nat.le_refl _) _).setCell (Nat.le_refl _) _) HE.out (by decide)
end
end Go.Proofs.YtgoadpnoagaflaaGreatDoor
