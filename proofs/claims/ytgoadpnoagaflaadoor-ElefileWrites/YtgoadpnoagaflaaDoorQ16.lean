/- Own texts, put together: Zh. -/
import Derived.Test.YtgoadpnoagaflaaDoorQ14
import Derived.Deep.AppendLies
import Derived.OwnWalk
/- The reference's Power. -/
namespace Go.Proofs.YtgoadpnoagaflaaDoor
open Go.RowKit
theorem info64 : (Tryd.prog.info? 2).map (fun i => (i.zero, i.size, i.bytes)) = some (some (.int .i64 0), 1, 8) := by kernel_rfl
theorem new_box (w : World) (a b : Obj) : ((w.alloc a).alloc b).heap[w.heap.size + 1]? = some b := by
 have := heap_alloc_new (w.alloc a) b
 simpa using this
theorem old_box (w : World) (a b : Obj) : ((w.alloc a).alloc b).heap[w.heap.size]? = some a := by
 rw [Below.heap_alloc _ _ _ (by simp)]; exact heap_alloc_new w a
structure PowW (w : World) (B : Nat) (E : Int) (ds : List Nat) (wr : World) (sv : Value) : Prop where
 box : BoxN wr (B + 1) 1 sv E
 row : wr.ownsRow (B + 2) 2 1 sv ds.length (i64s ds)
 bel : Below B w wr
 siz : B + 2 ≤ wr.heap.size
 res : wr.heap[B]? = some (.cells #[.int .i64 0, .slice none 0 0, .int .i64 0] 117 (0, 0))
theorem PowW.boxed {w wr w1 : World} {B : Nat} {E : Int} {ds : List Nat} {sv : Value} {o : Obj} (h : PowW w B E ds wr sv) (hg : (wr.alloc o).grownBy w1 sv.ownBlock) : BoxN w1 (B + 1) 1 sv E :=
 (h.box.alloc o).grown hg (own_apart h.row (show B + 1 < B + 2 by omega))
theorem PowW.pushed {w wr w1 : World} {B g cap d : Nat} {E x : Int} {ds : List Nat} {sv : Value} {o : Obj} (h : PowW w B E ds wr sv) (hg : (wr.alloc o).grownBy w1 sv.ownBlock)
   (ho : w1.ownsRow (B + 2) 2 1 (.slice (some ⟨g, 0, none⟩) (ds.length + 1) cap) (ds.length + 1) (i64s ds ++ [.int .i64 x])) (hx : x = (d : Nat)) :
   PowW w B E (ds ++ [d]) (w1.setCell ⟨B + 1, 1, none⟩ (.slice (some ⟨g, 0, none⟩) (ds.length + 1) cap)) (.slice (some ⟨g, 0, none⟩) (ds.length + 1) cap) := by
 subst hx
 have ap0 := own_apart h.row (show B < B + 2 by omega)
 refine ⟨(h.boxed hg).set, ?_, ?_, ?_, ?_⟩
 · rw [i64s_snoc] at ho
   have := own_other ho (a := ⟨B + 1, 1, none⟩) (by simp) (.slice (some ⟨g, 0, none⟩) (ds.length + 1) cap)
   simpa using this
 · refine Below.setCell ?_ (by simp) _
   have h1 : Below B w (wr.alloc o) := h.bel.alloc (by have := h.siz; omega) o
   exact h1.grown hg (by have := h.siz; simp; omega) (fun k hk => by have := (h.row.lt k hk).1; omega)
 · have := hg.size
   have := h.siz
   simp [World.setCell] at *
   omega
 · rw [Below.heap_setCell _ _ _ _ (by simp), hg.block B (by have := h.siz; simp; omega) ap0, Below.heap_alloc _ _ _ (by have := h.siz; omega)]
   exact h.res
theorem snoc_small {ds : List Nat} {d : Nat} (h : ∀ x ∈ ds, x < 16777216) (hd : d < 16777216) : ∀ x ∈ ds ++ [d], x < 16777216 := by
 intro x hx
 rcases List.mem_append.1 hx with hx | hx
 · exact h x hx
 · simp at hx; omega
theorem pow_digit {n m d q L v : Nat} (h : n = v + 2 ^ (24 * L) * m) (hd : m % 16777216 = d) (hq : m / 16777216 = q) : n = v + 2 ^ (24 * L) * d + 2 ^ (24 * (L + 1)) * q := by
 have e : m = d + 16777216 * q := by omega
 rw [h, p24, e]; grind
theorem PowW.wrote {w wr : World} {B g cap k d : Nat} {E x : Int} {ds : List Nat} (h : PowW w B E ds wr (.slice (some ⟨g, 0, none⟩) ds.length cap)) (hk : k < ds.length) (hx : x = (d : Nat)) :
   PowW w B E (ds.set k d) (wr.setCell ⟨g, k, none⟩ (.int .i64 x)) (.slice (some ⟨g, 0, none⟩) (ds.set k d).length cap) := by
 subst hx
 have hg := (h.row.lt g rfl).1
 refine ⟨?_, own_set h.row k d hk, h.bel.setCell (by simp; omega) _, by have := h.siz; simpa [World.setCell] using this, ?_⟩
 · have := h.box.other (a := ⟨g, k, none⟩) (by simp; omega) (.int .i64 (d : Nat))
   simpa using this
 · rw [Below.heap_setCell _ _ _ _ (by simp; omega)]; exact h.res
structure PowD (ds zs : List Nat) (t i c : Nat) : Prop where
 len : zs.length = ds.length
 small : ∀ d ∈ zs, d < 16777216
 rest : ∀ j, i ≤ j → zs.getD j 0 = ds.getD j 0
 val : v24 (zs.take i) + 2 ^ (24 * i) * c = v24 (ds.take i) * 2 ^ t
 carry : c < 2 ^ t
theorem set_take (zs : List Nat) (i d : Nat) : (zs.set i d).take i = zs.take i := by
 apply List.ext_getElem?
 intro j
 simp only [List.getElem?_take, List.getElem?_set]
 split
 · rw [if_neg (by omega)]
 · rfl
theorem PowD.step {ds zs : List Nat} {t i c v : Nat} (h : PowD ds zs t i c) (hi : i < ds.length) (hs : ∀ d ∈ ds, d < 16777216) (hv : v = ds.getD i 0 * 2 ^ t + c) : PowD ds (zs.set i (v % 16777216)) t (i + 1) (v / 16777216) := by
 have hdi : ds.getD i 0 < 16777216 := by
   have e : ds.getD i 0 = ds[i] := by simp [List.getD, hi]
   rw [e]; exact hs _ (List.getElem_mem hi)
 have hi2 : i < zs.length := by rw [h.len]; exact hi
 refine ⟨by simp [h.len], ?_, ?_, ?_, ?_⟩
 · intro d hd
   rcases List.mem_or_eq_of_mem_set hd with hd | rfl
   · exact h.small d hd
   · omega
 · intro j hj
   rw [← h.rest j (by omega)]
   simp only [List.getD, List.getElem?_set]
   rw [if_neg (by omega)]
 · rw [v24_take_succ, v24_take_succ, set_take, p24]
   have e : (zs.set i (v % 16777216)).getD i 0 = v % 16777216 := by simp [List.getD, hi2]
   rw [e]
   have h1 := h.val
   have h2 := Nat.mod_add_div v 16777216
   generalize v % 16777216 = a at *
   generalize v / 16777216 = b at *
   generalize ds.getD i 0 = x at *
   generalize 2 ^ (24 * i) = P at *
   generalize 2 ^ t = R at *
   subst hv
   grind
 · have h1 := h.carry
   have h2 : (ds.getD i 0 + 1) * 2 ^ t ≤ 16777216 * 2 ^ t := Nat.mul_le_mul_right _ hdi
   rw [Nat.add_mul, Nat.one_mul] at h2
   rw [Nat.div_lt_iff_lt_mul (by omega), hv]
   omega
theorem pow_value {n t c : Nat} {k2 e2 k : Int} {ds zs : List Nat} (h : PowD ds zs t ds.length c) (hn : n = v24 ds) (hk : k2 + 24 * e2 = k) (ht : k2 = (t : Int)) : ((1 : Int) : Rat) * mag (zs ++ [c]) e2 = (n : Nat) * p2 k := by
 have h1 := h.val
 rw [List.take_of_length_le (by rw [h.len]; exact Nat.le_refl _), List.take_of_length_le (Nat.le_refl _), ← hn] at h1
 unfold mag
 rw [v24_snoc, h.len, h1, ← hk, ht, p2_add, p2_nat, Rat.natCast_mul, show ((1 : Int) : Rat) = 1 from rfl]
 grind
set_option maxHeartbeats 4000000 in
set_option maxRecDepth 100000 in
theorem power_walk (n : Nat) (k : Int) (w : World) (hn : n < 18446744073709551616) (h1 : -4000 ≤ k) (h2 : k ≤ 4000) :
   Calls Tryd.prog 60 #[.int .u64 (n : Nat), .int .i64 k] w fun e w' => RfR w w' ((n : Nat) * p2 k) e := by
 obtain ⟨i0, hi0, hz0, hz1, hz2⟩ := info_parts info64
 go_enter Tryd.func60, Tryd.ntmps60
 go_wp2
 go_loop [1, 5] (fun a b => ∃ k1 e1 : Int, a = .int .i64 k1 ∧ b = .int .i64 e1 ∧ Hid (k1 + 24 * e1 = k) ∧ -4000 ≤ k1 ∧ k1 ≤ 4000 ∧ -1000 ≤ e1 ∧ e1 ≤ 0) (fun a _ => (0 - intOf a).toNat)
 case atStart => exact ⟨k, 0, rfl, rfl, by simp [Hid], h1, h2, by omega, by omega⟩
 case round =>
   obtain ⟨k1, e1, rfl, rfl, hk, a1, a2, a3, a4⟩ := hrel
   by_cases hlt : k1 < 0
   · have hk' : Hid (k1 + 24 + 24 * (e1 - 1) = k) := by have := hk.out; show _ = _; omega
     have he : -1000 ≤ e1 - 1 := by have := hk.out; omega
     clear hk
     go_wp2
     go_round
     case rel => exact ⟨k1 + 24, e1 - 1, rfl, rfl, hk', by omega, by omega, he, by omega⟩
     case measure => simp [intOf]; omega
   · go_wp2
     go_loop [1, 5] (fun a b => ∃ k1 e1 : Int, a = .int .i64 k1 ∧ b = .int .i64 e1 ∧ Hid (k1 + 24 * e1 = k) ∧ 0 ≤ k1 ∧ k1 ≤ 4000 ∧ -1000 ≤ e1 ∧ e1 ≤ 1000) (fun a _ => (intOf a).toNat)
     case atStart => exact ⟨k1, e1, rfl, rfl, hk, by omega, a2, a3, by omega⟩
     case round =>
       clear hk a1 a2 a3 a4 hlt
       obtain ⟨k2, e2, rfl, rfl, hk, a1, a2, a3, a4⟩ := hrel
       by_cases hlt : 24 ≤ k2
       · have hk' : Hid (k2 - 24 + 24 * (e2 + 1) = k) := by have := hk.out; show _ = _; omega
         have he : e2 + 1 ≤ 1000 := by have := hk.out; omega
         clear hk
         go_wp2
         go_round
         case rel => exact ⟨k2 - 24, e2 + 1, rfl, rfl, hk', by omega, by omega, by omega, he⟩
         case measure => simp [intOf]; omega
       · have hk24 : k2 < 24 := by omega
         clear hlt
         go_wp2
         go_loopw [0] (fun a wr => ∃ (m : Nat) (ds : List Nat) (sv : Value), a = .int .u64 (m : Nat) ∧ m < 18446744073709551616 ∧ Hid (n = v24 ds + 2 ^ (24 * ds.length) * m) ∧ Hid (∀ d ∈ ds, d < 16777216) ∧ ds.length ≤ 3 ∧ Hid (PowW w w.heap.size e2 ds wr sv)) (fun a _ => (intOf a).toNat)
         case atStart =>
           exact ⟨n, [], .slice none 0 0, rfl, hn, by simp [Hid, v24], by simp [Hid], by simp, ⟨new_box _ _ _, World.ownsRow_nil _ _ _ _, ((Below.refl _ _).alloc (Nat.le_refl _) _).alloc (by simp) _, by simp, old_box _ _ _⟩⟩
         case round =>
           obtain ⟨m, ds, sv, rfl, hm, hv, hs, hl, hW⟩ := hrel
           obtain ⟨hb0, hb1, hb2, hbf, hbl⟩ := hW.out.box.cells
           have hbf1 := hbf 1
           by_cases h0 : m = 0
           · subst h0
             have hv0 : Hid (n = v24 ds) := by have := hv.out; show _ = _; omega
             clear hv hm hbf
             have hsv := own_form hW.out.row
             have hlsv : ∃ a c, sv = .slice a ds.length c := by
               rcases hsv with ⟨rfl, a, c, rfl, _⟩ | ⟨_, g, cap, rfl, _⟩
               · exact ⟨_, _, rfl⟩
               · exact ⟨_, _, rfl⟩
             obtain ⟨sa, sc, rfl⟩ := hlsv
             clear hsv
             go_wp2
             go_loop [7, 8] (fun a b => ∃ i : Nat, (i : Int) ≤ k2 ∧ a = .int .i64 (2 ^ i : Nat) ∧ b = .int .i64 (i : Nat)) (fun _ b => (k2 - intOf b).toNat)
             case atStart => exact ⟨0, by omega, by simp, by simp⟩
             case round =>
               obtain ⟨i, hi, rfl, rfl⟩ := hrel
               have hp : 2 ^ i ≤ 2 ^ 23 := Nat.pow_le_pow_right (by omega) (by omega)
               obtain ⟨two, ht⟩ : ∃ x : Nat, Hid (2 ^ i = x) := ⟨2 ^ i, rfl⟩
               rw [ht.out] at hp ⊢
               have htl : (two : Int) ≤ 8388608 := by omega
               clear hp
               by_cases hlt : (i : Int) < k2
               · go_wp2
                 go_round
                 case rel => exact ⟨i + 1, by omega, by rw [Nat.pow_succ, ht.out]; go_num, by go_num⟩
                 case measure => simp [intOf]; omega
               · have hki : Hid (k2 = (i : Int)) := by show _ = _; omega
                 have hltb : decide ((i : Int) < k2) = false := decide_eq_false hlt
                 clear hlt
                 go_wp2
                 clear hb0 hb1 hb2 hbl hbf1
                 go_loopw [9, 10] (fun c j wr' => ∃ (cc jj : Nat) (zs : List Nat), c = .int .i64 (cc : Nat) ∧ j = .int .i64 (jj : Nat) ∧ jj ≤ ds.length ∧ cc ≤ 16777216 ∧ Hid (PowD ds zs i jj cc) ∧ Hid (PowW w w.heap.size e2 zs wr' (.slice sa zs.length sc))) (fun _ j _ => ds.length - (intOf j).toNat)
                 case atStart => exact ⟨0, 0, ds, by simp, by simp, by omega, by omega, ⟨rfl, hs.out, fun j _ => rfl, by simp [v24], Nat.two_pow_pos _⟩, hW.out⟩
                 case round =>
                   clear hW
                   obtain ⟨cc, jj, zs, rfl, rfl, hj, hcc, hD, hW⟩ := hrel
                   obtain ⟨hb0, hb1, hb2, hbf, hbl⟩ := hW.out.box.cells
                   have hbf1 := hbf 1
                   clear hbf
                   have hzl : zs.length = ds.length := hD.out.len
                   rw [hzl] at hb1
                   by_cases hlt : jj < ds.length
                   · obtain ⟨hne, g, cap, hsl, hcap, hg1, hg2, _⟩ := (own_form hW.out.row).resolve_left (by rintro ⟨e, _⟩; rw [e] at hzl; simp at hzl; omega)
                     cases hsl
                     have hcj := own_cell hW.out.row jj (by omega)
                     rw [hD.out.rest jj (Nat.le_refl _)] at hcj
                     have hfj := own_frozen hW.out.row jj
                     obtain ⟨x, hx⟩ : ∃ x : Nat, Hid (ds.getD jj 0 = x) := ⟨_, rfl⟩
                     have hxs : x < 16777216 := by
                       rw [← hx.out, show ds.getD jj 0 = ds[jj] by simp [List.getD, hlt]]
                       exact hs.out _ (List.getElem_mem hlt)
                     rw [hx.out] at hcj
                     obtain ⟨p, hp⟩ : ∃ p : Nat, Hid (x * two = p) := ⟨_, rfl⟩
                     have hpI : (x : Int) * (two : Int) = (p : Int) := by rw [← hp.out]; simp
                     have hpl : p ≤ 140737488355328 := by
                       rw [← hp.out]
                       exact Nat.le_trans (Nat.mul_le_mul (by omega : x ≤ 16777216) (by omega : two ≤ 8388608)) (by omega)
                     have hlt' : (jj : Int) < (ds.length : Int) := by omega
                     have hge' : (0 : Int) ≤ (jj : Int) := by omega
                     clear hzl
                     go_wp2
                     have hst := hD.out.step hlt hs.out (v := p + cc) (by rw [hx.out, ht.out, hp.out])
                     have hwr := hW.out.wrote (k := jj) (d := (p + cc) % 16777216) (x := ((p : Int) + (cc : Int)) % 16777216) (by rw [hD.out.len]; exact hlt) (by omega)
                     exact ⟨⟨(p + cc) / 16777216, jj + 1, _, by go_num, by go_num, by omega, by omega, hst, hwr⟩, by simp [intOf]; omega⟩
                   · obtain rfl : jj = ds.length := by omega
                     have hltb : decide ((ds.length : Int) < (ds.length : Int)) = false := decide_eq_false (by omega)
                     have HR := hW.out.row
                     rw [hzl] at HR
                     have hbase : w.heap.size + 2 ≤ wr.heap.size := by assumption
                     have HZ : Hid (zs.length = ds.length) := hzl
                     clear hzl hlt
                     go_wp2_with (at_builtin; refine wpList_append_lies _ rfl _ _ _ rfl (w.heap.size + 2) 2 i0 _ 1 8 Tryd.underlying115 hi0 hz0 hz1 hz2 rfl (by omega) (.slice sa ds.length sc) ds.length (i64s zs) rfl (HR.alloc _) ⟨wr.heap.size, 0, none⟩ 1 1 [.int .i64 ((cc : Nat) : Int)] rfl rfl (World.news_of_block (cs := #[.int .i64 ((cc : Nat) : Int)]) (t := 2) (fr := (0, 0)) (heap_alloc_new wr _)) (by simp [Value.oneCell']) (by omega) (by unfold maxLen; omega) (by omega) (by simp; omega) _ rfl ?_; intro g cap w1 hown1 hgrow hat hlt; rw [← HZ.out] at hgrow; obtain ⟨hc0, hc1, hc2, hcf, hcl⟩ := (hW.out.boxed hgrow).cells; have hcf1 := hcf 1; clear hcf)
                     have HP := hW.out.pushed hgrow (by rw [HZ.out]; exact hown1) rfl (d := cc)
                     rw [HZ.out] at HP
                     have hcs : cc < 16777216 := by
                       have := hD.out.carry
                       have h3 : 2 ^ i ≤ 2 ^ 23 := Nat.pow_le_pow_right (by omega) (by omega)
                       omega
                     refine (trim_any _ 1 e2 (zs ++ [cc]) _ (own_dig (by simpa [HZ.out] using HP.row) (snoc_small hD.out.small hcs) (by simp [HZ.out]; omega) (by omega) (by omega)) (by simp [HZ.out]; omega)).mono ?_
                     rintro e w2 hT
                     obtain ⟨v9, rfl, hrf, hb9⟩ := trim_rf (Or.inl rfl) hT
                     have hB : BoxN w2 w.heap.size 0 (.slice none 0 0) 0 := BoxN.block (w := w1.setCell ⟨w.heap.size + 1, 1, none⟩ (.slice (some ⟨g, 0, none⟩) (ds.length + 1) cap)) HP.res (hb9.block _ (by have := HP.siz; omega))
                     have hO : Hid (OtherRow w2 w.heap.size) := other_box hB
                     obtain ⟨t0, t1, t2, tf, tl⟩ := hB.cells
                     have HB : Hid (Below w.heap.size w w2) := HP.bel.trans (hb9.mono (by have := HP.siz; omega))
                     have HV : Hid (Rf w2 v9 ((n : Nat) * p2 k)) := by
                       rw [pow_value hD.out hv0.out hk.out hki.out] at hrf
                       exact hrf
                     obtain ⟨S9, ds9, E9, hd9, _⟩ := HV.out
                     obtain ⟨a9, c9, rfl, _⟩ := hd9.form
                     clear hb9 HP hT hrf hB hD hW hd9
                     go_wp2
                     refine bodyPost_ret (v := .agg #[.int .i64 S9, .slice a9 ds9.length c9, .int .i64 E9]) (by simp [results, Tryd.results60, go_sem, t0, t1, t2]) rfl ?_
                     refine ⟨_, rfl, HV.out.boxed hO.out _ _ _, ?_⟩
                     repeat (first | exact HB.out | refine Below.drew ?_ | refine Below.setCell ?_ (by simp) _)
           · have h0' : decide ((0 : Int) < (m : Int)) = true := decide_eq_true (by omega)
             have HR := hW.out.row
             have hl2 : ds.length ≤ 2 := by
               have h3 := hv.out
               have h4 : 2 ^ (24 * ds.length) * 1 ≤ 2 ^ (24 * ds.length) * m := Nat.mul_le_mul_left _ (by omega)
               have h5 : 2 ^ (24 * ds.length) < 2 ^ 64 := by omega
               have := (Nat.pow_lt_pow_iff_right (by omega : 1 < 2)).1 h5
               omega
             have hbase : w.heap.size + 2 ≤ wr.heap.size := hW.out.siz
             obtain ⟨d, hd⟩ : ∃ d, Hid (m % 16777216 = d) := ⟨_, rfl⟩
             obtain ⟨q, hq⟩ : ∃ q, Hid (m / 16777216 = q) := ⟨_, rfl⟩
             clear hbf
             go_wp2_with (at_builtin; refine wpList_append_lies _ rfl _ _ _ rfl (w.heap.size + 2) 2 i0 _ 1 8 Tryd.underlying115 hi0 hz0 hz1 hz2 rfl (by omega) sv ds.length (i64s ds) rfl (HR.alloc _) ⟨wr.heap.size, 0, none⟩ 1 1 [.int .i64 ((m : Int) % 16777216)] rfl rfl (World.news_of_block (cs := #[.int .i64 ((m : Int) % 16777216)]) (t := 2) (fr := (0, 0)) (heap_alloc_new wr _)) (by simp [Value.oneCell']) (by omega) (by unfold maxLen; omega) (by omega) (by simp; omega) _ rfl ?_; intro g cap w1 hown1 hgrow hat hlt; obtain ⟨hc0, hc1, hc2, hcf, hcl⟩ := (hW.out.boxed hgrow).cells; have hcf1 := hcf 1; clear hcf)
             have e1 : (m : Int) % 16777216 = (d : Nat) := by have := hd.out; omega
             have e2 : (m : Int) / 16777216 = (q : Nat) := by have := hq.out; omega
             have HP := hW.out.pushed hgrow hown1 e1
             refine ⟨⟨q, ds ++ [d], _, by rw [e2], by have := hq.out; omega, ?_, snoc_small hs.out (by have := hd.out; omega), by simp; omega, HP⟩, by simp [intOf]; omega⟩
             show _ = _
             rw [v24_snoc, List.length_append, List.length_singleton]
             exact pow_digit hv.out hd.out hq.out
end Go.Proofs.YtgoadpnoagaflaaDoor
