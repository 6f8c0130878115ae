/- Own texts, put together: Ph. -/
import Derived.Test.YtglcngjllfgdpaaQ12
/- ExpandMuls: the law's walk. -/
namespace Go.Proofs.Ytglcngjllfgdpaa
open Go.RowKit Go.Shelf
attribute [local go_sem ↓] Go.wp_at_zero Go.wp_at_succ
attribute [local go_sem] run_store_float

theorem safe_check {bs : List Nat} (h : MayS bs) : MayC bs := ⟨h.1, fun i hi => ⟨Nat.zero_le _, by have := (h.2 i hi).2.1; omega, (h.2 i hi).2.2⟩⟩
theorem safe_fit {bs : List Nat} (h : MayS bs) : Fit (vals bs).sum := (vals_bd h.1 (safe_up h).fin).mono (by omega) (by omega)
theorem fs_one {w : World} {b : Nat} (hb : b < 18446744073709551616) (h0 : frung b ≠ 0) : Fs (w.alloc (.cells #[.float .f64 b] 22)) (.slice (some ⟨w.heap.size, 0, none⟩) 1 1) (gw [] b) := by
  have e : gw [] b = [b] := by unfold gw; rw [if_neg h0]; rfl
  rw [e]
  refine ⟨⟨_, 1, rfl, by simp, by omega, Or.inr ⟨w.heap.size, 0, rfl, fun k hk => ?_⟩⟩, by simpa using hb⟩
  obtain rfl : k = 0 := by simpa using hk
  go_simp
theorem fs_nought {w : World} {b : Nat} (h0 : frung b = 0) : Fs w (.slice none 0 0) (gw [] b) := by
  have e : gw [] b = [] := by unfold gw; rw [if_pos h0]
  rw [e]
  exact ⟨⟨none, 0, rfl, by simp, by omega, Or.inl rfl⟩, by simp⟩

set_option maxRecDepth 100000 in
set_option maxHeartbeats 16000000 in
theorem muls_law (a1 a2 : Option Addr) (n m c1 c2 b : Nat) (es fs : List Nat) (w : World) (hs : Fs w (.slice a1 n c1) es) (hs2 : Fs w (.slice a2 m c2) fs) (hn : es.length = n) (hm : fs.length = m) (z1 : ∀ k c, Value.slice a1 n c1 = .slice none k c → k = 0 ∧ c = 0) (z2 : ∀ k c, Value.slice a2 m c2 = .slice none k c → k = 0 ∧ c = 0) (hb : b < 18446744073709551616) :
    Calls Try.prog 7 #[.slice a1 n c1, .slice a2 m c2, .float .f64 b] w fun e w' => e = .returned (.bool true) ∧ Below w.heap.size w w' := by
  have H : Hid (Fs w (.slice a1 n c1) es ∧ es.length = n ∧ ∀ k c, Value.slice a1 n c1 = .slice none k c → k = 0 ∧ c = 0) := ⟨hs, hn, z1⟩
  have H2 : Hid (Fs w (.slice a2 m c2) fs ∧ fs.length = m ∧ ∀ k c, Value.slice a2 m c2 = .slice none k c → k = 0 ∧ c = 0) := ⟨hs2, hm, z2⟩
  have HBW : Hid (b < 18446744073709551616) := hb
  clear hs hs2 hn hm z1 z2 hb
  go_enter Try.func7, Try.ntmps7
  go_wp2_with fail
  refine (long_any a1 a2 n m c1 c2 _).mono ?_
  rintro e w1 ⟨rfl, hw1⟩
  obtain rfl := hw1.symm
  by_cases hlong : 200 < n ∨ 200 < m
  · rw [decide_eq_true hlong]
    clear hlong
    go_wp2
    go_ret
    exact ⟨rfl, Below.refl _ _⟩
  · rw [decide_eq_false hlong]
    have HL : Hid (n ≤ 200 ∧ m ≤ 200) := by show _ ∧ _; omega
    have l1 : (n : Int) ≤ 200 := by omega
    have l2 : (m : Int) ≤ 200 := by omega
    clear hlong
    have hbA : Hid (Below w.heap.size w (w.alloc (.cells #[] 22))) := (Below.refl _ w).alloc (Nat.le_refl _) _
    go_wp2_with (first
      | (at_builtin; refine wpList_copy _ rfl (.tmp 22) (.tmp 23) rfl w.heap.size w.heap.size rfl (World.ownsRow_made w #[] 0 (Nat.le_refl _) (Nat.zero_le _) rfl) _ es rfl (H.out.1.later hbA.out) H.out.2.2 (by have := H.out.2.1; have := HL.out; omega) (by simp) ?_; intro vp w1 hFp hbp; obtain ⟨⟨ap, cp, ep, _⟩, _⟩ := hFp.fs; subst ep; have HP : Hid (Fr w1 w.heap.size (.slice ap es.length cp) es ∧ Below w.heap.size w w1) := ⟨hFp, hbA.out.trans hbp⟩; clear hFp hbp)
      | (at_builtin; refine wpList_copy _ rfl (.tmp 25) (.tmp 26) rfl w1.heap.size w1.heap.size rfl (World.ownsRow_made w1 #[] 0 (Nat.le_refl _) (Nat.zero_le _) rfl) _ fs rfl (H2.out.1.later (HP.out.2.alloc HP.out.2.size _)) H2.out.2.2 (by have := H2.out.2.1; have := HL.out; omega) (by simp) ?_; intro vq w2 hFq hbq; obtain ⟨⟨aq, cq, eq', _⟩, _⟩ := hFq.fs; subst eq'; have HQ : Hid (TwoP w w2 (.slice ap es.length cp) (.slice aq fs.length cq) es fs) := ⟨HP.out.1.later (((Below.refl _ w1).alloc (Nat.le_refl _) _).trans hbq), hFq.mono HP.out.2.size, below_step HP.out.2 (((Below.refl _ w1).alloc (Nat.le_refl _) _).trans hbq)⟩; clear hFq hbq))
    go_loopw [9] (fun i wr => ∃ k : Nat, k ≤ 2 ∧ i = .int .i64 (k : Nat) ∧ Hid (TwoP w wr (.slice ap es.length cp) (.slice aq fs.length cq) es fs)) (fun i _ => 2 - (intOf i).toNat)
    case atStart => exact ⟨0, by omega, rfl, HQ.out⟩
    case round =>
      clear HQ HP hbA
      obtain ⟨k, hk, rfl, hT⟩ := hrel
      by_cases hlt : k < 2
      · have hlt' : (k : Int) < 2 := by omega
        obtain ⟨wo, rfl⟩ : ∃ wo, wo = wr := ⟨wr, rfl⟩
        have q := eql_zero2 b
        by_cases h0 : frung b = 0
        · rw [decide_eq_true h0] at q
          have HB0 : Hid (frung b = 0) := h0
          clear h0
          by_cases hE : MayS es
          · have HE : Hid (MayS es) := hE
            clear hE
            by_cases hF : MayS fs
            · have HF : Hid (MayS fs) := hF
              clear hF
              by_cases hO : MayS (gw [] b)
              · have HO : Hid (MayS (gw [] b)) := hO
                clear hO
                go_wp2_with fail
                refine (mulE_any _ _ es fs _ hT.out.p.fs hT.out.q.fs).mono ?_
                rintro e w3 ⟨⟨v1, b1, t1, rfl, hF1, g1, g2, g3⟩, hb3⟩
                obtain rfl := g1.2 ⟨HE.out, HF.out⟩
                obtain ⟨⟨a3, d3, e3, _⟩, _⟩ := id hF1.fs
                subst e3
                have H3 : Hid (Fr w3 wo.heap.size (.slice a3 b1.length d3) b1 ∧ SumS ((vals es).sum * (vals fs).sum) b1) := ⟨hF1, g2 rfl⟩
                have HB3 : Hid (Below wo.heap.size wo w3) := hb3
                clear hF1 g1 g2 g3 hb3
                go_wp2_with fail
                refine (scaleE_any _ es b _ (hT.out.p.fs.later HB3.out) HBW.out).mono ?_
                rintro e w4 ⟨⟨v2, b2, t2, rfl, hF2, g1, g2, g3⟩, hb4⟩
                obtain rfl := g1.2 ⟨safe_check HO.out, HE.out, HO.out⟩
                obtain ⟨⟨a4, d4, e4, _⟩, _⟩ := id hF2.fs
                subst e4
                have H4 : Hid (Fr w4 w3.heap.size (.slice a4 b2.length d4) b2 ∧ SumS ((vals es).sum * (vals (gw [] b)).sum) b2) := ⟨hF2, g2 rfl⟩
                have HB4 : Hid (Below w3.heap.size w3 w4 ∧ Below wo.heap.size wo w4) := ⟨hb4, below_step HB3.out hb4⟩
                clear hF2 g1 g2 g3 hb4
                have HAL : Hid (Below w4.heap.size w4 (w4.alloc (.cells #[.float .f64 b] 22))) := (Below.refl _ w4).alloc (Nat.le_refl _) _
                have HB5 : Hid (Below w3.heap.size w3 (w4.alloc (.cells #[.float .f64 b] 22)) ∧ Below wo.heap.size wo (w4.alloc (.cells #[.float .f64 b] 22))) := ⟨below_step HB4.out.1 HAL.out, below_step HB4.out.2 HAL.out⟩
                have HV : Hid (Fs (w4.alloc (.cells #[.float .f64 b] 22)) (.slice none 0 0) (gw [] b)) := fs_nought HB0.out
                go_wp2_with fail
                refine (refSafe3_any _ (es) _ (H.out.1.later (below_step hT.out.bel HB5.out.2))).mono ?_
                rintro e w6 ⟨⟨t, rfl, ht⟩, hb⟩
                obtain rfl := ht.2 HE.out
                have HB6 : Hid (Below w3.heap.size w3 w6 ∧ Below wo.heap.size wo w6) := ⟨below_step HB5.out.1 hb, below_step HB5.out.2 hb⟩
                have HV6 : Hid (Fs w6 (.slice none 0 0) (gw [] b)) := HV.out.later hb
                have HX6 : Hid (Below (w4.alloc (.cells #[.float .f64 b] 22)).heap.size (w4.alloc (.cells #[.float .f64 b] 22)) w6) := hb
                clear ht hb
                go_wp2_with fail
                refine (refSafe3_any _ (fs) _ (H2.out.1.later (below_step hT.out.bel HB6.out.2))).mono ?_
                rintro e w7 ⟨⟨t, rfl, ht⟩, hb⟩
                obtain rfl := ht.2 HF.out
                have HB7 : Hid (Below w3.heap.size w3 w7 ∧ Below wo.heap.size wo w7) := ⟨below_step HB6.out.1 hb, below_step HB6.out.2 hb⟩
                have HV7 : Hid (Fs w7 (.slice none 0 0) (gw [] b)) := HV6.out.later hb
                have HX7 : Hid (Below (w4.alloc (.cells #[.float .f64 b] 22)).heap.size (w4.alloc (.cells #[.float .f64 b] 22)) w7) := below_step HX6.out hb
                clear ht hb
                go_wp2_with fail
                refine (refSafe3_any _ (es) _ (H.out.1.later (below_step hT.out.bel HB7.out.2))).mono ?_
                rintro e w8 ⟨⟨t, rfl, ht⟩, hb⟩
                obtain rfl := ht.2 HE.out
                have HB8 : Hid (Below w3.heap.size w3 w8 ∧ Below wo.heap.size wo w8) := ⟨below_step HB7.out.1 hb, below_step HB7.out.2 hb⟩
                have HV8 : Hid (Fs w8 (.slice none 0 0) (gw [] b)) := HV7.out.later hb
                have HX8 : Hid (Below (w4.alloc (.cells #[.float .f64 b] 22)).heap.size (w4.alloc (.cells #[.float .f64 b] 22)) w8) := below_step HX7.out hb
                clear ht hb
                go_wp2_with fail
                refine (refSafe3_any _ (gw [] b) _ HV8.out).mono ?_
                rintro e w9 ⟨⟨t, rfl, ht⟩, hb⟩
                obtain rfl := ht.2 HO.out
                have HB9 : Hid (Below w3.heap.size w3 w9 ∧ Below wo.heap.size wo w9) := ⟨below_step HB8.out.1 hb, below_step HB8.out.2 hb⟩
                have HV9 : Hid (Fs w9 (.slice none 0 0) (gw [] b)) := HV8.out.later hb
                have HX9 : Hid (Below (w4.alloc (.cells #[.float .f64 b] 22)).heap.size (w4.alloc (.cells #[.float .f64 b] 22)) w9) := below_step HX8.out hb
                clear ht hb
                go_wp2_with fail
                refine (number_any _ (es) _ (H.out.1.later (below_step hT.out.bel HB9.out.2)) HE.out.1 (safe_up HE.out).fin).mono ?_
                rintro e w10 ⟨v10, rfl, hr, hb⟩
                have HN1 : Hid (Rf w10 v10 (vals (es)).sum) := hr
                have HB10 : Hid (Below w3.heap.size w3 w10 ∧ Below wo.heap.size wo w10) := ⟨below_step HB9.out.1 hb, below_step HB9.out.2 hb⟩
                have HV10 : Hid (Fs w10 (.slice none 0 0) (gw [] b)) := HV9.out.later hb
                have HX10 : Hid (Below (w4.alloc (.cells #[.float .f64 b] 22)).heap.size (w4.alloc (.cells #[.float .f64 b] 22)) w10) := below_step HX9.out hb
                clear hr hb
                go_wp2_with fail
                refine (number_any _ (fs) _ (H2.out.1.later (below_step hT.out.bel HB10.out.2)) HF.out.1 (safe_up HF.out).fin).mono ?_
                rintro e w11 ⟨v11, rfl, hr, hb⟩
                have HN2 : Hid (Rf w11 v11 (vals (fs)).sum) := hr
                have HB11 : Hid (Below w3.heap.size w3 w11 ∧ Below wo.heap.size wo w11) := ⟨below_step HB10.out.1 hb, below_step HB10.out.2 hb⟩
                have HV11 : Hid (Fs w11 (.slice none 0 0) (gw [] b)) := HV10.out.later hb
                have HX11 : Hid (Below (w4.alloc (.cells #[.float .f64 b] 22)).heap.size (w4.alloc (.cells #[.float .f64 b] 22)) w11) := below_step HX10.out hb
                have HN1' : Hid (Rf w11 v10 (vals (es)).sum) := HN1.out.later hb
                clear hr hb HN1
                go_wp2_with fail
                refine (mul_rf _ _ (vals (es)).sum (vals (fs)).sum _ HN1'.out HN2.out (safe_fit HE.out) (safe_fit HF.out)).mono ?_
                rintro e w12 ⟨v12, rfl, hr, hb⟩
                have HM : Hid (Rf w12 v12 ((vals (es)).sum * (vals (fs)).sum)) := hr
                have HB12 : Hid (Below w3.heap.size w3 w12 ∧ Below wo.heap.size wo w12) := ⟨below_step HB11.out.1 hb, below_step HB11.out.2 hb⟩
                have HV12 : Hid (Fs w12 (.slice none 0 0) (gw [] b)) := HV11.out.later hb
                have HX12 : Hid (Below (w4.alloc (.cells #[.float .f64 b] 22)).heap.size (w4.alloc (.cells #[.float .f64 b] 22)) w12) := below_step HX11.out hb
                clear hr hb HN1' HN2
                go_wp2_with fail
                refine (has_law _ _ b1 ((vals (es)).sum * (vals (fs)).sum) _ (H3.out.1.later HB12.out.1).fs HM.out H3.out.2.may H3.out.2.sum).mono ?_
                rintro e w13 ⟨rfl, hb⟩
                have HB13 : Hid (Below w3.heap.size w3 w13 ∧ Below wo.heap.size wo w13) := ⟨below_step HB12.out.1 hb, below_step HB12.out.2 hb⟩
                have HV13 : Hid (Fs w13 (.slice none 0 0) (gw [] b)) := HV12.out.later hb
                have HX13 : Hid (Below (w4.alloc (.cells #[.float .f64 b] 22)).heap.size (w4.alloc (.cells #[.float .f64 b] 22)) w13) := below_step HX12.out hb
                clear hb HM
                go_wp2_with fail
                refine (number_any _ (es) _ (H.out.1.later (below_step hT.out.bel HB13.out.2)) HE.out.1 (safe_up HE.out).fin).mono ?_
                rintro e w14 ⟨v14, rfl, hr, hb⟩
                have HN1 : Hid (Rf w14 v14 (vals (es)).sum) := hr
                have HB14 : Hid (Below w3.heap.size w3 w14 ∧ Below wo.heap.size wo w14) := ⟨below_step HB13.out.1 hb, below_step HB13.out.2 hb⟩
                have HV14 : Hid (Fs w14 (.slice none 0 0) (gw [] b)) := HV13.out.later hb
                have HX14 : Hid (Below (w4.alloc (.cells #[.float .f64 b] 22)).heap.size (w4.alloc (.cells #[.float .f64 b] 22)) w14) := below_step HX13.out hb
                clear hr hb
                go_wp2_with fail
                refine (number_any _ (gw [] b) _ HV14.out HO.out.1 (safe_up HO.out).fin).mono ?_
                rintro e w15 ⟨v15, rfl, hr, hb⟩
                have HN2 : Hid (Rf w15 v15 (vals (gw [] b)).sum) := hr
                have HB15 : Hid (Below w3.heap.size w3 w15 ∧ Below wo.heap.size wo w15) := ⟨below_step HB14.out.1 hb, below_step HB14.out.2 hb⟩
                have HV15 : Hid (Fs w15 (.slice none 0 0) (gw [] b)) := HV14.out.later hb
                have HX15 : Hid (Below (w4.alloc (.cells #[.float .f64 b] 22)).heap.size (w4.alloc (.cells #[.float .f64 b] 22)) w15) := below_step HX14.out hb
                have HN1' : Hid (Rf w15 v14 (vals (es)).sum) := HN1.out.later hb
                clear hr hb HN1
                go_wp2_with fail
                refine (mul_rf _ _ (vals (es)).sum (vals (gw [] b)).sum _ HN1'.out HN2.out (safe_fit HE.out) (safe_fit HO.out)).mono ?_
                rintro e w16 ⟨v16, rfl, hr, hb⟩
                have HM : Hid (Rf w16 v16 ((vals (es)).sum * (vals (gw [] b)).sum)) := hr
                have HB16 : Hid (Below w3.heap.size w3 w16 ∧ Below wo.heap.size wo w16) := ⟨below_step HB15.out.1 hb, below_step HB15.out.2 hb⟩
                have HV16 : Hid (Fs w16 (.slice none 0 0) (gw [] b)) := HV15.out.later hb
                have HX16 : Hid (Below (w4.alloc (.cells #[.float .f64 b] 22)).heap.size (w4.alloc (.cells #[.float .f64 b] 22)) w16) := below_step HX15.out hb
                clear hr hb HN1' HN2
                go_wp2_with fail
                refine (has_law _ _ b2 ((vals (es)).sum * (vals (gw [] b)).sum) _ (H4.out.1.later (below_step HAL.out HX16.out)).fs HM.out H4.out.2.may H4.out.2.sum).mono ?_
                rintro e w17 ⟨rfl, hb⟩
                have HB17 : Hid (Below w3.heap.size w3 w17 ∧ Below wo.heap.size wo w17) := ⟨below_step HB16.out.1 hb, below_step HB16.out.2 hb⟩
                have HV17 : Hid (Fs w17 (.slice none 0 0) (gw [] b)) := HV16.out.later hb
                have HX17 : Hid (Below (w4.alloc (.cells #[.float .f64 b] 22)).heap.size (w4.alloc (.cells #[.float .f64 b] 22)) w17) := below_step HX16.out hb
                clear hb HM
                go_wp2
                have n1 : (b1.length : Int) ≤ 64 := by have := H3.out.2.cnt; omega
                have HG : Hid (∀ g, a3 = some ⟨g, 0, none⟩ → g < w3.heap.size) := fun g e => by have := (H3.out.1.own.lt g (by rw [e]; rfl)).2; omega
                have n2 : (b2.length : Int) ≤ 64 := by have := H4.out.2.cnt; omega
                have HW3 : Hid (wo.heap.size ≤ w3.heap.size) := HB3.out.size
                have HS0 : Hid (Fr w17 wo.heap.size (.slice a3 b1.length d3) b1 ∧ Fr w17 w3.heap.size (.slice a4 b2.length d4) b2 ∧ Below wo.heap.size wo w17) := ⟨H3.out.1.later HB17.out.1, H4.out.1.later (below_step HAL.out HX17.out), HB17.out.2⟩
                go_loopw [17] (fun i W => ∃ j : Nat, j ≤ b1.length ∧ i = .int .i64 (j : Nat) ∧ Hid (∃ ds, ds.length = b1.length ∧ Fr W wo.heap.size (.slice a3 b1.length d3) ds ∧ Fr W w3.heap.size (.slice a4 b2.length d4) b2 ∧ Below wo.heap.size wo W)) (fun i _ => b1.length - (intOf i).toNat)
                case atStart => exact ⟨0, Nat.zero_le _, rfl, b1, rfl, HS0.out⟩
                case round =>
                  clear HS0
                  obtain ⟨j, hj, rfl, hz⟩ := hrel
                  by_cases hlj : j < b1.length
                  · obtain ⟨ds, hd, hf, hr⟩ := hz.out
                    obtain ⟨gg, rfl⟩ := fr_addr hf (by omega)
                    have hlj' : (j : Int) < (b1.length : Int) := by omega
                    have hj0 : (0 : Int) ≤ (j : Int) := by omega
                    have hf' := hf
                    rw [← hd] at hf'
                    have x1 := hf'.cell j (by omega)
                    have x2 := hf'.frozen j
                    have HZ : Hid (ds.length = b1.length ∧ Fr wr wo.heap.size (.slice (some ⟨gg, 0, none⟩) b1.length d3) ds ∧ Fr wr w3.heap.size (.slice a4 b2.length d4) b2 ∧ Below wo.heap.size wo wr) := ⟨hd, hf, hr⟩
                    generalize ds.getD j 0 = xx at x1
                    clear hd hf hr hf' hz
                    go_wp2
                    refine ⟨⟨j + 1, by omega, by go_num, ds.set j 4619567317775286272, by rw [List.length_set]; exact HZ.out.1, ?_, HZ.out.2.2.1.low (a := ⟨gg, j, none⟩) (HG.out gg rfl) _, HZ.out.2.2.2.setCell (p := ⟨gg, j, none⟩) HZ.out.2.1.base _⟩, by simp [intOf]; omega⟩
                    have h1 := HZ.out.2.1
                    rw [← HZ.out.1] at h1
                    have h2 := h1.set (k := j) (d := 4619567317775286272) (by omega)
                    rw [List.length_set, HZ.out.1] at h2
                    exact h2
                  · obtain rfl : j = b1.length := by omega
                    have hltb : decide ((b1.length : Int) < (b1.length : Int)) = false := decide_eq_false (by omega)
                    have HT0 : Hid (Fr wr w3.heap.size (.slice a4 b2.length d4) b2 ∧ Below wo.heap.size wo wr) := by obtain ⟨ds, _, _, hr⟩ := hz.out; exact hr
                    clear hz
                    go_wp2
                    go_loopw [18] (fun i W => ∃ j : Nat, j ≤ b2.length ∧ i = .int .i64 (j : Nat) ∧ Hid (∃ ds, ds.length = b2.length ∧ Fr W w3.heap.size (.slice a4 b2.length d4) ds ∧ Below wo.heap.size wo W)) (fun i _ => b2.length - (intOf i).toNat)
                    case atStart => exact ⟨0, Nat.zero_le _, rfl, b2, rfl, HT0.out⟩
                    case round =>
                      clear HT0
                      obtain ⟨j, hj, rfl, hz⟩ := hrel
                      by_cases hlj : j < b2.length
                      · obtain ⟨ds, hd, hf, hb⟩ := hz.out
                        obtain ⟨gg, rfl⟩ := fr_addr hf (by omega)
                        have hlj' : (j : Int) < (b2.length : Int) := by omega
                        have hj0 : (0 : Int) ≤ (j : Int) := by omega
                        have hf' := hf
                        rw [← hd] at hf'
                        have x1 := hf'.cell j (by omega)
                        have x2 := hf'.frozen j
                        have HZ : Hid (ds.length = b2.length ∧ Fr wr w3.heap.size (.slice (some ⟨gg, 0, none⟩) b2.length d4) ds ∧ Below wo.heap.size wo wr) := ⟨hd, hf, hb⟩
                        generalize ds.getD j 0 = xx at x1
                        clear hd hf hb hf' hz
                        go_wp2
                        refine ⟨⟨j + 1, by omega, by go_num, ds.set j 4619567317775286272, by rw [List.length_set]; exact HZ.out.1, ?_, HZ.out.2.2.setCell (p := ⟨gg, j, none⟩) (Nat.le_trans HW3.out HZ.out.2.1.base) _⟩, by simp [intOf]; omega⟩
                        have h1 := HZ.out.2.1
                        rw [← HZ.out.1] at h1
                        have h2 := h1.set (k := j) (d := 4619567317775286272) (by omega)
                        rw [List.length_set, HZ.out.1] at h2
                        exact h2
                      · obtain rfl : j = b2.length := by omega
                        have hltb2 : decide ((b2.length : Int) < (b2.length : Int)) = false := decide_eq_false (by omega)
                        have HZ : Hid (TwoP w wr (.slice ap es.length cp) (.slice aq fs.length cq) es fs) := by obtain ⟨ds, _, _, hb⟩ := hz.out; exact hT.out.later hb
                        clear hz
                        go_wp2_with fail
                        refine (same_any _ _ es _ HZ.out.p.fs (H.out.1.later HZ.out.bel) (by have := H.out.2.1; have := HL.out; omega)).mono ?_
                        rintro e wS ⟨rfl, hbS⟩
                        have HZ2 : Hid (TwoP w wS (.slice ap es.length cp) (.slice aq fs.length cq) es fs) := HZ.out.later hbS
                        clear hbS HZ
                        go_wp2_with fail
                        refine (same_any _ _ fs _ HZ2.out.q.fs (H2.out.1.later HZ2.out.bel) (by have := H2.out.2.1; have := HL.out; omega)).mono ?_
                        rintro e wU ⟨rfl, hbU⟩
                        have HZ3 : Hid (TwoP w wU (.slice ap es.length cp) (.slice aq fs.length cq) es fs) := HZ2.out.later hbU
                        clear hbU HZ2
                        go_wp2
                        exact ⟨⟨k + 1, by omega, by go_num, HZ3⟩, by simp [intOf]; omega⟩
              · have HO : Hid (¬ MayS (gw [] b)) := hO
                clear hO
                go_wp2_with fail
                refine (mulE_any _ _ es fs _ hT.out.p.fs hT.out.q.fs).mono ?_
                rintro e w3 ⟨⟨v1, b1, t1, rfl, hF1, g1, g2, g3⟩, hb3⟩
                obtain rfl := g1.2 ⟨HE.out, HF.out⟩
                obtain ⟨⟨a3, d3, e3, _⟩, _⟩ := id hF1.fs
                subst e3
                have H3 : Hid (Fr w3 wo.heap.size (.slice a3 b1.length d3) b1 ∧ SumS ((vals es).sum * (vals fs).sum) b1) := ⟨hF1, g2 rfl⟩
                have HB3 : Hid (Below wo.heap.size wo w3) := hb3
                clear hF1 g1 g2 g3 hb3
                go_wp2_with fail
                refine (scaleE_any _ es b _ (hT.out.p.fs.later HB3.out) HBW.out).mono ?_
                rintro e w4 ⟨⟨v2, b2, t2, rfl, hF2, g1, g2, g3⟩, hb4⟩
                obtain rfl : t2 = false := by
                  cases t2
                  · rfl
                  · exact absurd (g1.1 rfl).2.2 HO.out
                obtain rfl := g3 rfl
                obtain ⟨a4, d4, rfl⟩ := hF2.fs.none
                have HB4 : Hid (Below w3.heap.size w3 w4 ∧ Below wo.heap.size wo w4) := ⟨hb4, below_step HB3.out hb4⟩
                clear hF2 g1 g2 g3 hb4
                have HAL : Hid (Below w4.heap.size w4 (w4.alloc (.cells #[.float .f64 b] 22))) := (Below.refl _ w4).alloc (Nat.le_refl _) _
                have HB5 : Hid (Below w3.heap.size w3 (w4.alloc (.cells #[.float .f64 b] 22)) ∧ Below wo.heap.size wo (w4.alloc (.cells #[.float .f64 b] 22))) := ⟨below_step HB4.out.1 HAL.out, below_step HB4.out.2 HAL.out⟩
                have HV : Hid (Fs (w4.alloc (.cells #[.float .f64 b] 22)) (.slice none 0 0) (gw [] b)) := fs_nought HB0.out
                go_wp2_with fail
                refine (refSafe3_any _ (es) _ (H.out.1.later (below_step hT.out.bel HB5.out.2))).mono ?_
                rintro e w6 ⟨⟨t, rfl, ht⟩, hb⟩
                obtain rfl := ht.2 HE.out
                have HB6 : Hid (Below w3.heap.size w3 w6 ∧ Below wo.heap.size wo w6) := ⟨below_step HB5.out.1 hb, below_step HB5.out.2 hb⟩
                have HV6 : Hid (Fs w6 (.slice none 0 0) (gw [] b)) := HV.out.later hb
                have HX6 : Hid (Below (w4.alloc (.cells #[.float .f64 b] 22)).heap.size (w4.alloc (.cells #[.float .f64 b] 22)) w6) := hb
                clear ht hb
                go_wp2_with fail
                refine (refSafe3_any _ (fs) _ (H2.out.1.later (below_step hT.out.bel HB6.out.2))).mono ?_
                rintro e w7 ⟨⟨t, rfl, ht⟩, hb⟩
                obtain rfl := ht.2 HF.out
                have HB7 : Hid (Below w3.heap.size w3 w7 ∧ Below wo.heap.size wo w7) := ⟨below_step HB6.out.1 hb, below_step HB6.out.2 hb⟩
                have HV7 : Hid (Fs w7 (.slice none 0 0) (gw [] b)) := HV6.out.later hb
                have HX7 : Hid (Below (w4.alloc (.cells #[.float .f64 b] 22)).heap.size (w4.alloc (.cells #[.float .f64 b] 22)) w7) := below_step HX6.out hb
                clear ht hb
                go_wp2_with fail
                refine (refSafe3_any _ (es) _ (H.out.1.later (below_step hT.out.bel HB7.out.2))).mono ?_
                rintro e w8 ⟨⟨t, rfl, ht⟩, hb⟩
                obtain rfl := ht.2 HE.out
                have HB8 : Hid (Below w3.heap.size w3 w8 ∧ Below wo.heap.size wo w8) := ⟨below_step HB7.out.1 hb, below_step HB7.out.2 hb⟩
                have HV8 : Hid (Fs w8 (.slice none 0 0) (gw [] b)) := HV7.out.later hb
                have HX8 : Hid (Below (w4.alloc (.cells #[.float .f64 b] 22)).heap.size (w4.alloc (.cells #[.float .f64 b] 22)) w8) := below_step HX7.out hb
                clear ht hb
                go_wp2_with fail
                refine (refSafe3_any _ (gw [] b) _ HV8.out).mono ?_
                rintro e w9 ⟨⟨t, rfl, ht⟩, hb⟩
                obtain rfl : t = false := by
                  cases t
                  · rfl
                  · exact absurd (ht.1 rfl) HO.out
                have HB9 : Hid (Below w3.heap.size w3 w9 ∧ Below wo.heap.size wo w9) := ⟨below_step HB8.out.1 hb, below_step HB8.out.2 hb⟩
                have HV9 : Hid (Fs w9 (.slice none 0 0) (gw [] b)) := HV8.out.later hb
                have HX9 : Hid (Below (w4.alloc (.cells #[.float .f64 b] 22)).heap.size (w4.alloc (.cells #[.float .f64 b] 22)) w9) := below_step HX8.out hb
                clear ht hb
                go_wp2_with fail
                refine (number_any _ (es) _ (H.out.1.later (below_step hT.out.bel HB9.out.2)) HE.out.1 (safe_up HE.out).fin).mono ?_
                rintro e w10 ⟨v10, rfl, hr, hb⟩
                have HN1 : Hid (Rf w10 v10 (vals (es)).sum) := hr
                have HB10 : Hid (Below w3.heap.size w3 w10 ∧ Below wo.heap.size wo w10) := ⟨below_step HB9.out.1 hb, below_step HB9.out.2 hb⟩
                have HV10 : Hid (Fs w10 (.slice none 0 0) (gw [] b)) := HV9.out.later hb
                have HX10 : Hid (Below (w4.alloc (.cells #[.float .f64 b] 22)).heap.size (w4.alloc (.cells #[.float .f64 b] 22)) w10) := below_step HX9.out hb
                clear hr hb
                go_wp2_with fail
                refine (number_any _ (fs) _ (H2.out.1.later (below_step hT.out.bel HB10.out.2)) HF.out.1 (safe_up HF.out).fin).mono ?_
                rintro e w11 ⟨v11, rfl, hr, hb⟩
                have HN2 : Hid (Rf w11 v11 (vals (fs)).sum) := hr
                have HB11 : Hid (Below w3.heap.size w3 w11 ∧ Below wo.heap.size wo w11) := ⟨below_step HB10.out.1 hb, below_step HB10.out.2 hb⟩
                have HV11 : Hid (Fs w11 (.slice none 0 0) (gw [] b)) := HV10.out.later hb
                have HX11 : Hid (Below (w4.alloc (.cells #[.float .f64 b] 22)).heap.size (w4.alloc (.cells #[.float .f64 b] 22)) w11) := below_step HX10.out hb
                have HN1' : Hid (Rf w11 v10 (vals (es)).sum) := HN1.out.later hb
                clear hr hb HN1
                go_wp2_with fail
                refine (mul_rf _ _ (vals (es)).sum (vals (fs)).sum _ HN1'.out HN2.out (safe_fit HE.out) (safe_fit HF.out)).mono ?_
                rintro e w12 ⟨v12, rfl, hr, hb⟩
                have HM : Hid (Rf w12 v12 ((vals (es)).sum * (vals (fs)).sum)) := hr
                have HB12 : Hid (Below w3.heap.size w3 w12 ∧ Below wo.heap.size wo w12) := ⟨below_step HB11.out.1 hb, below_step HB11.out.2 hb⟩
                have HV12 : Hid (Fs w12 (.slice none 0 0) (gw [] b)) := HV11.out.later hb
                have HX12 : Hid (Below (w4.alloc (.cells #[.float .f64 b] 22)).heap.size (w4.alloc (.cells #[.float .f64 b] 22)) w12) := below_step HX11.out hb
                clear hr hb HN1' HN2
                go_wp2_with fail
                refine (has_law _ _ b1 ((vals (es)).sum * (vals (fs)).sum) _ (H3.out.1.later HB12.out.1).fs HM.out H3.out.2.may H3.out.2.sum).mono ?_
                rintro e w13 ⟨rfl, hb⟩
                have HB13 : Hid (Below w3.heap.size w3 w13 ∧ Below wo.heap.size wo w13) := ⟨below_step HB12.out.1 hb, below_step HB12.out.2 hb⟩
                have HV13 : Hid (Fs w13 (.slice none 0 0) (gw [] b)) := HV12.out.later hb
                have HX13 : Hid (Below (w4.alloc (.cells #[.float .f64 b] 22)).heap.size (w4.alloc (.cells #[.float .f64 b] 22)) w13) := below_step HX12.out hb
                clear hb HM
                go_wp2
                have n1 : (b1.length : Int) ≤ 64 := by have := H3.out.2.cnt; omega
                have HG : Hid (∀ g, a3 = some ⟨g, 0, none⟩ → g < w3.heap.size) := fun g e => by have := (H3.out.1.own.lt g (by rw [e]; rfl)).2; omega
                have HS0 : Hid (Fr w13 wo.heap.size (.slice a3 b1.length d3) b1 ∧ Below wo.heap.size wo w13) := ⟨H3.out.1.later HB13.out.1, HB13.out.2⟩
                go_loopw [17] (fun i W => ∃ j : Nat, j ≤ b1.length ∧ i = .int .i64 (j : Nat) ∧ Hid (∃ ds, ds.length = b1.length ∧ Fr W wo.heap.size (.slice a3 b1.length d3) ds ∧ Below wo.heap.size wo W)) (fun i _ => b1.length - (intOf i).toNat)
                case atStart => exact ⟨0, Nat.zero_le _, rfl, b1, rfl, HS0.out⟩
                case round =>
                  clear HS0
                  obtain ⟨j, hj, rfl, hz⟩ := hrel
                  by_cases hlj : j < b1.length
                  · obtain ⟨ds, hd, hf, hr⟩ := hz.out
                    obtain ⟨gg, rfl⟩ := fr_addr hf (by omega)
                    have hlj' : (j : Int) < (b1.length : Int) := by omega
                    have hj0 : (0 : Int) ≤ (j : Int) := by omega
                    have hf' := hf
                    rw [← hd] at hf'
                    have x1 := hf'.cell j (by omega)
                    have x2 := hf'.frozen j
                    have HZ : Hid (ds.length = b1.length ∧ Fr wr wo.heap.size (.slice (some ⟨gg, 0, none⟩) b1.length d3) ds ∧ Below wo.heap.size wo wr) := ⟨hd, hf, hr⟩
                    generalize ds.getD j 0 = xx at x1
                    clear hd hf hr hf' hz
                    go_wp2
                    refine ⟨⟨j + 1, by omega, by go_num, ds.set j 4619567317775286272, by rw [List.length_set]; exact HZ.out.1, ?_, HZ.out.2.2.setCell (p := ⟨gg, j, none⟩) HZ.out.2.1.base _⟩, by simp [intOf]; omega⟩
                    have h1 := HZ.out.2.1
                    rw [← HZ.out.1] at h1
                    have h2 := h1.set (k := j) (d := 4619567317775286272) (by omega)
                    rw [List.length_set, HZ.out.1] at h2
                    exact h2
                  · obtain rfl : j = b1.length := by omega
                    have hltb : decide ((b1.length : Int) < (b1.length : Int)) = false := decide_eq_false (by omega)
                    have HT0 : Hid (Below wo.heap.size wo wr) := by obtain ⟨ds, _, _, hr⟩ := hz.out; exact hr
                    clear hz
                    go_wp2
                    go_loopw [18] (fun i W => i = .int .i64 0 ∧ Hid (Below wo.heap.size wo W)) (fun _ _ => 0)
                    case atStart => exact ⟨rfl, HT0.out⟩
                    case round =>
                      clear HT0
                      obtain ⟨rfl, hz⟩ := hrel
                      have HZ : Hid (TwoP w wr (.slice ap es.length cp) (.slice aq fs.length cq) es fs) := hT.out.later hz.out
                      clear hz
                      go_wp2_with fail
                      refine (same_any _ _ es _ HZ.out.p.fs (H.out.1.later HZ.out.bel) (by have := H.out.2.1; have := HL.out; omega)).mono ?_
                      rintro e wS ⟨rfl, hbS⟩
                      have HZ2 : Hid (TwoP w wS (.slice ap es.length cp) (.slice aq fs.length cq) es fs) := HZ.out.later hbS
                      clear hbS HZ
                      go_wp2_with fail
                      refine (same_any _ _ fs _ HZ2.out.q.fs (H2.out.1.later HZ2.out.bel) (by have := H2.out.2.1; have := HL.out; omega)).mono ?_
                      rintro e wU ⟨rfl, hbU⟩
                      have HZ3 : Hid (TwoP w wU (.slice ap es.length cp) (.slice aq fs.length cq) es fs) := HZ2.out.later hbU
                      clear hbU HZ2
                      go_wp2
                      exact ⟨⟨k + 1, by omega, by go_num, HZ3⟩, by simp [intOf]; omega⟩
            · have HF : Hid (¬ MayS fs) := hF
              clear hF
              by_cases hO : MayS (gw [] b)
              · have HO : Hid (MayS (gw [] b)) := hO
                clear hO
                go_wp2_with fail
                refine (mulE_any _ _ es fs _ hT.out.p.fs hT.out.q.fs).mono ?_
                rintro e w3 ⟨⟨v1, b1, t1, rfl, hF1, g1, g2, g3⟩, hb3⟩
                obtain rfl : t1 = false := by
                  cases t1
                  · rfl
                  · exact absurd (g1.1 rfl).2 HF.out
                obtain rfl := g3 rfl
                obtain ⟨a3, d3, rfl⟩ := hF1.fs.none
                have HB3 : Hid (Below wo.heap.size wo w3) := hb3
                clear hF1 g1 g2 g3 hb3
                go_wp2_with fail
                refine (scaleE_any _ es b _ (hT.out.p.fs.later HB3.out) HBW.out).mono ?_
                rintro e w4 ⟨⟨v2, b2, t2, rfl, hF2, g1, g2, g3⟩, hb4⟩
                obtain rfl := g1.2 ⟨safe_check HO.out, HE.out, HO.out⟩
                obtain ⟨⟨a4, d4, e4, _⟩, _⟩ := id hF2.fs
                subst e4
                have H4 : Hid (Fr w4 w3.heap.size (.slice a4 b2.length d4) b2 ∧ SumS ((vals es).sum * (vals (gw [] b)).sum) b2) := ⟨hF2, g2 rfl⟩
                have HB4 : Hid (Below w3.heap.size w3 w4 ∧ Below wo.heap.size wo w4) := ⟨hb4, below_step HB3.out hb4⟩
                clear hF2 g1 g2 g3 hb4
                have HAL : Hid (Below w4.heap.size w4 (w4.alloc (.cells #[.float .f64 b] 22))) := (Below.refl _ w4).alloc (Nat.le_refl _) _
                have HB5 : Hid (Below w3.heap.size w3 (w4.alloc (.cells #[.float .f64 b] 22)) ∧ Below wo.heap.size wo (w4.alloc (.cells #[.float .f64 b] 22))) := ⟨below_step HB4.out.1 HAL.out, below_step HB4.out.2 HAL.out⟩
                have HV : Hid (Fs (w4.alloc (.cells #[.float .f64 b] 22)) (.slice none 0 0) (gw [] b)) := fs_nought HB0.out
                go_wp2_with fail
                refine (refSafe3_any _ (es) _ (H.out.1.later (below_step hT.out.bel HB5.out.2))).mono ?_
                rintro e w6 ⟨⟨t, rfl, ht⟩, hb⟩
                obtain rfl := ht.2 HE.out
                have HB6 : Hid (Below w3.heap.size w3 w6 ∧ Below wo.heap.size wo w6) := ⟨below_step HB5.out.1 hb, below_step HB5.out.2 hb⟩
                have HV6 : Hid (Fs w6 (.slice none 0 0) (gw [] b)) := HV.out.later hb
                have HX6 : Hid (Below (w4.alloc (.cells #[.float .f64 b] 22)).heap.size (w4.alloc (.cells #[.float .f64 b] 22)) w6) := hb
                clear ht hb
                go_wp2_with fail
                refine (refSafe3_any _ (fs) _ (H2.out.1.later (below_step hT.out.bel HB6.out.2))).mono ?_
                rintro e w7 ⟨⟨t, rfl, ht⟩, hb⟩
                obtain rfl : t = false := by
                  cases t
                  · rfl
                  · exact absurd (ht.1 rfl) HF.out
                have HB7 : Hid (Below w3.heap.size w3 w7 ∧ Below wo.heap.size wo w7) := ⟨below_step HB6.out.1 hb, below_step HB6.out.2 hb⟩
                have HV7 : Hid (Fs w7 (.slice none 0 0) (gw [] b)) := HV6.out.later hb
                have HX7 : Hid (Below (w4.alloc (.cells #[.float .f64 b] 22)).heap.size (w4.alloc (.cells #[.float .f64 b] 22)) w7) := below_step HX6.out hb
                clear ht hb
                go_wp2_with fail
                refine (refSafe3_any _ (es) _ (H.out.1.later (below_step hT.out.bel HB7.out.2))).mono ?_
                rintro e w8 ⟨⟨t, rfl, ht⟩, hb⟩
                obtain rfl := ht.2 HE.out
                have HB8 : Hid (Below w3.heap.size w3 w8 ∧ Below wo.heap.size wo w8) := ⟨below_step HB7.out.1 hb, below_step HB7.out.2 hb⟩
                have HV8 : Hid (Fs w8 (.slice none 0 0) (gw [] b)) := HV7.out.later hb
                have HX8 : Hid (Below (w4.alloc (.cells #[.float .f64 b] 22)).heap.size (w4.alloc (.cells #[.float .f64 b] 22)) w8) := below_step HX7.out hb
                clear ht hb
                go_wp2_with fail
                refine (refSafe3_any _ (gw [] b) _ HV8.out).mono ?_
                rintro e w9 ⟨⟨t, rfl, ht⟩, hb⟩
                obtain rfl := ht.2 HO.out
                have HB9 : Hid (Below w3.heap.size w3 w9 ∧ Below wo.heap.size wo w9) := ⟨below_step HB8.out.1 hb, below_step HB8.out.2 hb⟩
                have HV9 : Hid (Fs w9 (.slice none 0 0) (gw [] b)) := HV8.out.later hb
                have HX9 : Hid (Below (w4.alloc (.cells #[.float .f64 b] 22)).heap.size (w4.alloc (.cells #[.float .f64 b] 22)) w9) := below_step HX8.out hb
                clear ht hb
                go_wp2_with fail
                refine (number_any _ (es) _ (H.out.1.later (below_step hT.out.bel HB9.out.2)) HE.out.1 (safe_up HE.out).fin).mono ?_
                rintro e w10 ⟨v10, rfl, hr, hb⟩
                have HN1 : Hid (Rf w10 v10 (vals (es)).sum) := hr
                have HB10 : Hid (Below w3.heap.size w3 w10 ∧ Below wo.heap.size wo w10) := ⟨below_step HB9.out.1 hb, below_step HB9.out.2 hb⟩
                have HV10 : Hid (Fs w10 (.slice none 0 0) (gw [] b)) := HV9.out.later hb
                have HX10 : Hid (Below (w4.alloc (.cells #[.float .f64 b] 22)).heap.size (w4.alloc (.cells #[.float .f64 b] 22)) w10) := below_step HX9.out hb
                clear hr hb
                go_wp2_with fail
                refine (number_any _ (gw [] b) _ HV10.out HO.out.1 (safe_up HO.out).fin).mono ?_
                rintro e w11 ⟨v11, rfl, hr, hb⟩
                have HN2 : Hid (Rf w11 v11 (vals (gw [] b)).sum) := hr
                have HB11 : Hid (Below w3.heap.size w3 w11 ∧ Below wo.heap.size wo w11) := ⟨below_step HB10.out.1 hb, below_step HB10.out.2 hb⟩
                have HV11 : Hid (Fs w11 (.slice none 0 0) (gw [] b)) := HV10.out.later hb
                have HX11 : Hid (Below (w4.alloc (.cells #[.float .f64 b] 22)).heap.size (w4.alloc (.cells #[.float .f64 b] 22)) w11) := below_step HX10.out hb
                have HN1' : Hid (Rf w11 v10 (vals (es)).sum) := HN1.out.later hb
                clear hr hb HN1
                go_wp2_with fail
                refine (mul_rf _ _ (vals (es)).sum (vals (gw [] b)).sum _ HN1'.out HN2.out (safe_fit HE.out) (safe_fit HO.out)).mono ?_
                rintro e w12 ⟨v12, rfl, hr, hb⟩
                have HM : Hid (Rf w12 v12 ((vals (es)).sum * (vals (gw [] b)).sum)) := hr
                have HB12 : Hid (Below w3.heap.size w3 w12 ∧ Below wo.heap.size wo w12) := ⟨below_step HB11.out.1 hb, below_step HB11.out.2 hb⟩
                have HV12 : Hid (Fs w12 (.slice none 0 0) (gw [] b)) := HV11.out.later hb
                have HX12 : Hid (Below (w4.alloc (.cells #[.float .f64 b] 22)).heap.size (w4.alloc (.cells #[.float .f64 b] 22)) w12) := below_step HX11.out hb
                clear hr hb HN1' HN2
                go_wp2_with fail
                refine (has_law _ _ b2 ((vals (es)).sum * (vals (gw [] b)).sum) _ (H4.out.1.later (below_step HAL.out HX12.out)).fs HM.out H4.out.2.may H4.out.2.sum).mono ?_
                rintro e w13 ⟨rfl, hb⟩
                have HB13 : Hid (Below w3.heap.size w3 w13 ∧ Below wo.heap.size wo w13) := ⟨below_step HB12.out.1 hb, below_step HB12.out.2 hb⟩
                have HV13 : Hid (Fs w13 (.slice none 0 0) (gw [] b)) := HV12.out.later hb
                have HX13 : Hid (Below (w4.alloc (.cells #[.float .f64 b] 22)).heap.size (w4.alloc (.cells #[.float .f64 b] 22)) w13) := below_step HX12.out hb
                clear hb HM
                go_wp2
                have n2 : (b2.length : Int) ≤ 64 := by have := H4.out.2.cnt; omega
                have HW3 : Hid (wo.heap.size ≤ w3.heap.size) := HB3.out.size
                have HS0 : Hid (Fr w13 w3.heap.size (.slice a4 b2.length d4) b2 ∧ Below wo.heap.size wo w13) := ⟨H4.out.1.later (below_step HAL.out HX13.out), HB13.out.2⟩
                go_loopw [17] (fun i W => i = .int .i64 0 ∧ Hid (Fr W w3.heap.size (.slice a4 b2.length d4) b2 ∧ Below wo.heap.size wo W)) (fun _ _ => 0)
                case atStart => exact ⟨rfl, HS0.out⟩
                case round =>
                  clear HS0
                  obtain ⟨rfl, HT0⟩ := hrel
                  go_wp2
                  go_loopw [18] (fun i W => ∃ j : Nat, j ≤ b2.length ∧ i = .int .i64 (j : Nat) ∧ Hid (∃ ds, ds.length = b2.length ∧ Fr W w3.heap.size (.slice a4 b2.length d4) ds ∧ Below wo.heap.size wo W)) (fun i _ => b2.length - (intOf i).toNat)
                  case atStart => exact ⟨0, Nat.zero_le _, rfl, b2, rfl, HT0.out⟩
                  case round =>
                    clear HT0
                    obtain ⟨j, hj, rfl, hz⟩ := hrel
                    by_cases hlj : j < b2.length
                    · obtain ⟨ds, hd, hf, hb⟩ := hz.out
                      obtain ⟨gg, rfl⟩ := fr_addr hf (by omega)
                      have hlj' : (j : Int) < (b2.length : Int) := by omega
                      have hj0 : (0 : Int) ≤ (j : Int) := by omega
                      have hf' := hf
                      rw [← hd] at hf'
                      have x1 := hf'.cell j (by omega)
                      have x2 := hf'.frozen j
                      have HZ : Hid (ds.length = b2.length ∧ Fr wr w3.heap.size (.slice (some ⟨gg, 0, none⟩) b2.length d4) ds ∧ Below wo.heap.size wo wr) := ⟨hd, hf, hb⟩
                      generalize ds.getD j 0 = xx at x1
                      clear hd hf hb hf' hz
                      go_wp2
                      refine ⟨⟨j + 1, by omega, by go_num, ds.set j 4619567317775286272, by rw [List.length_set]; exact HZ.out.1, ?_, HZ.out.2.2.setCell (p := ⟨gg, j, none⟩) (Nat.le_trans HW3.out HZ.out.2.1.base) _⟩, by simp [intOf]; omega⟩
                      have h1 := HZ.out.2.1
                      rw [← HZ.out.1] at h1
                      have h2 := h1.set (k := j) (d := 4619567317775286272) (by omega)
                      rw [List.length_set, HZ.out.1] at h2
                      exact h2
                    · obtain rfl : j = b2.length := by omega
                      have hltb2 : decide ((b2.length : Int) < (b2.length : Int)) = false := decide_eq_false (by omega)
                      have HZ : Hid (TwoP w wr (.slice ap es.length cp) (.slice aq fs.length cq) es fs) := by obtain ⟨ds, _, _, hb⟩ := hz.out; exact hT.out.later hb
                      clear hz
                      go_wp2_with fail
                      refine (same_any _ _ es _ HZ.out.p.fs (H.out.1.later HZ.out.bel) (by have := H.out.2.1; have := HL.out; omega)).mono ?_
                      rintro e wS ⟨rfl, hbS⟩
                      have HZ2 : Hid (TwoP w wS (.slice ap es.length cp) (.slice aq fs.length cq) es fs) := HZ.out.later hbS
                      clear hbS HZ
                      go_wp2_with fail
                      refine (same_any _ _ fs _ HZ2.out.q.fs (H2.out.1.later HZ2.out.bel) (by have := H2.out.2.1; have := HL.out; omega)).mono ?_
                      rintro e wU ⟨rfl, hbU⟩
                      have HZ3 : Hid (TwoP w wU (.slice ap es.length cp) (.slice aq fs.length cq) es fs) := HZ2.out.later hbU
                      clear hbU HZ2
                      go_wp2
                      exact ⟨⟨k + 1, by omega, by go_num, HZ3⟩, by simp [intOf]; omega⟩
              · have HO : Hid (¬ MayS (gw [] b)) := hO
                clear hO
                go_wp2_with fail
                refine (mulE_any _ _ es fs _ hT.out.p.fs hT.out.q.fs).mono ?_
                rintro e w3 ⟨⟨v1, b1, t1, rfl, hF1, g1, g2, g3⟩, hb3⟩
                obtain rfl : t1 = false := by
                  cases t1
                  · rfl
                  · exact absurd (g1.1 rfl).2 HF.out
                obtain rfl := g3 rfl
                obtain ⟨a3, d3, rfl⟩ := hF1.fs.none
                have HB3 : Hid (Below wo.heap.size wo w3) := hb3
                clear hF1 g1 g2 g3 hb3
                go_wp2_with fail
                refine (scaleE_any _ es b _ (hT.out.p.fs.later HB3.out) HBW.out).mono ?_
                rintro e w4 ⟨⟨v2, b2, t2, rfl, hF2, g1, g2, g3⟩, hb4⟩
                obtain rfl : t2 = false := by
                  cases t2
                  · rfl
                  · exact absurd (g1.1 rfl).2.2 HO.out
                obtain rfl := g3 rfl
                obtain ⟨a4, d4, rfl⟩ := hF2.fs.none
                have HB4 : Hid (Below w3.heap.size w3 w4 ∧ Below wo.heap.size wo w4) := ⟨hb4, below_step HB3.out hb4⟩
                clear hF2 g1 g2 g3 hb4
                have HAL : Hid (Below w4.heap.size w4 (w4.alloc (.cells #[.float .f64 b] 22))) := (Below.refl _ w4).alloc (Nat.le_refl _) _
                have HB5 : Hid (Below w3.heap.size w3 (w4.alloc (.cells #[.float .f64 b] 22)) ∧ Below wo.heap.size wo (w4.alloc (.cells #[.float .f64 b] 22))) := ⟨below_step HB4.out.1 HAL.out, below_step HB4.out.2 HAL.out⟩
                have HV : Hid (Fs (w4.alloc (.cells #[.float .f64 b] 22)) (.slice none 0 0) (gw [] b)) := fs_nought HB0.out
                go_wp2_with fail
                refine (refSafe3_any _ (es) _ (H.out.1.later (below_step hT.out.bel HB5.out.2))).mono ?_
                rintro e w6 ⟨⟨t, rfl, ht⟩, hb⟩
                obtain rfl := ht.2 HE.out
                have HB6 : Hid (Below w3.heap.size w3 w6 ∧ Below wo.heap.size wo w6) := ⟨below_step HB5.out.1 hb, below_step HB5.out.2 hb⟩
                have HV6 : Hid (Fs w6 (.slice none 0 0) (gw [] b)) := HV.out.later hb
                have HX6 : Hid (Below (w4.alloc (.cells #[.float .f64 b] 22)).heap.size (w4.alloc (.cells #[.float .f64 b] 22)) w6) := hb
                clear ht hb
                go_wp2_with fail
                refine (refSafe3_any _ (fs) _ (H2.out.1.later (below_step hT.out.bel HB6.out.2))).mono ?_
                rintro e w7 ⟨⟨t, rfl, ht⟩, hb⟩
                obtain rfl : t = false := by
                  cases t
                  · rfl
                  · exact absurd (ht.1 rfl) HF.out
                have HB7 : Hid (Below w3.heap.size w3 w7 ∧ Below wo.heap.size wo w7) := ⟨below_step HB6.out.1 hb, below_step HB6.out.2 hb⟩
                have HV7 : Hid (Fs w7 (.slice none 0 0) (gw [] b)) := HV6.out.later hb
                have HX7 : Hid (Below (w4.alloc (.cells #[.float .f64 b] 22)).heap.size (w4.alloc (.cells #[.float .f64 b] 22)) w7) := below_step HX6.out hb
                clear ht hb
                go_wp2_with fail
                refine (refSafe3_any _ (es) _ (H.out.1.later (below_step hT.out.bel HB7.out.2))).mono ?_
                rintro e w8 ⟨⟨t, rfl, ht⟩, hb⟩
                obtain rfl := ht.2 HE.out
                have HB8 : Hid (Below w3.heap.size w3 w8 ∧ Below wo.heap.size wo w8) := ⟨below_step HB7.out.1 hb, below_step HB7.out.2 hb⟩
                have HV8 : Hid (Fs w8 (.slice none 0 0) (gw [] b)) := HV7.out.later hb
                have HX8 : Hid (Below (w4.alloc (.cells #[.float .f64 b] 22)).heap.size (w4.alloc (.cells #[.float .f64 b] 22)) w8) := below_step HX7.out hb
                clear ht hb
                go_wp2_with fail
                refine (refSafe3_any _ (gw [] b) _ HV8.out).mono ?_
                rintro e w9 ⟨⟨t, rfl, ht⟩, hb⟩
                obtain rfl : t = false := by
                  cases t
                  · rfl
                  · exact absurd (ht.1 rfl) HO.out
                have HB9 : Hid (Below w3.heap.size w3 w9 ∧ Below wo.heap.size wo w9) := ⟨below_step HB8.out.1 hb, below_step HB8.out.2 hb⟩
                have HV9 : Hid (Fs w9 (.slice none 0 0) (gw [] b)) := HV8.out.later hb
                have HX9 : Hid (Below (w4.alloc (.cells #[.float .f64 b] 22)).heap.size (w4.alloc (.cells #[.float .f64 b] 22)) w9) := below_step HX8.out hb
                clear ht hb
                go_wp2
                have HS0 : Hid (Below wo.heap.size wo w9) := HB9.out.2
                go_loopw [17] (fun i W => i = .int .i64 0 ∧ Hid (Below wo.heap.size wo W)) (fun _ _ => 0)
                case atStart => exact ⟨rfl, HS0.out⟩
                case round =>
                  clear HS0
                  obtain ⟨rfl, HT0⟩ := hrel
                  go_wp2
                  go_loopw [18] (fun i W => i = .int .i64 0 ∧ Hid (Below wo.heap.size wo W)) (fun _ _ => 0)
                  case atStart => exact ⟨rfl, HT0.out⟩
                  case round =>
                    clear HT0
                    obtain ⟨rfl, hz⟩ := hrel
                    have HZ : Hid (TwoP w wr (.slice ap es.length cp) (.slice aq fs.length cq) es fs) := hT.out.later hz.out
                    clear hz
                    go_wp2_with fail
                    refine (same_any _ _ es _ HZ.out.p.fs (H.out.1.later HZ.out.bel) (by have := H.out.2.1; have := HL.out; omega)).mono ?_
                    rintro e wS ⟨rfl, hbS⟩
                    have HZ2 : Hid (TwoP w wS (.slice ap es.length cp) (.slice aq fs.length cq) es fs) := HZ.out.later hbS
                    clear hbS HZ
                    go_wp2_with fail
                    refine (same_any _ _ fs _ HZ2.out.q.fs (H2.out.1.later HZ2.out.bel) (by have := H2.out.2.1; have := HL.out; omega)).mono ?_
                    rintro e wU ⟨rfl, hbU⟩
                    have HZ3 : Hid (TwoP w wU (.slice ap es.length cp) (.slice aq fs.length cq) es fs) := HZ2.out.later hbU
                    clear hbU HZ2
                    go_wp2
                    exact ⟨⟨k + 1, by omega, by go_num, HZ3⟩, by simp [intOf]; omega⟩
          · have HE : Hid (¬ MayS es) := hE
            clear hE
            go_wp2_with fail
            refine (mulE_any _ _ es fs _ hT.out.p.fs hT.out.q.fs).mono ?_
            rintro e w3 ⟨⟨v1, b1, t1, rfl, hF1, g1, g2, g3⟩, hb3⟩
            obtain rfl : t1 = false := by
              cases t1
              · rfl
              · exact absurd (g1.1 rfl).1 HE.out
            obtain rfl := g3 rfl
            obtain ⟨a3, d3, rfl⟩ := hF1.fs.none
            have HB3 : Hid (Below wo.heap.size wo w3) := hb3
            clear hF1 g1 g2 g3 hb3
            go_wp2_with fail
            refine (scaleE_any _ es b _ (hT.out.p.fs.later HB3.out) HBW.out).mono ?_
            rintro e w4 ⟨⟨v2, b2, t2, rfl, hF2, g1, g2, g3⟩, hb4⟩
            obtain rfl : t2 = false := by
              cases t2
              · rfl
              · exact absurd (g1.1 rfl).2.1 HE.out
            obtain rfl := g3 rfl
            obtain ⟨a4, d4, rfl⟩ := hF2.fs.none
            have HB4 : Hid (Below w3.heap.size w3 w4 ∧ Below wo.heap.size wo w4) := ⟨hb4, below_step HB3.out hb4⟩
            clear hF2 g1 g2 g3 hb4
            have HAL : Hid (Below w4.heap.size w4 (w4.alloc (.cells #[.float .f64 b] 22))) := (Below.refl _ w4).alloc (Nat.le_refl _) _
            have HB5 : Hid (Below w3.heap.size w3 (w4.alloc (.cells #[.float .f64 b] 22)) ∧ Below wo.heap.size wo (w4.alloc (.cells #[.float .f64 b] 22))) := ⟨below_step HB4.out.1 HAL.out, below_step HB4.out.2 HAL.out⟩
            have HV : Hid (Fs (w4.alloc (.cells #[.float .f64 b] 22)) (.slice none 0 0) (gw [] b)) := fs_nought HB0.out
            go_wp2_with fail
            refine (refSafe3_any _ (es) _ (H.out.1.later (below_step hT.out.bel HB5.out.2))).mono ?_
            rintro e w6 ⟨⟨t, rfl, ht⟩, hb⟩
            obtain rfl : t = false := by
              cases t
              · rfl
              · exact absurd (ht.1 rfl) HE.out
            have HB6 : Hid (Below w3.heap.size w3 w6 ∧ Below wo.heap.size wo w6) := ⟨below_step HB5.out.1 hb, below_step HB5.out.2 hb⟩
            have HV6 : Hid (Fs w6 (.slice none 0 0) (gw [] b)) := HV.out.later hb
            have HX6 : Hid (Below (w4.alloc (.cells #[.float .f64 b] 22)).heap.size (w4.alloc (.cells #[.float .f64 b] 22)) w6) := hb
            clear ht hb
            go_wp2_with fail
            refine (refSafe3_any _ (es) _ (H.out.1.later (below_step hT.out.bel HB6.out.2))).mono ?_
            rintro e w7 ⟨⟨t, rfl, ht⟩, hb⟩
            obtain rfl : t = false := by
              cases t
              · rfl
              · exact absurd (ht.1 rfl) HE.out
            have HB7 : Hid (Below w3.heap.size w3 w7 ∧ Below wo.heap.size wo w7) := ⟨below_step HB6.out.1 hb, below_step HB6.out.2 hb⟩
            have HV7 : Hid (Fs w7 (.slice none 0 0) (gw [] b)) := HV6.out.later hb
            have HX7 : Hid (Below (w4.alloc (.cells #[.float .f64 b] 22)).heap.size (w4.alloc (.cells #[.float .f64 b] 22)) w7) := below_step HX6.out hb
            clear ht hb
            go_wp2
            have HS0 : Hid (Below wo.heap.size wo w7) := HB7.out.2
            go_loopw [17] (fun i W => i = .int .i64 0 ∧ Hid (Below wo.heap.size wo W)) (fun _ _ => 0)
            case atStart => exact ⟨rfl, HS0.out⟩
            case round =>
              clear HS0
              obtain ⟨rfl, HT0⟩ := hrel
              go_wp2
              go_loopw [18] (fun i W => i = .int .i64 0 ∧ Hid (Below wo.heap.size wo W)) (fun _ _ => 0)
              case atStart => exact ⟨rfl, HT0.out⟩
              case round =>
                clear HT0
                obtain ⟨rfl, hz⟩ := hrel
                have HZ : Hid (TwoP w wr (.slice ap es.length cp) (.slice aq fs.length cq) es fs) := hT.out.later hz.out
                clear hz
                go_wp2_with fail
                refine (same_any _ _ es _ HZ.out.p.fs (H.out.1.later HZ.out.bel) (by have := H.out.2.1; have := HL.out; omega)).mono ?_
                rintro e wS ⟨rfl, hbS⟩
                have HZ2 : Hid (TwoP w wS (.slice ap es.length cp) (.slice aq fs.length cq) es fs) := HZ.out.later hbS
                clear hbS HZ
                go_wp2_with fail
                refine (same_any _ _ fs _ HZ2.out.q.fs (H2.out.1.later HZ2.out.bel) (by have := H2.out.2.1; have := HL.out; omega)).mono ?_
                rintro e wU ⟨rfl, hbU⟩
                have HZ3 : Hid (TwoP w wU (.slice ap es.length cp) (.slice aq fs.length cq) es fs) := HZ2.out.later hbU
                clear hbU HZ2
                go_wp2
                exact ⟨⟨k + 1, by omega, by go_num, HZ3⟩, by simp [intOf]; omega⟩
        · rw [decide_eq_false h0] at q
          have HB0 : Hid (frung b ≠ 0) := h0
          clear h0
          by_cases hE : MayS es
          · have HE : Hid (MayS es) := hE
            clear hE
            by_cases hF : MayS fs
            · have HF : Hid (MayS fs) := hF
              clear hF
              by_cases hO : MayS (gw [] b)
              · have HO : Hid (MayS (gw [] b)) := hO
                clear hO
                go_wp2_with fail
                refine (mulE_any _ _ es fs _ hT.out.p.fs hT.out.q.fs).mono ?_
                rintro e w3 ⟨⟨v1, b1, t1, rfl, hF1, g1, g2, g3⟩, hb3⟩
                obtain rfl := g1.2 ⟨HE.out, HF.out⟩
                obtain ⟨⟨a3, d3, e3, _⟩, _⟩ := id hF1.fs
                subst e3
                have H3 : Hid (Fr w3 wo.heap.size (.slice a3 b1.length d3) b1 ∧ SumS ((vals es).sum * (vals fs).sum) b1) := ⟨hF1, g2 rfl⟩
                have HB3 : Hid (Below wo.heap.size wo w3) := hb3
                clear hF1 g1 g2 g3 hb3
                go_wp2_with fail
                refine (scaleE_any _ es b _ (hT.out.p.fs.later HB3.out) HBW.out).mono ?_
                rintro e w4 ⟨⟨v2, b2, t2, rfl, hF2, g1, g2, g3⟩, hb4⟩
                obtain rfl := g1.2 ⟨safe_check HO.out, HE.out, HO.out⟩
                obtain ⟨⟨a4, d4, e4, _⟩, _⟩ := id hF2.fs
                subst e4
                have H4 : Hid (Fr w4 w3.heap.size (.slice a4 b2.length d4) b2 ∧ SumS ((vals es).sum * (vals (gw [] b)).sum) b2) := ⟨hF2, g2 rfl⟩
                have HB4 : Hid (Below w3.heap.size w3 w4 ∧ Below wo.heap.size wo w4) := ⟨hb4, below_step HB3.out hb4⟩
                clear hF2 g1 g2 g3 hb4
                have HAL : Hid (Below w4.heap.size w4 (w4.alloc (.cells #[.float .f64 b] 22))) := (Below.refl _ w4).alloc (Nat.le_refl _) _
                have HB5 : Hid (Below w3.heap.size w3 (w4.alloc (.cells #[.float .f64 b] 22)) ∧ Below wo.heap.size wo (w4.alloc (.cells #[.float .f64 b] 22))) := ⟨below_step HB4.out.1 HAL.out, below_step HB4.out.2 HAL.out⟩
                have HV : Hid (Fs (w4.alloc (.cells #[.float .f64 b] 22)) (.slice (some ⟨w4.heap.size, 0, none⟩) 1 1) (gw [] b)) := fs_one HBW.out HB0.out
                go_wp2_with fail
                refine (refSafe3_any _ (es) _ (H.out.1.later (below_step hT.out.bel HB5.out.2))).mono ?_
                rintro e w6 ⟨⟨t, rfl, ht⟩, hb⟩
                obtain rfl := ht.2 HE.out
                have HB6 : Hid (Below w3.heap.size w3 w6 ∧ Below wo.heap.size wo w6) := ⟨below_step HB5.out.1 hb, below_step HB5.out.2 hb⟩
                have HV6 : Hid (Fs w6 (.slice (some ⟨w4.heap.size, 0, none⟩) 1 1) (gw [] b)) := HV.out.later hb
                have HX6 : Hid (Below (w4.alloc (.cells #[.float .f64 b] 22)).heap.size (w4.alloc (.cells #[.float .f64 b] 22)) w6) := hb
                clear ht hb
                go_wp2_with fail
                refine (refSafe3_any _ (fs) _ (H2.out.1.later (below_step hT.out.bel HB6.out.2))).mono ?_
                rintro e w7 ⟨⟨t, rfl, ht⟩, hb⟩
                obtain rfl := ht.2 HF.out
                have HB7 : Hid (Below w3.heap.size w3 w7 ∧ Below wo.heap.size wo w7) := ⟨below_step HB6.out.1 hb, below_step HB6.out.2 hb⟩
                have HV7 : Hid (Fs w7 (.slice (some ⟨w4.heap.size, 0, none⟩) 1 1) (gw [] b)) := HV6.out.later hb
                have HX7 : Hid (Below (w4.alloc (.cells #[.float .f64 b] 22)).heap.size (w4.alloc (.cells #[.float .f64 b] 22)) w7) := below_step HX6.out hb
                clear ht hb
                go_wp2_with fail
                refine (refSafe3_any _ (es) _ (H.out.1.later (below_step hT.out.bel HB7.out.2))).mono ?_
                rintro e w8 ⟨⟨t, rfl, ht⟩, hb⟩
                obtain rfl := ht.2 HE.out
                have HB8 : Hid (Below w3.heap.size w3 w8 ∧ Below wo.heap.size wo w8) := ⟨below_step HB7.out.1 hb, below_step HB7.out.2 hb⟩
                have HV8 : Hid (Fs w8 (.slice (some ⟨w4.heap.size, 0, none⟩) 1 1) (gw [] b)) := HV7.out.later hb
                have HX8 : Hid (Below (w4.alloc (.cells #[.float .f64 b] 22)).heap.size (w4.alloc (.cells #[.float .f64 b] 22)) w8) := below_step HX7.out hb
                clear ht hb
                go_wp2_with fail
                refine (refSafe3_any _ (gw [] b) _ HV8.out).mono ?_
                rintro e w9 ⟨⟨t, rfl, ht⟩, hb⟩
                obtain rfl := ht.2 HO.out
                have HB9 : Hid (Below w3.heap.size w3 w9 ∧ Below wo.heap.size wo w9) := ⟨below_step HB8.out.1 hb, below_step HB8.out.2 hb⟩
                have HV9 : Hid (Fs w9 (.slice (some ⟨w4.heap.size, 0, none⟩) 1 1) (gw [] b)) := HV8.out.later hb
                have HX9 : Hid (Below (w4.alloc (.cells #[.float .f64 b] 22)).heap.size (w4.alloc (.cells #[.float .f64 b] 22)) w9) := below_step HX8.out hb
                clear ht hb
                go_wp2_with fail
                refine (number_any _ (es) _ (H.out.1.later (below_step hT.out.bel HB9.out.2)) HE.out.1 (safe_up HE.out).fin).mono ?_
                rintro e w10 ⟨v10, rfl, hr, hb⟩
                have HN1 : Hid (Rf w10 v10 (vals (es)).sum) := hr
                have HB10 : Hid (Below w3.heap.size w3 w10 ∧ Below wo.heap.size wo w10) := ⟨below_step HB9.out.1 hb, below_step HB9.out.2 hb⟩
                have HV10 : Hid (Fs w10 (.slice (some ⟨w4.heap.size, 0, none⟩) 1 1) (gw [] b)) := HV9.out.later hb
                have HX10 : Hid (Below (w4.alloc (.cells #[.float .f64 b] 22)).heap.size (w4.alloc (.cells #[.float .f64 b] 22)) w10) := below_step HX9.out hb
                clear hr hb
                go_wp2_with fail
                refine (number_any _ (fs) _ (H2.out.1.later (below_step hT.out.bel HB10.out.2)) HF.out.1 (safe_up HF.out).fin).mono ?_
                rintro e w11 ⟨v11, rfl, hr, hb⟩
                have HN2 : Hid (Rf w11 v11 (vals (fs)).sum) := hr
                have HB11 : Hid (Below w3.heap.size w3 w11 ∧ Below wo.heap.size wo w11) := ⟨below_step HB10.out.1 hb, below_step HB10.out.2 hb⟩
                have HV11 : Hid (Fs w11 (.slice (some ⟨w4.heap.size, 0, none⟩) 1 1) (gw [] b)) := HV10.out.later hb
                have HX11 : Hid (Below (w4.alloc (.cells #[.float .f64 b] 22)).heap.size (w4.alloc (.cells #[.float .f64 b] 22)) w11) := below_step HX10.out hb
                have HN1' : Hid (Rf w11 v10 (vals (es)).sum) := HN1.out.later hb
                clear hr hb HN1
                go_wp2_with fail
                refine (mul_rf _ _ (vals (es)).sum (vals (fs)).sum _ HN1'.out HN2.out (safe_fit HE.out) (safe_fit HF.out)).mono ?_
                rintro e w12 ⟨v12, rfl, hr, hb⟩
                have HM : Hid (Rf w12 v12 ((vals (es)).sum * (vals (fs)).sum)) := hr
                have HB12 : Hid (Below w3.heap.size w3 w12 ∧ Below wo.heap.size wo w12) := ⟨below_step HB11.out.1 hb, below_step HB11.out.2 hb⟩
                have HV12 : Hid (Fs w12 (.slice (some ⟨w4.heap.size, 0, none⟩) 1 1) (gw [] b)) := HV11.out.later hb
                have HX12 : Hid (Below (w4.alloc (.cells #[.float .f64 b] 22)).heap.size (w4.alloc (.cells #[.float .f64 b] 22)) w12) := below_step HX11.out hb
                clear hr hb HN1' HN2
                go_wp2_with fail
                refine (has_law _ _ b1 ((vals (es)).sum * (vals (fs)).sum) _ (H3.out.1.later HB12.out.1).fs HM.out H3.out.2.may H3.out.2.sum).mono ?_
                rintro e w13 ⟨rfl, hb⟩
                have HB13 : Hid (Below w3.heap.size w3 w13 ∧ Below wo.heap.size wo w13) := ⟨below_step HB12.out.1 hb, below_step HB12.out.2 hb⟩
                have HV13 : Hid (Fs w13 (.slice (some ⟨w4.heap.size, 0, none⟩) 1 1) (gw [] b)) := HV12.out.later hb
                have HX13 : Hid (Below (w4.alloc (.cells #[.float .f64 b] 22)).heap.size (w4.alloc (.cells #[.float .f64 b] 22)) w13) := below_step HX12.out hb
                clear hb HM
                go_wp2_with fail
                refine (number_any _ (es) _ (H.out.1.later (below_step hT.out.bel HB13.out.2)) HE.out.1 (safe_up HE.out).fin).mono ?_
                rintro e w14 ⟨v14, rfl, hr, hb⟩
                have HN1 : Hid (Rf w14 v14 (vals (es)).sum) := hr
                have HB14 : Hid (Below w3.heap.size w3 w14 ∧ Below wo.heap.size wo w14) := ⟨below_step HB13.out.1 hb, below_step HB13.out.2 hb⟩
                have HV14 : Hid (Fs w14 (.slice (some ⟨w4.heap.size, 0, none⟩) 1 1) (gw [] b)) := HV13.out.later hb
                have HX14 : Hid (Below (w4.alloc (.cells #[.float .f64 b] 22)).heap.size (w4.alloc (.cells #[.float .f64 b] 22)) w14) := below_step HX13.out hb
                clear hr hb
                go_wp2_with fail
                refine (number_any _ (gw [] b) _ HV14.out HO.out.1 (safe_up HO.out).fin).mono ?_
                rintro e w15 ⟨v15, rfl, hr, hb⟩
                have HN2 : Hid (Rf w15 v15 (vals (gw [] b)).sum) := hr
                have HB15 : Hid (Below w3.heap.size w3 w15 ∧ Below wo.heap.size wo w15) := ⟨below_step HB14.out.1 hb, below_step HB14.out.2 hb⟩
                have HV15 : Hid (Fs w15 (.slice (some ⟨w4.heap.size, 0, none⟩) 1 1) (gw [] b)) := HV14.out.later hb
                have HX15 : Hid (Below (w4.alloc (.cells #[.float .f64 b] 22)).heap.size (w4.alloc (.cells #[.float .f64 b] 22)) w15) := below_step HX14.out hb
                have HN1' : Hid (Rf w15 v14 (vals (es)).sum) := HN1.out.later hb
                clear hr hb HN1
                go_wp2_with fail
                refine (mul_rf _ _ (vals (es)).sum (vals (gw [] b)).sum _ HN1'.out HN2.out (safe_fit HE.out) (safe_fit HO.out)).mono ?_
                rintro e w16 ⟨v16, rfl, hr, hb⟩
                have HM : Hid (Rf w16 v16 ((vals (es)).sum * (vals (gw [] b)).sum)) := hr
                have HB16 : Hid (Below w3.heap.size w3 w16 ∧ Below wo.heap.size wo w16) := ⟨below_step HB15.out.1 hb, below_step HB15.out.2 hb⟩
                have HV16 : Hid (Fs w16 (.slice (some ⟨w4.heap.size, 0, none⟩) 1 1) (gw [] b)) := HV15.out.later hb
                have HX16 : Hid (Below (w4.alloc (.cells #[.float .f64 b] 22)).heap.size (w4.alloc (.cells #[.float .f64 b] 22)) w16) := below_step HX15.out hb
                clear hr hb HN1' HN2
                go_wp2_with fail
                refine (has_law _ _ b2 ((vals (es)).sum * (vals (gw [] b)).sum) _ (H4.out.1.later (below_step HAL.out HX16.out)).fs HM.out H4.out.2.may H4.out.2.sum).mono ?_
                rintro e w17 ⟨rfl, hb⟩
                have HB17 : Hid (Below w3.heap.size w3 w17 ∧ Below wo.heap.size wo w17) := ⟨below_step HB16.out.1 hb, below_step HB16.out.2 hb⟩
                have HV17 : Hid (Fs w17 (.slice (some ⟨w4.heap.size, 0, none⟩) 1 1) (gw [] b)) := HV16.out.later hb
                have HX17 : Hid (Below (w4.alloc (.cells #[.float .f64 b] 22)).heap.size (w4.alloc (.cells #[.float .f64 b] 22)) w17) := below_step HX16.out hb
                clear hb HM
                go_wp2
                have n1 : (b1.length : Int) ≤ 64 := by have := H3.out.2.cnt; omega
                have HG : Hid (∀ g, a3 = some ⟨g, 0, none⟩ → g < w3.heap.size) := fun g e => by have := (H3.out.1.own.lt g (by rw [e]; rfl)).2; omega
                have n2 : (b2.length : Int) ≤ 64 := by have := H4.out.2.cnt; omega
                have HW3 : Hid (wo.heap.size ≤ w3.heap.size) := HB3.out.size
                have HS0 : Hid (Fr w17 wo.heap.size (.slice a3 b1.length d3) b1 ∧ Fr w17 w3.heap.size (.slice a4 b2.length d4) b2 ∧ Below wo.heap.size wo w17) := ⟨H3.out.1.later HB17.out.1, H4.out.1.later (below_step HAL.out HX17.out), HB17.out.2⟩
                go_loopw [17] (fun i W => ∃ j : Nat, j ≤ b1.length ∧ i = .int .i64 (j : Nat) ∧ Hid (∃ ds, ds.length = b1.length ∧ Fr W wo.heap.size (.slice a3 b1.length d3) ds ∧ Fr W w3.heap.size (.slice a4 b2.length d4) b2 ∧ Below wo.heap.size wo W)) (fun i _ => b1.length - (intOf i).toNat)
                case atStart => exact ⟨0, Nat.zero_le _, rfl, b1, rfl, HS0.out⟩
                case round =>
                  clear HS0
                  obtain ⟨j, hj, rfl, hz⟩ := hrel
                  by_cases hlj : j < b1.length
                  · obtain ⟨ds, hd, hf, hr⟩ := hz.out
                    obtain ⟨gg, rfl⟩ := fr_addr hf (by omega)
                    have hlj' : (j : Int) < (b1.length : Int) := by omega
                    have hj0 : (0 : Int) ≤ (j : Int) := by omega
                    have hf' := hf
                    rw [← hd] at hf'
                    have x1 := hf'.cell j (by omega)
                    have x2 := hf'.frozen j
                    have HZ : Hid (ds.length = b1.length ∧ Fr wr wo.heap.size (.slice (some ⟨gg, 0, none⟩) b1.length d3) ds ∧ Fr wr w3.heap.size (.slice a4 b2.length d4) b2 ∧ Below wo.heap.size wo wr) := ⟨hd, hf, hr⟩
                    generalize ds.getD j 0 = xx at x1
                    clear hd hf hr hf' hz
                    go_wp2
                    refine ⟨⟨j + 1, by omega, by go_num, ds.set j 4619567317775286272, by rw [List.length_set]; exact HZ.out.1, ?_, HZ.out.2.2.1.low (a := ⟨gg, j, none⟩) (HG.out gg rfl) _, HZ.out.2.2.2.setCell (p := ⟨gg, j, none⟩) HZ.out.2.1.base _⟩, by simp [intOf]; omega⟩
                    have h1 := HZ.out.2.1
                    rw [← HZ.out.1] at h1
                    have h2 := h1.set (k := j) (d := 4619567317775286272) (by omega)
                    rw [List.length_set, HZ.out.1] at h2
                    exact h2
                  · obtain rfl : j = b1.length := by omega
                    have hltb : decide ((b1.length : Int) < (b1.length : Int)) = false := decide_eq_false (by omega)
                    have HT0 : Hid (Fr wr w3.heap.size (.slice a4 b2.length d4) b2 ∧ Below wo.heap.size wo wr) := by obtain ⟨ds, _, _, hr⟩ := hz.out; exact hr
                    clear hz
                    go_wp2
                    go_loopw [18] (fun i W => ∃ j : Nat, j ≤ b2.length ∧ i = .int .i64 (j : Nat) ∧ Hid (∃ ds, ds.length = b2.length ∧ Fr W w3.heap.size (.slice a4 b2.length d4) ds ∧ Below wo.heap.size wo W)) (fun i _ => b2.length - (intOf i).toNat)
                    case atStart => exact ⟨0, Nat.zero_le _, rfl, b2, rfl, HT0.out⟩
                    case round =>
                      clear HT0
                      obtain ⟨j, hj, rfl, hz⟩ := hrel
                      by_cases hlj : j < b2.length
                      · obtain ⟨ds, hd, hf, hb⟩ := hz.out
                        obtain ⟨gg, rfl⟩ := fr_addr hf (by omega)
                        have hlj' : (j : Int) < (b2.length : Int) := by omega
                        have hj0 : (0 : Int) ≤ (j : Int) := by omega
                        have hf' := hf
                        rw [← hd] at hf'
                        have x1 := hf'.cell j (by omega)
                        have x2 := hf'.frozen j
                        have HZ : Hid (ds.length = b2.length ∧ Fr wr w3.heap.size (.slice (some ⟨gg, 0, none⟩) b2.length d4) ds ∧ Below wo.heap.size wo wr) := ⟨hd, hf, hb⟩
                        generalize ds.getD j 0 = xx at x1
                        clear hd hf hb hf' hz
                        go_wp2
                        refine ⟨⟨j + 1, by omega, by go_num, ds.set j 4619567317775286272, by rw [List.length_set]; exact HZ.out.1, ?_, HZ.out.2.2.setCell (p := ⟨gg, j, none⟩) (Nat.le_trans HW3.out HZ.out.2.1.base) _⟩, by simp [intOf]; omega⟩
                        have h1 := HZ.out.2.1
                        rw [← HZ.out.1] at h1
                        have h2 := h1.set (k := j) (d := 4619567317775286272) (by omega)
                        rw [List.length_set, HZ.out.1] at h2
                        exact h2
                      · obtain rfl : j = b2.length := by omega
                        have hltb2 : decide ((b2.length : Int) < (b2.length : Int)) = false := decide_eq_false (by omega)
                        have HZ : Hid (TwoP w wr (.slice ap es.length cp) (.slice aq fs.length cq) es fs) := by obtain ⟨ds, _, _, hb⟩ := hz.out; exact hT.out.later hb
                        clear hz
                        go_wp2_with fail
                        refine (same_any _ _ es _ HZ.out.p.fs (H.out.1.later HZ.out.bel) (by have := H.out.2.1; have := HL.out; omega)).mono ?_
                        rintro e wS ⟨rfl, hbS⟩
                        have HZ2 : Hid (TwoP w wS (.slice ap es.length cp) (.slice aq fs.length cq) es fs) := HZ.out.later hbS
                        clear hbS HZ
                        go_wp2_with fail
                        refine (same_any _ _ fs _ HZ2.out.q.fs (H2.out.1.later HZ2.out.bel) (by have := H2.out.2.1; have := HL.out; omega)).mono ?_
                        rintro e wU ⟨rfl, hbU⟩
                        have HZ3 : Hid (TwoP w wU (.slice ap es.length cp) (.slice aq fs.length cq) es fs) := HZ2.out.later hbU
                        clear hbU HZ2
                        go_wp2
                        exact ⟨⟨k + 1, by omega, by go_num, HZ3⟩, by simp [intOf]; omega⟩
              · have HO : Hid (¬ MayS (gw [] b)) := hO
                clear hO
                go_wp2_with fail
                refine (mulE_any _ _ es fs _ hT.out.p.fs hT.out.q.fs).mono ?_
                rintro e w3 ⟨⟨v1, b1, t1, rfl, hF1, g1, g2, g3⟩, hb3⟩
                obtain rfl := g1.2 ⟨HE.out, HF.out⟩
                obtain ⟨⟨a3, d3, e3, _⟩, _⟩ := id hF1.fs
                subst e3
                have H3 : Hid (Fr w3 wo.heap.size (.slice a3 b1.length d3) b1 ∧ SumS ((vals es).sum * (vals fs).sum) b1) := ⟨hF1, g2 rfl⟩
                have HB3 : Hid (Below wo.heap.size wo w3) := hb3
                clear hF1 g1 g2 g3 hb3
                go_wp2_with fail
                refine (scaleE_any _ es b _ (hT.out.p.fs.later HB3.out) HBW.out).mono ?_
                rintro e w4 ⟨⟨v2, b2, t2, rfl, hF2, g1, g2, g3⟩, hb4⟩
                obtain rfl : t2 = false := by
                  cases t2
                  · rfl
                  · exact absurd (g1.1 rfl).2.2 HO.out
                obtain rfl := g3 rfl
                obtain ⟨a4, d4, rfl⟩ := hF2.fs.none
                have HB4 : Hid (Below w3.heap.size w3 w4 ∧ Below wo.heap.size wo w4) := ⟨hb4, below_step HB3.out hb4⟩
                clear hF2 g1 g2 g3 hb4
                have HAL : Hid (Below w4.heap.size w4 (w4.alloc (.cells #[.float .f64 b] 22))) := (Below.refl _ w4).alloc (Nat.le_refl _) _
                have HB5 : Hid (Below w3.heap.size w3 (w4.alloc (.cells #[.float .f64 b] 22)) ∧ Below wo.heap.size wo (w4.alloc (.cells #[.float .f64 b] 22))) := ⟨below_step HB4.out.1 HAL.out, below_step HB4.out.2 HAL.out⟩
                have HV : Hid (Fs (w4.alloc (.cells #[.float .f64 b] 22)) (.slice (some ⟨w4.heap.size, 0, none⟩) 1 1) (gw [] b)) := fs_one HBW.out HB0.out
                go_wp2_with fail
                refine (refSafe3_any _ (es) _ (H.out.1.later (below_step hT.out.bel HB5.out.2))).mono ?_
                rintro e w6 ⟨⟨t, rfl, ht⟩, hb⟩
                obtain rfl := ht.2 HE.out
                have HB6 : Hid (Below w3.heap.size w3 w6 ∧ Below wo.heap.size wo w6) := ⟨below_step HB5.out.1 hb, below_step HB5.out.2 hb⟩
                have HV6 : Hid (Fs w6 (.slice (some ⟨w4.heap.size, 0, none⟩) 1 1) (gw [] b)) := HV.out.later hb
                have HX6 : Hid (Below (w4.alloc (.cells #[.float .f64 b] 22)).heap.size (w4.alloc (.cells #[.float .f64 b] 22)) w6) := hb
                clear ht hb
                go_wp2_with fail
                refine (refSafe3_any _ (fs) _ (H2.out.1.later (below_step hT.out.bel HB6.out.2))).mono ?_
                rintro e w7 ⟨⟨t, rfl, ht⟩, hb⟩
                obtain rfl := ht.2 HF.out
                have HB7 : Hid (Below w3.heap.size w3 w7 ∧ Below wo.heap.size wo w7) := ⟨below_step HB6.out.1 hb, below_step HB6.out.2 hb⟩
                have HV7 : Hid (Fs w7 (.slice (some ⟨w4.heap.size, 0, none⟩) 1 1) (gw [] b)) := HV6.out.later hb
                have HX7 : Hid (Below (w4.alloc (.cells #[.float .f64 b] 22)).heap.size (w4.alloc (.cells #[.float .f64 b] 22)) w7) := below_step HX6.out hb
                clear ht hb
                go_wp2_with fail
                refine (refSafe3_any _ (es) _ (H.out.1.later (below_step hT.out.bel HB7.out.2))).mono ?_
                rintro e w8 ⟨⟨t, rfl, ht⟩, hb⟩
                obtain rfl := ht.2 HE.out
                have HB8 : Hid (Below w3.heap.size w3 w8 ∧ Below wo.heap.size wo w8) := ⟨below_step HB7.out.1 hb, below_step HB7.out.2 hb⟩
                have HV8 : Hid (Fs w8 (.slice (some ⟨w4.heap.size, 0, none⟩) 1 1) (gw [] b)) := HV7.out.later hb
                have HX8 : Hid (Below (w4.alloc (.cells #[.float .f64 b] 22)).heap.size (w4.alloc (.cells #[.float .f64 b] 22)) w8) := below_step HX7.out hb
                clear ht hb
                go_wp2_with fail
                refine (refSafe3_any _ (gw [] b) _ HV8.out).mono ?_
                rintro e w9 ⟨⟨t, rfl, ht⟩, hb⟩
                obtain rfl : t = false := by
                  cases t
                  · rfl
                  · exact absurd (ht.1 rfl) HO.out
                have HB9 : Hid (Below w3.heap.size w3 w9 ∧ Below wo.heap.size wo w9) := ⟨below_step HB8.out.1 hb, below_step HB8.out.2 hb⟩
                have HV9 : Hid (Fs w9 (.slice (some ⟨w4.heap.size, 0, none⟩) 1 1) (gw [] b)) := HV8.out.later hb
                have HX9 : Hid (Below (w4.alloc (.cells #[.float .f64 b] 22)).heap.size (w4.alloc (.cells #[.float .f64 b] 22)) w9) := below_step HX8.out hb
                clear ht hb
                go_wp2_with fail
                refine (number_any _ (es) _ (H.out.1.later (below_step hT.out.bel HB9.out.2)) HE.out.1 (safe_up HE.out).fin).mono ?_
                rintro e w10 ⟨v10, rfl, hr, hb⟩
                have HN1 : Hid (Rf w10 v10 (vals (es)).sum) := hr
                have HB10 : Hid (Below w3.heap.size w3 w10 ∧ Below wo.heap.size wo w10) := ⟨below_step HB9.out.1 hb, below_step HB9.out.2 hb⟩
                have HV10 : Hid (Fs w10 (.slice (some ⟨w4.heap.size, 0, none⟩) 1 1) (gw [] b)) := HV9.out.later hb
                have HX10 : Hid (Below (w4.alloc (.cells #[.float .f64 b] 22)).heap.size (w4.alloc (.cells #[.float .f64 b] 22)) w10) := below_step HX9.out hb
                clear hr hb
                go_wp2_with fail
                refine (number_any _ (fs) _ (H2.out.1.later (below_step hT.out.bel HB10.out.2)) HF.out.1 (safe_up HF.out).fin).mono ?_
                rintro e w11 ⟨v11, rfl, hr, hb⟩
                have HN2 : Hid (Rf w11 v11 (vals (fs)).sum) := hr
                have HB11 : Hid (Below w3.heap.size w3 w11 ∧ Below wo.heap.size wo w11) := ⟨below_step HB10.out.1 hb, below_step HB10.out.2 hb⟩
                have HV11 : Hid (Fs w11 (.slice (some ⟨w4.heap.size, 0, none⟩) 1 1) (gw [] b)) := HV10.out.later hb
                have HX11 : Hid (Below (w4.alloc (.cells #[.float .f64 b] 22)).heap.size (w4.alloc (.cells #[.float .f64 b] 22)) w11) := below_step HX10.out hb
                have HN1' : Hid (Rf w11 v10 (vals (es)).sum) := HN1.out.later hb
                clear hr hb HN1
                go_wp2_with fail
                refine (mul_rf _ _ (vals (es)).sum (vals (fs)).sum _ HN1'.out HN2.out (safe_fit HE.out) (safe_fit HF.out)).mono ?_
                rintro e w12 ⟨v12, rfl, hr, hb⟩
                have HM : Hid (Rf w12 v12 ((vals (es)).sum * (vals (fs)).sum)) := hr
                have HB12 : Hid (Below w3.heap.size w3 w12 ∧ Below wo.heap.size wo w12) := ⟨below_step HB11.out.1 hb, below_step HB11.out.2 hb⟩
                have HV12 : Hid (Fs w12 (.slice (some ⟨w4.heap.size, 0, none⟩) 1 1) (gw [] b)) := HV11.out.later hb
                have HX12 : Hid (Below (w4.alloc (.cells #[.float .f64 b] 22)).heap.size (w4.alloc (.cells #[.float .f64 b] 22)) w12) := below_step HX11.out hb
                clear hr hb HN1' HN2
                go_wp2_with fail
                refine (has_law _ _ b1 ((vals (es)).sum * (vals (fs)).sum) _ (H3.out.1.later HB12.out.1).fs HM.out H3.out.2.may H3.out.2.sum).mono ?_
                rintro e w13 ⟨rfl, hb⟩
                have HB13 : Hid (Below w3.heap.size w3 w13 ∧ Below wo.heap.size wo w13) := ⟨below_step HB12.out.1 hb, below_step HB12.out.2 hb⟩
                have HV13 : Hid (Fs w13 (.slice (some ⟨w4.heap.size, 0, none⟩) 1 1) (gw [] b)) := HV12.out.later hb
                have HX13 : Hid (Below (w4.alloc (.cells #[.float .f64 b] 22)).heap.size (w4.alloc (.cells #[.float .f64 b] 22)) w13) := below_step HX12.out hb
                clear hb HM
                go_wp2
                have n1 : (b1.length : Int) ≤ 64 := by have := H3.out.2.cnt; omega
                have HG : Hid (∀ g, a3 = some ⟨g, 0, none⟩ → g < w3.heap.size) := fun g e => by have := (H3.out.1.own.lt g (by rw [e]; rfl)).2; omega
                have HS0 : Hid (Fr w13 wo.heap.size (.slice a3 b1.length d3) b1 ∧ Below wo.heap.size wo w13) := ⟨H3.out.1.later HB13.out.1, HB13.out.2⟩
                go_loopw [17] (fun i W => ∃ j : Nat, j ≤ b1.length ∧ i = .int .i64 (j : Nat) ∧ Hid (∃ ds, ds.length = b1.length ∧ Fr W wo.heap.size (.slice a3 b1.length d3) ds ∧ Below wo.heap.size wo W)) (fun i _ => b1.length - (intOf i).toNat)
                case atStart => exact ⟨0, Nat.zero_le _, rfl, b1, rfl, HS0.out⟩
                case round =>
                  clear HS0
                  obtain ⟨j, hj, rfl, hz⟩ := hrel
                  by_cases hlj : j < b1.length
                  · obtain ⟨ds, hd, hf, hr⟩ := hz.out
                    obtain ⟨gg, rfl⟩ := fr_addr hf (by omega)
                    have hlj' : (j : Int) < (b1.length : Int) := by omega
                    have hj0 : (0 : Int) ≤ (j : Int) := by omega
                    have hf' := hf
                    rw [← hd] at hf'
                    have x1 := hf'.cell j (by omega)
                    have x2 := hf'.frozen j
                    have HZ : Hid (ds.length = b1.length ∧ Fr wr wo.heap.size (.slice (some ⟨gg, 0, none⟩) b1.length d3) ds ∧ Below wo.heap.size wo wr) := ⟨hd, hf, hr⟩
                    generalize ds.getD j 0 = xx at x1
                    clear hd hf hr hf' hz
                    go_wp2
                    refine ⟨⟨j + 1, by omega, by go_num, ds.set j 4619567317775286272, by rw [List.length_set]; exact HZ.out.1, ?_, HZ.out.2.2.setCell (p := ⟨gg, j, none⟩) HZ.out.2.1.base _⟩, by simp [intOf]; omega⟩
                    have h1 := HZ.out.2.1
                    rw [← HZ.out.1] at h1
                    have h2 := h1.set (k := j) (d := 4619567317775286272) (by omega)
                    rw [List.length_set, HZ.out.1] at h2
                    exact h2
                  · obtain rfl : j = b1.length := by omega
                    have hltb : decide ((b1.length : Int) < (b1.length : Int)) = false := decide_eq_false (by omega)
                    have HT0 : Hid (Below wo.heap.size wo wr) := by obtain ⟨ds, _, _, hr⟩ := hz.out; exact hr
                    clear hz
                    go_wp2
                    go_loopw [18] (fun i W => i = .int .i64 0 ∧ Hid (Below wo.heap.size wo W)) (fun _ _ => 0)
                    case atStart => exact ⟨rfl, HT0.out⟩
                    case round =>
                      clear HT0
                      obtain ⟨rfl, hz⟩ := hrel
                      have HZ : Hid (TwoP w wr (.slice ap es.length cp) (.slice aq fs.length cq) es fs) := hT.out.later hz.out
                      clear hz
                      go_wp2_with fail
                      refine (same_any _ _ es _ HZ.out.p.fs (H.out.1.later HZ.out.bel) (by have := H.out.2.1; have := HL.out; omega)).mono ?_
                      rintro e wS ⟨rfl, hbS⟩
                      have HZ2 : Hid (TwoP w wS (.slice ap es.length cp) (.slice aq fs.length cq) es fs) := HZ.out.later hbS
                      clear hbS HZ
                      go_wp2_with fail
                      refine (same_any _ _ fs _ HZ2.out.q.fs (H2.out.1.later HZ2.out.bel) (by have := H2.out.2.1; have := HL.out; omega)).mono ?_
                      rintro e wU ⟨rfl, hbU⟩
                      have HZ3 : Hid (TwoP w wU (.slice ap es.length cp) (.slice aq fs.length cq) es fs) := HZ2.out.later hbU
                      clear hbU HZ2
                      go_wp2
                      exact ⟨⟨k + 1, by omega, by go_num, HZ3⟩, by simp [intOf]; omega⟩
            · have HF : Hid (¬ MayS fs) := hF
              clear hF
              by_cases hO : MayS (gw [] b)
              · have HO : Hid (MayS (gw [] b)) := hO
                clear hO
                go_wp2_with fail
                refine (mulE_any _ _ es fs _ hT.out.p.fs hT.out.q.fs).mono ?_
                rintro e w3 ⟨⟨v1, b1, t1, rfl, hF1, g1, g2, g3⟩, hb3⟩
                obtain rfl : t1 = false := by
                  cases t1
                  · rfl
                  · exact absurd (g1.1 rfl).2 HF.out
                obtain rfl := g3 rfl
                obtain ⟨a3, d3, rfl⟩ := hF1.fs.none
                have HB3 : Hid (Below wo.heap.size wo w3) := hb3
                clear hF1 g1 g2 g3 hb3
                go_wp2_with fail
                refine (scaleE_any _ es b _ (hT.out.p.fs.later HB3.out) HBW.out).mono ?_
                rintro e w4 ⟨⟨v2, b2, t2, rfl, hF2, g1, g2, g3⟩, hb4⟩
                obtain rfl := g1.2 ⟨safe_check HO.out, HE.out, HO.out⟩
                obtain ⟨⟨a4, d4, e4, _⟩, _⟩ := id hF2.fs
                subst e4
                have H4 : Hid (Fr w4 w3.heap.size (.slice a4 b2.length d4) b2 ∧ SumS ((vals es).sum * (vals (gw [] b)).sum) b2) := ⟨hF2, g2 rfl⟩
                have HB4 : Hid (Below w3.heap.size w3 w4 ∧ Below wo.heap.size wo w4) := ⟨hb4, below_step HB3.out hb4⟩
                clear hF2 g1 g2 g3 hb4
                have HAL : Hid (Below w4.heap.size w4 (w4.alloc (.cells #[.float .f64 b] 22))) := (Below.refl _ w4).alloc (Nat.le_refl _) _
                have HB5 : Hid (Below w3.heap.size w3 (w4.alloc (.cells #[.float .f64 b] 22)) ∧ Below wo.heap.size wo (w4.alloc (.cells #[.float .f64 b] 22))) := ⟨below_step HB4.out.1 HAL.out, below_step HB4.out.2 HAL.out⟩
                have HV : Hid (Fs (w4.alloc (.cells #[.float .f64 b] 22)) (.slice (some ⟨w4.heap.size, 0, none⟩) 1 1) (gw [] b)) := fs_one HBW.out HB0.out
                go_wp2_with fail
                refine (refSafe3_any _ (es) _ (H.out.1.later (below_step hT.out.bel HB5.out.2))).mono ?_
                rintro e w6 ⟨⟨t, rfl, ht⟩, hb⟩
                obtain rfl := ht.2 HE.out
                have HB6 : Hid (Below w3.heap.size w3 w6 ∧ Below wo.heap.size wo w6) := ⟨below_step HB5.out.1 hb, below_step HB5.out.2 hb⟩
                have HV6 : Hid (Fs w6 (.slice (some ⟨w4.heap.size, 0, none⟩) 1 1) (gw [] b)) := HV.out.later hb
                have HX6 : Hid (Below (w4.alloc (.cells #[.float .f64 b] 22)).heap.size (w4.alloc (.cells #[.float .f64 b] 22)) w6) := hb
                clear ht hb
                go_wp2_with fail
                refine (refSafe3_any _ (fs) _ (H2.out.1.later (below_step hT.out.bel HB6.out.2))).mono ?_
                rintro e w7 ⟨⟨t, rfl, ht⟩, hb⟩
                obtain rfl : t = false := by
                  cases t
                  · rfl
                  · exact absurd (ht.1 rfl) HF.out
                have HB7 : Hid (Below w3.heap.size w3 w7 ∧ Below wo.heap.size wo w7) := ⟨below_step HB6.out.1 hb, below_step HB6.out.2 hb⟩
                have HV7 : Hid (Fs w7 (.slice (some ⟨w4.heap.size, 0, none⟩) 1 1) (gw [] b)) := HV6.out.later hb
                have HX7 : Hid (Below (w4.alloc (.cells #[.float .f64 b] 22)).heap.size (w4.alloc (.cells #[.float .f64 b] 22)) w7) := below_step HX6.out hb
                clear ht hb
                go_wp2_with fail
                refine (refSafe3_any _ (es) _ (H.out.1.later (below_step hT.out.bel HB7.out.2))).mono ?_
                rintro e w8 ⟨⟨t, rfl, ht⟩, hb⟩
                obtain rfl := ht.2 HE.out
                have HB8 : Hid (Below w3.heap.size w3 w8 ∧ Below wo.heap.size wo w8) := ⟨below_step HB7.out.1 hb, below_step HB7.out.2 hb⟩
                have HV8 : Hid (Fs w8 (.slice (some ⟨w4.heap.size, 0, none⟩) 1 1) (gw [] b)) := HV7.out.later hb
                have HX8 : Hid (Below (w4.alloc (.cells #[.float .f64 b] 22)).heap.size (w4.alloc (.cells #[.float .f64 b] 22)) w8) := below_step HX7.out hb
                clear ht hb
                go_wp2_with fail
                refine (refSafe3_any _ (gw [] b) _ HV8.out).mono ?_
                rintro e w9 ⟨⟨t, rfl, ht⟩, hb⟩
                obtain rfl := ht.2 HO.out
                have HB9 : Hid (Below w3.heap.size w3 w9 ∧ Below wo.heap.size wo w9) := ⟨below_step HB8.out.1 hb, below_step HB8.out.2 hb⟩
                have HV9 : Hid (Fs w9 (.slice (some ⟨w4.heap.size, 0, none⟩) 1 1) (gw [] b)) := HV8.out.later hb
                have HX9 : Hid (Below (w4.alloc (.cells #[.float .f64 b] 22)).heap.size (w4.alloc (.cells #[.float .f64 b] 22)) w9) := below_step HX8.out hb
                clear ht hb
                go_wp2_with fail
                refine (number_any _ (es) _ (H.out.1.later (below_step hT.out.bel HB9.out.2)) HE.out.1 (safe_up HE.out).fin).mono ?_
                rintro e w10 ⟨v10, rfl, hr, hb⟩
                have HN1 : Hid (Rf w10 v10 (vals (es)).sum) := hr
                have HB10 : Hid (Below w3.heap.size w3 w10 ∧ Below wo.heap.size wo w10) := ⟨below_step HB9.out.1 hb, below_step HB9.out.2 hb⟩
                have HV10 : Hid (Fs w10 (.slice (some ⟨w4.heap.size, 0, none⟩) 1 1) (gw [] b)) := HV9.out.later hb
                have HX10 : Hid (Below (w4.alloc (.cells #[.float .f64 b] 22)).heap.size (w4.alloc (.cells #[.float .f64 b] 22)) w10) := below_step HX9.out hb
                clear hr hb
                go_wp2_with fail
                refine (number_any _ (gw [] b) _ HV10.out HO.out.1 (safe_up HO.out).fin).mono ?_
                rintro e w11 ⟨v11, rfl, hr, hb⟩
                have HN2 : Hid (Rf w11 v11 (vals (gw [] b)).sum) := hr
                have HB11 : Hid (Below w3.heap.size w3 w11 ∧ Below wo.heap.size wo w11) := ⟨below_step HB10.out.1 hb, below_step HB10.out.2 hb⟩
                have HV11 : Hid (Fs w11 (.slice (some ⟨w4.heap.size, 0, none⟩) 1 1) (gw [] b)) := HV10.out.later hb
                have HX11 : Hid (Below (w4.alloc (.cells #[.float .f64 b] 22)).heap.size (w4.alloc (.cells #[.float .f64 b] 22)) w11) := below_step HX10.out hb
                have HN1' : Hid (Rf w11 v10 (vals (es)).sum) := HN1.out.later hb
                clear hr hb HN1
                go_wp2_with fail
                refine (mul_rf _ _ (vals (es)).sum (vals (gw [] b)).sum _ HN1'.out HN2.out (safe_fit HE.out) (safe_fit HO.out)).mono ?_
                rintro e w12 ⟨v12, rfl, hr, hb⟩
                have HM : Hid (Rf w12 v12 ((vals (es)).sum * (vals (gw [] b)).sum)) := hr
                have HB12 : Hid (Below w3.heap.size w3 w12 ∧ Below wo.heap.size wo w12) := ⟨below_step HB11.out.1 hb, below_step HB11.out.2 hb⟩
                have HV12 : Hid (Fs w12 (.slice (some ⟨w4.heap.size, 0, none⟩) 1 1) (gw [] b)) := HV11.out.later hb
                have HX12 : Hid (Below (w4.alloc (.cells #[.float .f64 b] 22)).heap.size (w4.alloc (.cells #[.float .f64 b] 22)) w12) := below_step HX11.out hb
                clear hr hb HN1' HN2
                go_wp2_with fail
                refine (has_law _ _ b2 ((vals (es)).sum * (vals (gw [] b)).sum) _ (H4.out.1.later (below_step HAL.out HX12.out)).fs HM.out H4.out.2.may H4.out.2.sum).mono ?_
                rintro e w13 ⟨rfl, hb⟩
                have HB13 : Hid (Below w3.heap.size w3 w13 ∧ Below wo.heap.size wo w13) := ⟨below_step HB12.out.1 hb, below_step HB12.out.2 hb⟩
                have HV13 : Hid (Fs w13 (.slice (some ⟨w4.heap.size, 0, none⟩) 1 1) (gw [] b)) := HV12.out.later hb
                have HX13 : Hid (Below (w4.alloc (.cells #[.float .f64 b] 22)).heap.size (w4.alloc (.cells #[.float .f64 b] 22)) w13) := below_step HX12.out hb
                clear hb HM
                go_wp2
                have n2 : (b2.length : Int) ≤ 64 := by have := H4.out.2.cnt; omega
                have HW3 : Hid (wo.heap.size ≤ w3.heap.size) := HB3.out.size
                have HS0 : Hid (Fr w13 w3.heap.size (.slice a4 b2.length d4) b2 ∧ Below wo.heap.size wo w13) := ⟨H4.out.1.later (below_step HAL.out HX13.out), HB13.out.2⟩
                go_loopw [17] (fun i W => i = .int .i64 0 ∧ Hid (Fr W w3.heap.size (.slice a4 b2.length d4) b2 ∧ Below wo.heap.size wo W)) (fun _ _ => 0)
                case atStart => exact ⟨rfl, HS0.out⟩
                case round =>
                  clear HS0
                  obtain ⟨rfl, HT0⟩ := hrel
                  go_wp2
                  go_loopw [18] (fun i W => ∃ j : Nat, j ≤ b2.length ∧ i = .int .i64 (j : Nat) ∧ Hid (∃ ds, ds.length = b2.length ∧ Fr W w3.heap.size (.slice a4 b2.length d4) ds ∧ Below wo.heap.size wo W)) (fun i _ => b2.length - (intOf i).toNat)
                  case atStart => exact ⟨0, Nat.zero_le _, rfl, b2, rfl, HT0.out⟩
                  case round =>
                    clear HT0
                    obtain ⟨j, hj, rfl, hz⟩ := hrel
                    by_cases hlj : j < b2.length
                    · obtain ⟨ds, hd, hf, hb⟩ := hz.out
                      obtain ⟨gg, rfl⟩ := fr_addr hf (by omega)
                      have hlj' : (j : Int) < (b2.length : Int) := by omega
                      have hj0 : (0 : Int) ≤ (j : Int) := by omega
                      have hf' := hf
                      rw [← hd] at hf'
                      have x1 := hf'.cell j (by omega)
                      have x2 := hf'.frozen j
                      have HZ : Hid (ds.length = b2.length ∧ Fr wr w3.heap.size (.slice (some ⟨gg, 0, none⟩) b2.length d4) ds ∧ Below wo.heap.size wo wr) := ⟨hd, hf, hb⟩
                      generalize ds.getD j 0 = xx at x1
                      clear hd hf hb hf' hz
                      go_wp2
                      refine ⟨⟨j + 1, by omega, by go_num, ds.set j 4619567317775286272, by rw [List.length_set]; exact HZ.out.1, ?_, HZ.out.2.2.setCell (p := ⟨gg, j, none⟩) (Nat.le_trans HW3.out HZ.out.2.1.base) _⟩, by simp [intOf]; omega⟩
                      have h1 := HZ.out.2.1
                      rw [← HZ.out.1] at h1
                      have h2 := h1.set (k := j) (d := 4619567317775286272) (by omega)
                      rw [List.length_set, HZ.out.1] at h2
                      exact h2
                    · obtain rfl : j = b2.length := by omega
                      have hltb2 : decide ((b2.length : Int) < (b2.length : Int)) = false := decide_eq_false (by omega)
                      have HZ : Hid (TwoP w wr (.slice ap es.length cp) (.slice aq fs.length cq) es fs) := by obtain ⟨ds, _, _, hb⟩ := hz.out; exact hT.out.later hb
                      clear hz
                      go_wp2_with fail
                      refine (same_any _ _ es _ HZ.out.p.fs (H.out.1.later HZ.out.bel) (by have := H.out.2.1; have := HL.out; omega)).mono ?_
                      rintro e wS ⟨rfl, hbS⟩
                      have HZ2 : Hid (TwoP w wS (.slice ap es.length cp) (.slice aq fs.length cq) es fs) := HZ.out.later hbS
                      clear hbS HZ
                      go_wp2_with fail
                      refine (same_any _ _ fs _ HZ2.out.q.fs (H2.out.1.later HZ2.out.bel) (by have := H2.out.2.1; have := HL.out; omega)).mono ?_
                      rintro e wU ⟨rfl, hbU⟩
                      have HZ3 : Hid (TwoP w wU (.slice ap es.length cp) (.slice aq fs.length cq) es fs) := HZ2.out.later hbU
                      clear hbU HZ2
                      go_wp2
                      exact ⟨⟨k + 1, by omega, by go_num, HZ3⟩, by simp [intOf]; omega⟩
              · have HO : Hid (¬ MayS (gw [] b)) := hO
                clear hO
                go_wp2_with fail
                refine (mulE_any _ _ es fs _ hT.out.p.fs hT.out.q.fs).mono ?_
                rintro e w3 ⟨⟨v1, b1, t1, rfl, hF1, g1, g2, g3⟩, hb3⟩
                obtain rfl : t1 = false := by
                  cases t1
                  · rfl
                  · exact absurd (g1.1 rfl).2 HF.out
                obtain rfl := g3 rfl
                obtain ⟨a3, d3, rfl⟩ := hF1.fs.none
                have HB3 : Hid (Below wo.heap.size wo w3) := hb3
                clear hF1 g1 g2 g3 hb3
                go_wp2_with fail
                refine (scaleE_any _ es b _ (hT.out.p.fs.later HB3.out) HBW.out).mono ?_
                rintro e w4 ⟨⟨v2, b2, t2, rfl, hF2, g1, g2, g3⟩, hb4⟩
                obtain rfl : t2 = false := by
                  cases t2
                  · rfl
                  · exact absurd (g1.1 rfl).2.2 HO.out
                obtain rfl := g3 rfl
                obtain ⟨a4, d4, rfl⟩ := hF2.fs.none
                have HB4 : Hid (Below w3.heap.size w3 w4 ∧ Below wo.heap.size wo w4) := ⟨hb4, below_step HB3.out hb4⟩
                clear hF2 g1 g2 g3 hb4
                have HAL : Hid (Below w4.heap.size w4 (w4.alloc (.cells #[.float .f64 b] 22))) := (Below.refl _ w4).alloc (Nat.le_refl _) _
                have HB5 : Hid (Below w3.heap.size w3 (w4.alloc (.cells #[.float .f64 b] 22)) ∧ Below wo.heap.size wo (w4.alloc (.cells #[.float .f64 b] 22))) := ⟨below_step HB4.out.1 HAL.out, below_step HB4.out.2 HAL.out⟩
                have HV : Hid (Fs (w4.alloc (.cells #[.float .f64 b] 22)) (.slice (some ⟨w4.heap.size, 0, none⟩) 1 1) (gw [] b)) := fs_one HBW.out HB0.out
                go_wp2_with fail
                refine (refSafe3_any _ (es) _ (H.out.1.later (below_step hT.out.bel HB5.out.2))).mono ?_
                rintro e w6 ⟨⟨t, rfl, ht⟩, hb⟩
                obtain rfl := ht.2 HE.out
                have HB6 : Hid (Below w3.heap.size w3 w6 ∧ Below wo.heap.size wo w6) := ⟨below_step HB5.out.1 hb, below_step HB5.out.2 hb⟩
                have HV6 : Hid (Fs w6 (.slice (some ⟨w4.heap.size, 0, none⟩) 1 1) (gw [] b)) := HV.out.later hb
                have HX6 : Hid (Below (w4.alloc (.cells #[.float .f64 b] 22)).heap.size (w4.alloc (.cells #[.float .f64 b] 22)) w6) := hb
                clear ht hb
                go_wp2_with fail
                refine (refSafe3_any _ (fs) _ (H2.out.1.later (below_step hT.out.bel HB6.out.2))).mono ?_
                rintro e w7 ⟨⟨t, rfl, ht⟩, hb⟩
                obtain rfl : t = false := by
                  cases t
                  · rfl
                  · exact absurd (ht.1 rfl) HF.out
                have HB7 : Hid (Below w3.heap.size w3 w7 ∧ Below wo.heap.size wo w7) := ⟨below_step HB6.out.1 hb, below_step HB6.out.2 hb⟩
                have HV7 : Hid (Fs w7 (.slice (some ⟨w4.heap.size, 0, none⟩) 1 1) (gw [] b)) := HV6.out.later hb
                have HX7 : Hid (Below (w4.alloc (.cells #[.float .f64 b] 22)).heap.size (w4.alloc (.cells #[.float .f64 b] 22)) w7) := below_step HX6.out hb
                clear ht hb
                go_wp2_with fail
                refine (refSafe3_any _ (es) _ (H.out.1.later (below_step hT.out.bel HB7.out.2))).mono ?_
                rintro e w8 ⟨⟨t, rfl, ht⟩, hb⟩
                obtain rfl := ht.2 HE.out
                have HB8 : Hid (Below w3.heap.size w3 w8 ∧ Below wo.heap.size wo w8) := ⟨below_step HB7.out.1 hb, below_step HB7.out.2 hb⟩
                have HV8 : Hid (Fs w8 (.slice (some ⟨w4.heap.size, 0, none⟩) 1 1) (gw [] b)) := HV7.out.later hb
                have HX8 : Hid (Below (w4.alloc (.cells #[.float .f64 b] 22)).heap.size (w4.alloc (.cells #[.float .f64 b] 22)) w8) := below_step HX7.out hb
                clear ht hb
                go_wp2_with fail
                refine (refSafe3_any _ (gw [] b) _ HV8.out).mono ?_
                rintro e w9 ⟨⟨t, rfl, ht⟩, hb⟩
                obtain rfl : t = false := by
                  cases t
                  · rfl
                  · exact absurd (ht.1 rfl) HO.out
                have HB9 : Hid (Below w3.heap.size w3 w9 ∧ Below wo.heap.size wo w9) := ⟨below_step HB8.out.1 hb, below_step HB8.out.2 hb⟩
                have HV9 : Hid (Fs w9 (.slice (some ⟨w4.heap.size, 0, none⟩) 1 1) (gw [] b)) := HV8.out.later hb
                have HX9 : Hid (Below (w4.alloc (.cells #[.float .f64 b] 22)).heap.size (w4.alloc (.cells #[.float .f64 b] 22)) w9) := below_step HX8.out hb
                clear ht hb
                go_wp2
                have HS0 : Hid (Below wo.heap.size wo w9) := HB9.out.2
                go_loopw [17] (fun i W => i = .int .i64 0 ∧ Hid (Below wo.heap.size wo W)) (fun _ _ => 0)
                case atStart => exact ⟨rfl, HS0.out⟩
                case round =>
                  clear HS0
                  obtain ⟨rfl, HT0⟩ := hrel
                  go_wp2
                  go_loopw [18] (fun i W => i = .int .i64 0 ∧ Hid (Below wo.heap.size wo W)) (fun _ _ => 0)
                  case atStart => exact ⟨rfl, HT0.out⟩
                  case round =>
                    clear HT0
                    obtain ⟨rfl, hz⟩ := hrel
                    have HZ : Hid (TwoP w wr (.slice ap es.length cp) (.slice aq fs.length cq) es fs) := hT.out.later hz.out
                    clear hz
                    go_wp2_with fail
                    refine (same_any _ _ es _ HZ.out.p.fs (H.out.1.later HZ.out.bel) (by have := H.out.2.1; have := HL.out; omega)).mono ?_
                    rintro e wS ⟨rfl, hbS⟩
                    have HZ2 : Hid (TwoP w wS (.slice ap es.length cp) (.slice aq fs.length cq) es fs) := HZ.out.later hbS
                    clear hbS HZ
                    go_wp2_with fail
                    refine (same_any _ _ fs _ HZ2.out.q.fs (H2.out.1.later HZ2.out.bel) (by have := H2.out.2.1; have := HL.out; omega)).mono ?_
                    rintro e wU ⟨rfl, hbU⟩
                    have HZ3 : Hid (TwoP w wU (.slice ap es.length cp) (.slice aq fs.length cq) es fs) := HZ2.out.later hbU
                    clear hbU HZ2
                    go_wp2
                    exact ⟨⟨k + 1, by omega, by go_num, HZ3⟩, by simp [intOf]; omega⟩
          · have HE : Hid (¬ MayS es) := hE
            clear hE
            go_wp2_with fail
            refine (mulE_any _ _ es fs _ hT.out.p.fs hT.out.q.fs).mono ?_
            rintro e w3 ⟨⟨v1, b1, t1, rfl, hF1, g1, g2, g3⟩, hb3⟩
            obtain rfl : t1 = false := by
              cases t1
              · rfl
              · exact absurd (g1.1 rfl).1 HE.out
            obtain rfl := g3 rfl
            obtain ⟨a3, d3, rfl⟩ := hF1.fs.none
            have HB3 : Hid (Below wo.heap.size wo w3) := hb3
            clear hF1 g1 g2 g3 hb3
            go_wp2_with fail
            refine (scaleE_any _ es b _ (hT.out.p.fs.later HB3.out) HBW.out).mono ?_
            rintro e w4 ⟨⟨v2, b2, t2, rfl, hF2, g1, g2, g3⟩, hb4⟩
            obtain rfl : t2 = false := by
              cases t2
              · rfl
              · exact absurd (g1.1 rfl).2.1 HE.out
            obtain rfl := g3 rfl
            obtain ⟨a4, d4, rfl⟩ := hF2.fs.none
            have HB4 : Hid (Below w3.heap.size w3 w4 ∧ Below wo.heap.size wo w4) := ⟨hb4, below_step HB3.out hb4⟩
            clear hF2 g1 g2 g3 hb4
            have HAL : Hid (Below w4.heap.size w4 (w4.alloc (.cells #[.float .f64 b] 22))) := (Below.refl _ w4).alloc (Nat.le_refl _) _
            have HB5 : Hid (Below w3.heap.size w3 (w4.alloc (.cells #[.float .f64 b] 22)) ∧ Below wo.heap.size wo (w4.alloc (.cells #[.float .f64 b] 22))) := ⟨below_step HB4.out.1 HAL.out, below_step HB4.out.2 HAL.out⟩
            have HV : Hid (Fs (w4.alloc (.cells #[.float .f64 b] 22)) (.slice (some ⟨w4.heap.size, 0, none⟩) 1 1) (gw [] b)) := fs_one HBW.out HB0.out
            go_wp2_with fail
            refine (refSafe3_any _ (es) _ (H.out.1.later (below_step hT.out.bel HB5.out.2))).mono ?_
            rintro e w6 ⟨⟨t, rfl, ht⟩, hb⟩
            obtain rfl : t = false := by
              cases t
              · rfl
              · exact absurd (ht.1 rfl) HE.out
            have HB6 : Hid (Below w3.heap.size w3 w6 ∧ Below wo.heap.size wo w6) := ⟨below_step HB5.out.1 hb, below_step HB5.out.2 hb⟩
            have HV6 : Hid (Fs w6 (.slice (some ⟨w4.heap.size, 0, none⟩) 1 1) (gw [] b)) := HV.out.later hb
            have HX6 : Hid (Below (w4.alloc (.cells #[.float .f64 b] 22)).heap.size (w4.alloc (.cells #[.float .f64 b] 22)) w6) := hb
            clear ht hb
            go_wp2_with fail
            refine (refSafe3_any _ (es) _ (H.out.1.later (below_step hT.out.bel HB6.out.2))).mono ?_
            rintro e w7 ⟨⟨t, rfl, ht⟩, hb⟩
            obtain rfl : t = false := by
              cases t
              · rfl
              · exact absurd (ht.1 rfl) HE.out
            have HB7 : Hid (Below w3.heap.size w3 w7 ∧ Below wo.heap.size wo w7) := ⟨below_step HB6.out.1 hb, below_step HB6.out.2 hb⟩
            have HV7 : Hid (Fs w7 (.slice (some ⟨w4.heap.size, 0, none⟩) 1 1) (gw [] b)) := HV6.out.later hb
            have HX7 : Hid (Below (w4.alloc (.cells #[.float .f64 b] 22)).heap.size (w4.alloc (.cells #[.float .f64 b] 22)) w7) := below_step HX6.out hb
            clear ht hb
            go_wp2
            have HS0 : Hid (Below wo.heap.size wo w7) := HB7.out.2
            go_loopw [17] (fun i W => i = .int .i64 0 ∧ Hid (Below wo.heap.size wo W)) (fun _ _ => 0)
            case atStart => exact ⟨rfl, HS0.out⟩
            case round =>
              clear HS0
              obtain ⟨rfl, HT0⟩ := hrel
              go_wp2
              go_loopw [18] (fun i W => i = .int .i64 0 ∧ Hid (Below wo.heap.size wo W)) (fun _ _ => 0)
              case atStart => exact ⟨rfl, HT0.out⟩
              case round =>
                clear HT0
                obtain ⟨rfl, hz⟩ := hrel
                have HZ : Hid (TwoP w wr (.slice ap es.length cp) (.slice aq fs.length cq) es fs) := hT.out.later hz.out
                clear hz
                go_wp2_with fail
                refine (same_any _ _ es _ HZ.out.p.fs (H.out.1.later HZ.out.bel) (by have := H.out.2.1; have := HL.out; omega)).mono ?_
                rintro e wS ⟨rfl, hbS⟩
                have HZ2 : Hid (TwoP w wS (.slice ap es.length cp) (.slice aq fs.length cq) es fs) := HZ.out.later hbS
                clear hbS HZ
                go_wp2_with fail
                refine (same_any _ _ fs _ HZ2.out.q.fs (H2.out.1.later HZ2.out.bel) (by have := H2.out.2.1; have := HL.out; omega)).mono ?_
                rintro e wU ⟨rfl, hbU⟩
                have HZ3 : Hid (TwoP w wU (.slice ap es.length cp) (.slice aq fs.length cq) es fs) := HZ2.out.later hbU
                clear hbU HZ2
                go_wp2
                exact ⟨⟨k + 1, by omega, by go_num, HZ3⟩, by simp [intOf]; omega⟩
      · obtain rfl : k = 2 := by omega
        go_wp2
        go_ret
        exact ⟨rfl, hT.out.bel⟩

end Go.Proofs.Ytglcngjllfgdpaa
