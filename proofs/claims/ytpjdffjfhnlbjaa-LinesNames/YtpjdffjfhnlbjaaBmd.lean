/- The limits of package lines: the walk. -/
import Derived.Test.YtpjdffjfhnlbjaaBmc
namespace Go.Proofs.Ytpjdffjfhnlbjaa
open Go.RowKit Go.Shelf Go.Lib

theorem app_l {a b : ByteArray} {x y : Bs} (ha : a.data.toList = x) (hb : b.data.toList = y) : (a ++ b).data.toList = x ++ y := by subst ha hb; simp

set_option maxRecDepth 100000 in
set_option maxHeartbeats 64000000 in
theorem linesNames_law (w : World) : Calls Try.prog 3 #[] w fun e w' => e = .returned (.bool true) ∧ Below w.heap.size w w' := by
  have H0 := Lib.hid (works_any w)
  have R1 := readQ ⟨#[97, 10, 1]⟩ [97, 10, 1] 2 4 2 4 rfl (by decide) rdA rfl rfl
  have R2 := readQ ⟨#[97, 10, 35, 1, 128, 10, 127]⟩ [97, 10, 35, 1, 128, 10, 127] 3 4 3 4 rfl (by decide) rdB rfl rfl
  obtain ⟨n3, hn3⟩ : ∃ n : Nat, n = 65537 := ⟨_, rfl⟩
  obtain ⟨q3, hq3, Y3, hs3⟩ := bytesQ n3 32 65537 32 (by omega) (by decide) (by omega)
  obtain ⟨n4, hn4⟩ : ∃ n : Nat, n = 65536 := ⟨_, rfl⟩
  obtain ⟨q4, hq4, Y4, hs4⟩ := bytesQ n4 32 65536 32 (by omega) (by decide) (by omega)
  obtain ⟨n5, hn5⟩ : ∃ n : Nat, n = 16777217 := ⟨_, rfl⟩
  obtain ⟨q5, hq5, Y5, hs5⟩ := bytesQ n5 10 16777217 10 (by omega) (by decide) (by omega)
  obtain ⟨n6, hn6⟩ : ∃ n : Nat, n = 16777216 := ⟨_, rfl⟩
  obtain ⟨q6, hq6, Y6, hs6⟩ := bytesQ n6 10 16777216 10 (by omega) (by decide) (by omega)
  obtain ⟨n7, hn7⟩ : ∃ n : Nat, n = 401 := ⟨_, rfl⟩
  obtain ⟨q7, hq7, Y7, hs7⟩ := bytesQ n7 97 401 97 (by omega) (by decide) (by omega)
  obtain ⟨n8, hn8⟩ : ∃ n : Nat, n = 400 := ⟨_, rfl⟩
  obtain ⟨q8, hq8, Y8, hs8⟩ := bytesQ n8 97 400 97 (by omega) (by decide) (by omega)
  obtain ⟨n9, hn9⟩ : ∃ n : Nat, n = 500 := ⟨_, rfl⟩
  obtain ⟨q9, hq9, Y9, hs9⟩ := bytesQ n9 98 500 98 (by omega) (by decide) (by omega)
  have R3 := readQ (⟨#[10]⟩ ++ q3) (10 :: List.replicate n3 32) 2 3 2 3 (app_l rfl hq3.out) (by simp; omega) (rdC (by omega) (by omega)) rfl rfl
  have R4 := readQ (⟨#[10]⟩ ++ q4) (10 :: List.replicate n4 32) 0 0 0 0 (app_l rfl hq4.out) (by simp; omega) (rdD (by omega)) rfl rfl
  have R5 := readQ q5 (List.replicate n5 10) 0 3 0 3 hq5.out (by simp; omega) (rdE (by omega)) rfl rfl
  have R6 := readQ q6 (List.replicate n6 10) 0 0 0 0 hq6.out (by simp; omega) (rdF (by omega)) rfl rfl
  have R7 := readQ (⟨#[120, 32]⟩ ++ q7) ([120, 32] ++ List.replicate n7 97) 1 4 1 4 (app_l rfl hq7.out) (by simp; omega) (by rw [hn7]; exact rdG) rfl rfl
  have R8 := readO (⟨#[120, 32]⟩ ++ q8 ++ ⟨#[35]⟩ ++ q9) ([120, 32] ++ List.replicate n8 97 ++ [35] ++ List.replicate n9 98) (List.replicate n8 97) (app_l (app_l (app_l rfl hq8.out) rfl) hq9.out) (by simp; omega) (by rw [hn8, hn9]; exact rdH)
  have V1 := writeQ [] #[] 0 1 rfl rfl (by decide) (by simp) (by rw [wrA]; rfl)
  have V2 := writeQ [[]] #[.string ⟨#[]⟩] 1 1 rfl rfl (by decide) (by simp) (by rw [wrB]; rfl)
  have V3 := writeQ [[97, 32, 98]] #[.string ⟨#[97, 32, 98]⟩] 1 1 rfl rfl (by decide) (by simp) (by rw [wrC]; rfl)
  have V4 := writeQ [[35]] #[.string ⟨#[35]⟩] 1 1 rfl rfl (by decide) (by simp) (by rw [wrD]; rfl)
  have V5 := writeQ [List.replicate n7 97] #[.string q7] 1 1 (by show #[sv (List.replicate n7 97)] = _; unfold sv; rw [← hq7.out]) rfl (by decide) (by simp; omega) (by rw [hn7, wrE]; rfl)
  have S3 : (q3.size : Int) ≤ 20000000 := by omega
  have S4 : (q4.size : Int) ≤ 20000000 := by omega
  have S7 : (q7.size : Int) ≤ 20000000 := by omega
  have S8 : (q8.size : Int) ≤ 20000000 := by omega
  have S9 : (q9.size : Int) ≤ 20000000 := by omega
  clear hn3 hn4 hn5 hn6 hn7 hn8 hn9 hs3 hs4 hs5 hs6 hs7 hs8 hs9 hq3 hq4 hq5 hq6 hq7 hq8 hq9
  go_enter Try.func3, Try.ntmps3
  go_wp2_with fail
  refine H0.out.mono ?_
  rintro e W0 ⟨rfl, hb⟩
  have B0 := Lib.hid hb
  clear hb H0
  go_wp2_with fail
  refine (R1.out _).mono ?_
  rintro e W1 ⟨v1, rfl, hb⟩
  have B1 := Lib.hid (B0.out.trans (hb.mono B0.out.size))
  clear hb B0 R1
  go_wp2_with fail
  refine (R2.out _).mono ?_
  rintro e W2 ⟨v2, rfl, hb⟩
  have B2 := Lib.hid (B1.out.trans (hb.mono B1.out.size))
  clear hb B1 R2
  go_wp2_with fail
  refine (Y3.out _).mono ?_
  rintro e W3 ⟨rfl, hb⟩
  have B3 := Lib.hid (B2.out.trans (hb.mono B2.out.size))
  clear hb B2 Y3
  go_wp2_with fail
  refine (R3.out _).mono ?_
  rintro e W4 ⟨v3, rfl, hb⟩
  have B4 := Lib.hid (B3.out.trans (hb.mono B3.out.size))
  clear hb B3 R3
  go_wp2_with fail
  refine (Y4.out _).mono ?_
  rintro e W5 ⟨rfl, hb⟩
  have B5 := Lib.hid (B4.out.trans (hb.mono B4.out.size))
  clear hb B4 Y4
  go_wp2_with fail
  refine (R4.out _).mono ?_
  rintro e W6 ⟨v4, rfl, hb⟩
  have B6 := Lib.hid (B5.out.trans (hb.mono B5.out.size))
  clear hb B5 R4
  go_wp2_with fail
  refine (Y5.out _).mono ?_
  rintro e W7 ⟨rfl, hb⟩
  have B7 := Lib.hid (B6.out.trans (hb.mono B6.out.size))
  clear hb B6 Y5
  go_wp2_with fail
  refine (R5.out _).mono ?_
  rintro e W8 ⟨v5, rfl, hb⟩
  have B8 := Lib.hid (B7.out.trans (hb.mono B7.out.size))
  clear hb B7 R5
  go_wp2_with fail
  refine (Y6.out _).mono ?_
  rintro e W9 ⟨rfl, hb⟩
  have B9 := Lib.hid (B8.out.trans (hb.mono B8.out.size))
  clear hb B8 Y6
  go_wp2_with fail
  refine (R6.out _).mono ?_
  rintro e W10 ⟨v6, rfl, hb⟩
  have B10 := Lib.hid (B9.out.trans (hb.mono B9.out.size))
  clear hb B9 R6
  go_wp2_with fail
  refine (Y7.out _).mono ?_
  rintro e W11 ⟨rfl, hb⟩
  have B11 := Lib.hid (B10.out.trans (hb.mono B10.out.size))
  clear hb B10
  go_wp2_with fail
  refine (R7.out _).mono ?_
  rintro e W12 ⟨v7, rfl, hb⟩
  have B12 := Lib.hid (B11.out.trans (hb.mono B11.out.size))
  clear hb B11 R7
  go_wp2_with fail
  refine (Y8.out _).mono ?_
  rintro e W13 ⟨rfl, hb⟩
  have B13 := Lib.hid (B12.out.trans (hb.mono B12.out.size))
  clear hb B12 Y8
  go_wp2_with fail
  refine (Y9.out _).mono ?_
  rintro e W14 ⟨rfl, hb⟩
  have B14 := Lib.hid (B13.out.trans (hb.mono B13.out.size))
  clear hb B13 Y9
  go_wp2_with fail
  refine (R8.out _).mono ?_
  rintro e W15 ⟨g, c, g1, c1, rfl, ⟨a1, a2⟩, how, ⟨a3, a4⟩, hb⟩
  have B15 := Lib.hid (And.intro (B14.out.trans (hb.mono B14.out.size)) how)
  clear hb how B14 R8
  go_wp2_with fail
  refine (V1.out _).mono ?_
  rintro e W16 ⟨p1, rfl, hb⟩
  have B16 := Lib.hid (And.intro (B15.out.1.trans (hb.mono B15.out.1.size)) (show OW g g1 c1 W16 from cell_keep hb B15.out.2))
  clear hb B15 V1
  go_wp2_with fail
  refine (V2.out _).mono ?_
  rintro e W17 ⟨p2, rfl, hb⟩
  have B17 := Lib.hid (And.intro (B16.out.1.trans (hb.mono B16.out.1.size)) (show OW g g1 c1 W17 from cell_keep hb B16.out.2))
  clear hb B16 V2
  go_wp2_with fail
  refine (V3.out _).mono ?_
  rintro e W18 ⟨p3, rfl, hb⟩
  have B18 := Lib.hid (And.intro (B17.out.1.trans (hb.mono B17.out.1.size)) (show OW g g1 c1 W18 from cell_keep hb B17.out.2))
  clear hb B17 V3
  go_wp2_with fail
  refine (V4.out _).mono ?_
  rintro e W19 ⟨p4, rfl, hb⟩
  have B19 := Lib.hid (And.intro (B18.out.1.trans (hb.mono B18.out.1.size)) (show OW g g1 c1 W19 from cell_keep hb B18.out.2))
  clear hb B18 V4
  go_wp2_with fail
  refine (Y7.out _).mono ?_
  rintro e W20 ⟨rfl, hb⟩
  have B20 := Lib.hid (And.intro (B19.out.1.trans (hb.mono B19.out.1.size)) (show OW g g1 c1 W20 from cell_keep hb B19.out.2))
  clear hb B19 Y7
  go_wp2_with fail
  refine (V5.out _).mono ?_
  rintro e W21 ⟨p5, rfl, hb⟩
  have B21 := Lib.hid (And.intro (B20.out.1.trans (hb.mono B20.out.1.size)) (show OW g g1 c1 W21 from cell_keep hb B20.out.2))
  clear hb B20 V5
  go_wp2_with fail
  obtain ⟨i0, hi0, hz0, hz1, hz2⟩ := info_parts (show (Try.prog.info? 9).map (fun i => (i.zero, i.size, i.bytes)) = some (some (.string ⟨#[]⟩), 1, 16) by kernel_rfl)
  go_loopw [35, 36] (fun s35 s36 wr => ∃ j : Nat, j ≤ 32769 ∧ s36 = .int .i64 (j : Nat) ∧ Hid (Sr wr W21.heap.size s35 (List.replicate j [97]) ∧ Below W21.heap.size W21 wr)) (fun _ s36 _ => 32769 - (RowKit.intOf s36).toNat)
  case atStart => exact ⟨0, Nat.zero_le _, rfl, World.ownsRow_nil _ _ _ _, Below.refl _ _⟩
  case round =>
    obtain ⟨j, hj, rfl, hI⟩ := hrel
    obtain ⟨ts, hts⟩ : ∃ ts : List Bs, Hid (List.replicate j [97] = ts) := ⟨_, Lib.hid rfl⟩
    have HTL : Hid (ts.length = j) := (by rw [← hts.out]; simp : ts.length = j)
    rw [hts.out] at hI
    by_cases hlt : j < 32769
    · have hlt' : (j : Int) < 32769 := by omega
      have hj0 : (0 : Int) ≤ (j : Int) := by omega
      have HTS : Hid (List.replicate (j + 1) [97] = ts ++ [[97]]) := (by rw [List.replicate_succ', hts.out] : List.replicate (j + 1) [97] = ts ++ [[97]])
      go_wp2_with (at_builtin; refine wpList_append_own _ rfl _ _ 30 rfl W21.heap.size 9 i0 (.string ⟨#[]⟩) 1 16 Try.underlying30 hi0 hz0 hz1 hz2 rfl (by decide) u35 ts.length (svs ts) rfl (World.ownsRow.alloc hI.out.1 _) ⟨wr.heap.size, 0, none⟩ 1 1 [.string ⟨#[97]⟩] rfl rfl (cell_one_new _ _ _) (by simp [Value.oneCell']) (by unfold maxLen; have := HTL.out; omega) (by have := HTL.out; omega) (by have := hI.out.2.size; simp; omega) ?_; intro v' W4 hown hgrow _; have HR := Lib.hid (And.intro (Sr.grew (x := [97]) hown hI.out.1) (below_grew hI.out.2 hI.out.1 hgrow)); clear hown hgrow)
      go_roundw
      case rel =>
        refine ⟨j + 1, by omega, by go_num, ?_⟩
        rw [HTS.out]
        exact HR
      case measure => simp [RowKit.intOf]; omega
    · have hlt' : ¬ ((j : Int) < 32769) := by omega
      obtain ⟨a, d, e0, hd1, hd2⟩ := hI.out.1.form
      rw [HTL.out] at e0 hd1
      subst e0
      have hS : Sl wr (.slice a j d) (List.replicate j [97]) := by
        have := hI.out.1.sl (fun x hx => by rw [← hts.out] at hx; rw [List.eq_of_mem_replicate hx]; simp)
        rwa [← hts.out] at this
      have M1 := Lib.hid (writeM wr (.slice a j d) (List.replicate j [97]) 3 hS (by rw [wrF (by omega)]; rfl) (by simp; omega))
      have HS2 := Lib.hid (hS.shorter (show 32768 ≤ j by omega))
      have M2 : Hid (∀ W, Below wr.heap.size wr W → Calls Try.prog 11 #[.slice (some ⟨W.heap.size, 0, none⟩) 1 1] (W.alloc (.cells #[.slice a 32768 d] 30)) fun e w' => ∃ q, e = .returned (.tuple #[.string q, .int .i64 0]) ∧ Below W.heap.size W w') := fun W hb =>
        writeM W (.slice a 32768 d) (List.replicate 32768 [97]) 0 (HS2.out.later hb) (by rw [wrG (by decide) (by decide)]; rfl) (by rw [List.length_replicate]; decide)
      have Bx := Lib.hid (And.intro (B21.out.1.trans (hI.out.2.mono B21.out.1.size)) (show OW g g1 c1 wr from cell_keep hI.out.2 B21.out.2))
      have hd3 : (32768 : Int) ≤ (d : Int) := by omega
      have hd4 : 32768 ≤ d := by omega
      have hd5 : (d : Int) ≤ 9223372036854775807 := by omega
      clear hS HS2 HTL hts hI B21 hlt hd1 hj
      go_wp2_with fail
      refine M1.out.mono ?_
      rintro e X1 ⟨r1, rfl, hb⟩
      have By := Lib.hid (And.intro (Bx.out.1.trans (hb.mono Bx.out.1.size)) (show OW g g1 c1 X1 from cell_keep hb Bx.out.2))
      have Bz := Lib.hid hb
      clear hb
      go_wp2_with fail
      refine (M2.out _ Bz.out).mono ?_
      rintro e X2 ⟨r2, rfl, hb⟩
      have Bu := Lib.hid (And.intro (By.out.1.trans (hb.mono By.out.1.size)) (show OW g g1 c1 X2 from cell_keep hb By.out.2))
      have k1 : X2.cell? ⟨g, 1, none⟩ = some (.slice (some ⟨g1, 0, none⟩) 2 c1) := Bu.out.2
      clear hb
      go_wp2
      go_ret
      exact ⟨rfl, Bu.out.1⟩
end Go.Proofs.Ytpjdffjfhnlbjaa
