/- Own texts, put together: Qbb. -/
import Derived.Test.YtofklahgpkmfmaaGreatDoorQ38
import Derived.Test.YtofklahgpkmfmaaGreatDoorQ47
/- The law NodefileBlanks. (gen_qbb.py) -/
namespace Go.Proofs.YtofklahgpkmfmaaGreatDoor
set_option maxRecDepth 100000
open Go.RowKit Go.Shelf Go.Lib
def By (W : World) (v : Value) (pl : List Nat) : Prop := ∃ a c, v = .slice a pl.length c ∧ pl.length ≤ c ∧ c ≤ 9223372036854775807 ∧ (pl = [] ∨ ∃ g off, a = some ⟨g, off, none⟩ ∧ g < W.heap.size ∧ ∀ k, k < pl.length → W.cell? ⟨g, off + k, none⟩ = some (.int .u8 ((pl.getD k 0 : Nat) : Int)))
theorem bt_zero : bt 1 0 = false ∧ bt 2 0 = false ∧ bt 4 0 = false := by decide
theorem pls_out {pl : List Nat} {k : Nat} (h : pl.length ≤ k) : pls pl k = 0 := by
 unfold pls
 rw [List.getD_eq_getElem?_getD, List.getElem?_eq_none h]; rfl
theorem blo_take {rm : Bs} {pl : List Nat} {sl : Bs} {i : Nat} (h : i < sl.length) : blo rm pl 0 (sl.take (i + 1)) = blo rm pl 0 (sl.take i) ++ blo rm pl (cnt (sl.take i)) [sl[i]] ∧ cnt (sl.take (i + 1)) = cnt (sl.take i) + cnt [sl[i]] := by
 rw [List.take_succ_eq_append_getElem h, blo_app, cnt_app, Nat.zero_add]
 exact ⟨rfl, rfl⟩
theorem blo_one32 (rm : Bs) (pl : List Nat) (k : Nat) : blo rm pl k [32] = i2 pl k ++ [32] ∧ cnt [32] = 1 := ⟨by rw [blo, if_pos rfl]; rfl, rfl⟩
theorem blo_one10 (rm : Bs) (pl : List Nat) (k : Nat) : blo rm pl k [10] = i1 rm pl k ++ (10 :: i4 rm pl k) ∧ cnt [10] = 1 := ⟨by rw [blo, if_neg (by decide), if_pos rfl, show blo rm pl (k + 1) [] = [] from rfl, List.append_nil], rfl⟩
theorem blo_one (rm : Bs) (pl : List Nat) (k : Nat) {c : UInt8} (h1 : c ≠ 32) (h2 : c ≠ 10) : blo rm pl k [c] = [c] ∧ cnt [c] = 0 := ⟨by rw [blo, if_neg h1, if_neg h2]; rfl, by simp [cnt, h1, h2]⟩
theorem blo_pre (rm : Bs) (pl : List Nat) (sl : Bs) (i : Nat) : (blo rm pl 0 (sl.take i)).length ≤ (blo rm pl 0 sl).length := by
 have h := blo_app rm pl (sl.take i) (sl.drop i) 0
 rw [List.take_append_drop] at h
 rw [h, List.length_append]
 omega
set_option maxHeartbeats 32000000 in
theorem blanks10_law (v : Value) (ns : List Nt) (z : Bool) (k : Int) (m : Bool) (r : ByteArray) (pv : Value) (pl : List Nat) (w : World) (hv : Nv w v ns) (hl : ∀ q ∈ ns, q.1.a.length ≤ 140737488355328 ∧ ∀ n c, q.2 = .slice none n c → n = 0 ∧ c = 0) (hn : ns.length ≤ 140737488355328) (hr : r.size ≤ 9223372036854775807) (hpl : By w pv pl) (hT : T10 w) :
   Calls Tryz.prog 7 #[.agg #[v, .bool z, .int .i64 k, .bool m], .string r, pv] w fun e w' => e = .returned (.bool true) ∧ Below w.heap.size w w' := by
 obtain ⟨p, hp⟩ := pm_ex
 have HP := Lib.hid hp
 obtain ⟨pa, pc, rfl, hp1, hp2, hp3⟩ := hpl
 have HP3 := Lib.hid hp3
 obtain ⟨np, hnp⟩ : ∃ np, Hid (pl.length = np) := ⟨_, Lib.hid rfl⟩
 rw [hnp.out] at hp1 ⊢
 obtain ⟨W1, hW1⟩ : ∃ W1, w.alloc (.cells #[v, .bool z, .int .i64 k, .bool m] 25) = W1 := ⟨_, rfl⟩
 have b1 : Below w.heap.size w W1 := by rw [← hW1]; exact (Below.refl _ w).alloc (Nat.le_refl _) _
 have c1 : CB W1 w.heap.size #[v, .bool z, .int .i64 k, .bool m] 25 := by rw [← hW1]; exact CB.new w _ _
 have HLg := Lib.hid (large10_any v ns z k m W1 (hv.later b1) (fun q hq => (hl q hq).1) hn)
 obtain ⟨k0, k1, k2, k3⟩ := c1.cells4
 have H1 := Lib.hid (And.intro c1 (And.intro b1 (And.intro (hT.later b1) (hv.later b1))))
 have HL := Lib.hid hl
 obtain ⟨va, vc, hvv⟩ : ∃ va vc, v = .slice va ns.length vc := by
   obtain ⟨a, c, e, _⟩ := hv.form
   exact ⟨a, c, e⟩
 obtain ⟨N, hN⟩ : ∃ N, Hid (ns.length = N) := ⟨_, Lib.hid rfl⟩
 rw [hN.out] at hvv
 subst hvv
 have hr' : (r.size : Int) ≤ 9223372036854775807 := by omega
 have hnp' : (np : Int) ≤ 9223372036854775807 := by omega
 clear hp hv hl hn b1 c1 hT hp3
 go_enter Tryz.func7, Tryz.ntmps7
 go_wp2_with fail
 try rw [hW1]
 clear hW1
 refine HLg.out.mono ?_
 rintro e W2 ⟨⟨b, rfl, hb⟩, hb2⟩
 have H2 : Hid (CB W2 w.heap.size #[.slice va N vc, .bool z, .int .i64 k, .bool m] 25 ∧ Below w.heap.size w W2 ∧ T10 W2 ∧ Nv W2 (.slice va N vc) ns) := Lib.hid ⟨H1.out.1.later hb2, H1.out.2.1.trans (hb2.mono H1.out.2.1.size), H1.out.2.2.1.later hb2, H1.out.2.2.2.later hb2⟩
 have HLb := Lib.hid hb
 clear hb hb2 HLg H1 k0 k1 k2 k3
 have HAw : Hid (∀ W, Below w.heap.size w W → T10 W → Calls Tryz.prog 8 #[] W fun e w' => e = .returned (.bool true) ∧ Below w.heap.size w w') := Lib.hid fun W hW hT => (awake10 W hT).mono fun e w' h => ⟨h.1, hW.trans (h.2.mono hW.size)⟩
 cases b
 · by_cases hlt : 200 < (r.size : Int)
   · go_wp2_with (go_at_call 8; refine (HAw.out _ H2.out.2.1 H2.out.2.2.1).mono ?_; rintro e W3 ⟨rfl, hb3⟩; have HB3 := Lib.hid hb3; clear hb3)
     go_ret
     exact ⟨rfl, HB3.out⟩
   by_cases hlp : 300 < (np : Int)
   · go_wp2_with (go_at_call 8; refine (HAw.out _ H2.out.2.1 H2.out.2.2.1).mono ?_; rintro e W3 ⟨rfl, hb3⟩; have HB3 := Lib.hid hb3; clear hb3)
     go_ret
     exact ⟨rfl, HB3.out⟩
   have hr200 : (r.size : Int) ≤ 200 := by omega
   have hp300 : (np : Int) ≤ 300 := by omega
   go_wp2_with fail
   refine (awake10 _ H2.out.2.2.1).mono ?_
   rintro e W3 ⟨rfl, hb3⟩
   have H3 : Hid (CB W3 w.heap.size #[.slice va N vc, .bool z, .int .i64 k, .bool m] 25 ∧ Below w.heap.size w W3 ∧ T10 W3 ∧ Nv W3 (.slice va N vc) ns) := Lib.hid ⟨H2.out.1.later hb3, H2.out.2.1.trans (hb3.mono H2.out.2.1.size), H2.out.2.2.1.later hb3, H2.out.2.2.2.later hb3⟩
   clear hb3 H2
   go_wp2_with fail
   go_loopw [7] (fun s7 wr => ∃ i : Nat, s7 = .int .i64 (i : Nat) ∧ i ≤ r.size ∧ wr = W3 ∧ Hid (∀ j (h : j < r.size), j < i → r[j] ≠ 10)) (fun s7 _ => r.size - (RowKit.intOf s7).toNat)
   case atStart => exact ⟨0, rfl, by omega, rfl, fun j h hj => by omega⟩
   case round =>
     obtain ⟨i, rfl, hi1, rfl, hI⟩ := hrel
     by_cases hlt2 : i < r.size
     · have hlt' : (i : Int) < (r.size : Int) := by omega
       have hi0 : (0 : Int) ≤ (i : Int) := by omega
       by_cases h10 : r[i] = 10
       · have d1 : (((r[i]'hlt2).toNat : Nat) : Int) = 10 := by rw [h10]; rfl
         clear h10
         go_wp2
         go_ret
         exact ⟨rfl, H3.out.2.1⟩
       · have d1 : ((((r[i]'hlt2).toNat : Nat) : Int) == 10) = false := by
           simp only [beq_eq_false_iff_ne]
           exact fun e => h10 (UInt8.toNat.inj (by show (r[i]).toNat = 10; omega))
         have H10 := Lib.hid h10
         clear h10
         go_wp2
         refine ⟨⟨i + 1, by go_num, by omega, by first | rfl | trivial, fun j h hj => ?_⟩, by simp [RowKit.intOf]; omega⟩
         by_cases e : j = i
         · subst e; exact H10.out
         · exact hI.out j h (by omega)
     · obtain rfl : i = r.size := by omega
       have HRm : Hid (∀ c ∈ r.data.toList, c ≠ 10) := Lib.hid (fun c hc => by
         obtain ⟨j, hj, e⟩ := List.mem_iff_getElem.1 hc
         have hj' : j < r.size := by rw [Lib.size_eq]; exact hj
         have := hI.out j hj' hj'
         rw [← e]
         exact this)
       clear hI hi1 hlt2
       have hbd := HLb.out (by first | rfl | trivial)
       have HG := Lib.hid (given10_any (.slice va N vc) ns z k m wr H3.out.2.2.2 (by omega) (fun q hq => ⟨by have := hbd.2 q hq; omega, (HL.out q hq).2⟩))
       have HBd := Lib.hid hbd
       obtain ⟨k0, k1, k2, k3⟩ := H3.out.1.cells4
       clear hbd
       go_wp2_with fail
       refine HG.out.mono ?_
       rintro e W4 ⟨ga, gc, ns', rfl, hnv, hns, hb4⟩
       have H4 : Hid (CB W4 w.heap.size #[.slice va N vc, .bool z, .int .i64 k, .bool m] 25 ∧ Below w.heap.size w W4 ∧ T10 W4 ∧ Nv W4 (.slice va N vc) ns) := Lib.hid ⟨H3.out.1.later hb4, H3.out.2.1.trans (hb4.mono H3.out.2.1.size), H3.out.2.2.1.later hb4, H3.out.2.2.2.later hb4⟩
       obtain ⟨F, hF⟩ : ∃ F, Hid ((⟨ndsO' ns, z, k, m⟩ : Fd) = F) := ⟨_, Lib.hid rfl⟩
       have HWr : Hid (Calls Tryz.prog 21 #[.agg #[.slice ga ns'.length gc, .bool z, .int .i64 k, .bool m]] W4 fun e w' => e = .returned (.tuple #[sv (wrN p F).1, .int .i64 (wrN p F).2]) ∧ Below W4.heap.size W4 w') := Lib.hid (by
         have hlen : ns'.length = ns.length := by have := congrArg List.length hns; simpa [ndsO'] using this
         have := writeN_any HP.out _ ns' z k m W4 hnv (by have := HBd.out.1; omega) H4.out.2.2.1.1
         rwa [hns, hF.out] at this)
       have HWA := Lib.hid (show ∀ q ∈ F.ns, wdA q by rw [← hF.out]; exact H4.out.2.2.2.wa)
       clear hnv hns hb4 HG H3 k0 k1 k2 k3
       go_wp2_with fail
       refine HWr.out.mono ?_
       rintro e W5 ⟨rfl, hb5⟩
       have H5 : Hid (CB W5 w.heap.size #[.slice va N vc, .bool z, .int .i64 k, .bool m] 25 ∧ Below w.heap.size w W5 ∧ T10 W5 ∧ Nv W5 (.slice va N vc) ns) := Lib.hid ⟨H4.out.1.later hb5, H4.out.2.1.trans (hb5.mono H4.out.2.1.size), H4.out.2.2.1.later hb5, H4.out.2.2.2.later hb5⟩
       clear hb5 HWr H4
       obtain ⟨er, her⟩ : ∃ er, Hid ((wrN p F).2 = er) := ⟨_, Lib.hid rfl⟩
       obtain ⟨sl, hs⟩ : ∃ s, Hid ((wrN p F).1 = s) := ⟨_, Lib.hid rfl⟩
       rw [her.out, hs.out]
       by_cases h0 : er = 0
       · subst h0
         have hF100 : F.ns.length ≤ 100 := by rw [← hF.out]; have := HBd.out.1; simpa [ndsO'] using this
         obtain ⟨rm, hrm⟩ : ∃ rm, Hid (r.data.toList = rm) := ⟨_, Lib.hid rfl⟩
         have hrl : rm.length ≤ 200 := by rw [← hrm.out, ← Lib.size_eq]; omega
         have hwb := wr_blo HP.out HWA.out hF100 her.out hrl (by rw [← hrm.out]; exact HRm.out) pl
         have hsh := wr_short HP.out HWA.out hF100 her.out
         rw [hs.out] at hwb hsh
         have HWb := Lib.hid hwb
         have HGd := Lib.hid (wr_good her.out)
         obtain ⟨S, hS⟩ : ∃ S : ByteArray, Hid ((⟨sl.toArray⟩ : ByteArray) = S) := ⟨_, Lib.hid rfl⟩
         have hSz : S.size = sl.length := by rw [← hS.out, Lib.size_eq]
         have HSb : Hid (∀ (j : Nat) (g1 : j < S.size) (g2 : j < sl.length), S[j]'g1 = sl[j]) := Lib.hid fun j g1 g2 => by
           have e := hS.out
           subst e
           exact byte_atL g1 g2
         have hSz' : (S.size : Int) ≤ 100000 := by omega
         rw [show sv sl = .string S by rw [← hS.out]]
         obtain ⟨i0, hi0, hz0, hz1, hz2⟩ := info_parts (show (Tryz.prog.info? 5).map (fun i => (i.zero, i.size, i.bytes)) = some (some (.int .u8 0), 1, 1) by kernel_rfl)
         obtain ⟨q1, hq1⟩ : ∃ q1, (⟨#[32, 9, 35]⟩ : ByteArray) ++ r = q1 := ⟨_, rfl⟩
         obtain ⟨qa, hqa⟩ : ∃ qa, (⟨#[10, 32, 32, 10, 35]⟩ : ByteArray) ++ r = qa := ⟨_, rfl⟩
         obtain ⟨q4, hq4⟩ : ∃ q4, qa ++ (⟨#[10]⟩ : ByteArray) = q4 := ⟨_, rfl⟩
         have HQ1 : Hid ((⟨(32 :: 9 :: 35 :: rm).toArray⟩ : ByteArray) = q1) := Lib.hid (by rw [← hq1, ← hrm.out]; apply ByteArray.ext; simp [ByteArray.data_append])
         have HQ4 : Hid ((⟨(10 :: 32 :: 32 :: 10 :: 35 :: (rm ++ [10])).toArray⟩ : ByteArray) = q4) := Lib.hid (by rw [← hq4, ← hqa, ← hrm.out]; apply ByteArray.ext; simp [ByteArray.data_append])
         have z1 : (q1.size : Int) ≤ 300 := by rw [← HQ1.out, Lib.size_eq]; simp; omega
         have za : (qa.size : Int) ≤ 300 := by rw [← hqa, Lib.size_eq]; simp [ByteArray.data_append]; have := Lib.size_eq r; simp at this; omega
         have z4 : (q4.size : Int) ≤ 300 := by rw [← HQ4.out, Lib.size_eq]; simp; omega
         have HZ : Hid (q1.size ≤ 300 ∧ q4.size ≤ 300) := Lib.hid ⟨by omega, by omega⟩
         clear hwb hsh hrl hF100
         go_wp2_with fail
         go_loopw [10, 11, 12] (fun s10 s11 s12 wr => ∃ i : Nat, s12 = .int .i64 (i : Nat) ∧ i ≤ S.size ∧ s11 = .int .i64 ((cnt (sl.take i) : Nat) : Int) ∧ Hid (ByR wr W5.heap.size s10 (blo rm pl 0 (sl.take i)) ∧ Below W5.heap.size W5 wr)) (fun _ _ s12 _ => S.size - (RowKit.intOf s12).toNat)
         case atStart => exact ⟨0, rfl, by omega, rfl, ⟨World.ownsRow_nil _ _ _ _, Below.refl _ _⟩⟩
         case round =>
           obtain ⟨i, rfl, hi1, rfl, hI⟩ := hrel
           by_cases hlt2 : i < S.size
           · have hlt' : (i : Int) < (S.size : Int) := by omega
             have hi0' : (0 : Int) ≤ (i : Int) := by omega
             have hisl : i < sl.length := by omega
             have HLt := Lib.hid (blo_take (rm := rm) (pl := pl) hisl)
             have hpre := blo_pre rm pl sl i
             have hcl := cnt_le (sl.take i)
             have htl : (sl.take i).length ≤ i := by rw [List.length_take]; omega
             obtain ⟨l0, hl0⟩ : ∃ l0, Hid (blo rm pl 0 (sl.take i) = l0) := ⟨_, Lib.hid rfl⟩
             obtain ⟨kc, hkc⟩ : ∃ kc, Hid (cnt (sl.take i) = kc) := ⟨_, Lib.hid rfl⟩
             rw [hl0.out] at hI hpre HLt
             rw [hkc.out] at hcl HLt ⊢
             have HL0 : Hid (l0.length ≤ 4100000) := Lib.hid (Nat.le_trans hpre HWb.out.2)
             have hkc' : (kc : Int) ≤ 100000 := by omega
             have hkc0 : (0 : Int) ≤ (kc : Int) := by omega
             have HSi := Lib.hid (HSb.out i hlt2 hisl)
             clear hpre hcl htl
             have hRl : Hid (rm.length ≤ 200) := Lib.hid (by rw [← hrm.out, ← Lib.size_eq]; omega)
             have hbw : Below w.heap.size w wr := H5.out.2.1.trans (hI.out.2.mono H5.out.2.1.size)
             by_cases c32 : S[i] = 32
             · have d32 : (((S[i]'hlt2).toNat : Nat) : Int) = 32 := by rw [c32]; rfl
               have hsi : sl[i] = 32 := by rw [← HSi.out]; exact c32
               clear c32
               by_cases hk : kc < np
               · obtain ⟨pg, poff, rfl, hpg, hpc⟩ := HP3.out.resolve_left (fun e => by rw [e] at hnp; have := hnp.out; simp at this; omega)
                 have hki : (kc : Int) < (np : Int) := by omega
                 have x0 := cell_later hbw hpg (hpc kc (by rw [hnp.out]; exact hk))
                 obtain ⟨x, hx⟩ : ∃ x, Hid (pl.getD kc 0 = x) := ⟨_, Lib.hid rfl⟩
                 rw [hx.out] at x0
                 have HPx : Hid (pls pl kc = ((x : Nat) : Int)) := Lib.hid (by unfold pls; rw [hx.out])
                 clear hpc hbw hpg
                 by_cases hb2 : bt 2 ((x : Nat) : Int) = true
                 · have b2 : (bits .and .u8 ((x : Nat) : Int) 2 == 2) = true := hb2
                   have c2 : bits .and .u8 ((x : Nat) : Int) 2 = 2 := by simpa using b2
                   obtain ⟨l1, hl1⟩ : ∃ l1, Hid (l0 ++ ([9, 32, 13] : Bs) = l1) := ⟨_, Lib.hid rfl⟩
                   have HL1 : Hid (l1.length ≤ 4101000) := Lib.hid (by rw [← hl1.out, List.length_append]; have := HL0.out; simp; omega)
                   obtain ⟨l2, hl2⟩ : ∃ l2, Hid (l1 ++ ([32] : Bs) = l2) := ⟨_, Lib.hid rfl⟩
                   have HL2 : Hid (l2.length ≤ 4102000) := Lib.hid (by rw [← hl2.out, List.length_append]; have := HL1.out; simp; omega)
                   have HF : Hid (blo rm pl 0 (sl.take (i + 1)) = l2 ∧ cnt (sl.take (i + 1)) = kc + 1) := Lib.hid (by
                     obtain ⟨e1, e2⟩ := (blo_one32 rm pl kc)
                     rw [HLt.out.1, HLt.out.2, hsi, e1, e2]
                     refine ⟨?_, rfl⟩
                     rw [← hl2.out, ← hl1.out]
                     unfold i2
                     rw [HPx.out, if_pos hb2]
                     simp)
                   clear HWb HLt
                   go_wp2_with (first
                     | (at_builtin; refine wpList_append_own_string _ rfl _ _ 66 9 rfl W5.heap.size 5 i0 Tryz.underlying66 Tryz.underlying9 hi0 hz0 hz1 hz2 u10 l0.length _ rfl hI.out.1 ⟨#[9, 32, 13]⟩ rfl (by unfold maxLen; have := HL0.out; have : (⟨#[9, 32, 13]⟩ : ByteArray).size = 3 := rfl; omega) (by have := HL0.out; have : (⟨#[9, 32, 13]⟩ : ByteArray).size = 3 := rfl; omega) hI.out.2.size ?_; intro v1 V1 hown hgrow _; have HR1 := Lib.hid (ByR.grewS (x := ([9, 32, 13] : Bs)) (show (⟨([9, 32, 13] : Bs).toArray⟩ : ByteArray) = ⟨#[9, 32, 13]⟩ from rfl) hI.out.2 hI.out.1 hown hgrow); rw [hl1.out] at HR1; clear hown hgrow)
                     | (at_builtin; refine wpList_append_own _ rfl _ _ 66 rfl W5.heap.size 5 i0 (.int .u8 0) 1 1 Tryz.underlying66 hi0 hz0 hz1 hz2 rfl (by decide) v1 l1.length _ rfl (World.ownsRow.alloc HR1.out.1 _) ⟨V1.heap.size, 0, none⟩ 1 1 [.int .u8 32] rfl rfl (cell_one_new _ _ _) (by simp [Value.oneCell']) (by unfold maxLen; have := HL1.out; omega) (by have := HL1.out; omega) (by have := HR1.out.2.size; simp; omega) ?_; intro v2 V2 hown hgrow _; have HR2 := Lib.hid (ByR.grew1 (c := 32) HR1.out.2 HR1.out.1 hown hgrow); rw [hl2.out] at HR2; clear hown hgrow))
                   refine ⟨⟨i + 1, by go_num, by omega, by first | (rw [HF.out.2]; done) | (rw [HF.out.2]; go_num), Lib.hid (by rw [HF.out.1]; exact ⟨HR2.out.1, HR2.out.2⟩)⟩, by simp [RowKit.intOf]; omega⟩
                 · have b2 : (bits .and .u8 ((x : Nat) : Int) 2 == 2) = false := by unfold bt at hb2; simpa using hb2
                   have hb2f : bt 2 ((x : Nat) : Int) = false := by simpa using hb2
                   obtain ⟨l1, hl1⟩ : ∃ l1, Hid (l0 ++ ([32] : Bs) = l1) := ⟨_, Lib.hid rfl⟩
                   have HL1 : Hid (l1.length ≤ 4101000) := Lib.hid (by rw [← hl1.out, List.length_append]; have := HL0.out; simp; omega)
                   have HF : Hid (blo rm pl 0 (sl.take (i + 1)) = l1 ∧ cnt (sl.take (i + 1)) = kc + 1) := Lib.hid (by
                     obtain ⟨e1, e2⟩ := (blo_one32 rm pl kc)
                     rw [HLt.out.1, HLt.out.2, hsi, e1, e2]
                     refine ⟨?_, rfl⟩
                     rw [← hl1.out]
                     unfold i2
                     rw [HPx.out, hb2f, if_neg (by decide)]
                     simp)
                   clear HWb HLt
                   go_wp2_with (first
                     | (at_builtin; refine wpList_append_own _ rfl _ _ 66 rfl W5.heap.size 5 i0 (.int .u8 0) 1 1 Tryz.underlying66 hi0 hz0 hz1 hz2 rfl (by decide) u10 l0.length _ rfl (World.ownsRow.alloc hI.out.1 _) ⟨wr.heap.size, 0, none⟩ 1 1 [.int .u8 32] rfl rfl (cell_one_new _ _ _) (by simp [Value.oneCell']) (by unfold maxLen; have := HL0.out; omega) (by have := HL0.out; omega) (by have := hI.out.2.size; simp; omega) ?_; intro v1 V1 hown hgrow _; have HR1 := Lib.hid (ByR.grew1 (c := 32) hI.out.2 hI.out.1 hown hgrow); rw [hl1.out] at HR1; clear hown hgrow))
                   refine ⟨⟨i + 1, by go_num, by omega, by first | (rw [HF.out.2]; done) | (rw [HF.out.2]; go_num), Lib.hid (by rw [HF.out.1]; exact ⟨HR1.out.1, HR1.out.2⟩)⟩, by simp [RowKit.intOf]; omega⟩
               · have hki : ¬ ((kc : Int) < (np : Int)) := by omega
                 have HPx : Hid (pls pl kc = 0) := Lib.hid (pls_out (by rw [hnp.out]; omega))
                 have a1 : bits .and .u8 0 1 = 0 := by decide
                 have a2 : bits .and .u8 0 2 = 0 := by decide
                 have a4 : bits .and .u8 0 4 = 0 := by decide
                 clear hbw
                 obtain ⟨l1, hl1⟩ : ∃ l1, Hid (l0 ++ ([32] : Bs) = l1) := ⟨_, Lib.hid rfl⟩
                 have HL1 : Hid (l1.length ≤ 4101000) := Lib.hid (by rw [← hl1.out, List.length_append]; have := HL0.out; simp; omega)
                 have HF : Hid (blo rm pl 0 (sl.take (i + 1)) = l1 ∧ cnt (sl.take (i + 1)) = kc + 1) := Lib.hid (by
                   obtain ⟨e1, e2⟩ := (blo_one32 rm pl kc)
                   rw [HLt.out.1, HLt.out.2, hsi, e1, e2]
                   refine ⟨?_, rfl⟩
                   rw [← hl1.out]
                   unfold i2
                   rw [HPx.out, bt_zero.2.1, if_neg (by decide)]
                   simp)
                 clear HWb HLt
                 go_wp2_with (first
                   | (at_builtin; refine wpList_append_own _ rfl _ _ 66 rfl W5.heap.size 5 i0 (.int .u8 0) 1 1 Tryz.underlying66 hi0 hz0 hz1 hz2 rfl (by decide) u10 l0.length _ rfl (World.ownsRow.alloc hI.out.1 _) ⟨wr.heap.size, 0, none⟩ 1 1 [.int .u8 32] rfl rfl (cell_one_new _ _ _) (by simp [Value.oneCell']) (by unfold maxLen; have := HL0.out; omega) (by have := HL0.out; omega) (by have := hI.out.2.size; simp; omega) ?_; intro v1 V1 hown hgrow _; have HR1 := Lib.hid (ByR.grew1 (c := 32) hI.out.2 hI.out.1 hown hgrow); rw [hl1.out] at HR1; clear hown hgrow))
                 refine ⟨⟨i + 1, by go_num, by omega, by first | (rw [HF.out.2]; done) | (rw [HF.out.2]; go_num), Lib.hid (by rw [HF.out.1]; exact ⟨HR1.out.1, HR1.out.2⟩)⟩, by simp [RowKit.intOf]; omega⟩
             · by_cases c10 : S[i] = 10
               · have d10 : (((S[i]'hlt2).toNat : Nat) : Int) = 10 := by rw [c10]; rfl
                 have hsi : sl[i] = 10 := by rw [← HSi.out]; exact c10
                 clear c10 c32
                 by_cases hk : kc < np
                 · obtain ⟨pg, poff, rfl, hpg, hpc⟩ := HP3.out.resolve_left (fun e => by rw [e] at hnp; have := hnp.out; simp at this; omega)
                   have hki : (kc : Int) < (np : Int) := by omega
                   have x0 := cell_later hbw hpg (hpc kc (by rw [hnp.out]; exact hk))
                   obtain ⟨x, hx⟩ : ∃ x, Hid (pl.getD kc 0 = x) := ⟨_, Lib.hid rfl⟩
                   rw [hx.out] at x0
                   have HPx : Hid (pls pl kc = ((x : Nat) : Int)) := Lib.hid (by unfold pls; rw [hx.out])
                   clear hpc hbw hpg
                   by_cases hb1 : bt 1 ((x : Nat) : Int) = true
                   · have b1 : (bits .and .u8 ((x : Nat) : Int) 1 == 1) = true := hb1
                     have c1 : bits .and .u8 ((x : Nat) : Int) 1 = 1 := by simpa using b1
                     by_cases hb4 : bt 4 ((x : Nat) : Int) = true
                     · have b4 : (bits .and .u8 ((x : Nat) : Int) 4 == 4) = true := hb4
                       have c4 : bits .and .u8 ((x : Nat) : Int) 4 = 4 := by simpa using b4
                       obtain ⟨l1, hl1⟩ : ∃ l1, Hid (l0 ++ (32 :: 9 :: 35 :: rm) = l1) := ⟨_, Lib.hid rfl⟩
                       have HL1 : Hid (l1.length ≤ 4101000) := Lib.hid (by rw [← hl1.out, List.length_append]; have := HL0.out; have := hRl.out; simp; omega)
                       obtain ⟨l2, hl2⟩ : ∃ l2, Hid (l1 ++ ([10] : Bs) = l2) := ⟨_, Lib.hid rfl⟩
                       have HL2 : Hid (l2.length ≤ 4102000) := Lib.hid (by rw [← hl2.out, List.length_append]; have := HL1.out; simp; omega)
                       obtain ⟨l3, hl3⟩ : ∃ l3, Hid (l2 ++ (10 :: 32 :: 32 :: 10 :: 35 :: (rm ++ [10])) = l3) := ⟨_, Lib.hid rfl⟩
                       have HL3 : Hid (l3.length ≤ 4103000) := Lib.hid (by rw [← hl3.out, List.length_append]; have := HL2.out; have := hRl.out; simp; omega)
                       have HF : Hid (blo rm pl 0 (sl.take (i + 1)) = l3 ∧ cnt (sl.take (i + 1)) = kc + 1) := Lib.hid (by
                         obtain ⟨e1, e2⟩ := (blo_one10 rm pl kc)
                         rw [HLt.out.1, HLt.out.2, hsi, e1, e2]
                         refine ⟨?_, rfl⟩
                         rw [← hl3.out, ← hl2.out, ← hl1.out]
                         unfold i1 i4
                         rw [HPx.out, if_pos hb1, if_pos hb4]
                         simp)
                       clear HWb HLt
                       go_wp2_with (first
                         | (at_builtin; refine wpList_append_own_string _ rfl _ _ 66 9 rfl W5.heap.size 5 i0 Tryz.underlying66 Tryz.underlying9 hi0 hz0 hz1 hz2 u10 l0.length _ rfl hI.out.1 q1 rfl (by unfold maxLen; have := HL0.out; have := HZ.out.1; omega) (by have := HL0.out; have := HZ.out.1; omega) hI.out.2.size ?_; intro v1 V1 hown hgrow _; have HR1 := Lib.hid (ByR.grewS (x := (32 :: 9 :: 35 :: rm)) HQ1.out hI.out.2 hI.out.1 hown hgrow); rw [hl1.out] at HR1; clear hown hgrow)
                         | (at_builtin; refine wpList_append_own _ rfl _ _ 66 rfl W5.heap.size 5 i0 (.int .u8 0) 1 1 Tryz.underlying66 hi0 hz0 hz1 hz2 rfl (by decide) v1 l1.length _ rfl (World.ownsRow.alloc HR1.out.1 _) ⟨V1.heap.size, 0, none⟩ 1 1 [.int .u8 10] rfl rfl (cell_one_new _ _ _) (by simp [Value.oneCell']) (by unfold maxLen; have := HL1.out; omega) (by have := HL1.out; omega) (by have := HR1.out.2.size; simp; omega) ?_; intro v2 V2 hown hgrow _; have HR2 := Lib.hid (ByR.grew1 (c := 10) HR1.out.2 HR1.out.1 hown hgrow); rw [hl2.out] at HR2; clear hown hgrow)
                         | (at_builtin; refine wpList_append_own_string _ rfl _ _ 66 9 rfl W5.heap.size 5 i0 Tryz.underlying66 Tryz.underlying9 hi0 hz0 hz1 hz2 v2 l2.length _ rfl HR2.out.1 q4 rfl (by unfold maxLen; have := HL2.out; have := HZ.out.2; omega) (by have := HL2.out; have := HZ.out.2; omega) HR2.out.2.size ?_; intro v3 V3 hown hgrow _; have HR3 := Lib.hid (ByR.grewS (x := (10 :: 32 :: 32 :: 10 :: 35 :: (rm ++ [10]))) HQ4.out HR2.out.2 HR2.out.1 hown hgrow); rw [hl3.out] at HR3; clear hown hgrow))
                       refine ⟨⟨i + 1, by go_num, by omega, by first | (rw [HF.out.2]; done) | (rw [HF.out.2]; go_num), Lib.hid (by rw [HF.out.1]; exact ⟨HR3.out.1, HR3.out.2⟩)⟩, by simp [RowKit.intOf]; omega⟩
                     · have b4 : (bits .and .u8 ((x : Nat) : Int) 4 == 4) = false := by unfold bt at hb4; simpa using hb4
                       have hb4f : bt 4 ((x : Nat) : Int) = false := by simpa using hb4
                       obtain ⟨l1, hl1⟩ : ∃ l1, Hid (l0 ++ (32 :: 9 :: 35 :: rm) = l1) := ⟨_, Lib.hid rfl⟩
                       have HL1 : Hid (l1.length ≤ 4101000) := Lib.hid (by rw [← hl1.out, List.length_append]; have := HL0.out; have := hRl.out; simp; omega)
                       obtain ⟨l2, hl2⟩ : ∃ l2, Hid (l1 ++ ([10] : Bs) = l2) := ⟨_, Lib.hid rfl⟩
                       have HL2 : Hid (l2.length ≤ 4102000) := Lib.hid (by rw [← hl2.out, List.length_append]; have := HL1.out; simp; omega)
                       have HF : Hid (blo rm pl 0 (sl.take (i + 1)) = l2 ∧ cnt (sl.take (i + 1)) = kc + 1) := Lib.hid (by
                         obtain ⟨e1, e2⟩ := (blo_one10 rm pl kc)
                         rw [HLt.out.1, HLt.out.2, hsi, e1, e2]
                         refine ⟨?_, rfl⟩
                         rw [← hl2.out, ← hl1.out]
                         unfold i1 i4
                         rw [HPx.out, if_pos hb1, hb4f, if_neg (by decide)]
                         simp)
                       clear HWb HLt
                       go_wp2_with (first
                         | (at_builtin; refine wpList_append_own_string _ rfl _ _ 66 9 rfl W5.heap.size 5 i0 Tryz.underlying66 Tryz.underlying9 hi0 hz0 hz1 hz2 u10 l0.length _ rfl hI.out.1 q1 rfl (by unfold maxLen; have := HL0.out; have := HZ.out.1; omega) (by have := HL0.out; have := HZ.out.1; omega) hI.out.2.size ?_; intro v1 V1 hown hgrow _; have HR1 := Lib.hid (ByR.grewS (x := (32 :: 9 :: 35 :: rm)) HQ1.out hI.out.2 hI.out.1 hown hgrow); rw [hl1.out] at HR1; clear hown hgrow)
                         | (at_builtin; refine wpList_append_own _ rfl _ _ 66 rfl W5.heap.size 5 i0 (.int .u8 0) 1 1 Tryz.underlying66 hi0 hz0 hz1 hz2 rfl (by decide) v1 l1.length _ rfl (World.ownsRow.alloc HR1.out.1 _) ⟨V1.heap.size, 0, none⟩ 1 1 [.int .u8 10] rfl rfl (cell_one_new _ _ _) (by simp [Value.oneCell']) (by unfold maxLen; have := HL1.out; omega) (by have := HL1.out; omega) (by have := HR1.out.2.size; simp; omega) ?_; intro v2 V2 hown hgrow _; have HR2 := Lib.hid (ByR.grew1 (c := 10) HR1.out.2 HR1.out.1 hown hgrow); rw [hl2.out] at HR2; clear hown hgrow))
                       refine ⟨⟨i + 1, by go_num, by omega, by first | (rw [HF.out.2]; done) | (rw [HF.out.2]; go_num), Lib.hid (by rw [HF.out.1]; exact ⟨HR2.out.1, HR2.out.2⟩)⟩, by simp [RowKit.intOf]; omega⟩
                   · have b1 : (bits .and .u8 ((x : Nat) : Int) 1 == 1) = false := by unfold bt at hb1; simpa using hb1
                     have hb1f : bt 1 ((x : Nat) : Int) = false := by simpa using hb1
                     by_cases hb4 : bt 4 ((x : Nat) : Int) = true
                     · have b4 : (bits .and .u8 ((x : Nat) : Int) 4 == 4) = true := hb4
                       have c4 : bits .and .u8 ((x : Nat) : Int) 4 = 4 := by simpa using b4
                       obtain ⟨l1, hl1⟩ : ∃ l1, Hid (l0 ++ ([10] : Bs) = l1) := ⟨_, Lib.hid rfl⟩
                       have HL1 : Hid (l1.length ≤ 4101000) := Lib.hid (by rw [← hl1.out, List.length_append]; have := HL0.out; simp; omega)
                       obtain ⟨l2, hl2⟩ : ∃ l2, Hid (l1 ++ (10 :: 32 :: 32 :: 10 :: 35 :: (rm ++ [10])) = l2) := ⟨_, Lib.hid rfl⟩
                       have HL2 : Hid (l2.length ≤ 4102000) := Lib.hid (by rw [← hl2.out, List.length_append]; have := HL1.out; have := hRl.out; simp; omega)
                       have HF : Hid (blo rm pl 0 (sl.take (i + 1)) = l2 ∧ cnt (sl.take (i + 1)) = kc + 1) := Lib.hid (by
                         obtain ⟨e1, e2⟩ := (blo_one10 rm pl kc)
                         rw [HLt.out.1, HLt.out.2, hsi, e1, e2]
                         refine ⟨?_, rfl⟩
                         rw [← hl2.out, ← hl1.out]
                         unfold i1 i4
                         rw [HPx.out, hb1f, if_neg (by decide), if_pos hb4]
                         simp)
                       clear HWb HLt
                       go_wp2_with (first
                         | (at_builtin; refine wpList_append_own _ rfl _ _ 66 rfl W5.heap.size 5 i0 (.int .u8 0) 1 1 Tryz.underlying66 hi0 hz0 hz1 hz2 rfl (by decide) u10 l0.length _ rfl (World.ownsRow.alloc hI.out.1 _) ⟨wr.heap.size, 0, none⟩ 1 1 [.int .u8 10] rfl rfl (cell_one_new _ _ _) (by simp [Value.oneCell']) (by unfold maxLen; have := HL0.out; omega) (by have := HL0.out; omega) (by have := hI.out.2.size; simp; omega) ?_; intro v1 V1 hown hgrow _; have HR1 := Lib.hid (ByR.grew1 (c := 10) hI.out.2 hI.out.1 hown hgrow); rw [hl1.out] at HR1; clear hown hgrow)
                         | (at_builtin; refine wpList_append_own_string _ rfl _ _ 66 9 rfl W5.heap.size 5 i0 Tryz.underlying66 Tryz.underlying9 hi0 hz0 hz1 hz2 v1 l1.length _ rfl HR1.out.1 q4 rfl (by unfold maxLen; have := HL1.out; have := HZ.out.2; omega) (by have := HL1.out; have := HZ.out.2; omega) HR1.out.2.size ?_; intro v2 V2 hown hgrow _; have HR2 := Lib.hid (ByR.grewS (x := (10 :: 32 :: 32 :: 10 :: 35 :: (rm ++ [10]))) HQ4.out HR1.out.2 HR1.out.1 hown hgrow); rw [hl2.out] at HR2; clear hown hgrow))
                       refine ⟨⟨i + 1, by go_num, by omega, by first | (rw [HF.out.2]; done) | (rw [HF.out.2]; go_num), Lib.hid (by rw [HF.out.1]; exact ⟨HR2.out.1, HR2.out.2⟩)⟩, by simp [RowKit.intOf]; omega⟩
                     · have b4 : (bits .and .u8 ((x : Nat) : Int) 4 == 4) = false := by unfold bt at hb4; simpa using hb4
                       have hb4f : bt 4 ((x : Nat) : Int) = false := by simpa using hb4
                       obtain ⟨l1, hl1⟩ : ∃ l1, Hid (l0 ++ ([10] : Bs) = l1) := ⟨_, Lib.hid rfl⟩
                       have HL1 : Hid (l1.length ≤ 4101000) := Lib.hid (by rw [← hl1.out, List.length_append]; have := HL0.out; simp; omega)
                       have HF : Hid (blo rm pl 0 (sl.take (i + 1)) = l1 ∧ cnt (sl.take (i + 1)) = kc + 1) := Lib.hid (by
                         obtain ⟨e1, e2⟩ := (blo_one10 rm pl kc)
                         rw [HLt.out.1, HLt.out.2, hsi, e1, e2]
                         refine ⟨?_, rfl⟩
                         rw [← hl1.out]
                         unfold i1 i4
                         rw [HPx.out, hb1f, if_neg (by decide), hb4f, if_neg (by decide)]
                         simp)
                       clear HWb HLt
                       go_wp2_with (first
                         | (at_builtin; refine wpList_append_own _ rfl _ _ 66 rfl W5.heap.size 5 i0 (.int .u8 0) 1 1 Tryz.underlying66 hi0 hz0 hz1 hz2 rfl (by decide) u10 l0.length _ rfl (World.ownsRow.alloc hI.out.1 _) ⟨wr.heap.size, 0, none⟩ 1 1 [.int .u8 10] rfl rfl (cell_one_new _ _ _) (by simp [Value.oneCell']) (by unfold maxLen; have := HL0.out; omega) (by have := HL0.out; omega) (by have := hI.out.2.size; simp; omega) ?_; intro v1 V1 hown hgrow _; have HR1 := Lib.hid (ByR.grew1 (c := 10) hI.out.2 hI.out.1 hown hgrow); rw [hl1.out] at HR1; clear hown hgrow))
                       refine ⟨⟨i + 1, by go_num, by omega, by first | (rw [HF.out.2]; done) | (rw [HF.out.2]; go_num), Lib.hid (by rw [HF.out.1]; exact ⟨HR1.out.1, HR1.out.2⟩)⟩, by simp [RowKit.intOf]; omega⟩
                 · have hki : ¬ ((kc : Int) < (np : Int)) := by omega
                   have HPx : Hid (pls pl kc = 0) := Lib.hid (pls_out (by rw [hnp.out]; omega))
                   have a1 : bits .and .u8 0 1 = 0 := by decide
                   have a2 : bits .and .u8 0 2 = 0 := by decide
                   have a4 : bits .and .u8 0 4 = 0 := by decide
                   clear hbw
                   obtain ⟨l1, hl1⟩ : ∃ l1, Hid (l0 ++ ([10] : Bs) = l1) := ⟨_, Lib.hid rfl⟩
                   have HL1 : Hid (l1.length ≤ 4101000) := Lib.hid (by rw [← hl1.out, List.length_append]; have := HL0.out; simp; omega)
                   have HF : Hid (blo rm pl 0 (sl.take (i + 1)) = l1 ∧ cnt (sl.take (i + 1)) = kc + 1) := Lib.hid (by
                     obtain ⟨e1, e2⟩ := (blo_one10 rm pl kc)
                     rw [HLt.out.1, HLt.out.2, hsi, e1, e2]
                     refine ⟨?_, rfl⟩
                     rw [← hl1.out]
                     unfold i1 i4
                     rw [HPx.out, bt_zero.1, bt_zero.2.2, if_neg (by decide)]
                     simp)
                   clear HWb HLt
                   go_wp2_with (first
                     | (at_builtin; refine wpList_append_own _ rfl _ _ 66 rfl W5.heap.size 5 i0 (.int .u8 0) 1 1 Tryz.underlying66 hi0 hz0 hz1 hz2 rfl (by decide) u10 l0.length _ rfl (World.ownsRow.alloc hI.out.1 _) ⟨wr.heap.size, 0, none⟩ 1 1 [.int .u8 10] rfl rfl (cell_one_new _ _ _) (by simp [Value.oneCell']) (by unfold maxLen; have := HL0.out; omega) (by have := HL0.out; omega) (by have := hI.out.2.size; simp; omega) ?_; intro v1 V1 hown hgrow _; have HR1 := Lib.hid (ByR.grew1 (c := 10) hI.out.2 hI.out.1 hown hgrow); rw [hl1.out] at HR1; clear hown hgrow))
                   refine ⟨⟨i + 1, by go_num, by omega, by first | (rw [HF.out.2]; done) | (rw [HF.out.2]; go_num), Lib.hid (by rw [HF.out.1]; exact ⟨HR1.out.1, HR1.out.2⟩)⟩, by simp [RowKit.intOf]; omega⟩
               · have d32 : ((((S[i]'hlt2).toNat : Nat) : Int) == 32) = false := by
                   simp only [beq_eq_false_iff_ne]
                   exact fun e => c32 (UInt8.toNat.inj (by show (S[i]).toNat = 32; omega))
                 have d10 : ((((S[i]'hlt2).toNat : Nat) : Int) == 10) = false := by
                   simp only [beq_eq_false_iff_ne]
                   exact fun e => c10 (UInt8.toNat.inj (by show (S[i]).toNat = 10; omega))
                 clear hbw
                 obtain ⟨l1, hl1⟩ : ∃ l1, Hid (l0 ++ ([S[i]'hlt2] : Bs) = l1) := ⟨_, Lib.hid rfl⟩
                 have HL1 : Hid (l1.length ≤ 4101000) := Lib.hid (by rw [← hl1.out, List.length_append]; have := HL0.out; simp; omega)
                 have HF : Hid (blo rm pl 0 (sl.take (i + 1)) = l1 ∧ cnt (sl.take (i + 1)) = kc) := Lib.hid (by
                   obtain ⟨e1, e2⟩ := blo_one rm pl kc c32 c10
                   rw [HLt.out.1, HLt.out.2, ← HSi.out, e1, e2, ← hl1.out]
                   exact ⟨rfl, rfl⟩)
                 clear HWb HLt
                 go_wp2_with (first
                   | (at_builtin; refine wpList_append_own _ rfl _ _ 66 rfl W5.heap.size 5 i0 (.int .u8 0) 1 1 Tryz.underlying66 hi0 hz0 hz1 hz2 rfl (by decide) u10 l0.length _ rfl (World.ownsRow.alloc hI.out.1 _) ⟨wr.heap.size, 0, none⟩ 1 1 [.int .u8 ((S[i]'hlt2).toNat : Int)] rfl rfl (cell_one_new _ _ _) (by simp [Value.oneCell']) (by unfold maxLen; have := HL0.out; omega) (by have := HL0.out; omega) (by have := hI.out.2.size; simp; omega) ?_; intro v1 V1 hown hgrow _; have HR1 := Lib.hid (ByR.grew1 (c := S[i]'hlt2) hI.out.2 hI.out.1 hown hgrow); rw [hl1.out] at HR1; clear hown hgrow))
                 refine ⟨⟨i + 1, by go_num, by omega, by first | (rw [HF.out.2]; done) | (rw [HF.out.2]; go_num), Lib.hid (by rw [HF.out.1]; exact ⟨HR1.out.1, HR1.out.2⟩)⟩, by simp [RowKit.intOf]; omega⟩
           · obtain rfl : i = S.size := by omega
             have hall : sl.take S.size = sl := List.take_of_length_le (by omega)
             rw [hall] at hI
             obtain ⟨lf, hlf⟩ : ∃ lf, Hid (blo rm pl 0 sl = lf) := ⟨_, Lib.hid rfl⟩
             rw [hlf.out] at hI
             have HRf := Lib.hid HWb.out
             rw [hlf.out] at HRf
             have hcv := hI.out.1.conv
             have H6 : Hid (CB wr w.heap.size #[.slice va N vc, .bool z, .int .i64 k, .bool m] 25 ∧ Below w.heap.size w wr ∧ T10 wr ∧ Nv wr (.slice va N vc) ns) := Lib.hid ⟨H5.out.1.later hI.out.2, H5.out.2.1.trans (hI.out.2.mono H5.out.2.1.size), H5.out.2.2.1.later hI.out.2, H5.out.2.2.2.later hI.out.2⟩
             clear hall hI hi1 hlt2 HWb
             go_wp2_with fail
             refine (readT HP.out lf _ (by have := HRf.out.2; omega) H6.out.2.2.1 _ _ _ HRf.out.1).mono ?_
             clear hcv
             rintro e W6 ⟨a6, c6, ms, z6, k6, m6, rfl, hmr, hmf, _, hb6⟩
             have hm1 : ndsO ms = F.ns.map cn := (congrArg Fd.ns hmf).symm
             obtain rfl : z = z6 := by have := congrArg Fd.z hmf; rw [← hF.out] at this; exact this
             obtain rfl : k = ((k6 : Nat) : Int) := by have := congrArg Fd.k hmf; rw [← hF.out] at this; exact this
             obtain rfl : m = m6 := by have := congrArg Fd.m hmf; rw [← hF.out] at this; exact this
             obtain ⟨W7, hW7⟩ : ∃ W7, W6.alloc (.cells #[.slice a6 ms.length c6, .bool z, .int .i64 (k6 : Nat), .bool m] 29) = W7 := ⟨_, rfl⟩
             have b7 : Below W6.heap.size W6 W7 := by rw [← hW7]; exact (Below.refl _ _).alloc (Nat.le_refl _) _
             have b57 : Below wr.heap.size wr W7 := hb6.trans (b7.mono hb6.size)
             obtain ⟨W8, hW8⟩ : ∃ W8, W7.drew = W8 := ⟨_, rfl⟩
             have b58 : Below wr.heap.size wr W8 := by rw [← hW8]; exact b57.drew
             have b68 : Below W6.heap.size W6 W8 := by rw [← hW8]; exact b7.drew
             have cg : CB W8 W6.heap.size #[.slice a6 ms.length c6, .bool z, .int .i64 (k6 : Nat), .bool m] 29 := by rw [← hW8, ← hW7]; exact CB.new W6 _ _
             have cf := H6.out.1.later b58
             obtain ⟨k0, k1, k2, k3⟩ := cf.cells4
             obtain ⟨j0, j1, j2, j3⟩ := cg.cells4
             have HBk : Hid (Calls Tryz.prog 12 #[.agg #[.slice a6 ms.length c6, .bool z, .int .i64 (k6 : Nat), .bool m]] W8 fun e w' => e = .returned (.agg #[.slice a6 ms.length c6, .bool z, .int .i64 (k6 : Nat), .bool m]) ∧ Below W8.heap.size W8 w') := Lib.hid (back10_any a6 _ c6 z _ m W8)
             have HSm : Hid (∀ W', Below W8.heap.size W8 W' → Calls Tryz.prog 11 #[.agg #[.slice a6 ms.length c6, .bool z, .int .i64 (k6 : Nat), .bool m], .agg #[.slice va N vc, .bool z, .int .i64 (k6 : Nat), .bool m]] W' fun e w' => e = .returned (.bool true) ∧ Below w.heap.size w w' ∧ T10 w') := Lib.hid (fun W' hW' => by
               have hF' : F.ns = ndsO' ns := by rw [← hF.out]
               have hg : ∀ q ∈ ndsO' ns, amiss F.k F.m q = false ∧ p.pt q.x q.y = true := fun q hq => (HGd.out.2 q (by rw [hF']; exact hq)).1
               obtain ⟨s1, s2⟩ := same_list HP.out (by rw [hm1, hF']) hg
               have bw5 := H6.out.2.1
               have b5' : Below wr.heap.size wr W' := b58.trans (hW'.mono b58.size)
               have bw' : Below w.heap.size w W' := bw5.trans (b5'.mono bw5.size)
               have hb6' := (hmr.later b68).nv.later hW'
               refine (same10_any _ _ ms ns z m _ W' hb6' (H6.out.2.2.2.later b5') s1 s2 (by have := HBd.out.1; omega) (fun q hq => ?_)).mono fun e w' h => ⟨h.1, bw'.trans (h.2.mono bw'.size), (H6.out.2.2.1.later b5').later h.2⟩
               have hq' : q.1 ∈ (ndsO' ns).map cn := by rw [← hF', ← hm1]; exact List.mem_map.2 ⟨q, hq, rfl⟩
               obtain ⟨r, hr, e⟩ := List.mem_map.1 hq'
               obtain ⟨r2, hr2, e2⟩ := List.mem_map.1 hr
               have := HBd.out.2 r2 hr2
               rw [← e, ← e2]
               show (r2.1.a.map cz).length ≤ _
               rw [List.length_map]
               omega)
             have Hcf := Lib.hid cf
             clear b7 b57 b58 b68 cg cf hmr hmf hb6 hm1 HRf
             go_wp2_with fail
             go_region_with (first
               | (go_at_call 12; refine HBk.out.mono ?_; rintro e W9 ⟨rfl, hb9⟩; have HB9 := Lib.hid hb9; obtain ⟨y0, y1, y2, y3⟩ := (Hcf.out.later hb9).cells4; clear hb9)
               | (go_at_call 11; refine (HSm.out _ HB9.out).mono ?_; rintro e W10 ⟨rfl, hw10, ht10⟩; have HC := Lib.hid hw10; clear hw10 ht10))
             all_goals
               go_wp2
               go_ret
               exact ⟨rfl, HC.out⟩
       · have h0' : (er == 0) = false := by simpa using h0
         go_wp2
         go_ret
         exact ⟨rfl, H5.out.2.1⟩
 · go_wp2_with (go_at_call 8; refine (HAw.out _ H2.out.2.1 H2.out.2.2.1).mono ?_; rintro e W3 ⟨rfl, hb3⟩; have HB3 := Lib.hid hb3; clear hb3)
   go_ret
   exact ⟨rfl, HB3.out⟩
end Go.Proofs.YtofklahgpkmfmaaGreatDoor
