/- Own texts, put together: Df Dg. -/
import Derived.Test.YtgpbfhennineiaaGreatQ4
import Derived.Test.YtgpbfhennineiaaGreatQ38
import Derived.Test.YtgpbfhennineiaaGreatQ39
import Derived.Test.YtgpbfhennineiaaGreatQ40
namespace Go.Proofs.YtgpbfhennineiaaGreat
/- Layer 7: the copy of a list of points by append. -/
section
open Go.RowKit Go.Shelf Go.Sort Go.Lib
theorem run_append_none_c {P : Program} {w : World} (base : Nat) (t ty e : TypeId) (i : TypeInfo) (size : Nat) (ht : P.underlying t = some (.slice e)) (hi : P.info? e = some i)
   (v : Value) (n c : Nat) (xs : List Value) (hown : w.ownsRow base e size v n xs) :
   (Builtin.append_ #[t, t] ty #[v, .slice none 0 c]).run P w = .ok v w := by
 rcases hown.2 with ⟨rfl, rfl⟩ | ⟨g, cap, cur, rfl, _, _, hnc, _⟩
 · simp [Builtin.append_, run_underlying ht, sizeOf, typeInfo, hi, Builtin.lenOf, Builtin.firstCells]
 · simp [Builtin.append_, run_underlying ht, sizeOf, typeInfo, hi, Builtin.lenOf, Builtin.firstCells, hnc, storeCells]
theorem pcs_ones (f : Nat → Nat × Nat) (n : Nat) : ∀ u ∈ pcs f n, u.oneCell' = true := by
 induction n with
 | zero => intro u hu; cases hu
 | succ n ih =>
   intro u hu
   rw [pcs_succ, List.mem_append] at hu
   rcases hu with hu | hu
   · exact ih u hu
   · simp at hu
     rcases hu with rfl | rfl <;> rfl
theorem pcs_news {w : World} {ad : Addr} {n c j : Nat} {u : Value} {f : Nat → Nat × Nat} (h : Ps w (.slice (some ad) n c) n f) (hj : (pcs f n)[j]? = some u) : w.cell? (ad.add j) = some u := by
 have hl : j < n * 2 := by
   rcases Nat.lt_or_ge j (pcs f n).length with e | e
   · rw [pcs_len] at e; exact e
   · rw [List.getElem?_eq_none e] at hj; cases hj
 obtain ⟨g, off, ha, hg, hcell⟩ := h.some (by omega)
 cases ha
 rw [add_at]
 have hk : j / 2 < n := by omega
 have p := pcs_at f n (j / 2) hk
 have q := hcell (j / 2) hk
 rcases Nat.mod_two_eq_zero_or_one j with e | e
 · have e1 : j / 2 * 2 = j := by omega
   rw [e1] at p q
   rw [p.1] at hj
   rw [q.1]; exact hj
 · have e1 : j / 2 * 2 + 1 = j := by omega
   have e2 : off + j / 2 * 2 + 1 = off + j := by omega
   rw [e1] at p
   rw [e2] at q
   rw [p.2] at hj
   rw [q.2]; exact hj
theorem wpList_append_ps {w0 : World} {ops : Array Oper} {rest : List Oper} {o : Oper} {aa : Act} {Q : Exit → Act → World → Prop} (hgd : o.guard = none) (s x : Operand)
   (ho : o.op = .call { callee := .builtin .append, args := #[s, x], argTypes := #[22, 22] }) (a : Option Addr) (c n : Nat) (f : Nat → Nat × Nat)
   (hs : aa.eval s = .slice (some ⟨w0.heap.size, 0, none⟩) 0 0) (hx : aa.eval x = .slice a n c) (hP : Ps w0 (.slice a n c) n f) (hn : n ≤ 60)
   (h : ∀ v' w', Ps w' v' n f → Below w0.heap.size w0 w' → wpList Tryz.prog ops Q rest (aa.put o.dst v') w') : wpList Tryz.prog ops Q (o :: rest) aa (w0.alloc (.cells #[] 32)) := by
 obtain ⟨i0, hif, hz0, hz1, hz2⟩ := info_parts (show (Tryz.prog.info? 32).map (fun i => (i.zero, i.size, i.bytes)) = some (some (.agg #[.float .f64 0, .float .f64 0]), 2, 16) by kernel_rfl)
 have hown : (w0.alloc (.cells #[] 32)).ownsRow w0.heap.size 32 2 (.slice (some ⟨w0.heap.size, 0, none⟩) 0 0) 0 [] := World.ownsRow_made w0 #[] 0 (Nat.le_refl _) (Nat.zero_le _) rfl
 have hB : Below w0.heap.size w0 (w0.alloc (.cells #[] 32)) := (Below.refl _ _).alloc (Nat.le_refl _) _
 rcases a with _ | ad
 · obtain rfl : n = 0 := by
     rcases Nat.eq_zero_or_pos n with e | e
     · exact e
     · obtain ⟨_, _, h, _⟩ := hP.some e; cases h
   refine wpList_plain hgd fun K hK => ?_
   have hrun := run_append_none_c (P := Tryz.prog) w0.heap.size 22 o.type 32 i0 2 Tryz.underlying22 hif _ 0 c [] hown
   unfold Oper.wp
   simp [execOp, ho, resolve, invoke, builtin, hs, hx, hrun, Result.andThen]
   exact hK _ _ (h _ _ ⟨⟨_, 0, rfl, by omega, by omega, Or.inl rfl⟩, hP.word⟩ hB)
 · refine wpList_append_own _ hgd s x _ ho w0.heap.size 32 i0 _ 2 16 Tryz.underlying22 hif hz0 hz1 hz2 rfl (by omega) _ 0 [] hs hown ad n c (pcs f n) hx (pcs_len f n) (fun j u hj => pcs_news (hP.later hB) hj) (pcs_ones f n) (by unfold maxLen; omega) (by omega) (by simp) (fun v' w' h1 h2 h3 => h v' w' ?_ ?_)
   · rw [Nat.zero_add, List.nil_append] at h1
     exact ps_own h1 (by omega) hP.word
   · exact hB.grown h2 (by simp) (fun k hk => by simp [Value.ownBlock] at hk; omega)
end

/- AdmitLists. -/
section
open Go.RowKit Go.Shelf Go.Sort Go.Lib
attribute [local go_sem ↓] Go.wp_at_zero Go.wp_at_succ
attribute [local go_sem] run_store_float
structure R3 (w W : World) (A B C n L : Nat) : Prop where
 a : ∃ c, IRow W A n c
 b : ∃ c, IRow W B n c
 c : ∃ c, IRow W C L c
 ne : A ≠ B ∧ A ≠ C ∧ B ≠ C
 lo : w.heap.size ≤ A ∧ w.heap.size ≤ B ∧ w.heap.size ≤ C
 bel : Below w.heap.size w W
theorem IRow.but' {W W' : World} {g n R : Nat} {c : Nat → Int} (h : IRow W g n c) (hb : But W W' R) (hn : g ≠ R) : IRow W' g n c := h.block (hb.block g h.lt hn) hb.size
theorem R3.setA {w W : World} {A B C n L i : Nat} {z : Int} (h : R3 w W A B C n L) (hi : i < n) : R3 w (W.setCell ⟨A, i, none⟩ (.int .i64 z)) A B C n L := by
 obtain ⟨⟨ca, ha⟩, ⟨cb, hb⟩, ⟨cc, hc⟩, hn, hl, hB⟩ := h
 have hu := But.setCell W A i (.int .i64 z)
 exact ⟨⟨_, ha.set i hi z⟩, ⟨cb, hb.but' hu (Ne.symm hn.1)⟩, ⟨cc, hc.but' hu (Ne.symm hn.2.1)⟩, hn, hl, hu.below hB hl.1⟩
theorem R3.setB {w W : World} {A B C n L i : Nat} {z : Int} (h : R3 w W A B C n L) (hi : i < n) : R3 w (W.setCell ⟨B, i, none⟩ (.int .i64 z)) A B C n L := by
 obtain ⟨⟨ca, ha⟩, ⟨cb, hb⟩, ⟨cc, hc⟩, hn, hl, hB⟩ := h
 have hu := But.setCell W B i (.int .i64 z)
 exact ⟨⟨ca, ha.but' hu hn.1⟩, ⟨_, hb.set i hi z⟩, ⟨cc, hc.but' hu (Ne.symm hn.2.2)⟩, hn, hl, hu.below hB hl.2.1⟩
theorem R3.setC {w W : World} {A B C n L i : Nat} {z : Int} (h : R3 w W A B C n L) (hi : i < L) : R3 w (W.setCell ⟨C, i, none⟩ (.int .i64 z)) A B C n L := by
 obtain ⟨⟨ca, ha⟩, ⟨cb, hb⟩, ⟨cc, hc⟩, hn, hl, hB⟩ := h
 have hu := But.setCell W C i (.int .i64 z)
 exact ⟨⟨ca, ha.but' hu hn.2.1⟩, ⟨cb, hb.but' hu hn.2.2⟩, ⟨_, hc.set i hi z⟩, hn, hl, hu.below hB hl.2.2⟩
theorem R3.drew {w W : World} {A B C n L : Nat} (h : R3 w W A B C n L) : R3 w W.drew A B C n L := by
 obtain ⟨⟨ca, ha⟩, ⟨cb, hb⟩, ⟨cc, hc⟩, hn, hl, hB⟩ := h
 exact ⟨⟨ca, ha.drew⟩, ⟨cb, hb.drew⟩, ⟨cc, hc.drew⟩, hn, hl, hB.drew⟩
set_option maxRecDepth 100000 in
set_option maxHeartbeats 8000000 in
theorem lists7_law (s : Value) (n : Nat) (f : Nat → Nat × Nat) (w0 : World) (h : Ps w0 s n f) : Calls Tryz.prog 3 #[s] w0 fun e w' => e = .returned (.bool true) ∧ Below w0.heap.size w0 w' := by
 have HF : Hid (Ps w0 s n f) := h
 obtain ⟨a, c, rfl, hc, hm⟩ := h.shape
 clear h
 have hG : Tryz.prog.eqGuardType Tryz.prog.depth 32 = false := by kernel_rfl
 by_cases hbig : 60 < n
 · have hbig' : (60 : Int) < (n : Int) := by omega
   clear hbig
   go_enter Tryz.func3, Tryz.ntmps3
   go_wp2
   go_ret
   exact ⟨rfl, Below.refl _ _⟩
 · have hbig' : ¬ (60 : Int) < (n : Int) := by omega
   have hn : n ≤ 60 := by omega
   clear hbig
   go_enter Tryz.func3, Tryz.ntmps3
   go_wp2_with (at_builtin; (refine wpList_append_ps rfl _ _ rfl a c n f rfl rfl HF.out hn ?_); intro v3 w hp3 hb0)
   obtain ⟨a3, c3, rfl, hc3, hm3⟩ := hp3.shape
   have HP3 : Hid (Ps w (.slice a3 n c3) n f) := hp3
   have HB0 : Hid (Below w0.heap.size w0 w) := hb0
   have HPL : Hid (Ps w (.slice a n c) n f) := HF.out.later hb0
   clear hp3 hb0 HF
   go_wp2_with fail
   refine (all_any _ n f w HP3.out).mono ?_
   rintro e w1 ⟨⟨z, r, rfl, hr⟩, hb⟩
   have HR : Hid (AllR n f z r) := hr
   have HB1 : Hid (Below w.heap.size w w1) := hb
   clear hr hb
   go_wp2_with fail
   refine (refAll_any _ n f w1 (HPL.out.later HB1.out)).mono ?_
   rintro e w2 ⟨⟨z', r', rfl, hr⟩, hb⟩
   have HB2 : Hid (Below w.heap.size w w2) := below_step HB1.out hb
   obtain ⟨rfl, rfl⟩ := HR.out.fun' hr
   have HRO : Hid (r = 0 ↔ MayL n f) := hr.ok
   clear hr hb HB1 HR
   go_wp2_with fail
   go_loopw [8] (fun s8 wr => ∃ k : Nat, k ≤ 2 ∧ s8 = .int .i64 (k : Nat) ∧ Hid (Below w.heap.size w wr)) (fun s8 _ => 2 - (intOf s8).toNat)
   case atStart => exact ⟨0, Nat.zero_le _, rfl, HB2.out⟩
   case round =>
     clear HB2
     obtain ⟨k, hk, rfl, hK⟩ := hrel
     by_cases hk2 : k < 2
     · have hk2' : (k : Int) < 2 := by omega
       go_wp2_with fail
       refine (order_any _ n f _ (HP3.out.later hK.out)).mono ?_
       rintro e wa ⟨ha, hba⟩
       have HBa : Hid (Below w.heap.size w wa) := below_step hK.out hba
       have HSa : Hid (w.heap.size ≤ wr.heap.size) := hK.out.size
       by_cases hr0 : ¬ r = 0
       · have HNM : Hid (¬ MayL n f) := fun h => hr0 (HRO.out.2 h)
         have hr1 : (r == 0) = false := by simp [hr0]
         have hr2 : (r != 0) = true := by simp [hr0]
         rcases ha with ⟨_, rfl⟩ | ⟨hh, _⟩
         case inr => exact absurd hh HNM.out
         clear hba
         go_wp2_with fail
         refine (twins_any _ n f _ (HP3.out.later HBa.out)).mono ?_
         rintro e wb ⟨hb, hbb⟩
         have HBb : Hid (Below w.heap.size w wb) := below_step HBa.out hbb
         rcases hb with ⟨_, rfl⟩ | ⟨hh, _⟩
         case inr => exact absurd hh HNM.out
         clear hbb
         go_wp2_with fail
         refine (unlike_any _ n f _ (HP3.out.later HBb.out)).mono ?_
         rintro e wc ⟨hcx, hbc⟩
         have HBc : Hid (Below w.heap.size w wc) := below_step HBb.out hbc
         rcases hcx with ⟨_, rfl⟩ | ⟨hh, _⟩
         case inr => exact absurd hh HNM.out
         clear hbc
         go_wp2_with fail
         refine (flat_any _ n f _ (HP3.out.later HBc.out)).mono ?_
         rintro e wd ⟨⟨t, rfl, ht⟩, hbd⟩
         have HBd : Hid (Below w.heap.size w wd) := below_step HBc.out hbd
         obtain rfl : t = false := by
           cases t
           · rfl
           · exact absurd (ht.1 rfl).1 HNM.out
         clear ht hbd
         go_wp2
         go_ret
         exact ⟨rfl, below_step HB0.out HBd.out⟩
       · have hr0 : r = 0 := Classical.not_not.1 hr0
         have HM : Hid (MayL n f) := HRO.out.1 hr0
         subst hr0
         rcases ha with ⟨hh, _⟩ | ⟨_, A, os, rfl, hA, ho, hia⟩
         · exact absurd HM.out hh
         have HO : Hid (Ord f n os) := ho
         have HIa : Hid (IRow wa A n (fun k => (os.getD k 0 : Nat))) := hia
         have HA : Hid (wr.heap.size ≤ A) := hA
         clear ho hia hA hba
         go_wp2_with fail
         refine (twins_any _ n f _ (HP3.out.later HBa.out)).mono ?_
         rintro e wb ⟨hb, hbb⟩
         rcases hb with ⟨hh, _⟩ | ⟨_, B, rfl, hB, hib⟩
         · exact absurd HM.out hh
         have HBb : Hid (Below w.heap.size w wb) := below_step HBa.out hbb
         have HIa2 : Hid (IRow wb A n (fun k => (os.getD k 0 : Nat))) := HIa.out.later hbb
         have HIb : Hid (IRow wb B n (fun k => (tw f k : Nat))) := hib
         have HBB : Hid (wa.heap.size ≤ B) := hB
         have HAB : Hid (A < wa.heap.size) := HIa.out.lt
         clear hib hB hbb HIa
         go_wp2_with fail
         refine (unlike_any _ n f _ (HP3.out.later HBb.out)).mono ?_
         rintro e wc ⟨hcx, hbc⟩
         rcases hcx with ⟨hh, _⟩ | ⟨_, C, os2, us, rfl, hC, ho2, hus, hic⟩
         · exact absurd HM.out hh
         obtain rfl := HO.out.uniq ho2
         have HBc : Hid (Below w.heap.size w wc) := below_step HBb.out hbc
         have HIa3 : Hid (IRow wc A n (fun k => (os.getD k 0 : Nat))) := HIa2.out.later hbc
         have HIb3 : Hid (IRow wc B n (fun k => (tw f k : Nat))) := HIb.out.later hbc
         have HIc3 : Hid (IRow wc C us.length (fun k => (us.getD k 0 : Nat))) := hic
         have HCC : Hid (wb.heap.size ≤ C) := hC
         have HBC : Hid (B < wb.heap.size) := HIb.out.lt
         have HABC : Hid (A < wb.heap.size) := HIa2.out.lt
         have HUS : Hid (us = ownO f os) := hus
         clear hic hC hbc ho2 hus HIa2 HIb
         go_wp2_with fail
         refine (flat_any _ n f _ (HP3.out.later HBc.out)).mono ?_
         rintro e wd ⟨⟨t, rfl, ht⟩, hbd⟩
         have HBd : Hid (Below w.heap.size w wd) := below_step HBc.out hbd
         have HIa4 : Hid (IRow wd A n (fun k => (os.getD k 0 : Nat))) := HIa3.out.later hbd
         have HIb4 : Hid (IRow wd B n (fun k => (tw f k : Nat))) := HIb3.out.later hbd
         have HIc4 : Hid (IRow wd C us.length (fun k => (us.getD k 0 : Nat))) := HIc3.out.later hbd
         have HT : Hid (t = true ↔ MayL n f ∧ FlatP f n) := ht
         clear ht hbd HIa3 HIb3 HIc3
         go_wp2_with fail
         refine (refOrder_any _ n f _ (HPL.out.later HBd.out) HM.out).mono ?_
         rintro e w3 ⟨⟨v, os3, rfl, ho3, hv⟩, hb⟩
         obtain rfl := HO.out.uniq ho3
         have HB3 : Hid (Below w.heap.size w w3) := below_step HBd.out hb
         have HZ1 : Hid (Iz w3 (.slice (some ⟨A, 0, none⟩) n n) os) := Iz.row HO.out.len (HIa4.out.later hb)
         have HZ2 : Hid (Iz w3 v os) := iz_own HO.out.len hv
         have HIb5 : Hid (IRow w3 B n (fun k => (tw f k : Nat))) := HIb4.out.later hb
         have HIa5 : Hid (IRow w3 A n (fun k => (os.getD k 0 : Nat))) := HIa4.out.later hb
         have HIc5 : Hid (IRow w3 C us.length (fun k => (us.getD k 0 : Nat))) := HIc4.out.later hb
         clear ho3 hv hb HIa4 HIb4 HIc4
         go_wp2_with fail
         refine (ints_any _ _ os w3 HZ1.out HZ2.out (by rw [HO.out.len]; omega)).mono ?_
         rintro e w4 ⟨rfl, hb⟩
         have HB4 : Hid (Below w.heap.size w w4) := below_step HB3.out hb
         have HIb6 : Hid (IRow w4 B n (fun k => (tw f k : Nat))) := HIb5.out.later hb
         have HIa6 : Hid (IRow w4 A n (fun k => (os.getD k 0 : Nat))) := HIa5.out.later hb
         have HIc6 : Hid (IRow w4 C us.length (fun k => (us.getD k 0 : Nat))) := HIc5.out.later hb
         clear hb HZ1 HZ2 HIa5 HIb5 HIc5
         go_wp2_with fail
         refine (refTwins_any _ n f _ (HPL.out.later HB4.out) HM.out).mono ?_
         rintro e w5 ⟨⟨v5, rfl, hv⟩, hb⟩
         have HB5 : Hid (Below w.heap.size w w5) := below_step HB4.out hb
         have HZ1 : Hid (Iz w5 (.slice (some ⟨B, 0, none⟩) n n) (tws f n)) := Iz.row (tws_len f n) ((HIb6.out.later hb).congr (fun k hk => by rw [tws_at f hk]))
         have HZ2 : Hid (Iz w5 v5 (tws f n)) := iz_own (tws_len f n) hv
         have HIb7 : Hid (IRow w5 B n (fun k => (tw f k : Nat))) := HIb6.out.later hb
         have HIa7 : Hid (IRow w5 A n (fun k => (os.getD k 0 : Nat))) := HIa6.out.later hb
         have HIc7 : Hid (IRow w5 C us.length (fun k => (us.getD k 0 : Nat))) := HIc6.out.later hb
         clear hv hb HIa6 HIb6 HIc6
         go_wp2_with fail
         refine (ints_any _ _ (tws f n) w5 HZ1.out HZ2.out (by rw [tws_len]; omega)).mono ?_
         rintro e w6 ⟨rfl, hb⟩
         have HB6 : Hid (Below w.heap.size w w6) := below_step HB5.out hb
         have HIb8 : Hid (IRow w6 B n (fun k => (tw f k : Nat))) := HIb7.out.later hb
         have HIa8 : Hid (IRow w6 A n (fun k => (os.getD k 0 : Nat))) := HIa7.out.later hb
         have HIc8 : Hid (IRow w6 C us.length (fun k => (us.getD k 0 : Nat))) := HIc7.out.later hb
         clear hb HZ1 HZ2 HIa7 HIb7 HIc7
         go_wp2_with fail
         refine (refUnlike_any _ n f _ (HPL.out.later HB6.out) HM.out).mono ?_
         rintro e w7 ⟨⟨v7, os3, rfl, ho3, hv⟩, hb⟩
         obtain rfl := HO.out.uniq ho3
         have HB7 : Hid (Below w.heap.size w w7) := below_step HB6.out hb
         have HZ1 : Hid (Iz w7 (.slice (some ⟨C, 0, none⟩) us.length n) us) := Iz.row rfl (HIc8.out.later hb)
         have HZ2 : Hid (Iz w7 v7 us) := by rw [HUS.out]; exact iz_own rfl hv
         have HIb9 : Hid (IRow w7 B n (fun k => (tw f k : Nat))) := HIb8.out.later hb
         have HIa9 : Hid (IRow w7 A n (fun k => (os.getD k 0 : Nat))) := HIa8.out.later hb
         have HIc9 : Hid (IRow w7 C us.length (fun k => (us.getD k 0 : Nat))) := HIc8.out.later hb
         have HUL : Hid (us.length ≤ n) := by
           have h1 : us.length ≤ os.length := by rw [HUS.out]; exact List.length_filter_le _ _
           rw [HO.out.len] at h1; exact h1
         clear ho3 hv hb HIa8 HIb8 HIc8
         go_wp2_with fail
         refine (ints_any _ _ us w7 HZ1.out HZ2.out (by have := HUL.out; omega)).mono ?_
         rintro e w8 ⟨rfl, hb⟩
         have HB8 : Hid (Below w.heap.size w w8) := below_step HB7.out hb
         have HIb10 : Hid (IRow w8 B n (fun k => (tw f k : Nat))) := HIb9.out.later hb
         have HIa10 : Hid (IRow w8 A n (fun k => (os.getD k 0 : Nat))) := HIa9.out.later hb
         have HIc10 : Hid (IRow w8 C us.length (fun k => (us.getD k 0 : Nat))) := HIc9.out.later hb
         clear hb HZ1 HZ2 HIa9 HIb9 HIc9
         go_wp2_with fail
         refine (refFlat_any _ n f _ (HPL.out.later HB8.out) HM.out).mono ?_
         rintro e w9 ⟨⟨t9, rfl, ht9⟩, hb⟩
         have HB9 : Hid (Below w.heap.size w w9) := below_step HB8.out hb
         obtain rfl : t = t9 := by
           rw [Bool.eq_iff_iff, HT.out, ht9]
           exact ⟨fun h => h.2, fun h => ⟨HM.out, h⟩⟩
         obtain ⟨L, hL⟩ : ∃ L, us.length = L := ⟨_, rfl⟩
         have HR3 : Hid (R3 w w9 A B C n L) := by
           rw [← hL]
           have a1 := HA.out; have a2 := HAB.out; have a3 := HBB.out; have a4 := HBC.out; have a5 := HABC.out; have a6 := HCC.out; have a7 := HSa.out; have a8 := HBa.out.size; have a9 := HBb.out.size
           exact ⟨⟨_, HIa10.out.later hb⟩, ⟨_, HIb10.out.later hb⟩, ⟨_, HIc10.out.later hb⟩, ⟨by omega, by omega, by omega⟩, ⟨by omega, by omega, by omega⟩, HB9.out⟩
         have hLn : L ≤ n := by rw [← hL]; exact HUL.out
         rw [hL]
         clear ht9 hb HIa10 HIb10 HIc10 HT HUL HUS hL HB9 HB8 HB7 HB6 HB5 HB4 HB3 HBd HBc HBb HBa HA HAB HBB HBC HABC HCC HSa
         go_wp2
         go_loopw [13] (fun s13 wr => ∃ i : Nat, i ≤ n ∧ s13 = .int .i64 (i : Nat) ∧ Hid (R3 w wr A B C n L)) (fun s13 _ => n - (intOf s13).toNat)
         case atStart => exact ⟨0, Nat.zero_le _, rfl, HR3.out⟩
         case round =>
           clear HR3
           obtain ⟨i, hi, rfl, hI⟩ := hrel
           by_cases hlt : i < n
           · have hlt' : (i : Int) < (n : Int) := by omega
             have hi0 : (0 : Int) ≤ (i : Int) := by omega
             obtain ⟨ca, ha⟩ := hI.out.a
             have e1 := (ha.cell i hlt).1
             have e2 := (ha.cell i hlt).2
             obtain ⟨W1, hW1⟩ : ∃ W1, wr.setCell ⟨A, i, none⟩ (.int .i64 (-7)) = W1 := ⟨_, rfl⟩
             have HR1 : Hid (R3 w W1 A B C n L) := by rw [← hW1]; exact hI.out.setA hlt
             obtain ⟨cb, hb⟩ := HR1.out.b
             have e3 := (hb.cell i hlt).1
             have e4 := (hb.cell i hlt).2
             obtain ⟨W2, hW2⟩ : ∃ W2, W1.setCell ⟨B, i, none⟩ (.int .i64 (-7)) = W2 := ⟨_, rfl⟩
             have HR2 : Hid (R3 w W2 A B C n L) := by rw [← hW2]; exact HR1.out.setB hlt
             generalize ca i = za at e1
             generalize cb i = zb at e3
             clear ha hb
             go_wp2
             exact ⟨⟨i + 1, by omega, by go_num, HR2.out⟩, by simp [intOf]; omega⟩
           · obtain rfl : n = i := by omega
             have hltb : decide ((n : Int) < (n : Int)) = false := decide_eq_false (by omega)
             go_wp2
             go_loopw [14] (fun s14 wr => ∃ i : Nat, i ≤ L ∧ s14 = .int .i64 (i : Nat) ∧ Hid (R3 w wr A B C n L)) (fun s14 _ => L - (intOf s14).toNat)
             case atStart => exact ⟨0, Nat.zero_le _, rfl, hI.out⟩
             case round =>
               clear hI
               obtain ⟨i, hi, rfl, hI⟩ := hrel
               by_cases hlt : i < L
               · have hlt' : (i : Int) < (L : Int) := by omega
                 have hi0 : (0 : Int) ≤ (i : Int) := by omega
                 obtain ⟨ca, ha⟩ := hI.out.c
                 have e1 := (ha.cell i hlt).1
                 have e2 := (ha.cell i hlt).2
                 obtain ⟨W1, hW1⟩ : ∃ W1, wr.setCell ⟨C, i, none⟩ (.int .i64 (-7)) = W1 := ⟨_, rfl⟩
                 have HR1 : Hid (R3 w W1 A B C n L) := by rw [← hW1]; exact hI.out.setC hlt
                 generalize ca i = za at e1
                 clear ha
                 go_wp2
                 exact ⟨⟨i + 1, by omega, by go_num, HR1.out⟩, by simp [intOf]; omega⟩
               · obtain rfl : L = i := by omega
                 have hltc : decide ((L : Int) < (L : Int)) = false := decide_eq_false (by omega)
                 go_wp2
                 go_loopw [15] (fun s15 wr => ∃ i : Nat, i ≤ n ∧ s15 = .int .i64 (i : Nat) ∧ Hid (R3 w wr A B C n L)) (fun s15 _ => n - (intOf s15).toNat)
                 case atStart => exact ⟨0, Nat.zero_le _, rfl, hI.out⟩
                 case round =>
                   clear hI
                   obtain ⟨i, hi, rfl, hI⟩ := hrel
                   by_cases hlt : i < n
                   · have hlt' : (i : Int) < (n : Int) := by omega
                     have hi0 : (0 : Int) ≤ (i : Int) := by omega
                     obtain ⟨g, off, rfl, hg, hcell⟩ := HPL.out.some (by omega)
                     obtain ⟨g3, off3, rfl, hg3, hcell3⟩ := HP3.out.some (by omega)
                     have b1 := box_cell hI.out.bel (hcell3 i hlt).1
                     have b2 := box_cell hI.out.bel (hcell3 i hlt).2
                     have b3 := box_cell hI.out.bel (hcell i hlt).1
                     have b4 := box_cell hI.out.bel (hcell i hlt).2
                     have e0 := run_neqPt (f i) (f i) (HM.out.fin i hlt) (HM.out.fin i hlt)
                     rw [show (!decide (alike (f i) (f i))) = false by simp [alike]] at e0
                     generalize f i = p at b1 b2 b3 b4 e0
                     obtain ⟨x, y⟩ := p
                     dsimp only at b1 b2 b3 b4 e0
                     clear hcell hcell3 hltb hltc
                     go_wp2_with fail
                     refine wp_region_held_drew (S := (fun W => W.cell? ⟨g3, off3 + i * 2, none⟩ = some (.float .f64 x) ∧ W.cell? ⟨g3, off3 + i * 2 + 1, none⟩ = some (.float .f64 y) ∧ W.cell? ⟨g, off + i * 2, none⟩ = some (.float .f64 x) ∧ W.cell? ⟨g, off + i * 2 + 1, none⟩ = some (.float .f64 y) ∧ Below wr.heap.size wr W)) (by kernel_rfl) ⟨b1, b2, b3, b4, (Below.refl _ _).drew⟩ (fun hS => ?_)
                     refine takA (i := 0) (d := some 119) (v := .slice (some ⟨g3, off3, none⟩) n c3) hS ?_
                     simp only [AP]
                     refine takA (i := 1) (d := some 120) (v := .int .i64 (i : Int)) hS ?_
                     simp only [AP]
                     refine takA (i := 2) (d := some 121) (v := .pointer (some ⟨g3, off3 + i * 2, none⟩)) hS ?_
                     simp only [AP]
                     refine takA (i := 3) (d := some 122) (v := .agg #[.float .f64 x, .float .f64 y]) hS ?_
                     simp only [AP]
                     refine takA (i := 4) (d := some 123) (v := .slice (some ⟨g, off, none⟩) n c) hS ?_
                     simp only [AP]
                     refine takA (i := 5) (d := some 124) (v := .int .i64 (i : Int)) hS ?_
                     simp only [AP]
                     refine takA (i := 6) (d := some 125) (v := .pointer (some ⟨g, off + i * 2, none⟩)) hS ?_
                     simp only [AP]
                     refine takA (i := 7) (d := some 126) (v := .agg #[.float .f64 x, .float .f64 y]) hS ?_
                     simp only [AP]
                     refine takA (i := 8) (d := some 127) (v := .bool false) hS ?_
                     simp only [AP]
                     refine wpAnyH_done (by kernel_rfl) ?_ _
                     clear hS b1 b2 b3 b4 e0
                     go_wp2
                     exact ⟨⟨i + 1, by omega, by go_num, hI.out.drew⟩, by simp [intOf]; omega⟩
                   · obtain rfl : n = i := by omega
                     go_wp2
                     exact ⟨⟨k + 1, by omega, by go_num, hI.out.bel⟩, by simp [intOf]; omega⟩
     · obtain rfl : k = 2 := by omega
       go_wp2
       go_ret
       exact ⟨rfl, below_step HB0.out hK.out⟩
end
end Go.Proofs.YtgpbfhennineiaaGreat
