/- The document's side of layer 9: Texts. -/
import Derived.Test.YtpjdffjfhnlbjaaBm
import Derived.Deep.Draws
namespace Go.Proofs.Ytpjdffjfhnlbjaa
open Go.RowKit Go.Shelf Go.Lib

theorem tl_eq {x y : Bs} {p q : ByteArray} (hp : (⟨x.toArray⟩ : ByteArray) = p) (hq : (⟨y.toArray⟩ : ByteArray) = q) : (p.toList == q.toList) = decide (x = y) := by
  subst hp; subst hq
  rw [Lib.toList_data, Lib.toList_data]
  by_cases h : x = y
  · subst h; simp
  · rw [decide_eq_false h, beq_eq_false_iff_ne]; simpa using h

theorem below_drewN (n : Nat) (w : World) (m : Nat) : Below n w (w.drewN m) := ⟨rfl, rfl, rfl, Nat.le_refl _, fun _ _ => rfl⟩

set_option maxRecDepth 100000 in
set_option maxHeartbeats 4000000 in
theorem textsN_any (va vb : Value) (xs bs : List Bs) (w : World) (ha : Sl w va xs) (hb : Sl w vb bs) : Calls Try.prog 13 #[va, vb] w fun e w' => e = .returned (.bool (decide (xs = bs))) ∧ ∃ m, w' = w.drewN m := by
  obtain ⟨⟨a1, c1, rfl, hc1, hd1, hm1⟩, hl1⟩ := ha
  obtain ⟨⟨a2, c2, rfl, hc2, hd2, hm2⟩, hl2⟩ := hb
  obtain ⟨n1, hn1⟩ : ∃ n, Hid (xs.length = n) := ⟨_, Lib.hid rfl⟩
  obtain ⟨n2, hn2⟩ : ∃ n, Hid (bs.length = n) := ⟨_, Lib.hid rfl⟩
  have HM1 := Lib.hid hm1
  have HM2 := Lib.hid hm2
  rw [hn1.out] at hc1 ⊢
  rw [hn2.out] at hc2 ⊢
  have l1 : (n1 : Int) ≤ 9223372036854775807 := by omega
  have l2 : (n2 : Int) ≤ 9223372036854775807 := by omega
  obtain ⟨R, hR⟩ : ∃ R, Hid (decide (xs = bs) = R) := ⟨_, Lib.hid rfl⟩
  rw [hR.out]
  clear hm1 hm2 hl1 hl2
  by_cases hn : n1 = n2
  · have HN := Lib.hid hn
    have hn' : ((n1 : Int) == (n2 : Int)) = true := by simp; omega
    have hn'' : (n1 : Int) = (n2 : Int) := by omega
    subst hn
    clear hn' hn''
    go_enter Try.func13, Try.ntmps13
    go_wp2
    go_loopw [5] (fun s5 wr => ∃ k : Nat, k ≤ n1 ∧ s5 = .int .i64 (k : Nat) ∧ Hid ((∀ j (_ : j < k) (h1 : j < xs.length) (h2 : j < bs.length), xs[j] = bs[j]) ∧ ∃ m, wr = w.drewN m)) (fun s5 _ => n1 - (RowKit.intOf s5).toNat)
    case atStart => exact ⟨0, Nat.zero_le _, rfl, fun j hj _ _ => by omega, 0, rfl⟩
    case round =>
      obtain ⟨k, hk, rfl, hI⟩ := hrel
      have hIb : Below w.heap.size w wr := by obtain ⟨_, m, rfl⟩ := hI.out; exact below_drewN _ _ _
      have hId : ∃ m, wr.drew = w.drewN m := by obtain ⟨_, m, rfl⟩ := hI.out; exact ⟨m + 1, rfl⟩
      have HD := Lib.hid hId
      clear hId
      by_cases hlt : k < n1
      · have hk1 : k < xs.length := by rw [hn1.out]; exact hlt
        have hk2 : k < bs.length := by rw [hn2.out]; exact hlt
        have hlt' : (k : Int) < (n1 : Int) := by omega
        have hk0 : (0 : Int) ≤ (k : Int) := by omega
        obtain ⟨g1, off1, rfl, hg1, hcell1⟩ := HM1.out.resolve_left (fun e => by rw [e] at hk1; simp at hk1)
        obtain ⟨g2, off2, rfl, hg2, hcell2⟩ := HM2.out.resolve_left (fun e => by rw [e] at hk2; simp at hk2)
        obtain ⟨p, hp⟩ : ∃ q : ByteArray, (⟨(xs[k]).toArray⟩ : ByteArray) = q := ⟨_, rfl⟩
        obtain ⟨q, hq⟩ : ∃ q : ByteArray, (⟨(bs[k]).toArray⟩ : ByteArray) = q := ⟨_, rfl⟩
        have b1 : wr.cell? ⟨g1, off1 + k, none⟩ = some (.string p) := by
          rw [cell_later hIb hg1 (hcell1 k xs[k] (List.getElem?_eq_getElem hk1)), ← hp]
        have b2 : wr.cell? ⟨g2, off2 + k, none⟩ = some (.string q) := by
          rw [cell_later hIb hg2 (hcell2 k bs[k] (List.getElem?_eq_getElem hk2)), ← hq]
        have HE := Lib.hid (tl_eq hp hq)
        clear hcell1 hcell2 hp hq hIb
        by_cases he : xs[k] = bs[k]
        · have e1 : (p.toList == q.toList) = true := by rw [HE.out, decide_eq_true he]
          have HEq := Lib.hid he
          clear he HE
          go_wp2
          go_region
          go_wp2
          refine ⟨⟨k + 1, by omega, by go_num, fun j hj h1 h2 => ?_, HD.out⟩, ?_⟩
          · by_cases e : j = k
            · subst e; exact HEq.out
            · exact hI.out.1 j (by omega) h1 h2
          · simp [RowKit.intOf]; omega
        · have e1 : (p.toList == q.toList) = false := by rw [HE.out, decide_eq_false he]
          have HRn : Hid (R = false) := by
            show R = false
            rw [← hR.out]
            exact decide_eq_false (fun e => he (by simp only [e]))
          clear he HE
          go_wp2
          go_region
          go_wp2
          go_ret
          rw [HRn.out]; exact ⟨rfl, HD.out⟩
      · obtain rfl : n1 = k := by omega
        have HRy : Hid (R = true) := by
          show R = true
          rw [← hR.out]
          refine decide_eq_true (List.ext_getElem (by rw [hn1.out, hn2.out]) fun j h1 h2 => ?_)
          exact hI.out.1 j (by rw [← hn1.out]; exact h1) h1 h2
        go_wp2
        go_ret
        rw [HRy.out]; exact ⟨rfl, hI.out.2⟩
  · have hn' : ((n1 : Int) == (n2 : Int)) = false := by simp; omega
    have hn2' : ((n1 : Int) != (n2 : Int)) = true := by simp; omega
    have HRn : Hid (R = false) := by
      show R = false
      rw [← hR.out]
      exact decide_eq_false (fun e => hn (by rw [← hn1.out, ← hn2.out, e]))
    go_enter Try.func13, Try.ntmps13
    go_wp2
    go_ret
    rw [HRn.out]; exact ⟨rfl, 0, rfl⟩
theorem texts_any (va vb : Value) (xs bs : List Bs) (w : World) (ha : Sl w va xs) (hb : Sl w vb bs) : Calls Try.prog 13 #[va, vb] w fun e w' => e = .returned (.bool (decide (xs = bs))) ∧ Below w.heap.size w w' :=
  (textsN_any va vb xs bs w ha hb).mono fun _ _ ⟨h1, m, h2⟩ => ⟨h1, by rw [h2]; exact below_drewN _ _ _⟩
end Go.Proofs.Ytpjdffjfhnlbjaa
