/- The law LinesBlanks. -/
import Derived.Test.YtpjdffjfhnlbjaaBq
import Derived.Test.YtpjdffjfhnlbjaaBu
import Derived.Test.YtpjdffjfhnlbjaaBt
import Derived.Deep.DeepCutAuto
namespace Go.Proofs.Ytpjdffjfhnlbjaa
open Go.RowKit Go.Shelf Go.Lib

structure LnI (t : Bs) (st k : Nat) (done : List Bs) : Prop where
  all : lns t = done ++ (if st ≤ t.length then lns (t.drop st) else [])
  free : ∀ c ∈ cw t st k, c ≠ 10
  le : st ≤ k
  fin : k = t.length + 1 → st = k
theorem LnI.start (t : Bs) : LnI t 0 0 [] := ⟨rfl, fun c hc => by simp [cw] at hc, Nat.le_refl _, fun h => by omega⟩
theorem LnI.done {t : Bs} {st : Nat} {done : List Bs} (h : LnI t st (t.length + 1) done) : lns t = done := by
  have := h.all
  rw [h.fin rfl, if_neg (by omega), List.append_nil] at this
  exact this
theorem cw_snoc {t : Bs} {st k : Nat} (h : st ≤ k) (hk : k < t.length) : cw t st (k + 1) = cw t st k ++ [t[k]] := by
  unfold cw
  rw [show k + 1 - st = (k - st) + 1 by omega, List.take_add_one, List.getElem?_drop, show st + (k - st) = k by omega, List.getElem?_eq_getElem hk]; rfl
theorem LnI.go {t : Bs} {st k : Nat} {done : List Bs} (h : LnI t st k done) (hk : k < t.length) (hc : t[k] ≠ 10) : LnI t st (k + 1) done := by
  refine ⟨h.all, fun c hc' => ?_, by have := h.le; omega, fun e => by omega⟩
  rw [cw_snoc h.le hk] at hc'
  rcases List.mem_append.1 hc' with e | e
  · exact h.free c e
  · rw [List.mem_singleton.1 e]; exact hc
theorem LnI.step {t : Bs} {st k : Nat} {done : List Bs} (h : LnI t st k done) (hk : k ≤ t.length) (hc : ∀ hk : k < t.length, t[k] = 10) : LnI t (k + 1) (k + 1) (done ++ [cw t st k]) := by
  refine ⟨?_, fun c hc => by simp [cw] at hc, Nat.le_refl _, fun _ => rfl⟩
  rw [h.all, if_pos (by have := h.le; omega), List.append_assoc]
  congr 1
  have e := cw_drop (l := t) h.le
  by_cases hlt : k < t.length
  · rw [e, List.drop_eq_getElem_cons hlt, hc hlt, lns_app h.free, if_pos (by omega : k + 1 ≤ t.length)]; rfl
  · rw [if_neg (by omega : ¬ k + 1 ≤ t.length), e, List.drop_of_length_le (by omega), List.append_nil, lns_none (fun hm => h.free 10 hm rfl)]; rfl
theorem good_ge : ∀ (ls : List Bs) (n : Nat) {p : Nat × List Bs}, p ∈ good n ls → n ≤ p.1 ∧ p.1 < n + ls.length := by
  intro ls
  induction ls with
  | nil => intro n p hp; simp [good] at hp
  | cons l r ih =>
    intro n p hp
    rw [good] at hp
    rcases List.mem_append.1 hp with e | e
    · split at e
      · simp at e
      · rw [List.mem_singleton.1 e]; simp
    · have := ih _ e
      simp only [List.length_cons]; omega
theorem rdV_no {t : Bs} {p : Nat × List Bs} (hp : p ∈ (rdV t).1) : 1 ≤ p.1 ∧ p.1 ≤ t.length + 1 := by
  unfold rdV at hp
  split at hp
  · simp at hp
  · split at hp
    · simp at hp
    · have h1 := good_ge _ _ hp
      have h2 := lns_len t
      omega
theorem ahead_small (ah : Int) : ∃ m : Nat, m ≤ 8 ∧ wrap64 ((IntKind.u64.wrap ah).tmod 9) = (m : Int) := by
  have h0 : 0 ≤ IntKind.u64.wrap ah := by rw [IntKind.wrap_u64]; omega
  have h1 : (IntKind.u64.wrap ah).tmod 9 = (IntKind.u64.wrap ah) % 9 := Int.tmod_eq_emod_of_nonneg h0
  refine ⟨((IntKind.u64.wrap ah) % 9).toNat, by omega, ?_⟩
  rw [h1]
  unfold wrap64
  omega
theorem app_list (a b : ByteArray) : (a ++ b).data.toList = a.data.toList ++ b.data.toList := by simp

set_option maxRecDepth 100000 in
set_option maxHeartbeats 16000000 in
theorem linesBlanks_law (s r : ByteArray) (ah : Int) (w : World) (hs : s.size ≤ 140737488355328) (hr : r.size ≤ 140737488355328) : Calls Try.prog 7 #[.string s, .string r, .int .i64 ah] w fun e w' => e = .returned (.bool true) ∧ Below w.heap.size w w' := by
  have HW : Hid (∀ W, Below w.heap.size w W → Calls Try.prog 8 #[] W fun e w' => e = .returned (.bool true) ∧ Below w.heap.size w w') := fun W hb => (works_any W).mono fun _ _ ⟨h1, h2⟩ => ⟨h1, hb.trans (h2.mono hb.size)⟩
  have hs1 : (s.size : Int) ≤ 140737488355328 := by omega
  have hr1 : (r.size : Int) ≤ 140737488355328 := by omega
  by_cases hlong : 1000 < s.size
  · have h1 : (1000 : Int) < (s.size : Int) := by omega
    go_enter Try.func7, Try.ntmps7
    go_wp2_with (go_at_call 8; refine (HW.out _ (by first | exact HBk.out | exact Below.refl _ _)).mono ?_; rintro e W1 ⟨rfl, hb1⟩; have HBk := Lib.hid hb1; clear hb1)
    go_ret
    exact ⟨rfl, HBk.out⟩
  by_cases hlong2 : 1000 < r.size
  · have h1 : ¬ ((1000 : Int) < (s.size : Int)) := by omega
    have h2 : (1000 : Int) < (r.size : Int) := by omega
    go_enter Try.func7, Try.ntmps7
    go_wp2_with (go_at_call 8; refine (HW.out _ (by first | exact HBk.out | exact Below.refl _ _)).mono ?_; rintro e W1 ⟨rfl, hb1⟩; have HBk := Lib.hid hb1; clear hb1)
    go_ret
    exact ⟨rfl, HBk.out⟩
  have h1 : ¬ ((1000 : Int) < (s.size : Int)) := by omega
  have h2 : ¬ ((1000 : Int) < (r.size : Int)) := by omega
  obtain ⟨t, ht⟩ : ∃ t, Hid (s.data.toList = t) := ⟨_, Lib.hid rfl⟩
  have HZ : Hid (s.size = t.length) := (by rw [Lib.size_eq, ht.out] : s.size = t.length)
  have HB : Hid (∀ (k : Nat) (g1 : k < s.size) (g2 : k < t.length), s[k]'g1 = t[k]) := fun k g1 g2 => by
    have e : s = ⟨t.toArray⟩ := by rw [← ht.out]
    subst e
    exact byte_at g1 g2
  have HX : Hid (∀ (k : Nat) (g2 : k < t.length), (s.extract k (k + 1)).data.toList = [t[k]]) := fun k g2 => by
    rw [Lib.extract_eq, ht.out]
    show (t.drop k).take (k + 1 - k) = _
    rw [List.drop_eq_getElem_cons g2, show k + 1 - k = 1 by omega]; rfl
  have HXr : Hid (∀ (k : Nat) (g2 : k < r.size), (r.extract k (k + 1)).data.toList = [r[k]]) := fun k g2 => by
    rw [Lib.extract_eq]
    show (r.data.toList.drop k).take (k + 1 - k) = _
    have g3 : k < r.data.toList.length := by rw [← Lib.size_eq]; exact g2
    rw [List.drop_eq_getElem_cons g3, show k + 1 - k = 1 by omega]; rfl
  go_enter Try.func7, Try.ntmps7
  go_wp2_with (go_at_call 8; refine (HW.out _ (by first | exact HBk.out | exact Below.refl _ _)).mono ?_; rintro e W1 ⟨rfl, hb1⟩; have HBk := Lib.hid hb1; clear hb1)
  go_loop [7, 8] (fun s7 s8 => ∃ (k : Nat) (q : ByteArray), k ≤ r.size ∧ s8 = .int .i64 (k : Nat) ∧ s7 = .string q ∧ q.size ≤ k ∧ Hid (∀ c ∈ q.data.toList, c ≠ 10)) (fun _ s8 => r.size - (RowKit.intOf s8).toNat)
  case atStart => exact ⟨0, ⟨#[]⟩, Nat.zero_le _, rfl, rfl, Nat.le_refl _, fun c hc => by simp at hc⟩
  case round =>
    obtain ⟨k, q, hk, rfl, rfl, hq, hI⟩ := hrel
    have hq' : (q.size : Int) ≤ 1000 := by omega
    by_cases hlt : k < r.size
    · have hlt' : (k : Int) < (r.size : Int) := by omega
      have hk0 : (0 : Int) ≤ (k : Int) := by omega
      have hk1 : (k : Int) + 1 ≤ (r.size : Int) := by omega
      have hk2 : (k : Int) ≤ (k : Int) + 1 := by omega
      have HE := Lib.hid (HXr.out k hlt)
      have hes : (r.extract k (k + 1)).size = 1 := by rw [Lib.size_eq, HE.out]; rfl
      have hes' : ((r.extract k (k + 1)).size : Int) = 1 := by omega
      have HEs := Lib.hid hes
      by_cases h10 : r[k] = 10
      · have d1 : (((r[k]'hlt).toNat : Nat) : Int) = 10 := by rw [h10]; rfl
        clear hes' hes h10
        go_wp2
        refine ⟨⟨k + 1, q, by omega, by go_num, rfl, by omega, hI⟩, ?_⟩
        simp [RowKit.intOf]; omega
      · have d1 : ((((r[k]'hlt).toNat : Nat) : Int) == 10) = false := by
          simp only [beq_eq_false_iff_ne]
          exact fun e => h10 (UInt8.toNat.inj (by show (r[k]).toNat = 10; omega))
        have d2 : ((((r[k]'hlt).toNat : Nat) : Int) != 10) = true := by simp [bne, d1]
        have H10 := Lib.hid h10
        obtain ⟨q2, hq2⟩ : ∃ q2, r.extract k (k + 1) = q2 := ⟨_, rfl⟩
        rw [hq2] at HE HEs hes'
        have hes2 : (q2.size : Int) ≤ 1 := by omega
        clear h10 hes hes'
        go_wp2
        refine ⟨⟨k + 1, q ++ q2, by omega, by go_num, rfl, ?_, fun c hc => ?_⟩, ?_⟩
        · rw [Lib.size_eq, app_list, List.length_append, ← Lib.size_eq, ← Lib.size_eq, HEs.out]; omega
        · rw [app_list] at hc
          rcases List.mem_append.1 hc with e | e
          · exact hI.out c e
          · rw [HE.out, List.mem_singleton] at e
            rw [e]; exact H10.out
        · simp [RowKit.intOf]; omega
    · obtain rfl : r.size = k := by omega
      obtain ⟨cl, hcl⟩ : ∃ cl, Hid (q.data.toList = cl) := ⟨_, Lib.hid rfl⟩
      have HCl : Hid ((∀ c ∈ cl, c ≠ 10) ∧ cl.length ≤ 1000) := by
        refine ⟨by rw [← hcl.out]; exact hI.out, ?_⟩
        rw [← hcl.out, ← Lib.size_eq]; omega
      clear hI HXr
      go_wp2
      obtain ⟨m, hm8, hE⟩ := ahead_small ah
      go_loop [9, 10] (fun s9 s10 => ∃ (j : Nat) (b : ByteArray), j ≤ m ∧ s10 = .int .i64 (j : Nat) ∧ s9 = .string b ∧ b.size = j ∧ Hid (∀ c ∈ b.data.toList, bl c = true)) (fun _ s10 => m - (RowKit.intOf s10).toNat)
      case atStart => exact ⟨0, ⟨#[]⟩, Nat.zero_le _, rfl, rfl, rfl, fun c hc => by simp at hc⟩
      case round =>
        obtain ⟨j, b, hj, rfl, rfl, hbs, hI⟩ := hrel
        have HBs := Lib.hid hbs
        have hb' : (b.size : Int) ≤ 8 := by omega
        clear hbs
        by_cases hlt : j < m
        · have hlt' : (j : Int) < (m : Int) := by omega
          have key : ∀ c : UInt8, bl c = true → ∃ (j' : Nat) (b' : ByteArray), j' ≤ m ∧ Value.int .i64 ((j : Int) + 1) = .int .i64 (j' : Nat) ∧ Value.string (b ++ ⟨#[c]⟩) = .string b' ∧ b'.size = j' ∧ Hid (∀ c ∈ b'.data.toList, bl c = true) := fun c hc => by
            refine ⟨j + 1, b ++ ⟨#[c]⟩, by omega, by simp, rfl, ?_, fun x hx => ?_⟩
            · rw [Lib.size_eq, app_list, List.length_append, ← Lib.size_eq, HBs.out]; rfl
            · rw [app_list] at hx
              rcases List.mem_append.1 hx with e | e
              · exact hI.out x e
              · obtain rfl : x = c := by simpa using e
                exact hc
          have K1 := Lib.hid (key 32 (by decide))
          have K2 := Lib.hid (key 9 (by decide))
          have K3 := Lib.hid (key 13 (by decide))
          have HM : Hid (m - (j + 1) < m - j) := (by omega : m - (j + 1) < m - j)
          clear key
          have hjs : j = 0 ∨ j = 1 ∨ j = 2 ∨ j = 3 ∨ j = 4 ∨ j = 5 ∨ j = 6 ∨ j = 7 := by omega
          have X0 : (⟨#[32, 9, 13]⟩ : ByteArray).extract 0 1 = ⟨#[32]⟩ := by rw [Lib.extract_eq]; rfl
          have X1 : (⟨#[32, 9, 13]⟩ : ByteArray).extract 1 2 = ⟨#[9]⟩ := by rw [Lib.extract_eq]; rfl
          have X2 : (⟨#[32, 9, 13]⟩ : ByteArray).extract 2 3 = ⟨#[13]⟩ := by rw [Lib.extract_eq]; rfl
          rcases hjs with rfl | rfl | rfl | rfl | rfl | rfl | rfl | rfl
          all_goals
            go_wp2
            first
              | exact ⟨K1.out, HM.out⟩
              | exact ⟨K2.out, HM.out⟩
              | exact ⟨K3.out, HM.out⟩
        · obtain rfl : m = j := by omega
          obtain ⟨bk, hbk⟩ : ∃ bk, Hid (b.data.toList = bk) := ⟨_, Lib.hid rfl⟩
          have HBk2 : Hid ((∀ c ∈ bk, bl c = true) ∧ bk.length ≤ 8) := by
            refine ⟨by rw [← hbk.out]; exact hI.out, ?_⟩
            rw [← hbk.out, ← Lib.size_eq, HBs.out]; exact hm8
          clear hI HBs
          go_wp2
          go_loop [11, 12, 13] (fun s11 s12 s13 => ∃ (k st : Nat) (q1 q2 : ByteArray) (done : List Bs), k ≤ s.size + 1 ∧ s13 = .int .i64 (k : Nat) ∧ s11 = .string q1 ∧ s12 = .string q2 ∧ q1.size ≤ 1020 * st ∧ q2.size ≤ 9 * (k - st) ∧ st ≤ k ∧ Hid (LnI t st k done ∧ q1.data.toList = mors bk cl done ∧ q2.data.toList = ins bk (cw t st k))) (fun _ _ s13 => s.size + 1 - (RowKit.intOf s13).toNat)
          case atStart => exact ⟨0, 0, ⟨#[]⟩, ⟨#[]⟩, [], Nat.zero_le _, rfl, rfl, rfl, Nat.le_refl _, Nat.le_refl _, Nat.le_refl _, LnI.start t, rfl, rfl⟩
          case round =>
            obtain ⟨k, st, q1, q2, done, hk, rfl, rfl, rfl, hq1, hq2, hst, hI⟩ := hrel
            have hk0 : (0 : Int) ≤ (k : Int) := by omega
            have g1 : (q1.size : Int) ≤ 2000000 := by omega
            have g2 : (q2.size : Int) ≤ 20000 := by omega
            by_cases hend : k = s.size + 1
            · have hgt : ¬ ((k : Int) ≤ (s.size : Int)) := by omega
              have HFin : Hid (q1.data.toList = mors bk cl (lns t)) := by
                have h := hI.out.1
                rw [hend, HZ.out] at h
                show _ = _
                rw [h.done]; exact hI.out.2.1
              clear hI
              have hbk9 := HBk2.out
              have hcl9 := HCl.out
              have HRm := Lib.hid (rd_mors (t := t) hbk9.1 hbk9.2 hcl9.1 hcl9.2 (by have := HZ.out; omega))
              obtain ⟨L1, hL1⟩ : ∃ L, Hid ((rdV t).1 = L) := ⟨_, Lib.hid rfl⟩
              obtain ⟨ee, hee⟩ : ∃ L, Hid ((rdV t).2.2 = L) := ⟨_, Lib.hid rfl⟩
              obtain ⟨o1, ho1⟩ : ∃ L, Hid ((rdV t).2.1 = L) := ⟨_, Lib.hid rfl⟩
              obtain ⟨o2, ho2⟩ : ∃ L, Hid ((rdV (mors bk cl (lns t))).2.1 = L) := ⟨_, Lib.hid rfl⟩
              obtain ⟨n1, hn1⟩ : ∃ n, Hid (L1.length = n) := ⟨_, Lib.hid rfl⟩
              rw [hL1.out, hee.out] at HRm
              have HR1 : Hid (∀ W, Calls Try.prog 9 #[.string s] W fun e w' => ∃ ra rc ps, e = .returned (.tuple #[.slice ra n1 rc, .int .i64 (o1 : Nat), .int .i64 (ee : Nat)]) ∧ Lr 33 w' W.heap.size (.slice ra n1 rc) ps ∧ tell ps = (rdV t).1 ∧ ps.length = n1 ∧ Below W.heap.size W w') := fun W => by
                refine (readS s t W ht.out (by have := HZ.out; omega)).mono ?_
                rintro e w' ⟨ra, rc, ps, rfl, h2, h3, h4, h5⟩
                rw [hL1.out, hn1.out] at h2 h4
                exact ⟨ra, rc, ps, by rw [hL1.out, hn1.out, ho1.out, hee.out], h2, h3, h4, h5⟩
              have HR2 : Hid (∀ W, Calls Try.prog 9 #[.string q1] W fun e w' => ∃ ra rc ps, e = .returned (.tuple #[.slice ra n1 rc, .int .i64 (o2 : Nat), .int .i64 (ee : Nat)]) ∧ Lr 33 w' W.heap.size (.slice ra n1 rc) ps ∧ tell ps = (rdV (mors bk cl (lns t))).1 ∧ ps.length = n1 ∧ Below W.heap.size W w') := fun W => by
                refine (readS q1 _ W HFin.out (by rw [← HFin.out, ← Lib.size_eq]; omega)).mono ?_
                rintro e w' ⟨ra, rc, ps, rfl, h2, h3, h4, h5⟩
                have e1 : (rdV (mors bk cl (lns t))).1.length = n1 := by rw [HRm.out.1, List.length_map, hn1.out]
                rw [e1] at h2 h4
                exact ⟨ra, rc, ps, by rw [e1, ho2.out, HRm.out.2], h2, h3, h4, h5⟩
              have hn1l : (n1 : Int) ≤ 300000 := by
                have h1 : L1.length ≤ t.length + 1 := by
                  rw [← hL1.out]
                  unfold rdV
                  split
                  · simp
                  · split
                    · simp
                    · exact Nat.le_trans (good_len _ _) (lns_len t)
                have := HZ.out
                rw [hn1.out] at h1
                omega
              clear hbk9 hcl9 HX HB hend
              go_wp2_with fail
              refine (HR1.out _).mono ?_
              rintro e W2 ⟨ra, rc, ps, rfl, p1, p3, p4, p5⟩
              have HP := Lib.hid (And.intro p1 (And.intro p3 (And.intro p4 (HBk.out.trans (p5.mono HBk.out.size)))))
              clear p1 p3 p4 p5
              go_wp2_with fail
              refine (HR2.out _).mono ?_
              rintro e W3 ⟨ya, yc, aps, rfl, r1, r3, r4, r5⟩
              have HA := Lib.hid (And.intro r1 (And.intro r3 (And.intro r4 r5)))
              clear r1 r3 r4 r5
              go_wp2_with fail
              go_loopw [21] (fun s21 wr => ∃ i : Nat, i ≤ n1 ∧ s21 = .int .i64 (i : Nat) ∧ Hid (∃ m, wr = W3.drewN m)) (fun s21 _ => n1 - (RowKit.intOf s21).toNat)
              case atStart => exact ⟨0, Nat.zero_le _, rfl, 0, rfl⟩
              case round =>
                obtain ⟨i, hi, rfl, hJ⟩ := hrel
                obtain ⟨m0, hm0⟩ := hJ.out
                have hbw : Below W3.heap.size W3 wr := by rw [hm0]; exact below_drewN _ _ _
                obtain ⟨p1, p3, p4, p5⟩ := HP.out
                obtain ⟨r1, r3, r4, r5⟩ := HA.out
                have hb23 : Below W2.heap.size W2 wr := r5.trans (hbw.mono r5.size)
                by_cases hlt : i < n1
                · have hlt' : (i : Int) < (n1 : Int) := by omega
                  have hi0 : (0 : Int) ≤ (i : Int) := by omega
                  have hi1 : i < ps.length := by rw [p4]; exact hlt
                  have hi2 : i < aps.length := by rw [r4]; exact hlt
                  have hrw1 := p1.later hb23
                  have hrw2 := r1.later hbw
                  obtain ⟨ga, gcc, eg, _, _, hgf⟩ := hrw1.form
                  obtain ⟨g1', eg1, hg1⟩ := hgf.resolve_left (fun e => by rw [e] at hi1; simp at hi1)
                  have eA : ra = some ⟨g1', 0, none⟩ := by
                    have : ra = ga ∧ n1 = ps.length ∧ rc = gcc := by simpa using eg
                    exact this.1.trans eg1
                  subst eA
                  obtain ⟨gb, gcd, eg2, _, _, hgf2⟩ := hrw2.form
                  obtain ⟨g2', eg3, hg2⟩ := hgf2.resolve_left (fun e => by rw [e] at hi2; simp at hi2)
                  have eB : ya = some ⟨g2', 0, none⟩ := by
                    have : ya = gb ∧ n1 = aps.length ∧ yc = gcd := by simpa using eg2
                    exact this.1.trans eg3
                  subst eB
                  have hro1 := hrw1.own
                  have hro2 := hrw2.own
                  rw [p4] at hro1
                  rw [r4] at hro2
                  obtain ⟨k1, k2⟩ := row_cells hro1 hi1
                  obtain ⟨k3, k4⟩ := row_cells hro2 hi2
                  obtain ⟨hl3, q5⟩ := tell_at (p3.trans hL1.out) hi1
                  obtain ⟨hl4, q6⟩ := tell_at (r3.trans HRm.out.1) hi2
                  rw [List.getElem_map] at q6
                  obtain ⟨⟨no, ws⟩, hlk⟩ : ∃ p, L1[i] = p := ⟨_, rfl⟩
                  rw [hlk] at q5 q6
                  have hno := rdV_no (t := t) (p := (no, ws)) (by rw [hL1.out, ← hlk]; exact List.getElem_mem hl3)
                  have q5a : ps[i].1 = no := congrArg Prod.fst q5
                  have q5b : ps[i].2.1 = ws := congrArg Prod.snd q5
                  have q6a : aps[i].1 = 2 * no - 1 := congrArg Prod.fst q6
                  have q6b : aps[i].2.1 = ws := congrArg Prod.snd q6
                  have s1 := (p1.sl p3 _ (List.getElem_mem hi1)).later hb23
                  have s2 := (r1.sl r3 _ (List.getElem_mem hi2)).later hbw
                  rw [q5b] at s1
                  rw [q6b] at s2
                  rw [q5a] at k1
                  have hno1 : 1 ≤ no := hno.1
                  have hno2 : no ≤ 1001 := by
                    have g5 : no ≤ t.length + 1 := hno.2
                    have g6 := HZ.out
                    omega
                  have k3' : wr.cell? ⟨g2', i * 2, none⟩ = some (.int .i64 (2 * (no : Int) - 1)) := by
                    rw [k3, q6a, show ((2 * no - 1 : Nat) : Int) = 2 * (no : Int) - 1 by omega]
                  have hno3 : (no : Int) ≤ 1001 := by omega
                  have hno4 : (1 : Int) ≤ (no : Int) := by omega
                  obtain ⟨x1, hx1⟩ : ∃ x, ps[i].2.2 = x := ⟨_, rfl⟩
                  obtain ⟨x2, hx2⟩ : ∃ x, aps[i].2.2 = x := ⟨_, rfl⟩
                  rw [hx1] at s1 k2
                  rw [hx2] at s2 k4
                  have HTx : Hid (∀ m, Calls Try.prog 13 #[x1, x2] (wr.drewN m) fun e w' => e = .returned (.bool true) ∧ ∃ k, w' = (wr.drewN m).drewN k) := fun m => by
                    have hb := below_drewN wr.heap.size wr m
                    have := textsN_any x1 x2 ws ws (wr.drewN m) (s1.later hb) (s2.later hb)
                    rwa [decide_eq_true rfl] at this
                  have HDn : Hid (∀ m, ∃ k, wr.drewN m = W3.drewN k) := fun m => ⟨m0 + m, by rw [hm0, World.drewN_drewN]⟩
                  obtain ⟨⟨xa, xc, rfl, _, _, _⟩, _⟩ := s1
                  obtain ⟨⟨yb, yd, rfl, _, _, _⟩, _⟩ := s2
                  clear k3 hm0 hbw p1 p3 p4 p5 r1 r3 r4 r5 hb23 hrw1 hrw2 hgf hgf2 eg eg2 hro1 hro2 q5 q6 q5a q5b q6a q6b hx1 hx2 hl3 hlk hno
                  go_wp2
                  go_quiet (first | (go_at_call 13; refine Calls.quiet_of (HTx.out _)))
                  go_wp2
                  go_roundw
                  case rel => exact ⟨i + 1, by omega, by go_num, HDn.out _⟩
                  case measure => simp [RowKit.intOf]; omega
                · obtain rfl : n1 = i := by omega
                  have HE : Hid (Below w.heap.size w wr) := p5.trans (hb23.mono p5.size)
                  clear hm0 hbw p1 p3 p4 p5 r1 r3 r4 r5 hb23
                  go_wp2
                  go_ret
                  exact ⟨rfl, HE.out⟩
            · have hkl : (k : Int) ≤ (s.size : Int) := by omega
              have hks : k ≤ t.length := by have := HZ.out; omega
              by_cases hnl : ∀ h : k < t.length, t[k] = 10
              · have hnl2 : (¬ ((k : Int) < (s.size : Int))) ∨ ((k : Int) < (s.size : Int) ∧ ∃ h : k < s.size, ((s[k]'h).toNat : Int) = 10) := by
                  by_cases e : k = s.size
                  · exact Or.inl (by omega)
                  · have h1 : k < s.size := by omega
                    have h2 : k < t.length := by rw [← HZ.out]; exact h1
                    exact Or.inr ⟨by omega, h1, by rw [HB.out k h1 h2, hnl h2]; rfl⟩
                have HS := Lib.hid (hI.out.1.step hks hnl)
                have HQ : Hid (q1.data.toList ++ b.data.toList ++ q2.data.toList ++ [32, 35] ++ q.data.toList ++ [10] ++ b.data.toList ++ [10] = mors bk cl (done ++ [cw t st k])) := by
                  show _ = _
                  rw [mors_snoc, hI.out.2.1, hI.out.2.2, hbk.out, hcl.out]
                  unfold lnA
                  simp
                have hqs : q1.size + b.size + q2.size + 2 + q.size + 1 + b.size + 1 ≤ 1020 * (k + 1) := by omega
                have HQS := Lib.hid hqs
                clear hnl hqs
                rcases hnl2 with e1 | ⟨e1, z1, z2⟩
                all_goals
                  go_wp2
                  refine ⟨⟨k + 1, k + 1, _, ⟨#[]⟩, done ++ [cw t st k], by omega, by go_num, rfl, rfl, ?_, Nat.zero_le _, Nat.le_refl _, HS.out, ?_, ?_⟩, ?_⟩
                  · rw [Lib.size_eq]
                    simp only [app_list, List.length_append, ← Lib.size_eq]
                    exact HQS.out
                  · rw [← HQ.out]; simp only [app_list]
                  · simp [cw, ins]
                  · simp [RowKit.intOf]; omega
              · have hklt : k < t.length := Nat.lt_of_not_le fun e => hnl fun h => absurd h (Nat.not_lt.2 e)
                have hne : t[k] ≠ 10 := fun e => hnl (fun _ => e)
                have hks2 : k < s.size := by rw [HZ.out]; exact hklt
                have e1 : (k : Int) < (s.size : Int) := by omega
                have d1 : ¬ ((((s[k]'hks2).toNat : Nat) : Int) = 10) := by
                  rw [HB.out k hks2 hklt]
                  exact fun e => hne (UInt8.toNat.inj (by show t[k].toNat = 10; omega))
                have d2 : ((((s[k]'hks2).toNat : Nat) : Int) == 10) = false := by simpa using d1
                have d3 : ((((s[k]'hks2).toNat : Nat) : Int) != 10) = true := by simpa using d1
                have hk1 : (k : Int) + 1 ≤ (s.size : Int) := by omega
                have hk2 : (k : Int) ≤ (k : Int) + 1 := by omega
                obtain ⟨x, hx⟩ : ∃ x, s.extract k (k + 1) = x := ⟨_, rfl⟩
                have HXk := Lib.hid (HX.out k hklt)
                rw [hx] at HXk
                have hxs : x.size = 1 := by rw [Lib.size_eq, HXk.out]; rfl
                have hxs' : (x.size : Int) ≤ 1 := by omega
                have HXE : Hid ((x.toList == [32]) = decide (t[k] = 32)) := by
                  show _ = _
                  rw [Lib.toList_data, HXk.out]
                  by_cases e : t[k] = 32
                  · rw [decide_eq_true e, e]; rfl
                  · rw [decide_eq_false e, beq_eq_false_iff_ne]; simpa using e
                have HGo := Lib.hid (hI.out.1.go hklt hne)
                have HIn : Hid (ins bk (cw t st (k + 1)) = q2.data.toList ++ (if t[k] = 32 then t[k] :: bk else [t[k]])) := by
                  show _ = _
                  rw [cw_snoc hst hklt, ins_snoc, hI.out.2.2]
                have HQ1 := Lib.hid hI.out.2.1
                have HXs := Lib.hid hxs
                clear hnl hne hxs hI HX
                by_cases h32 : t[k] = 32
                · have e3 : (x.toList == [32]) = true := by rw [HXE.out, decide_eq_true h32]
                  rw [if_pos h32] at HIn
                  have H32 := Lib.hid h32
                  clear h32 HXE
                  go_wp2
                  refine ⟨⟨k + 1, st, q1, q2 ++ x ++ b, done, by omega, by go_num, rfl, rfl, hq1, ?_, by omega, HGo.out, HQ1.out, ?_⟩, ?_⟩
                  · rw [Lib.size_eq, app_list, app_list, List.length_append, List.length_append, ← Lib.size_eq, ← Lib.size_eq, ← Lib.size_eq, HXs.out]
                    omega
                  · rw [app_list, app_list, HIn.out, HXk.out, hbk.out]; simp
                  · simp [RowKit.intOf]; omega
                · have e3 : (x.toList == [32]) = false := by rw [HXE.out, decide_eq_false h32]
                  rw [if_neg h32] at HIn
                  clear h32 HXE
                  go_wp2
                  refine ⟨⟨k + 1, st, q1, q2 ++ x, done, by omega, by go_num, rfl, rfl, hq1, ?_, by omega, HGo.out, HQ1.out, ?_⟩, ?_⟩
                  · rw [Lib.size_eq, app_list, List.length_append, ← Lib.size_eq, ← Lib.size_eq, HXs.out]
                    omega
                  · rw [app_list, HIn.out, HXk.out]
                  · simp [RowKit.intOf]; omega
end Go.Proofs.Ytpjdffjfhnlbjaa
