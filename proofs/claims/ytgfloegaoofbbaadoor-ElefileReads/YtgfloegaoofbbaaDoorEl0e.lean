import Derived.Test.YtgfloegaoofbbaaDoorEl0d
/- refRead11_any: part El0e of a long walk. (capt.py) -/
/- The document's side of layer 11: Read. (gen_ekb.py) -/
namespace Go.Proofs.YtgfloegaoofbbaaDoor
set_option maxRecDepth 100000
open Go.RowKit Go.Shelf Go.Lib
attribute [local go_sem] run_store_str run_store_float
set_option maxHeartbeats 64000000 in
theorem el0e_t : el0d_c.P1 := by
  intro p
  unhygienic intros
  have hlt' : ¬ ((i : Int) < (nl : Int)) := by omega
  have hlen : L.length = jj := by have := HLl.out; omega
  have HEn : Hid (flV p nn cc kk L = if jj < nn then (fe0, 0, 4) else (⟨(fst1 L : Nat), (cc : Nat), (kk : Nat), rs.map (·.1)⟩, 0, 0)) := Lib.hid (by
    have h := HGo.out
    rw [List.take_of_length_le (by omega)] at h
    have := fl_end (n := nn) (by omega) h
    rwa [hlen] at this)
  have HFL : Hid (f = fst1 L) := Lib.hid (by
    rw [HFf.out]
    split
    · rename_i h
      rw [h] at hlen
      rw [List.length_eq_zero_iff.1 hlen]; rfl
    · rfl)
  clear x1 x2
  by_cases hjn : jj < nn
  · have hjn' : (jj : Int) < (nn : Int) := by omega
    obtain ⟨We, hWe⟩ : ∃ X, Wi.drew = X := ⟨_, rfl⟩
    have HR : Hid (CB We w.heap.size fe4 24 ∧ Below w.heap.size w We) := Lib.hid (by rw [← hWe]; exact HR1.out _ (Below.drew HZ.out.bel))
    have HZe : Hid (Rz w V We Bf ((f : Nat) : Int) cc kk (.slice la jj lc) rs) := Lib.hid (by rw [← hWe]; exact HZ.out.later (Below.drew (Below.refl _ _)))
    obtain ⟨m0, m1, m2, m3⟩ := HZe.out.fb.cells4E
    obtain ⟨xe, _, _⟩ := HCh.out We HZe.out.bel
    obtain ⟨k20, k21, k22, k23⟩ := HR.out.1.cells4E
    have f20 := HR.out.1.frozen 0
    have f21 := HR.out.1.frozen 1
    have f22 := HR.out.1.frozen 2
    have f23 := HR.out.1.frozen 3
    have HTV : Hid (reV p t = (fe0, 0, (4 : Int))) := Lib.hid (by rw [HRe.out, HEn.out, if_pos hjn])
    clear HEn HFL hlen
    go_wp2_with fail
    go_region
    try rw [hWe]
    go_wp2
    refine bodyPost_ret (res_ref11 _ w.heap.size _ _ _ _ _ _ _ (set4E HR.out.1 _ _ _ _) rfl rfl rfl) rfl ?_
    exact R11.bad (set4_bel HR.out.2 _ _ _ _) HTV.out
  · have hjn' : ¬ ((jj : Int) < (nn : Int)) := by omega
    obtain ⟨We, hWe⟩ : ∃ X, Wi.drew = X := ⟨_, rfl⟩
    have HR : Hid (CB We w.heap.size fe4 24 ∧ Below w.heap.size w We) := Lib.hid (by rw [← hWe]; exact HR1.out _ (Below.drew HZ.out.bel))
    have HZe : Hid (Rz w V We Bf ((f : Nat) : Int) cc kk (.slice la jj lc) rs ∧ w.heap.size < V.heap.size) := Lib.hid ⟨by rw [← hWe]; exact HZ.out.later (Below.drew (Below.refl _ _)), by have := (HR1.out V (Below.refl _ _)).1.lt; exact this⟩
    obtain ⟨k20, k21, k22, k23⟩ := HR.out.1.cells4E
    have f20 := HR.out.1.frozen 0
    have f21 := HR.out.1.frozen 1
    have f22 := HR.out.1.frozen 2
    have f23 := HR.out.1.frozen 3
    obtain ⟨m0, m1, m2, m3⟩ := HZe.out.1.fb.cells4E
    obtain ⟨xe, _, _⟩ := HCh.out We HZe.out.1.bel
    have HTV : Hid (reV p t = (⟨(f : Nat), (cc : Nat), (kk : Nat), rs.map (·.1)⟩, 0, (0 : Int))) := Lib.hid (by rw [HRe.out, HEn.out, if_neg hjn, HFL.out])
    clear HEn HFL hlen
    go_wp2_with fail
    go_region
    try rw [hWe]
    go_wp2
    refine bodyPost_ret (res_ref11 _ w.heap.size _ _ _ _ _ _ _ (set4E HR.out.1 _ _ _ _) rfl rfl rfl) rfl ?_
    unfold R11
    rw [HTV.out, ← HRl.out]
    refine ⟨set4_bel HR.out.2 _ _ _ _, la, lc, rs, f, cc, kk, rfl, rfl, ?_⟩
    rw [HRl.out]
    refine (HZe.out.1.eo.ob (((Ob.set w.heap.size 0 _ _).trans (Ob.set w.heap.size 1 _ _)).trans ((Ob.set w.heap.size 2 _ _).trans (Ob.set w.heap.size 3 _ _))) ?_).base ?_
    · have := HZe.out.1.hV; have := HZe.out.2; omega
    · have := HZe.out.1.hV; have := HZe.out.2; omega
end Go.Proofs.YtgfloegaoofbbaaDoor
