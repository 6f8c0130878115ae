/- Own texts, put together: Wg. -/
import Derived.Test.YtocnkgfoffpbfaaGreatDoorQ4
import Derived.Shelf.Spec.BitsCarry
/- The walk of bring: more is added to words, or taken off, word by word. -/
namespace Go.Proofs.YtocnkgfoffpbfaaGreatDoor
open Go.RowKit

structure IsStep (fid : Nat) (sv cv : Nat → Nat → Nat → Nat) : Prop where
 run : ∀ (x y c : Nat) (w : World), c ≤ 1 → (callFunc fid #[.int .u64 (x : Nat), .int .u64 (y : Nat), .int .u64 (c : Nat)]).run Tryz.prog w = .ok (.value (.tuple #[.int .u64 (sv x y c : Nat), .int .u64 (cv x y c : Nat)])) w
 word : ∀ x y c, sv x y c < 18446744073709551616
 carry : ∀ x y c, x < 18446744073709551616 → y < 18446744073709551616 → c ≤ 1 → cv x y c ≤ 1

def Brought (E : Nat → Nat → Nat → Prop) (more words : List Nat) (g : Nat) (w w' : World) : Prop :=
 ∃ (k c : Nat) (ps : List Nat), k ≤ words.length ∧ c ≤ 1 ∧ ps.length = k ∧ Small ps ∧ E k (val ps) c ∧ (k = words.length ∨ (more.length ≤ k ∧ c = 0)) ∧ Row w' 86 g (wds (ps ++ words.drop k)) ∧ w.grownBy w' (some g)

theorem wds_getD (l : List Nat) (i : Nat) (h : i < l.length) : (wds l)[i]'(by rw [wds_length]; exact h) = .int .u64 (l.getD i 0 : Nat) := by
 simp [wds, List.getD, h]

theorem ps_getD (ps words : List Nat) (k : Nat) (h : ps.length = k) (hk : k < words.length) : (ps ++ words.drop k).getD k 0 = words.getD k 0 := by
 subst h; rw [List.getD, List.getElem?_append_right (Nat.le_refl _), Nat.sub_self, List.getElem?_drop, Nat.add_zero, List.getD]

theorem ps_set (ps words : List Nat) (k v : Nat) (h : ps.length = k) (hk : k < words.length) : (wds (ps ++ words.drop k)).set k (.int .u64 (v : Nat)) = wds ((ps ++ [v]) ++ words.drop (k + 1)) := by
 subst h
 unfold wds
 rw [← List.map_set, List.set_append_right _ _ (Nat.le_refl _), Nat.sub_self, List.append_assoc]
 congr 2
 rw [List.drop_eq_getElem_cons hk]
 rfl

theorem val_snoc (ps : List Nat) (v : Nat) : val (ps ++ [v]) = val ps + 2 ^ (64 * ps.length) * v := by rw [val_append]; simp [val]

theorem grown_set {w wr : World} {g : Nat} (h : w.grownBy wr (some g)) (i : Nat) (v : Value) : w.grownBy (wr.setCell ⟨g, i, none⟩ v) (some g) :=
 ⟨h.1, h.2, h.3, by simpa using h.4, fun k hk hne => by
   rw [Below.heap_setCell wr _ v k (by intro e; exact hne (by rw [e]))]; exact h.5 k hk hne⟩

set_option maxHeartbeats 2000000 in
theorem bring_walk (fid : Nat) (sv cv : Nat → Nat → Nat → Nat) (hst : IsStep fid sv cv) (E : Nat → Nat → Nat → Prop) (more words : List Nat) (g g2 : Nat) (w : World) (hgg : g2 ≠ g)
   (hm : Row w 86 g2 (wds more)) (hms : Small more) (hws : Small words) (hr : Row w 86 g (wds words)) (hl : words.length ≤ 1000000) (hl2 : more.length ≤ 1000000) (h0 : E 0 0 0)
   (hE : ∀ k v c, k < words.length → E k v c → c ≤ 1 → E (k + 1) (v + 2 ^ (64 * k) * sv (words.getD k 0) (more.getD k 0) c) (cv (words.getD k 0) (more.getD k 0) c)) :
   Calls Tryz.prog 162 #[.slice (some ⟨g2, 0, none⟩) more.length more.length, .slice (some ⟨g, 0, none⟩) words.length words.length, .func (.func fid) #[] #[]] w fun e w' => e = .returned (.tuple #[]) ∧ Brought E more words g w w' := by
 have hl' : (words.length : Int) ≤ 1000000 := by omega
 have hl2' : (more.length : Int) ≤ 1000000 := by omega
 go_enter Tryz.func162, Tryz.ntmps162
 go_wp2
 go_step3
 go_wp2
 go_step3
 go_wp2
 go_loopw [6, 11] (fun cr i wr => ∃ (k c : Nat) (ps : List Nat), k ≤ words.length ∧ c ≤ 1 ∧ i = .int .i64 k ∧ cr = .int .u64 c ∧ ps.length = k ∧ Small ps ∧ E k (val ps) c ∧ Row wr 86 g (wds (ps ++ words.drop k)) ∧ w.grownBy wr (some g))
   (fun _ i _ => words.length - (intOf i).toNat)
 case atStart => exact ⟨0, 0, [], Nat.zero_le _, Nat.zero_le _, rfl, rfl, rfl, fun n hn => by simp at hn, h0, by simpa using hr, World.grownBy.refl _ _⟩
 case round =>
   obtain ⟨k, c, ps, hk, hc1, rfl, rfl, hps, hsm, hEk, hrk, hbk⟩ := hrel
   by_cases hlt : k < words.length
   · have hlen : (ps ++ words.drop k).length = words.length := by simp; omega
     have hck : wr.cell? ⟨g, k, none⟩ = some (.int .u64 (words.getD k 0 : Nat)) := by
       rw [hrk.cell k (by rw [wds_length]; omega), wds_getD _ _ (by omega), ps_getD _ _ _ hps hlt]
     have hfk := hrk.frozen k
     have HST : Hid (IsStep fid sv cv) := hst
     have hrun := fun W => hst.run (words.getD k 0) (more.getD k 0) c W hc1
     have HNEW : Hid (Row (wr.setCell ⟨g, k, none⟩ (.int .u64 (sv (words.getD k 0) (more.getD k 0) c : Nat))) 86 g (wds ((ps ++ [sv (words.getD k 0) (more.getD k 0) c]) ++ words.drop (k + 1)))) := by
       rw [← ps_set ps words k _ hps hlt]; exact hrk.set k _
     have HE : Hid (E (k + 1) (val (ps ++ [sv (words.getD k 0) (more.getD k 0) c])) (cv (words.getD k 0) (more.getD k 0) c)) := by
       rw [val_snoc, hps]; exact hE k _ c hlt hEk hc1
     have HS : Hid (Small (ps ++ [sv (words.getD k 0) (more.getD k 0) c])) := by
       intro n hn; rcases List.mem_append.1 hn with h | h
       · exact hsm n h
       · simp at h; rw [h]; exact hst.word _ _ _
     have HC : Hid (cv (words.getD k 0) (more.getD k 0) c ≤ 1) := hst.carry _ _ _ (small_getD hws k) (small_getD hms k) hc1
     have hlt' : (k : Int) < (words.length : Int) := by omega
     by_cases hmk : k < more.length
     · have hcm : wr.cell? ⟨g2, k, none⟩ = some (.int .u64 (more.getD k 0 : Nat)) := by
         refine hbk.cell ?_ (by simp; exact hgg)
         rw [hm.cell k (by rw [wds_length]; omega), wds_getD _ _ hmk]
       have hmk' : (k : Int) < (more.length : Int) := by omega
       generalize sv (words.getD k 0) (more.getD k 0) c = sx at *
       generalize cv (words.getD k 0) (more.getD k 0) c = cx at *
       generalize words.getD k 0 = wx at *
       generalize more.getD k 0 = mx at *
       have HP : Hid _ := hps
       have HBK : Hid _ := hbk
       clear hst hE hEk hsm hrk hm hms hws hr h0 hlen hps hbk
       go_wp2
       exact ⟨⟨k + 1, cx, ps ++ [sx], by omega, HC.out, by go_num, rfl, by simp [HP.out], HS.out, HE.out, HNEW.out, grown_set HBK.out _ _⟩, by simp [intOf]; omega⟩
     · have hmz : more.getD k 0 = 0 := by simp [List.getD, List.getElem?_eq_none (Nat.le_of_not_lt hmk)]
       have hmk' : ¬ ((k : Int) < (more.length : Int)) := by omega
       have hmd : decide ((k : Int) < (more.length : Int)) = false := by simp; omega
       by_cases hc0 : c = 0
       · subst hc0
         have HP : Hid _ := hps
         have HBK : Hid _ := hbk
         have HRK : Hid _ := hrk
         have HEK : Hid _ := hEk
         have HSM : Hid _ := hsm
         clear hst hE hEk hsm hrk hm hms hws hr h0 hlen hps hbk hrun hck hfk HNEW HE HS HC hmz
         go_wp2
         go_end0
         exact ⟨rfl, k, 0, ps, hk, hc1, HP.out, HSM.out, HEK.out, Or.inr ⟨by omega, rfl⟩, HRK.out, HBK.out⟩
       · have hc0' : ((c : Int) == 0) = false := by rw [beq_eq_false_iff_ne]; omega
         simp only [hmz] at hrun
         rw [hmz] at HNEW HE HS HC
         have hrun0 : ∀ W, (callFunc fid #[.int .u64 (words.getD k 0 : Nat), .int .u64 0, .int .u64 (c : Nat)]).run Tryz.prog W = .ok (.value (.tuple #[.int .u64 (sv (words.getD k 0) 0 c : Nat), .int .u64 (cv (words.getD k 0) 0 c : Nat)])) W := hrun
         clear hrun
         generalize sv (words.getD k 0) 0 c = sx at *
         generalize cv (words.getD k 0) 0 c = cx at *
         generalize words.getD k 0 = wx at *
         have HP : Hid _ := hps
         have HBK : Hid _ := hbk
         clear hst hE hEk hsm hrk hm hms hws hr h0 hlen hps hbk hmz
         go_wp2
         exact ⟨⟨k + 1, cx, ps ++ [sx], by omega, HC.out, by go_num, rfl, by simp [HP.out], HS.out, HE.out, HNEW.out, grown_set HBK.out _ _⟩, by simp [intOf]; omega⟩
   · have Hx : Hid _ := hps
     have hge : ¬ ((k : Int) < (words.length : Int)) := by omega
     clear hps
     go_wp2
     go_end0
     exact ⟨rfl, k, c, ps, hk, hc1, Hx.out, hsm, hEk, Or.inl (by omega), hrk, hbk⟩

end Go.Proofs.YtocnkgfoffpbfaaGreatDoor
