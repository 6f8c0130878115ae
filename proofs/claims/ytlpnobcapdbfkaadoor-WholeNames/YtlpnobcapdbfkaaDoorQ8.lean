/- Own texts, put together: Wg Wh Wi. -/
import Derived.Test.YtlpnobcapdbfkaaDoorQ1
import Derived.Test.YtlpnobcapdbfkaaDoorQ7
import Derived.Shelf.Spec.BitsCarry
namespace Go.Proofs.YtlpnobcapdbfkaaDoor
/- The walk of bring: more is added to words, or taken off, word by word. -/
section
open Go.RowKit
structure IsStep (fid : Nat) (sv cv : Nat → Nat → Nat → Nat) : Prop where
 run : ∀ (x y c : Nat) (w : World), c ≤ 1 → (callFunc fid #[.int .u64 (x : Nat), .int .u64 (y : Nat), .int .u64 (c : Nat)]).run Tryd.prog w = .ok (.value (.tuple #[.int .u64 (sv x y c : Nat), .int .u64 (cv x y c : Nat)])) w
 word : ∀ x y c, sv x y c < 18446744073709551616
 carry : ∀ x y c, x < 18446744073709551616 → y < 18446744073709551616 → c ≤ 1 → cv x y c ≤ 1
def Brought (E : Nat → Nat → Nat → Prop) (more words : List Nat) (g : Nat) (w w' : World) : Prop :=
 ∃ (k c : Nat) (ps : List Nat), k ≤ words.length ∧ c ≤ 1 ∧ ps.length = k ∧ Small ps ∧ E k (val ps) c ∧ (k = words.length ∨ (more.length ≤ k ∧ c = 0)) ∧ Row w' 39 g (wds (ps ++ words.drop k)) ∧ w.grownBy w' (some g)
theorem wds_getD (l : List Nat) (i : Nat) (h : i < l.length) : (wds l)[i]'(by rw [wds_length]; exact h) = .int .u64 (l.getD i 0 : Nat) := by
 simp [wds, List.getD, h]
theorem ps_getD (ps words : List Nat) (k : Nat) (h : ps.length = k) (hk : k < words.length) : (ps ++ words.drop k).getD k 0 = words.getD k 0 := by
 subst h; rw [List.getD, List.getElem?_append_right (Nat.le_refl _), Nat.sub_self, List.getElem?_drop, Nat.add_zero, List.getD]
theorem ps_set (ps words : List Nat) (k v : Nat) (h : ps.length = k) (hk : k < words.length) : (wds (ps ++ words.drop k)).set k (.int .u64 (v : Nat)) = wds ((ps ++ [v]) ++ words.drop (k + 1)) := by
 subst h
 unfold wds
 rw [← List.map_set, List.set_append_right _ _ (Nat.le_refl _), Nat.sub_self, List.append_assoc]
 congr 2
 rw [List.drop_eq_getElem_cons hk]
 rfl
theorem val_snoc (ps : List Nat) (v : Nat) : val (ps ++ [v]) = val ps + 2 ^ (64 * ps.length) * v := by rw [val_append]; simp [val]
theorem grown_set {w wr : World} {g : Nat} (h : w.grownBy wr (some g)) (i : Nat) (v : Value) : w.grownBy (wr.setCell ⟨g, i, none⟩ v) (some g) :=
 ⟨h.1, h.2, h.3, by simpa using h.4, fun k hk hne => by
   rw [Below.heap_setCell wr _ v k (by intro e; exact hne (by rw [e]))]; exact h.5 k hk hne⟩
set_option maxHeartbeats 2000000 in
theorem bring_walk (fid : Nat) (sv cv : Nat → Nat → Nat → Nat) (hst : IsStep fid sv cv) (E : Nat → Nat → Nat → Prop) (more words : List Nat) (g g2 : Nat) (w : World) (hgg : g2 ≠ g)
   (hm : Row w 39 g2 (wds more)) (hms : Small more) (hws : Small words) (hr : Row w 39 g (wds words)) (hl : words.length ≤ 1000000) (hl2 : more.length ≤ 1000000) (h0 : E 0 0 0)
   (hE : ∀ k v c, k < words.length → E k v c → c ≤ 1 → E (k + 1) (v + 2 ^ (64 * k) * sv (words.getD k 0) (more.getD k 0) c) (cv (words.getD k 0) (more.getD k 0) c)) :
   Calls Tryd.prog 60 #[.slice (some ⟨g2, 0, none⟩) more.length more.length, .slice (some ⟨g, 0, none⟩) words.length words.length, .func (.func fid) #[] #[]] w fun e w' => e = .returned (.tuple #[]) ∧ Brought E more words g w w' := by
 have hl' : (words.length : Int) ≤ 1000000 := by omega
 have hl2' : (more.length : Int) ≤ 1000000 := by omega
 go_enter Tryd.func60, Tryd.ntmps60
 go_wp2
 go_step3
 go_wp2
 go_step3
 go_wp2
 go_loopw [6, 11] (fun cr i wr => ∃ (k c : Nat) (ps : List Nat), k ≤ words.length ∧ c ≤ 1 ∧ i = .int .i64 k ∧ cr = .int .u64 c ∧ ps.length = k ∧ Small ps ∧ E k (val ps) c ∧ Row wr 39 g (wds (ps ++ words.drop k)) ∧ w.grownBy wr (some g))
   (fun _ i _ => words.length - (intOf i).toNat)
 case atStart => exact ⟨0, 0, [], Nat.zero_le _, Nat.zero_le _, rfl, rfl, rfl, fun n hn => by simp at hn, h0, by simpa using hr, World.grownBy.refl _ _⟩
 case round =>
   obtain ⟨k, c, ps, hk, hc1, rfl, rfl, hps, hsm, hEk, hrk, hbk⟩ := hrel
   by_cases hlt : k < words.length
   · have hlen : (ps ++ words.drop k).length = words.length := by simp; omega
     have hck : wr.cell? ⟨g, k, none⟩ = some (.int .u64 (words.getD k 0 : Nat)) := by
       rw [hrk.cell k (by rw [wds_length]; omega), wds_getD _ _ (by omega), ps_getD _ _ _ hps hlt]
     have hfk := hrk.frozen k
     have HST : Hid (IsStep fid sv cv) := hst
     have hrun := fun W => hst.run (words.getD k 0) (more.getD k 0) c W hc1
     have HNEW : Hid (Row (wr.setCell ⟨g, k, none⟩ (.int .u64 (sv (words.getD k 0) (more.getD k 0) c : Nat))) 39 g (wds ((ps ++ [sv (words.getD k 0) (more.getD k 0) c]) ++ words.drop (k + 1)))) := by
       rw [← ps_set ps words k _ hps hlt]; exact hrk.set k _
     have HE : Hid (E (k + 1) (val (ps ++ [sv (words.getD k 0) (more.getD k 0) c])) (cv (words.getD k 0) (more.getD k 0) c)) := by
       rw [val_snoc, hps]; exact hE k _ c hlt hEk hc1
     have HS : Hid (Small (ps ++ [sv (words.getD k 0) (more.getD k 0) c])) := by
       intro n hn; rcases List.mem_append.1 hn with h | h
       · exact hsm n h
       · simp at h; rw [h]; exact hst.word _ _ _
     have HC : Hid (cv (words.getD k 0) (more.getD k 0) c ≤ 1) := hst.carry _ _ _ (small_getD hws k) (small_getD hms k) hc1
     have hlt' : (k : Int) < (words.length : Int) := by omega
     by_cases hmk : k < more.length
     · have hcm : wr.cell? ⟨g2, k, none⟩ = some (.int .u64 (more.getD k 0 : Nat)) := by
         refine hbk.cell ?_ (by simp; exact hgg)
         rw [hm.cell k (by rw [wds_length]; omega), wds_getD _ _ hmk]
       have hmk' : (k : Int) < (more.length : Int) := by omega
       generalize sv (words.getD k 0) (more.getD k 0) c = sx at *
       generalize cv (words.getD k 0) (more.getD k 0) c = cx at *
       generalize words.getD k 0 = wx at *
       generalize more.getD k 0 = mx at *
       have HP : Hid _ := hps
       have HBK : Hid _ := hbk
       clear hst hE hEk hsm hrk hm hms hws hr h0 hlen hps hbk
       go_wp2
       exact ⟨⟨k + 1, cx, ps ++ [sx], by omega, HC.out, by go_num, rfl, by simp [HP.out], HS.out, HE.out, HNEW.out, grown_set HBK.out _ _⟩, by simp [intOf]; omega⟩
     · have hmz : more.getD k 0 = 0 := by simp [List.getD, List.getElem?_eq_none (Nat.le_of_not_lt hmk)]
       have hmk' : ¬ ((k : Int) < (more.length : Int)) := by omega
       have hmd : decide ((k : Int) < (more.length : Int)) = false := by simp; omega
       by_cases hc0 : c = 0
       · subst hc0
         have HP : Hid _ := hps
         have HBK : Hid _ := hbk
         have HRK : Hid _ := hrk
         have HEK : Hid _ := hEk
         have HSM : Hid _ := hsm
         clear hst hE hEk hsm hrk hm hms hws hr h0 hlen hps hbk hrun hck hfk HNEW HE HS HC hmz
         go_wp2
         go_end0
         exact ⟨rfl, k, 0, ps, hk, hc1, HP.out, HSM.out, HEK.out, Or.inr ⟨by omega, rfl⟩, HRK.out, HBK.out⟩
       · have hc0' : ((c : Int) == 0) = false := by rw [beq_eq_false_iff_ne]; omega
         simp only [hmz] at hrun
         rw [hmz] at HNEW HE HS HC
         have hrun0 : ∀ W, (callFunc fid #[.int .u64 (words.getD k 0 : Nat), .int .u64 0, .int .u64 (c : Nat)]).run Tryd.prog W = .ok (.value (.tuple #[.int .u64 (sv (words.getD k 0) 0 c : Nat), .int .u64 (cv (words.getD k 0) 0 c : Nat)])) W := hrun
         clear hrun
         generalize sv (words.getD k 0) 0 c = sx at *
         generalize cv (words.getD k 0) 0 c = cx at *
         generalize words.getD k 0 = wx at *
         have HP : Hid _ := hps
         have HBK : Hid _ := hbk
         clear hst hE hEk hsm hrk hm hms hws hr h0 hlen hps hbk hmz
         go_wp2
         exact ⟨⟨k + 1, cx, ps ++ [sx], by omega, HC.out, by go_num, rfl, by simp [HP.out], HS.out, HE.out, HNEW.out, grown_set HBK.out _ _⟩, by simp [intOf]; omega⟩
   · have Hx : Hid _ := hps
     have hge : ¬ ((k : Int) < (words.length : Int)) := by omega
     clear hps
     go_wp2
     go_end0
     exact ⟨rfl, k, c, ps, hk, hc1, Hx.out, hsm, hEk, Or.inl (by omega), hrk, hbk⟩
end

/- bring with Add64 adds, with Sub64 takes off: the numbers that the words tell. -/
section
open Go.RowKit
theorem isAdd : IsStep 54 (fun x y c => (x + y + c) % 18446744073709551616) (fun x y c => (x + y + c) / 18446744073709551616) where
 run := fun x y c w hc => by
   rw [run_callFunc_extern Tryd.func54 (by kernel_rfl) (by kernel_rfl) (by kernel_rfl) (e := add64Entry) (by kernel_rfl), run_add64 x y c (by omega) (by omega) (by omega) (by omega)]
   simp only [Result.andThen]
   congr 5 <;> omega
 word := fun x y c => Nat.mod_lt _ (by omega)
 carry := fun x y c h1 h2 h3 => by omega
theorem isSub : IsStep 55 (fun x y c => (x + 18446744073709551616 - y - c) % 18446744073709551616) (fun x y c => if x < y + c then 1 else 0) where
 run := fun x y c w hc => by
   rw [run_callFunc_extern Tryd.func55 (by kernel_rfl) (by kernel_rfl) (by kernel_rfl) (e := sub64Entry) (by kernel_rfl), run_sub64 x y c hc]
   rfl
 word := fun x y c => Nat.mod_lt _ (by omega)
 carry := fun x y c h1 h2 h3 => by split <;> omega
theorem val_take_succ (l : List Nat) (k : Nat) : val (l.take (k + 1)) = val (l.take k) + 2 ^ (64 * k) * l.getD k 0 := by
 by_cases hk : k < l.length
 · rw [List.take_succ_eq_append_getElem hk, val_append, List.length_take, Nat.min_eq_left (by omega)]
   simp [val, List.getD, hk]
 · rw [List.take_of_length_le (by omega), List.take_of_length_le (by omega)]
   simp [List.getD, List.getElem?_eq_none (Nat.le_of_not_lt hk)]
theorem val_take_drop (l : List Nat) (k : Nat) (hk : k ≤ l.length) : val l = val (l.take k) + 2 ^ (64 * k) * val (l.drop k) := by
 conv => lhs; rw [← List.take_append_drop k l]
 rw [val_append, List.length_take, Nat.min_eq_left hk]
def BringOK (fid : Nat) (f : Nat → Nat → Nat) (pre : Nat → Nat → Nat → Prop) : Prop :=
 ∀ (more words : List Nat) (g g2 : Nat) (w : World), g2 ≠ g → Row w 39 g2 (wds more) → Small more → Small words → Row w 39 g (wds words) → words.length ≤ 1000000 → more.length ≤ words.length → pre (val words) (val more) words.length →
   Calls Tryd.prog 60 #[.slice (some ⟨g2, 0, none⟩) more.length more.length, .slice (some ⟨g, 0, none⟩) words.length words.length, .func (.func fid) #[] #[]] w fun e w' => e = .returned (.tuple #[]) ∧
     ∃ zs : List Nat, Small zs ∧ zs.length = words.length ∧ val zs = f (val words) (val more) ∧ Row w' 39 g (wds zs) ∧ w.grownBy w' (some g)
theorem small_app {a b : List Nat} (h1 : Small a) (h2 : Small b) : Small (a ++ b) := fun n hn => by
 rcases List.mem_append.1 hn with h | h
 · exact h1 n h
 · exact h2 n h
theorem add_bring : BringOK 54 (fun a b => a + b) (fun a b n => a + b < 2 ^ (64 * n)) := by
 intro more words g g2 w hgg hm hms hws hr hl hml hpre
 refine (bring_walk _ _ _ isAdd (fun k v c => v + 2 ^ (64 * k) * c = val (words.take k) + val (more.take k)) more words g g2 w hgg hm hms hws hr hl (by omega) (by simp [val]) ?_).mono ?_
 · intro k v c hk hE hc
   rw [val_take_succ, val_take_succ, Nat.mul_add, Nat.mul_one, Nat.pow_add, show (2 : Nat) ^ 64 = 18446744073709551616 from rfl]
   generalize words.getD k 0 = x
   generalize more.getD k 0 = y
   generalize 2 ^ (64 * k) = p at *
   have h := Nat.mod_add_div (x + y + c) 18446744073709551616
   generalize (x + y + c) % 18446744073709551616 = s at *
   generalize (x + y + c) / 18446744073709551616 = d at *
   grind
 · rintro e w' ⟨he, k, c, ps, hk, hc1, hps, hsm, hE, hend, hrow, hgr⟩
   refine ⟨he, ps ++ words.drop k, small_app hsm (small_drop hws k), by simp; omega, ?_, hrow, hgr⟩
   have hs := val_take_drop words k hk
   rw [val_append, hps]
   rcases hend with rfl | ⟨hmk, rfl⟩
   · rw [List.take_of_length_le (Nat.le_refl _), List.take_of_length_le hml] at hE
     rw [List.drop_length]
     have : c = 0 := by
       rcases Nat.eq_zero_or_pos c with h | h
       · exact h
       · have : 2 ^ (64 * words.length) * 1 ≤ 2 ^ (64 * words.length) * c := Nat.mul_le_mul_left _ h
         omega
     subst this
     simp only [val]
     omega
   · rw [List.take_of_length_le hmk] at hE
     have hE' : val ps + 2 ^ (64 * k) * 0 = val (words.take k) + val more := hE
     show val ps + 2 ^ (64 * k) * val (words.drop k) = val words + val more
     omega
theorem sub_bring : BringOK 55 (fun a b => a - b) (fun a b _ => b ≤ a) := by
 intro more words g g2 w hgg hm hms hws hr hl hml hpre
 refine (bring_walk _ _ _ isSub (fun k v c => v + val (more.take k) = val (words.take k) + 2 ^ (64 * k) * c) more words g g2 w hgg hm hms hws hr hl (by omega) (by simp [val]) ?_).mono ?_
 · intro k v c hk hE hc
   rw [val_take_succ, val_take_succ, Nat.mul_add, Nat.mul_one, Nat.pow_add, show (2 : Nat) ^ 64 = 18446744073709551616 from rfl]
   have hx := small_getD hws k
   have hy := small_getD hms k
   generalize words.getD k 0 = x at *
   generalize more.getD k 0 = y at *
   generalize 2 ^ (64 * k) = p at *
   have h : (x + 18446744073709551616 - y - c) % 18446744073709551616 + y + c = x + 18446744073709551616 * (if x < y + c then 1 else 0) := by split <;> omega
   generalize (x + 18446744073709551616 - y - c) % 18446744073709551616 = s at *
   generalize (if x < y + c then 1 else 0) = d at *
   grind
 · rintro e w' ⟨he, k, c, ps, hk, hc1, hps, hsm, hE, hend, hrow, hgr⟩
   refine ⟨he, ps ++ words.drop k, small_app hsm (small_drop hws k), by simp; omega, ?_, hrow, hgr⟩
   have hs := val_take_drop words k hk
   rw [val_append, hps]
   rcases hend with rfl | ⟨hmk, rfl⟩
   · rw [List.take_of_length_le (Nat.le_refl _), List.take_of_length_le hml] at hE
     rw [List.drop_length]
     have hlt := val_lt hsm
     rw [hps] at hlt
     have : c = 0 := by
       rcases Nat.eq_zero_or_pos c with h | h
       · exact h
       · have : 2 ^ (64 * words.length) * 1 ≤ 2 ^ (64 * words.length) * c := Nat.mul_le_mul_left _ h
         omega
     subst this
     simp only [val]
     omega
   · rw [List.take_of_length_le hmk] at hE
     have hE' : val ps + val more = val (words.take k) + 2 ^ (64 * k) * 0 := hE
     show val ps + 2 ^ (64 * k) * val (words.drop k) = val words - val more
     omega
end

/- The walk of joined: two magnitudes added, or the one taken off the other. -/
section
open Go.RowKit
attribute [local go_sem ↓] Go.wp_at_zero Go.wp_at_succ
theorem keep4 {w W W' : World} {p1 p2 p3 p4 : Addr} {x1 x2 x3 x4 : Value} (h : W.cell? p1 = some x1 ∧ W.cell? p2 = some x2 ∧ W.cell? p3 = some x3 ∧ W.cell? p4 = some x4 ∧ Below w.heap.size w W) (hb : Below W.heap.size W W') :
   W'.cell? p1 = some x1 ∧ W'.cell? p2 = some x2 ∧ W'.cell? p3 = some x3 ∧ W'.cell? p4 = some x4 ∧ Below w.heap.size w W' :=
 ⟨cell_later hb h.1, cell_later hb h.2.1, cell_later hb h.2.2.1, cell_later hb h.2.2.2.1, h.2.2.2.2.trans (hb.mono h.2.2.2.2.size)⟩
theorem keep4d {w W : World} {p1 p2 p3 p4 : Addr} {x1 x2 x3 x4 : Value} (h : W.cell? p1 = some x1 ∧ W.cell? p2 = some x2 ∧ W.cell? p3 = some x3 ∧ W.cell? p4 = some x4 ∧ Below w.heap.size w W) :
   W.drew.cell? p1 = some x1 ∧ W.drew.cell? p2 = some x2 ∧ W.drew.cell? p3 = some x3 ∧ W.drew.cell? p4 = some x4 ∧ Below w.heap.size w W.drew :=
 ⟨h.1, h.2.1, h.2.2.1, h.2.2.2.1, h.2.2.2.2.drew⟩
theorem thru {w W0 W : World} (h : Below w.heap.size w W0) (h' : Below W0.heap.size W0 W) : Below w.heap.size w W := h.trans (h'.mono h.size)
theorem keep4g {w W W' : World} {g : Nat} {p1 p2 p3 p4 : Addr} {x1 x2 x3 x4 : Value} (h : W.cell? p1 = some x1 ∧ W.cell? p2 = some x2 ∧ W.cell? p3 = some x3 ∧ W.cell? p4 = some x4 ∧ Below w.heap.size w W) (hg : W.grownBy W' (some g))
   (q1 : p1.block < g) (q2 : p2.block < g) (q3 : p3.block < g) (q4 : p4.block < g) (q : w.heap.size ≤ g) :
   W'.cell? p1 = some x1 ∧ W'.cell? p2 = some x2 ∧ W'.cell? p3 = some x3 ∧ W'.cell? p4 = some x4 ∧ Below w.heap.size w W' :=
 ⟨hg.cell h.1 (by simp; omega), hg.cell h.2.1 (by simp; omega), hg.cell h.2.2.1 (by simp; omega), hg.cell h.2.2.2.1 (by simp; omega), h.2.2.2.2.grown hg h.2.2.2.2.size (fun k hk => by simp at hk; omega)⟩
theorem bringX {fid : Nat} {f : Nat → Nat → Nat} {pre : Nat → Nat → Nat → Prop} (hop : BringOK fid f pre) {A C n1 n2 g g2 : Nat} {w : World} (hgg : g2 ≠ g) (h2 : Row w 39 g2 (wds (digs C (n2 + 1)))) (h1 : Row w 39 g (wds (digs A (n1 + 1)))) (hn : n1 ≤ 10000) (hn2 : n2 ≤ n1)
   (hp : pre A C (n1 + 1)) (hA : A < 2 ^ (64 * (n1 + 1))) (hC : C < 2 ^ (64 * (n2 + 1))) :
   Calls Tryd.prog 60 #[.slice (some ⟨g2, 0, none⟩) (n2 + 1) (n2 + 1), .slice (some ⟨g, 0, none⟩) (n1 + 1) (n1 + 1), .func (.func fid) #[] #[]] w fun e w' => e = .returned (.tuple #[]) ∧
     ∃ zs : List Nat, Small zs ∧ zs.length = n1 + 1 ∧ val zs = f A C ∧ Row w' 39 g (wds zs) ∧ w.grownBy w' (some g) := by
 have h := hop (digs C (n2 + 1)) (digs A (n1 + 1)) g g2 w hgg h2 (digs_small _ _) (digs_small _ _) h1 (by rw [digs_length]; omega) (by rw [digs_length, digs_length]; omega) (by rw [val_digs_of hA, val_digs_of hC, digs_length]; exact hp)
 rw [digs_length, digs_length, val_digs_of hA, val_digs_of hC] at h
 exact h
theorem sz4 {w W : World} {p1 p2 p3 p4 : Addr} {x1 x2 x3 x4 : Value} (h : W.cell? p1 = some x1 ∧ W.cell? p2 = some x2 ∧ W.cell? p3 = some x3 ∧ W.cell? p4 = some x4 ∧ Below w.heap.size w W) : w.heap.size ≤ W.heap.size := h.2.2.2.2.size
set_option maxHeartbeats 2000000 in
theorem joined_walk (fid : Nat) (f : Nat → Nat → Nat) (pre : Nat → Nat → Nat → Prop) (hop : BringOK fid f pre) (a1 a2 : Option Addr) (c1 c2 : Nat) (ns1 ns2 : List Nat) (low1 low2 L : Int) (k1 k2 n1 n2 r1 r2 : Nat) (w : World)
   (h1 : Ws w (.slice a1 ns1.length c1) ns1) (h2 : Ws w (.slice a2 ns2.length c2) ns2) (hT : Tab w) (o1 : OwnF ns1 low1) (o2 : OwnF ns2 low2)
   (hL : min low1 low2 = L) (hk1 : low1 = L + (k1 : Nat)) (hk2 : low2 = L + (k2 : Nat)) (b1 : -70000 ≤ L) (b2 : low1 ≤ 70000) (b3 : low2 ≤ 70000)
   (hH : max (hiB ns1 low1) (hiB ns2 low2) + 1 = L + (64 * n1 + r1 : Nat)) (hH2 : hiB ns2 low2 = L + (64 * n2 + r2 : Nat)) (hr1 : r1 < 64) (hr2 : r2 < 64) (hn1 : n1 ≤ 10000) (hn2 : n2 ≤ n1)
   (hpre : pre (val ns1 * 2 ^ k1) (val ns2 * 2 ^ k2) (n1 + 1)) (hv1 : val ns1 * 2 ^ k1 < 2 ^ (64 * (n1 + 1))) (hv2 : val ns2 * 2 ^ k2 < 2 ^ (64 * (n2 + 1))) :
   Calls Tryd.prog 53 #[.agg #[.slice a1 ns1.length c1, .int .i64 low1], .agg #[.slice a2 ns2.length c2, .int .i64 low2], .func (.func fid) #[] #[]] w fun e w' => Made w w' (f (val ns1 * 2 ^ k1) (val ns2 * 2 ^ k2)) L e := by
 have HOP : Hid (BringOK fid f pre) := hop
 have HH : Hid _ := hH
 have HH2 : Hid _ := hH2
 have HK1 : Hid _ := hk1
 have HK2 : Hid _ := hk2
 have HV1 : Hid _ := hv1
 have HV2 : Hid _ := hv2
 have HPRE : Hid _ := hpre
 have HT : Hid (Tab w) := hT
 have HS1 : Hid (spanL ns1 low1 L (n1 + 1) = digs (val ns1 * 2 ^ k1) (n1 + 1)) := by rw [hk1]; exact spanL_down _ _ _ _
 have HS2 : Hid (spanL ns2 low2 L (n2 + 1) = digs (val ns2 * 2 ^ k2) (n2 + 1)) := by rw [hk2]; exact spanL_down _ _ _ _
 have lo1 : -70000 ≤ low1 := by omega
 have lo2 : -70000 ≤ low2 := by omega
 have hLle : L ≤ 70000 := by omega
 have hmx : IntKind.i64.wrap (max (hiB ns1 low1) (hiB ns2 low2) + 1) = L + (64 * n1 + r1 : Nat) := by rw [hH]; exact wrapI _ (by omega) (by omega)
 have HB0 : Hid (Below w.heap.size w (((w.alloc (.cells #[.slice a1 ns1.length c1, .int .i64 low1] 25)).alloc (.cells #[.slice a2 ns2.length c2, .int .i64 low2] 25)).alloc (.cells #[.slice none 0 0, .int .i64 0] 25))) := (((Below.refl _ _).alloc (Nat.le_refl _) _).alloc (by simp) _).alloc (by simp; omega) _
 clear hop hk1 hk2 hv1 hv2 hpre hH hH2 hT
 go_enter Tryd.func53, Tryd.ntmps53
 go_wp2
 go_region_held3 (fun W => W.cell? ⟨w.heap.size, 0, none⟩ = some (.slice a1 ns1.length c1) ∧ W.cell? ⟨w.heap.size, 1, none⟩ = some (.int .i64 low1) ∧ W.cell? ⟨w.heap.size + 1, 0, none⟩ = some (.slice a2 ns2.length c2) ∧ W.cell? ⟨w.heap.size + 1, 1, none⟩ = some (.int .i64 low2) ∧ Below (((w.alloc (.cells #[.slice a1 ns1.length c1, .int .i64 low1] 25)).alloc (.cells #[.slice a2 ns2.length c2, .int .i64 low2] 25)).alloc (.cells #[.slice none 0 0, .int .i64 0] 25)).heap.size (((w.alloc (.cells #[.slice a1 ns1.length c1, .int .i64 low1] 25)).alloc (.cells #[.slice a2 ns2.length c2, .int .i64 low2] 25)).alloc (.cells #[.slice none 0 0, .int .i64 0] 25)) W)
   (first
     | assumption
     | exact ⟨by go_simp, by go_simp, by go_simp, by go_simp, (Below.refl _ _).drew⟩
     | exact keep4 (by assumption) (by assumption))
   (first
     | (go_at_call 36; refine (lowest_any _ _ _ _ _).mono ?_; rintro e wx ⟨rfl, hbx⟩))
 go_wp2
 go_region_held3 (fun W => W.cell? ⟨w.heap.size, 0, none⟩ = some (.slice a1 ns1.length c1) ∧ W.cell? ⟨w.heap.size, 1, none⟩ = some (.int .i64 low1) ∧ W.cell? ⟨w.heap.size + 1, 0, none⟩ = some (.slice a2 ns2.length c2) ∧ W.cell? ⟨w.heap.size + 1, 1, none⟩ = some (.int .i64 low2) ∧ Below (((w.alloc (.cells #[.slice a1 ns1.length c1, .int .i64 low1] 25)).alloc (.cells #[.slice a2 ns2.length c2, .int .i64 low2] 25)).alloc (.cells #[.slice none 0 0, .int .i64 0] 25)).heap.size (((w.alloc (.cells #[.slice a1 ns1.length c1, .int .i64 low1] 25)).alloc (.cells #[.slice a2 ns2.length c2, .int .i64 low2] 25)).alloc (.cells #[.slice none 0 0, .int .i64 0] 25)) W)
   (first
     | assumption
     | exact keep4d (by assumption)
     | exact keep4 (by assumption) (by assumption))
   (first
     | (go_at_call_of 35 low1; refine (highest_any _ ns1 _ _ ?_ (own_topped o1) (by omega) (by omega)).mono ?_; exact h1.later (thru HB0.out ((by assumption : _ ∧ _ ∧ _ ∧ _ ∧ _).2.2.2.2)) (Nat.le_refl _); rintro e wx ⟨rfl, hbx⟩)
     | (go_at_call_of 35 low2; refine (highest_any _ ns2 _ _ ?_ (own_topped o2) (by omega) (by omega)).mono ?_; exact h2.later (thru HB0.out ((by assumption : _ ∧ _ ∧ _ ∧ _ ∧ _).2.2.2.2)) (Nat.le_refl _); rintro e wx ⟨rfl, hbx⟩)
     | (go_at_call 38; refine (span_any _ ns1 _ _ n1 r1 _ ?_ (by omega) (by omega) (by omega) (by omega) (by omega) hr1).mono ?_; exact h1.later (thru HB0.out ((by assumption : _ ∧ _ ∧ _ ∧ _ ∧ _).2.2.2.2)) (Nat.le_refl _); rw [HS1.out]; rintro e wx ⟨g, hg, rfl, hrow, hbx⟩; have hgW := Nat.le_trans (sz4 (by assumption)) hg))
 have hgN : w.heap.size + 3 ≤ g := by simpa using hgW
 clear hgW hbx
 have hh2 : hiB ns2 low2 = L + (64 * n2 + r2 : Nat) := HH2.out
 go_wp2
 go_region_held3 (fun W => W.cell? ⟨w.heap.size, 0, none⟩ = some (.slice a1 ns1.length c1) ∧ W.cell? ⟨w.heap.size, 1, none⟩ = some (.int .i64 low1) ∧ W.cell? ⟨w.heap.size + 1, 0, none⟩ = some (.slice a2 ns2.length c2) ∧ W.cell? ⟨w.heap.size + 1, 1, none⟩ = some (.int .i64 low2) ∧ Below (((w.alloc (.cells #[.slice a1 ns1.length c1, .int .i64 low1] 25)).alloc (.cells #[.slice a2 ns2.length c2, .int .i64 low2] 25)).alloc (.cells #[.slice none 0 0, .int .i64 0] 25)).heap.size (((w.alloc (.cells #[.slice a1 ns1.length c1, .int .i64 low1] 25)).alloc (.cells #[.slice a2 ns2.length c2, .int .i64 low2] 25)).alloc (.cells #[.slice none 0 0, .int .i64 0] 25)) W)
   (first
     | assumption
     | exact keep4d (by assumption)
     | exact keep4 (by assumption) (by assumption)
     | exact keep4g (by assumption) (by assumption) (by simp; omega) (by simp; omega) (by simp; omega) (by simp; omega) (by simp; omega))
   (first
     | (go_at_call 35; refine (highest_any _ ns2 _ _ ?_ (own_topped o2) (by omega) (by omega)).mono ?_; exact h2.later (thru HB0.out ((by assumption : _ ∧ _ ∧ _ ∧ _ ∧ _).2.2.2.2)) (Nat.le_refl _); rw [hh2]; rintro e wy ⟨rfl, hby⟩)
     | (go_at_call 38; refine (span_any _ ns2 _ _ n2 r2 _ ?_ (by omega) (by omega) (by omega) (by omega) (by omega) hr2).mono ?_; exact h2.later (thru HB0.out ((by assumption : _ ∧ _ ∧ _ ∧ _ ∧ _).2.2.2.2)) (Nat.le_refl _); rw [HS2.out]; rintro e wz ⟨g2, hg2, rfl, hrow2, hbz⟩; have hrow1 := (hrow.drew.below hby hrow.lt).below hbz (Nat.lt_of_lt_of_le hrow.lt hby.size); have hgg : g2 ≠ g := (by have := hrow.lt; have := hby.size; simp at this; omega))
     | (go_at_call 60; refine (bringX HOP.out hgg hrow2 hrow1 (by omega) (by omega) HPRE.out HV1.out HV2.out).mono ?_; rintro e wb ⟨rfl, zs, hzs, hzl, hzv, hzr, hgr⟩))
 have hWB : Below (((w.alloc (.cells #[.slice a1 ns1.length c1, .int .i64 low1] 25)).alloc (.cells #[.slice a2 ns2.length c2, .int .i64 low2] 25)).alloc (.cells #[.slice none 0 0, .int .i64 0] 25)).heap.size (((w.alloc (.cells #[.slice a1 ns1.length c1, .int .i64 low1] 25)).alloc (.cells #[.slice a2 ns2.length c2, .int .i64 low2] 25)).alloc (.cells #[.slice none 0 0, .int .i64 0] 25)) wb := (by assumption : _ ∧ _ ∧ _ ∧ _ ∧ Below (((w.alloc (.cells #[.slice a1 ns1.length c1, .int .i64 low1] 25)).alloc (.cells #[.slice a2 ns2.length c2, .int .i64 low2] 25)).alloc (.cells #[.slice none 0 0, .int .i64 0] 25)).heap.size (((w.alloc (.cells #[.slice a1 ns1.length c1, .int .i64 low1] 25)).alloc (.cells #[.slice a2 ns2.length c2, .int .i64 low2] 25)).alloc (.cells #[.slice none 0 0, .int .i64 0] 25)) wb).2.2.2.2
 have hBw : Below w.heap.size w wb := thru HB0.out hWB
 have hWz : Ws wb (.slice (some ⟨g, 0, none⟩) (n1 + 1) (n1 + 1)) zs := by
   have := hzr.ws hzs (by omega) (n1 + 1) (by omega)
   rw [hzl] at this; exact this
 have hTb := HT.out.later hBw
 have q0 : wb.cell? ⟨w.heap.size + 1 + 1, 0, none⟩ = some (.slice none 0 0) := cell_later hWB (by go_simp)
 have q1 : wb.cell? ⟨w.heap.size + 1 + 1, 1, none⟩ = some (.int .i64 0) := cell_later hWB (by go_simp)
 have q2 : wb.frozen? ⟨w.heap.size + 1 + 1, 0, none⟩ = false := frozen_later hWB (by go_simp) (by simp)
 have q3 : wb.frozen? ⟨w.heap.size + 1 + 1, 1, none⟩ = false := frozen_later hWB (by go_simp) (by simp)
 have hsz : w.heap.size + 1 + 1 < wb.heap.size := by have := hWB.size; simp at this; omega
 have HZ : Hid _ := hzv
 clear hgr hzr hzs hrow hrow1 hrow2 hbz hby hzv hWB hh2 hmx
 go_wp2_with fail
 refine (own_any _ zs L _ hWz hTb (by omega) (by omega)).mono ?_
 rintro e w5 ⟨s5, ns5, low5, rfl, hws5, ho5, ht5, hlo5, hb5⟩
 obtain ⟨a5, c5, rfl, hc5, hx5⟩ := hws5.shape
 have p0 := cell_later hb5 q0
 have p1 := cell_later hb5 q1
 have p2 := frozen_later hb5 q2 hsz
 have p3 := frozen_later hb5 q3 hsz
 have HX5 : Hid _ := hx5
 have HLO5 : Hid (-200000000 ≤ low5 ∧ low5 ≤ 200000000) := hlo5
 clear hx5 q0 q1 q2 q3 hlo5
 go_wp2
 refine bodyPost_ret (v := .agg #[.slice a5 ns5.length c5, .int .i64 low5]) (by simp [results, Tryd.results53, go_sem, p0, p1]) rfl ?_
 have hws6 := (hws5.set p0 (by intro n; simp) (.slice a5 ns5.length c5)).set (cell_ne p1 p0 (by simp) (.slice a5 ns5.length c5)) (by intro n; simp) (.int .i64 low5)
 refine ⟨_, ns5, low5, rfl, hws6, ho5, by rw [← HZ.out]; exact ht5, HLO5.out, ?_⟩
 exact ((thru hBw hb5).setCell (by simp; omega) _).setCell (by simp; omega) _
end
end Go.Proofs.YtlpnobcapdbfkaaDoor
