/- Own texts, put together: Wh. -/
import Derived.Test.YtejhinjanjlplaaDoorQ11
/- bring with Add64 adds, with Sub64 takes off: the numbers that the words tell. -/
namespace Go.Proofs.YtejhinjanjlplaaDoor
open Go.RowKit
theorem isAdd : IsStep 59 (fun x y c => (x + y + c) % 18446744073709551616) (fun x y c => (x + y + c) / 18446744073709551616) where
 run := fun x y c w hc => by
   rw [run_callFunc_extern Tryd.func59 (by kernel_rfl) (by kernel_rfl) (by kernel_rfl) (e := add64Entry) (by kernel_rfl), run_add64 x y c (by omega) (by omega) (by omega) (by omega)]
   simp only [Result.andThen]
   congr 5 <;> omega
 word := fun x y c => Nat.mod_lt _ (by omega)
 carry := fun x y c h1 h2 h3 => by omega
theorem isSub : IsStep 60 (fun x y c => (x + 18446744073709551616 - y - c) % 18446744073709551616) (fun x y c => if x < y + c then 1 else 0) where
 run := fun x y c w hc => by
   rw [run_callFunc_extern Tryd.func60 (by kernel_rfl) (by kernel_rfl) (by kernel_rfl) (e := sub64Entry) (by kernel_rfl), run_sub64 x y c hc]
   rfl
 word := fun x y c => Nat.mod_lt _ (by omega)
 carry := fun x y c h1 h2 h3 => by split <;> omega
theorem val_take_succ (l : List Nat) (k : Nat) : val (l.take (k + 1)) = val (l.take k) + 2 ^ (64 * k) * l.getD k 0 := by
 by_cases hk : k < l.length
 · rw [List.take_succ_eq_append_getElem hk, val_append, List.length_take, Nat.min_eq_left (by omega)]
   simp [val, List.getD, hk]
 · rw [List.take_of_length_le (by omega), List.take_of_length_le (by omega)]
   simp [List.getD, List.getElem?_eq_none (Nat.le_of_not_lt hk)]
theorem val_take_drop (l : List Nat) (k : Nat) (hk : k ≤ l.length) : val l = val (l.take k) + 2 ^ (64 * k) * val (l.drop k) := by
 conv => lhs; rw [← List.take_append_drop k l]
 rw [val_append, List.length_take, Nat.min_eq_left hk]
def BringOK (fid : Nat) (f : Nat → Nat → Nat) (pre : Nat → Nat → Nat → Prop) : Prop :=
 ∀ (more words : List Nat) (g g2 : Nat) (w : World), g2 ≠ g → Row w 45 g2 (wds more) → Small more → Small words → Row w 45 g (wds words) → words.length ≤ 1000000 → more.length ≤ words.length → pre (val words) (val more) words.length →
   Calls Tryd.prog 64 #[.slice (some ⟨g2, 0, none⟩) more.length more.length, .slice (some ⟨g, 0, none⟩) words.length words.length, .func (.func fid) #[] #[]] w fun e w' => e = .returned (.tuple #[]) ∧
     ∃ zs : List Nat, Small zs ∧ zs.length = words.length ∧ val zs = f (val words) (val more) ∧ Row w' 45 g (wds zs) ∧ w.grownBy w' (some g)
theorem small_app {a b : List Nat} (h1 : Small a) (h2 : Small b) : Small (a ++ b) := fun n hn => by
 rcases List.mem_append.1 hn with h | h
 · exact h1 n h
 · exact h2 n h
theorem add_bring : BringOK 59 (fun a b => a + b) (fun a b n => a + b < 2 ^ (64 * n)) := by
 intro more words g g2 w hgg hm hms hws hr hl hml hpre
 refine (bring_walk _ _ _ isAdd (fun k v c => v + 2 ^ (64 * k) * c = val (words.take k) + val (more.take k)) more words g g2 w hgg hm hms hws hr hl (by omega) (by simp [val]) ?_).mono ?_
 · intro k v c hk hE hc
   rw [val_take_succ, val_take_succ, Nat.mul_add, Nat.mul_one, Nat.pow_add, show (2 : Nat) ^ 64 = 18446744073709551616 from rfl]
   generalize words.getD k 0 = x
   generalize more.getD k 0 = y
   generalize 2 ^ (64 * k) = p at *
   have h := Nat.mod_add_div (x + y + c) 18446744073709551616
   generalize (x + y + c) % 18446744073709551616 = s at *
   generalize (x + y + c) / 18446744073709551616 = d at *
   grind
 · rintro e w' ⟨he, k, c, ps, hk, hc1, hps, hsm, hE, hend, hrow, hgr⟩
   refine ⟨he, ps ++ words.drop k, small_app hsm (small_drop hws k), by simp; omega, ?_, hrow, hgr⟩
   have hs := val_take_drop words k hk
   rw [val_append, hps]
   rcases hend with rfl | ⟨hmk, rfl⟩
   · rw [List.take_of_length_le (Nat.le_refl _), List.take_of_length_le hml] at hE
     rw [List.drop_length]
     have : c = 0 := by
       rcases Nat.eq_zero_or_pos c with h | h
       · exact h
       · have : 2 ^ (64 * words.length) * 1 ≤ 2 ^ (64 * words.length) * c := Nat.mul_le_mul_left _ h
         omega
     subst this
     simp only [val]
     omega
   · rw [List.take_of_length_le hmk] at hE
     have hE' : val ps + 2 ^ (64 * k) * 0 = val (words.take k) + val more := hE
     show val ps + 2 ^ (64 * k) * val (words.drop k) = val words + val more
     omega
theorem sub_bring : BringOK 60 (fun a b => a - b) (fun a b _ => b ≤ a) := by
 intro more words g g2 w hgg hm hms hws hr hl hml hpre
 refine (bring_walk _ _ _ isSub (fun k v c => v + val (more.take k) = val (words.take k) + 2 ^ (64 * k) * c) more words g g2 w hgg hm hms hws hr hl (by omega) (by simp [val]) ?_).mono ?_
 · intro k v c hk hE hc
   rw [val_take_succ, val_take_succ, Nat.mul_add, Nat.mul_one, Nat.pow_add, show (2 : Nat) ^ 64 = 18446744073709551616 from rfl]
   have hx := small_getD hws k
   have hy := small_getD hms k
   generalize words.getD k 0 = x at *
   generalize more.getD k 0 = y at *
   generalize 2 ^ (64 * k) = p at *
   have h : (x + 18446744073709551616 - y - c) % 18446744073709551616 + y + c = x + 18446744073709551616 * (if x < y + c then 1 else 0) := by split <;> omega
   generalize (x + 18446744073709551616 - y - c) % 18446744073709551616 = s at *
   generalize (if x < y + c then 1 else 0) = d at *
   grind
 · rintro e w' ⟨he, k, c, ps, hk, hc1, hps, hsm, hE, hend, hrow, hgr⟩
   refine ⟨he, ps ++ words.drop k, small_app hsm (small_drop hws k), by simp; omega, ?_, hrow, hgr⟩
   have hs := val_take_drop words k hk
   rw [val_append, hps]
   rcases hend with rfl | ⟨hmk, rfl⟩
   · rw [List.take_of_length_le (Nat.le_refl _), List.take_of_length_le hml] at hE
     rw [List.drop_length]
     have hlt := val_lt hsm
     rw [hps] at hlt
     have : c = 0 := by
       rcases Nat.eq_zero_or_pos c with h | h
       · exact h
       · have : 2 ^ (64 * words.length) * 1 ≤ 2 ^ (64 * words.length) * c := Nat.mul_le_mul_left _ h
         omega
     subst this
     simp only [val]
     omega
   · rw [List.take_of_length_le hmk] at hE
     have hE' : val ps + val more = val (words.take k) + 2 ^ (64 * k) * 0 := hE
     show val ps + 2 ^ (64 * k) * val (words.drop k) = val words - val more
     omega
end Go.Proofs.YtejhinjanjlplaaDoor
