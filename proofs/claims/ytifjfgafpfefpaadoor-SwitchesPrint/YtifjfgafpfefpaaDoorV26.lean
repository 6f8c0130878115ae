/- Own texts, put together: Yma. -/
import Derived.Test.YtifjfgafpfefpaaDoorV22
/- Package switches: what Parse hands back. -/
namespace Go.Proofs.YtifjfgafpfefpaaDoor
set_option maxRecDepth 100000
open Go.RowKit Go.Shelf Go.Lib
theorem res_parseY (W : World) (B : Nat) (p : Pn) (e : Int) (tmps : Array Value) (h : Pl W B p) (t2 : tmps[2]? = some (.pointer (some ⟨B, 0, none⟩))) (t3 : tmps[3]? = some (.int .i64 e)) :
   (results Tryd.f12 tmps).run Tryd.prog W = .ok (.tuple #[.agg (pls p).toArray, .int .i64 e]) W := by
 have hl : (loadVar 24 ⟨B, 0, none⟩).run Tryd.prog W = .ok (.agg (pls p).toArray) W := run_loadVar_mid W B 0 24 (pls p) _ h.range Tryd.underlying24 rfl (by rw [pls_len]; kernel_rfl)
 have ha : (asAddr (.pointer (some ⟨B, 0, none⟩))).run Tryd.prog W = .ok ⟨B, 0, none⟩ W := rfl
 simp only [results, Tryd.f12]
 simp [t2, t3, ha, hl]
end Go.Proofs.YtifjfgafpfefpaaDoor
