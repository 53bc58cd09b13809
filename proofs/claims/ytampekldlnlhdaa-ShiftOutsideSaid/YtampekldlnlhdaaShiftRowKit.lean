/- What the rows of stage 6 share. -/
import Derived.Test.YtampekldlnlhdaaApplyRowKit
namespace Go.Proofs.Ytampekldlnlhdaa
open Go Go.RowKit

theorem D.u8_bd {a : Int} (h : (Lit.int .u8 a).wf = true) : 0 ≤ a ∧ a ≤ 255 := by
  simp only [Lit.wf, Bool.and_eq_true, decide_eq_true_eq] at h
  have h1 : (0 : Int) ≤ a := h.1
  have h2 : a ≤ (255 : Int) := h.2
  omega
end Go.Proofs.Ytampekldlnlhdaa
