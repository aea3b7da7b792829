/-
  Integers that came in lie within their kind. No condition.
-/
import Derived.Test.YtmimkcdomgoefaaBlk
import Derived.OpenShut
namespace Go.Proofs.Ytmimkcdomgoefaa
open Go.RowKit

theorem wf_i64 {n : Int} (h : (Lit.int .i64 n).wf = true) : -9223372036854775808 ≤ n ∧ n ≤ 9223372036854775807 := by
  have h1 : IntKind.i64.min = -9223372036854775808 := rfl
  have h2 : IntKind.i64.max = 9223372036854775807 := rfl
  simp only [Lit.wf, Bool.and_eq_true, decide_eq_true_eq] at h
  omega
end Go.Proofs.Ytmimkcdomgoefaa
