/- The document's heap: Pairs, Set. -/
import Derived.Test.YteclbmmhidmklaaHepQ
import Derived.Deep.AppendLies
namespace Go.Proofs.Yteclbmmhidmklaa
set_option linter.ambiguousOpen false
open Go.RowKit
namespace Hh
open Ft
set_option linter.unusedSimpArgs false
set_option linter.unusedVariables false
attribute [local go_sem] Oper.semAt_some

theorem infoI : (Try.prog.info? 3).map (fun i => (i.zero, i.size, i.bytes)) = some (some (.int .i64 0), 1, 8) := by kernel_rfl

theorem prs_at (L : List It) (k : Nat) (x : It) (hx : L[k]? = some x) : prs (L.take (k + 1)) = prs (L.take k) ++ [x.i, x.k] := by
  obtain ⟨hk, hxe⟩ := List.getElem?_eq_some_iff.1 hx
  have e : L.take (k + 1) = L.take k ++ [x] := by rw [← hxe]; exact List.take_succ_eq_append_getElem hk
  rw [e, prs_snoc]

end Hh
end Go.Proofs.Yteclbmmhidmklaa
