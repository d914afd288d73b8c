import Derived.Test.YthabnombfbehkaaRngN
import Derived.Test.YthabnombfbehkaaRgI
import Derived.Test.YthabnombfbehkaaArH
/- The program's arena and rings meet the contracts. -/
namespace Go.Proofs.Ythabnombfbehkaa
set_option linter.ambiguousOpen false
open Go.RowKit
namespace Rg
open An Ft Lv
set_option linter.unusedVariables false

theorem own_blk {w w' : World} {base n : Nat} {e : TypeId} {size : Nat} {v : Value} {xs : List Value} (h : w.ownsRow base e size v n xs) (hb : ∀ k, v.ownBlock = some k → w'.heap[k]? = w.heap[k]?) : w'.ownsRow base e size v n xs := by
  refine ⟨h.1, ?_⟩
  rcases h.2 with h0 | ⟨g, cap, cur, rfl, hbg, hg, rest⟩
  · exact .inl h0
  · exact .inr ⟨g, cap, cur, rfl, hbg, (hb g rfl).trans hg, rest⟩

theorem blockP : BlockC RepP := fun ⟨fv, h, e⟩ hk => ⟨fv, ⟨(hk _ (by rw [e]; exact .inl rfl)).trans h.blk, h.len, own_blk h.fr (fun k hkk => hk k (by rw [e]; exact .inr hkk))⟩, e⟩

theorem pushU : PushU RepP := push_u keepP get_any put_any

theorem dropU : DropU RepP := drop_u keepP get_any put_any

theorem allU : AllU RepP := all_u keepP blockP get_any

theorem pushP : PushC RepP := push_p keepP get_any put_any

theorem dropP : DropC RepP := drop_p keepP get_any put_any

theorem spliceU : SpliceU RepP := splice_u keepP get_any put_any

theorem spliceP : SpliceC RepP := splice_p keepP get_any put_any

theorem allP : AllC RepP := all_p keepP blockP get_any
end Rg
end Go.Proofs.Ythabnombfbehkaa
