/- The walks of a door's laws, as the frames want them. -/
import Derived.Test.YtcglehekiibgeaaDoorAfterK
import Derived.Test.YtcglehekiibgeaaDoorMore9
namespace Go.Proofs.YtcglehekiibgeaaDoor
set_option linter.ambiguousOpen false
open Go.RowKit
namespace Dk
open Sm Ft
set_option linter.unusedVariables false

theorem diskPlays_walk (n : Int) (v : Value) (l : List Act) (w : World) (hn : -9223372036854775808 ≤ n ∧ n ≤ 9223372036854775807) (hR : RdA w v l) (hf : ∀ a ∈ l, a.fits) (hE : Er.Handle w) :
    Calls Tryd.prog 3 #[nu n, v] w fun e w' => e = .returned (.bool true) ∧ Below w.heap.size w w' := by
  by_cases h : 1 ≤ n ∧ n ≤ 4096
  · exact diskPlays_yes Pd.says n v l w h.1 h.2 hR hf hE
  · exact diskPlays_no Pd.says n v w h hE

theorem diskAfter_walk (n : Int) (v : Value) (l : List Act) (at_ : Int) (v2 : Value) (l2 : List Act) (w : World) (hn : -9223372036854775808 ≤ n ∧ n ≤ 9223372036854775807) (hR : RdA w v l) (hf : ∀ a ∈ l, a.fits) (ha : -9223372036854775808 ≤ at_ ∧ at_ ≤ 9223372036854775807) (hR2 : RdA w v2 l2) (hf2 : ∀ a ∈ l2, a.fits) (hE : Er.Handle w) :
    Calls Tryd.prog 4 #[nu n, v, nu at_, v2] w fun e w' => e = .returned (.bool true) ∧ Below w.heap.size w w' := by
  by_cases h : 1 ≤ n ∧ n ≤ 4096
  · by_cases hh : 2000 < l.length ∨ 2000 < l2.length
    · obtain ⟨a, cap, rfl, hl1, hl2, _⟩ := hR
      obtain ⟨a2, cap2, rfl, hm1, hm2, _⟩ := hR2
      exact diskAfter_long Pd.says n at_ a a2 _ _ cap cap2 w h.1 h.2 hl1 hl2 hm1 hm2 hh
    · exact diskAfter_yes Pd.says n at_ v v2 l l2 w h.1 h.2 ha hR hf hR2 hf2 hE (fun x => hh (.inl x)) (fun x => hh (.inr x))
  · exact diskAfter_no Pd.says n at_ v v2 w h
end Dk
end Go.Proofs.YtcglehekiibgeaaDoor
