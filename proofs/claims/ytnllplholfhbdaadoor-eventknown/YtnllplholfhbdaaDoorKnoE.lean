/- The document's examples of events: what may be wrong with a birth. -/
import Derived.Test.YtnllplholfhbdaaDoorPlainE
import Derived.Test.YtnllplholfhbdaaDoorEqE
namespace Go.Proofs.YtnllplholfhbdaaDoor
set_option linter.ambiguousOpen false
open Go.RowKit
namespace Ev
open Pk Sm Ft
set_option linter.unusedSimpArgs false
set_option linter.unusedVariables false

/-- The births of the law. -/
def childE : Evt := ⟨0, ⟨31, 1048576, 31, 1048575, 2, [97, 98, 99, 100, 101, 102, 103, 104, 105, 106, 107, 108, 109, 110, 111, 112, 113, 114, 115, 116, 117, 118, 119, 120, 121, 122, 48, 49, 50, 51, 52, 53], [97, 98, 99, 100, 101, 102, 103, 104, 105, 106, 107, 108, 109, 110, 111, 112, 113, 114, 115, 116, 117, 118, 119, 120, 121, 122, 48, 49, 50, 51, 52, 53], 18446744073709551615, 2, 1099511627476, 1099511627776, 6⟩, 0, 0⟩

def loginE : Evt := ⟨0, ⟨3, 1, 0, 0, 0, [97, 110, 110], [], 7, 1, 0, 300, 0⟩, 0, 0⟩

theorem child_arr : childE.arr = #[nu 0, nu 31, nu 1048576, nu 31, nu 1048575, nu 2, .string ⟨#[97, 98, 99, 100, 101, 102, 103, 104, 105, 106, 107, 108, 109, 110, 111, 112, 113, 114, 115, 116, 117, 118, 119, 120, 121, 122, 48, 49, 50, 51, 52, 53]⟩, .string ⟨#[97, 98, 99, 100, 101, 102, 103, 104, 105, 106, 107, 108, 109, 110, 111, 112, 113, 114, 115, 116, 117, 118, 119, 120, 121, 122, 48, 49, 50, 51, 52, 53]⟩, .int .u64 18446744073709551615, nu 2, nu 1099511627476, nu 1099511627776, nu 6, nu 0, nu 0] := rfl

theorem login_arr : loginE.arr = #[nu 0, nu 3, nu 1, nu 0, nu 0, nu 0, .string ⟨#[97, 110, 110]⟩, .string ⟨#[]⟩, .int .u64 7, nu 1, nu 0, nu 300, nu 0, nu 0, nu 0] := rfl

theorem sizeEv (e : Evt) : (Tryd.prog.info? 29).map (·.size) = some e.arr.size := by
  show _ = some 15
  kernel_rfl

set_option maxRecDepth 100000 in
theorem child_c (w : World) : Calls Tryd.prog 20 #[] w fun e w' => e = .returned (.agg childE.arr) ∧ Below w.heap.size w w' := by
  have hH : Hid ((w.alloc (.cells childE.arr 29)).heap[w.heap.size]? = some (.cells childE.arr 29 (0, 0))) := heap_alloc_new _ _
  have hB : Hid (Below w.heap.size w (w.alloc (.cells childE.arr 29))) := (Below.refl _ _).alloc (Nat.le_refl _) _
  rw [child_arr] at hH hB ⊢
  go_enter Tryd.func20, Tryd.ntmps20
  go_wp2
  refine bodyPost_ret (results_cell_row rfl _ _ w.heap.size _ _ _ _ rfl hH.out Tryd.underlying29 rfl (sizeEv childE)) rfl ?_
  exact ⟨rfl, hB.out⟩

set_option maxRecDepth 100000 in
theorem login_c (w : World) : Calls Tryd.prog 19 #[] w fun e w' => e = .returned (.agg loginE.arr) ∧ Below w.heap.size w w' := by
  have hH : Hid ((w.alloc (.cells loginE.arr 29)).heap[w.heap.size]? = some (.cells loginE.arr 29 (0, 0))) := heap_alloc_new _ _
  have hB : Hid (Below w.heap.size w (w.alloc (.cells loginE.arr 29))) := (Below.refl _ _).alloc (Nat.le_refl _) _
  rw [login_arr] at hH hB ⊢
  go_enter Tryd.func19, Tryd.ntmps19
  go_wp2
  refine bodyPost_ret (results_cell_row rfl _ _ w.heap.size _ _ _ _ rfl hH.out Tryd.underlying29 rfl (sizeEv loginE)) rfl ?_
  exact ⟨rfl, hB.out⟩

end Ev
end Go.Proofs.YtnllplholfhbdaaDoor
