/- The book of the examples, and the first question of the outright statements. -/
import Derived.Test.YtmgddocninihoabDoorBackP
import Derived.Test.YtmgddocninihoabDoorNum
namespace Go.Proofs.YtmgddocninihoabDoor
set_option linter.ambiguousOpen false
open Go.RowKit Nm Er
namespace Sc
set_option linter.unusedSimpArgs false
set_option linter.unusedVariables false

/-- mail, mail.read, mail.send, files. -/
def exL : List (List UInt8) := [[109, 97, 105, 108], [109, 97, 105, 108, 46, 114, 101, 97, 100], [109, 97, 105, 108, 46, 115, 101, 110, 100], [102, 105, 108, 101, 115]]
theorem exL_ok : newG [] exL = none := by decide

set_option maxRecDepth 100000 in
set_option maxHeartbeats 1000000 in
theorem book_any (w : World) : Calls Tryd.prog 4 #[] w fun e w' => ∃ pb mb, e = .returned (.tuple #[.pointer (some ⟨pb, 0, none⟩), .bool true]) ∧ Mp w' pb mb exL ∧ Below w.heap.size w w' := by
  have hr : Rd (w.alloc (.cells #[.string (B [109, 97, 105, 108]), .string (B [109, 97, 105, 108, 46, 114, 101, 97, 100]), .string (B [109, 97, 105, 108, 46, 115, 101, 110, 100]), .string (B [102, 105, 108, 101, 115])] 9)) (.slice (some ⟨w.heap.size, 0, none⟩) 4 4) exL := by
    refine ⟨_, 4, rfl, by decide, by decide, fun _ => ⟨w.heap.size, 0, rfl, by simp, fun j hj => ?_⟩⟩
    have : j < 4 := hj
    match j, this with
    | 0, _ => simp [exL]
    | 1, _ => simp [exL]
    | 2, _ => simp [exL]
    | 3, _ => simp [exL]
  have c := new_any _ exL _ hr (by decide) (by decide)
  have hB0 : Below w.heap.size w (w.alloc (.cells #[.string (B [109, 97, 105, 108]), .string (B [109, 97, 105, 108, 46, 114, 101, 97, 100]), .string (B [109, 97, 105, 108, 46, 115, 101, 110, 100]), .string (B [102, 105, 108, 101, 115])] 9)) := (Below.refl _ _).alloc (Nat.le_refl _) _
  go_enter Tryd.func4, Tryd.ntmps4
  go_wp2_with fail
  refine c.mono ?_
  rintro e w1 ⟨hb1, ⟨_, pb, mb, _, _, rfl, hM⟩ | ⟨n, k, h, _⟩⟩
  · go_wp2
    go_ret2
    exact ⟨pb, mb, rfl, hM, hB0.trans (hb1.mono hB0.size)⟩
  · rw [exL_ok] at h; cases h
theorem ex_parse : parseG exL 0 (wordsL 0 [109, 97, 105, 108, 46, 114, 101, 97, 100, 32, 32, 102, 105, 108, 101, 115]) = (10, 0, 0) := by kernel_rfl
theorem ex_print : printL exL 10 = [109, 97, 105, 108, 46, 114, 101, 97, 100, 32, 102, 105, 108, 101, 115] := by kernel_rfl

set_option maxRecDepth 100000 in
set_option maxHeartbeats 1000000 in
theorem works_any (w : World) (hT : Bt.Tab w) (h1 : 1 < w.heap.size) : Calls Tryd.prog 5 #[] w fun e w' => e = .returned (.bool true) ∧ Below w.heap.size w w' := by
  have cb := book_any w
  go_enter Tryd.func5, Tryd.ntmps5
  go_wp2_with fail
  refine cb.mono ?_
  rintro e w1 ⟨pb, mb, rfl, hM1, hb1⟩
  have cp := parse_s pb mb exL [109, 97, 105, 108, 46, 114, 101, 97, 100, 32, 32, 102, 105, 108, 101, 115] w1 hM1 (by decide)
  rw [ex_parse] at cp
  go_wp2_with fail
  refine cp.mono ?_
  rintro e w2 ⟨rfl, hb2⟩
  have e0 : errP 0 0 = .nilIface := rfl
  rw [e0]
  have hb12 := hb1.trans (hb2.mono hb1.size)
  have cq := print_s pb mb exL 10 w2 (hM1.kept hb2) (by decide) (by decide) (fun j hj => (hb12.cell (p := ⟨1, j, none⟩) h1).trans (hT j hj)) (Nat.lt_of_lt_of_le h1 hb12.size)
  rw [ex_print] at cq
  go_wp2_with fail
  refine cq.mono ?_
  rintro e w3 ⟨rfl, hb3⟩
  have hst : ((B [109, 97, 105, 108, 46, 114, 101, 97, 100, 32, 102, 105, 108, 101, 115]).toList == [109, 97, 105, 108, 46, 114, 101, 97, 100, 32, 102, 105, 108, 101, 115]) = true := by rw [ByteArray.toList_eq]; decide
  generalize B [109, 97, 105, 108, 46, 114, 101, 97, 100, 32, 102, 105, 108, 101, 115] = x at *
  go_wp2
  go_ret
  exact ⟨rfl, hb12.trans (hb3.mono hb12.size)⟩
end Sc
end Go.Proofs.YtmgddocninihoabDoor
