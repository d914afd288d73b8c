/- knownSaid of PackKnown: the chapter's examples. -/
import Derived.Test.YtojejenijhjglaaDoorReadsK
import Derived.Test.YtojejenijhjglaaDoorPutK
namespace Go.Proofs.YtojejenijhjglaaDoor
set_option linter.ambiguousOpen false
open Go.RowKit
namespace Pk
open Sm Ft
set_option linter.unusedSimpArgs false
set_option linter.unusedVariables false
variable {RW RR : World → Nat → (Nat → Prop) → List UInt8 → Prop}

theorem num_nilB : num [] = (0, 0, 2) := rfl

theorem num_8000 : num [128, 0] = (0, 0, 4) := by decide +kernel

theorem taken_ab1 : taken [2, 97, 98] 1 = ([], 0, 3) := by decide +kernel

theorem taken_ab5 : taken [3, 97, 98] 5 = ([], 0, 2) := by decide +kernel

set_option maxRecDepth 100000 in
set_option maxHeartbeats 2000000 in
theorem said_yes (S : Says RW RR) (w : World) (hE : Er.Handle w) : Calls Tryd.prog 18 #[] w fun e w' => e = .returned (.bool true) ∧ Below w.heap.size w w' := by
  have cO : Hid (∀ wx v b, RdB wx v b → Below w.heap.size w wx → b.length ≤ 10 → Calls Tryd.prog 6 #[v] wx fun e w' => ∃ p, e = .returned (ptr p) ∧ Rr RR w w' p b) := fun wx v b h hb hl => (open_rr S wx v b h (by omega)).mono fun _ w' ⟨p, a, b⟩ => ⟨p, a, rr_from b hb⟩
  have cN : Hid (∀ wx p l, Rr RR w wx p l → Calls Tryd.prog 14 #[ptr p] wx fun e w' => e = .returned (.tuple #[.int .u64 ((num l).1 : Int), errE (num l).2.2]) ∧ Below w.heap.size w w') := fun wx p l h => (rnum_rr S w wx p l h).mono fun _ w' ⟨a, F, _, _, b⟩ => ⟨a, b⟩
  have cT : Hid (∀ wx p l (m : Int), Rr RR w wx p l → (-9223372036854775808 ≤ m ∧ m ≤ 9223372036854775807) → Calls Tryd.prog 12 #[ptr p, .int .i64 m] wx fun e w' => e = .returned (.tuple #[.string (tx (taken l m.toNat).1), errE (taken l m.toNat).2.2]) ∧ Below w.heap.size w w') := fun wx p l m h hm => (rtext_rr S w wx p l m h hm).mono fun _ w' ⟨a, F, _, _, b⟩ => ⟨a, b⟩
  have cW : Hid (∀ wx, Below w.heap.size w wx → Calls Tryd.prog 31 #[] wx fun e w' => e = .returned (.bool true) ∧ Below w.heap.size w w') := fun wx hb => (works_yes S wx).mono fun _ w' ⟨a, b⟩ => ⟨a, hb.trans (b.mono hb.size)⟩
  have cP : Hid (∀ wx (n : Nat), Below w.heap.size w wx → n ≤ 24 → Calls Tryd.prog 10 #[errE n, .int .i64 (n : Int)] wx fun e w' => e = .returned (.bool true) ∧ Below w.heap.size w w') := fun wx n hb hn => (plainE n hn wx (hE.below hb)).mono fun _ w' ⟨a, b⟩ => ⟨a, hb.trans (b.mono hb.size)⟩
  have C1 := Hid.mk' (cO.out w _ [] (rd_nil w) (Below.refl _ _) (by decide))
  clear hE
  go_enter Tryd.func18, Tryd.ntmps18
  go_wp2_with fail
  refine C1.out.mono ?_
  rintro e w1 ⟨p1, rfl, h1⟩
  have C2 := cN.out _ _ _ h1
  rw [num_nilB] at C2
  have HC2 := Hid.mk' C2
  clear C2 h1 C1
  go_wp2_with fail
  refine HC2.out.mono ?_
  rintro e w2 ⟨rfl, h2⟩
  have H2 := Hid.mk' h2
  have C3 := Hid.mk' (cO.out (w2.alloc (.cells #[.int .u8 128, .int .u8 0] 5)) _ [128, 0] (rd_new w2 [128, 0] (by decide)) (h2.alloc h2.size _) (by decide))
  clear h2 HC2
  go_wp2_with fail
  refine C3.out.mono ?_
  rintro e w3 ⟨p3, rfl, h3⟩
  have C4 := cN.out _ _ _ h3
  rw [num_8000] at C4
  have HC4 := Hid.mk' C4
  clear C4 h3 C3 H2
  go_wp2_with fail
  refine HC4.out.mono ?_
  rintro e w4 ⟨rfl, h4⟩
  have C5 := Hid.mk' (cO.out (w4.alloc (.cells #[.int .u8 2, .int .u8 97, .int .u8 98] 5)) _ [2, 97, 98] (rd_new w4 [2, 97, 98] (by decide)) (h4.alloc h4.size _) (by decide))
  clear h4 HC4
  go_wp2_with fail
  refine C5.out.mono ?_
  rintro e w5 ⟨p5, rfl, h5⟩
  have C6 := cT.out _ _ _ 1 h5 (by decide)
  rw [show Int.toNat 1 = 1 from rfl, taken_ab1] at C6
  have HC6 := Hid.mk' C6
  clear C6 h5 C5
  go_wp2_with fail
  refine HC6.out.mono ?_
  rintro e w6 ⟨rfl, h6⟩
  have C7 := Hid.mk' (cO.out (w6.alloc (.cells #[.int .u8 3, .int .u8 97, .int .u8 98] 5)) _ [3, 97, 98] (rd_new w6 [3, 97, 98] (by decide)) (h6.alloc h6.size _) (by decide))
  clear h6 HC6
  go_wp2_with fail
  refine C7.out.mono ?_
  rintro e w7 ⟨p7, rfl, h7⟩
  have C8 := cT.out _ _ _ 5 h7 (by decide)
  rw [show Int.toNat 5 = 5 from rfl, taken_ab5] at C8
  have HC8 := Hid.mk' C8
  clear C8 h7 C7
  go_wp2_with fail
  refine HC8.out.mono ?_
  rintro e w8 ⟨rfl, h8⟩
  have C9 := Hid.mk' (cW.out _ h8)
  clear h8 HC8
  go_wp2_with fail
  refine C9.out.mono ?_
  rintro e w9 ⟨rfl, h9⟩
  have C10 := Hid.mk' (cP.out _ 2 h9 (by decide))
  clear h9 C9
  go_wp2_with fail
  refine C10.out.mono ?_
  rintro e w10 ⟨rfl, h10⟩
  have C11 := Hid.mk' (cP.out _ 4 h10 (by decide))
  clear h10 C10
  go_wp2_with fail
  refine C11.out.mono ?_
  rintro e w11 ⟨rfl, h11⟩
  have C12 := Hid.mk' (cP.out _ 3 h11 (by decide))
  clear h11 C11
  go_wp2_with fail
  refine C12.out.mono ?_
  rintro e w12 ⟨rfl, h12⟩
  have C13 := Hid.mk' (cP.out _ 2 h12 (by decide))
  clear h12 C12
  go_wp2_with fail
  refine C13.out.mono ?_
  rintro e w13 ⟨rfl, h13⟩
  have HB := Hid.mk' h13
  clear h13 C13
  go_wp2
  go_ret
  exact ⟨rfl, HB.out⟩
end Pk
end Go.Proofs.YtojejenijhjglaaDoor
