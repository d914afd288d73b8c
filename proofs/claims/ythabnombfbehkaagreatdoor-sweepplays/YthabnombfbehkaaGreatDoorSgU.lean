import Derived.Test.YthabnombfbehkaaGreatDoorSgH
import Derived.Test.YthabnombfbehkaaGreatDoorSgI
import Derived.Test.YthabnombfbehkaaGreatDoorRngU
/- The program's garbage meets the contracts. -/
namespace Go.Proofs.YthabnombfbehkaaGreatDoor
set_option linter.ambiguousOpen false
open Go.RowKit
namespace Sp
open An Rg Ft Lv Sw
set_option linter.unusedSimpArgs false
set_option linter.unusedVariables false

section
variable {Rep : World → Nat → (Nat → Prop) → Arn → Prop}

theorem keepS (H : KeepC Rep) (q : Nat) (l : Int) : KeepC ((RepS Rep).ar q l) := ⟨fun h hk hn => RepS.keep H h hk hn, fun h k hk => RepS.lt H h k hk⟩

theorem getS (C : GetU Rep) (q : Nat) (l : Int) : GetU ((RepS Rep).ar q l) := fun w p F A i h hg => by
  obtain ⟨Fa, h1, h2, h3, rfl⟩ := h
  exact C w p Fa A i h1 hg

theorem putS (C : PutU Rep) (q : Nat) (l : Int) : PutU ((RepS Rep).ar q l) := fun w p F A i s h hg hwr => by
  obtain ⟨Fa, h1, h2, h3, rfl⟩ := h
  refine (C w p Fa A i s h1 hg hwr).mono ?_
  rintro e w' ⟨rfl, hl⟩
  exact ⟨rfl, leftS_of h2 h3 hl⟩

theorem takeS (C : TakeC Rep) (q : Nat) (l : Int) : TakeC ((RepS Rep).ar q l) := fun w p F A h hg => by
  obtain ⟨Fa, h1, h2, h3, rfl⟩ := h
  refine (C w p Fa A h1 hg).mono ?_
  rintro e w' ⟨rfl, hl⟩
  exact ⟨rfl, leftS_of h2 h3 hl⟩

theorem freesS (C : FreesC Rep) (q : Nat) (l : Int) : FreesC ((RepS Rep).ar q l) := fun w p F A h hg => by
  obtain ⟨Fa, h1, h2, h3, rfl⟩ := h
  exact C w p Fa A h1 hg

theorem writesS (C : WritesC Rep) (q : Nat) (l : Int) : WritesC ((RepS Rep).ar q l) := fun w p F A h hw => by
  obtain ⟨Fa, h1, h2, h3, rfl⟩ := h
  exact C w p Fa A h1 hw

theorem pushS (C : PushU Rep) (q : Nat) (l : Int) : PushU ((RepS Rep).ar q l) := fun w p F A last i h hg hwr => by
  obtain ⟨Fa, h1, h2, h3, rfl⟩ := h
  refine (C w p Fa A last i h1 hg hwr).mono ?_
  rintro e w' ⟨rfl, n, hn, hz, hl⟩
  exact ⟨rfl, n, hn, hz, leftS_of h2 h3 hl⟩

theorem dropS (C : DropU Rep) (q : Nat) (l : Int) : DropU ((RepS Rep).ar q l) := fun w p F A last i h hg hwr => by
  obtain ⟨Fa, h1, h2, h3, rfl⟩ := h
  refine (C w p Fa A last i h1 hg hwr).mono ?_
  rintro e w' ⟨rfl, n, hn, hz, hl⟩
  exact ⟨rfl, n, hn, hz, leftS_of h2 h3 hl⟩

theorem allS (C : AllU Rep) (q : Nat) (l : Int) : AllU ((RepS Rep).ar q l) := fun w p F A last h hg => by
  obtain ⟨Fa, h1, h2, h3, rfl⟩ := h
  exact C w p Fa A last h1 hg

/-- The program's garbage meets the contracts. -/
theorem sweepC_of (C : GaC Rep) (CP : PutU Rep) (CT : TakeC Rep) (CF : FreesC Rep) (CW : WritesC Rep) : SweepC Rep (RepS Rep) where
  keep := fun q l => keepS C.keep q l
  get := fun q l w p F A i h hg _ => getS C.get q l w p F A i h hg
  put := fun q l w p F A i s h hg hwr _ => putS CP q l w p F A i s h hg hwr
  take := fun q l => takeS CT q l
  frees := fun q l => freesS CF q l
  writes := fun q l => writesS CW q l
  new := fun w p F A h _ => new_s C.keep w p F A h
  add := fun w p q F A l i h hg _ hwr _ => add_s C w p q F A l i h hg hwr
  unit := fun w p q F A l h hg hok hwr => unit_s C w p q F A l h hg hok hwr
  last := fun w p q F A l h => last_s w p q F A l h
  all := fun w p q F A l h hg _ => all_s C w p q F A l h hg
end

theorem gacP : GaC RepP := ⟨keepP, get_u, pushU, dropU, spliceU, allU, free_any⟩

theorem sweepP : SweepC RepP (RepS RepP) := sweepC_of gacP put_u take_any frees_any writes_any
end Sp
end Go.Proofs.YthabnombfbehkaaGreatDoor
