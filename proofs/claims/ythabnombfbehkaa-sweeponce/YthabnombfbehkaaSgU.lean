import Derived.Test.YthabnombfbehkaaSgH
import Derived.Test.YthabnombfbehkaaSgI
import Derived.Test.YthabnombfbehkaaRngU
/- The program's garbage meets the contracts. -/
namespace Go.Proofs.Ythabnombfbehkaa
set_option linter.ambiguousOpen false
open Go.RowKit
namespace Sp
open An Rg Ft Lv Sw
set_option linter.unusedSimpArgs false
set_option linter.unusedVariables false

section
variable {Rep : World → Nat → (Nat → Prop) → Arn → Prop}

theorem keepS (H : KeepC Rep) (q : Nat) (l : Int) : KeepC ((RepS Rep).ar q l) := ⟨fun h hk hn => RepS.keep H h hk hn, fun h k hk => RepS.lt H h k hk⟩

theorem getS (C : GetU Rep) (q : Nat) (l : Int) : GetU ((RepS Rep).ar q l) := fun w p F A i h hg => by
  obtain ⟨Fa, h1, h2, h3, rfl⟩ := h
  exact C w p Fa A i h1 hg

theorem putS (C : PutU Rep) (q : Nat) (l : Int) : PutU ((RepS Rep).ar q l) := fun w p F A i s h hg hwr => by
  obtain ⟨Fa, h1, h2, h3, rfl⟩ := h
  refine (C w p Fa A i s h1 hg hwr).mono ?_
  rintro e w' ⟨rfl, hl⟩
  exact ⟨rfl, leftS_of h2 h3 hl⟩

theorem takeS (C : TakeC Rep) (q : Nat) (l : Int) : TakeC ((RepS Rep).ar q l) := fun w p F A h hg => by
  obtain ⟨Fa, h1, h2, h3, rfl⟩ := h
  refine (C w p Fa A h1 hg).mono ?_
  rintro e w' ⟨rfl, hl⟩
  exact ⟨rfl, leftS_of h2 h3 hl⟩

theorem freesS (C : FreesC Rep) (q : Nat) (l : Int) : FreesC ((RepS Rep).ar q l) := fun w p F A h hg => by
  obtain ⟨Fa, h1, h2, h3, rfl⟩ := h
  exact C w p Fa A h1 hg

theorem pushS (C : PushU Rep) (q : Nat) (l : Int) : PushU ((RepS Rep).ar q l) := fun w p F A last i h hg hwr => by
  obtain ⟨Fa, h1, h2, h3, rfl⟩ := h
  refine (C w p Fa A last i h1 hg hwr).mono ?_
  rintro e w' ⟨rfl, n, hn, hz, hl⟩
  exact ⟨rfl, n, hn, hz, leftS_of h2 h3 hl⟩

theorem dropS (C : DropU Rep) (q : Nat) (l : Int) : DropU ((RepS Rep).ar q l) := fun w p F A last i h hg hwr => by
  obtain ⟨Fa, h1, h2, h3, rfl⟩ := h
  refine (C w p Fa A last i h1 hg hwr).mono ?_
  rintro e w' ⟨rfl, n, hn, hz, hl⟩
  exact ⟨rfl, n, hn, hz, leftS_of h2 h3 hl⟩

theorem allS (C : AllU Rep) (q : Nat) (l : Int) : AllU ((RepS Rep).ar q l) := fun w p F A last h hg => by
  obtain ⟨Fa, h1, h2, h3, rfl⟩ := h
  exact C w p Fa A last h1 hg

end


theorem gacP : GaC RepP := ⟨keepP, get_u, pushU, dropU, spliceU, allU, free_any⟩

end Sp
end Go.Proofs.Ythabnombfbehkaa
