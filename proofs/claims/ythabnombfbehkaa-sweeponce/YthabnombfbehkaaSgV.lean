import Derived.Test.YthabnombfbehkaaSgU
import Derived.Test.YthabnombfbehkaaSwpO
import Derived.Test.YthabnombfbehkaaTrO
import Derived.Test.YthabnombfbehkaaTreKd
/- The program's tree and garbage over one arena meet the contracts. -/
namespace Go.Proofs.Ythabnombfbehkaa
set_option linter.ambiguousOpen false
open Go.RowKit
namespace Sp
open An Rg Ft Lv Sw
set_option linter.unusedSimpArgs false
set_option linter.unusedVariables false

/-- An arena (at p), a tree (at q) and garbage (at r). -/
@[reducible] def R3 (Rep : World → Nat → (Nat → Prop) → Arn → Prop) : R3Ty := fun w p q r F A tl gl => Tr.RepT ((RepS Rep).ar r gl) w p q F A tl

/-- The tree's arena. -/
@[reducible] def RepTA (Rep : World → Nat → (Nat → Prop) → Arn → Prop) (q : Nat) (tl : Int) : World → Nat → (Nat → Prop) → Arn → Prop := fun w p F A => Tr.RepT Rep w p q F A tl

section
variable {Rep : World → Nat → (Nat → Prop) → Arn → Prop}

theorem swap3 {w : World} {p q r : Nat} {F : Nat → Prop} {A : Arn} {tl gl : Int} : R3 Rep w p q r F A tl gl ↔ RepS (RepTA Rep q tl) w p r F A gl := by
  constructor
  · rintro ⟨Fb, ⟨Fa, h1, h2, h3, rfl⟩, h4, h5, rfl⟩
    refine ⟨fun k => k = q ∨ Fa k, ⟨Fa, h1, h4, fun e => h5 (.inr e), rfl⟩, h2, ?_, ?_⟩
    · rintro (e | e)
      · exact h5 (.inl e.symm)
      · exact h3 e
    · funext k
      exact propext ⟨fun h => by rcases h with h | h | h <;> simp [h], fun h => by rcases h with h | h | h <;> simp [h]⟩
  · rintro ⟨Fb, ⟨Fa, h1, h2, h3, rfl⟩, h4, h5, rfl⟩
    refine ⟨fun k => k = r ∨ Fa k, ⟨Fa, h1, h4, fun e => h5 (.inr e), rfl⟩, h2, ?_, ?_⟩
    · rintro (e | e)
      · exact h5 (.inl e.symm)
      · exact h3 e
    · funext k
      exact propext ⟨fun h => by rcases h with h | h | h <;> simp [h], fun h => by rcases h with h | h | h <;> simp [h]⟩

theorem left3 {w w' : World} {p q r : Nat} {F : Nat → Prop} {A : Arn} {tl gl : Int} (h : LeftT (RepS (RepTA Rep q tl)) w w' p r F A gl) : LeftT ((R3 Rep).rt r gl) w w' p q F A tl := by
  obtain ⟨G, g1, g2, g3⟩ := h
  exact ⟨G, swap3.2 g1, g2, g3⟩

theorem keepT (H : KeepC Rep) (q : Nat) (l : Int) : KeepC (RepTA Rep q l) := ⟨fun h hk hn => Tr.RepT.keep H h hk hn, fun h k hk => Tr.RepT.lt H h k hk⟩

theorem gaC_t (C : GaC Rep) (q : Nat) (l : Int) : GaC (RepTA Rep q l) where
  keep := keepT C.keep q l
  get := fun w p F A i h hg => by
    obtain ⟨Fa, h1, h2, h3, rfl⟩ := h
    exact C.get w p Fa A i h1 hg
  push := fun w p F A last i h hg hwr => by
    obtain ⟨Fa, h1, h2, h3, rfl⟩ := h
    refine (C.push w p Fa A last i h1 hg hwr).mono ?_
    rintro e w' ⟨rfl, n, hn, hz, hl⟩
    exact ⟨rfl, n, hn, hz, Tr.leftT_of h2 h3 hl⟩
  drop := fun w p F A last i h hg hwr => by
    obtain ⟨Fa, h1, h2, h3, rfl⟩ := h
    refine (C.drop w p Fa A last i h1 hg hwr).mono ?_
    rintro e w' ⟨rfl, n, hn, hz, hl⟩
    exact ⟨rfl, n, hn, hz, Tr.leftT_of h2 h3 hl⟩
  splice := fun w p F A one two h hg hwr => by
    obtain ⟨Fa, h1, h2, h3, rfl⟩ := h
    refine (C.splice w p Fa A one two h1 hg hwr).mono ?_
    rintro e w' ⟨rfl, n, hn, hz, hl⟩
    exact ⟨rfl, n, hn, hz, Tr.leftT_of h2 h3 hl⟩
  all := fun w p F A last h hg => by
    obtain ⟨Fa, h1, h2, h3, rfl⟩ := h
    exact C.all w p Fa A last h1 hg
  free := fun w p F A i h hg hwr hi => by
    obtain ⟨Fa, h1, h2, h3, rfl⟩ := h
    refine (C.free w p Fa A i h1 hg hwr hi).mono ?_
    rintro e w' ⟨rfl, hl⟩
    exact ⟨rfl, Tr.leftT_of h2 h3 hl⟩

theorem arC_s (C : GaC Rep) (CP : PutU Rep) (r : Nat) (gl : Int) : Tr.ArC ((RepS Rep).ar r gl) :=
  ⟨keepS C.keep r gl, getS C.get r gl, putS CP r gl, pushS C.push r gl, dropS C.drop r gl, allS C.all r gl⟩

theorem arC_g (C : GaC Rep) (CP : PutU Rep) : Tr.ArC Rep := ⟨C.keep, C.get, CP, C.push, C.drop, C.all⟩

/-- They meet the contracts. -/
theorem onceC_of (C : GaC Rep) (CP : PutU Rep) (CT : TakeC Rep) (CF : FreesC Rep) : OnceC Rep (Tr.RepT Rep) (R3 Rep) where
  keep := fun q l => keepT C.keep q l
  take := fun q l w p F A h hg => by
    obtain ⟨Fa, h1, h2, h3, rfl⟩ := h
    refine (CT w p Fa A h1 hg).mono ?_
    rintro e w' ⟨rfl, hl⟩
    exact ⟨rfl, Tr.leftT_of h2 h3 hl⟩
  put := fun q l w p F A i s h hg hwr _ => by
    obtain ⟨Fa, h1, h2, h3, rfl⟩ := h
    refine (CP w p Fa A i s h1 hg hwr).mono ?_
    rintro e w' ⟨rfl, hl⟩
    exact ⟨rfl, Tr.leftT_of h2 h3 hl⟩
  new := fun w p F A h hg => Tr.new_p (arC_g C CP) w p F A h hg
  add := fun w p q F A l i us ub h hg hwr _ _ _ => Tr.add_p (arC_g C CP) w p q F A l i us ub h hg hwr
  keep3 := fun q r tl gl => keepT (keepS C.keep r gl) q tl
  get3 := fun q r tl gl w p F A i h hg _ => by
    obtain ⟨Fa, h1, h2, h3, rfl⟩ := h
    exact getS C.get r gl w p Fa A i h1 hg
  frees3 := fun q r tl gl w p F A h hg => by
    obtain ⟨Fa, h1, h2, h3, rfl⟩ := h
    exact freesS CF r gl w p Fa A h1 hg
  newG := fun w p q F A tl h hg => by
    refine (new_s (keepT C.keep q tl) w p F A h).mono ?_
    rintro e w' ⟨r, G, rfl, g1, g2, g3⟩
    exact ⟨r, G, rfl, swap3.2 g1, g2, g3⟩
  cut2 := fun w p q F A tl i h hg hwr _ => by
    refine (Tr.cut_p (arC_g C CP) w p q F A tl i h hg hwr).mono ?_
    rintro e w' ⟨rfl, n, hn, _, hl⟩
    exact ⟨rfl, n, hn, hl⟩
  cut := fun w p q r F A tl gl i h hg hwr _ => by
    refine (Tr.cut_p (arC_s C CP r gl) w p q F A tl i h hg hwr).mono ?_
    rintro e w' ⟨rfl, n, hn, _, hl⟩
    exact ⟨rfl, n, hn, hl⟩
  addG := fun w p q r F A tl gl i h hg _ hwr _ => by
    refine (add_s (gaC_t C q tl) w p r F A gl i (swap3.1 h) hg hwr).mono ?_
    rintro e w' ⟨rfl, n, hn, _, hl⟩
    exact ⟨rfl, n, hn, left3 hl⟩
  unit := fun w p q r F A tl gl h hg hok hwr => by
    refine (unit_s (gaC_t C q tl) w p r F A gl (swap3.1 h) hg hok hwr).mono ?_
    rintro e w' ⟨rfl, n, hn, hl⟩
    exact ⟨rfl, n, hn, left3 hl⟩
  last := fun w p q r F A tl gl h => last_s w p r F A gl (swap3.1 h)
  all := fun q tl w p r F A gl h hg _ => all_s (gaC_t C q tl) w p r F A gl (swap3.1 h) hg
end

theorem onceP : OnceC RepP (Tr.RepT RepP) (R3 RepP) := onceC_of gacP put_u take_any frees_any
end Sp
end Go.Proofs.Ythabnombfbehkaa
