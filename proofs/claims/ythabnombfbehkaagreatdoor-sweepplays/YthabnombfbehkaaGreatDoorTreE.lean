import Derived.Test.YthabnombfbehkaaGreatDoorTreC
import Derived.Test.YthabnombfbehkaaGreatDoorRngG
import Derived.Test.YthabnombfbehkaaGreatDoorTreB
/- The program's trees: how one lies; what a slot holds, what is wrong with it, whether a parent is there. -/
namespace Go.Proofs.YthabnombfbehkaaGreatDoor
set_option linter.ambiguousOpen false
open Go.RowKit
namespace Tr
open An Rg Ft Lv
set_option linter.unusedSimpArgs false
set_option linter.unusedVariables false

/-- What the arena and the rings answer. -/
structure ArC (Rep : World → Nat → (Nat → Prop) → Arn → Prop) : Prop where
  keep : KeepC Rep
  get : GetU Rep
  put : PutU Rep
  push : PushU Rep
  drop : DropU Rep
  all : AllU Rep

section
variable {Rep : World → Nat → (Nat → Prop) → Arn → Prop} {w w' : World} {p q : Nat} {F : Nat → Prop} {A A' : Arn} {l : Int}

end


/-! ### What a slot holds -/

theorem lone_there {w : World} {b : Nat} {x : Slt} (h : Lone w b x) : w.there b 0 17 := fun j hj => by
  rw [Nat.zero_add, cell_of_row w b j _ _ _ h]
  have : x.cells.toArray.size = 17 := by simp [Slt.len]
  exact ⟨by simp [this, hj], lone_open h j⟩

theorem lone_cells {w : World} {b : Nat} {y : Slt} (h : Lone w b y) (x : Slt) : Lone (w.setCells b 0 x.cells) b x := by
  obtain ⟨C', e1, e2⟩ := heap_setCells b _ x.cells 0 w y.cells.toArray h (by simp [Slt.len])
  unfold Lone
  rw [e1]
  refine congrArg (fun c => some (Obj.cells c 50 (0, 0))) (Array.toList_inj.1 ?_)
  rw [e2, Slt.len]
  simp [Slt.len]

theorem lone_kids {w : World} {b : Nat} {x : Slt} (h : Lone w b x) (a : Int) : Lone (w.setCell ⟨b, 2, none⟩ (nu a)) b { x with kids := a } := by
  unfold Lone at h ⊢
  rw [heap_setCell_same _ b 2 _ _ _ h]
  rfl

theorem lone_up {w : World} {b : Nat} {x : Slt} (h : Lone w b x) (us ub : Int) : Lone ((w.setCell ⟨b, 7, none⟩ (nu us)).setCell ⟨b, 8, none⟩ (nu ub)) b (hung x us ub) := by
  have h1 : (w.setCell ⟨b, 7, none⟩ (nu us)).heap[b]? = some (.cells (x.cells.toArray.setIfInBounds 7 (nu us)) 50) := by
    unfold Lone at h
    rw [heap_setCell_same _ b 7 _ _ _ h]
  unfold Lone
  rw [heap_setCell_same _ b 8 _ _ _ h1]
  rfl

theorem at_there {A : Arn} {i : Int} (h : there i) : A.at i = at' A.sl i := by
  unfold Arn.at at'
  rw [if_pos h]

section
variable {Rep : World → Nat → (Nat → Prop) → Arn → Prop}

end
end Tr
end Go.Proofs.YthabnombfbehkaaGreatDoor
