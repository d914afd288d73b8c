import Derived.Test.YtcleeidfiaafcaaDoorTreX
/- The outright law's own row of all below a slot. -/
namespace Go.Proofs.YtcleeidfiaafcaaDoor
set_option linter.ambiguousOpen false
open Go.RowKit
namespace Tr
open An Rg Ft Lv
set_option linter.unusedSimpArgs false
set_option linter.unusedVariables false
attribute [local go_sem] Oper.semAt_some

/-- All below a slot, as parents were chosen. -/
@[irreducible] def preU (up : List Int) (cut : Int) (f i : Nat) : List Nat := pre (fun j => kidsU up j cut) f i

theorem preU_succ (up : List Int) (cut : Int) (f i : Nat) : preU up cut (f + 1) i = i :: (kidsU up i cut).flatMap (preU up cut f) := by
  have : preU up cut f = pre (fun j => kidsU up j cut) f := by funext j; unfold preU; rfl
  rw [this]
  unfold preU
  rfl

theorem preU_few {up : List Int} (hu : Ups up) (hup : up.length ≤ 32) (cut : Int) (f i : Nat) (hi : i < up.length) : (preU up cut f i).length ≤ 32 := by
  unfold preU
  obtain ⟨h1, h2⟩ := preU_ok hu hup cut f i hi
  exact nodup_few 32 _ h1 h2

theorem own_bel {w w' : World} {base : Nat} {e : TypeId} {size : Nat} {v : Value} {n : Nat} {xs : List Value} (h : w.ownsRow base e size v n xs) (hb : Below w.heap.size w w') : w'.ownsRow base e size v n xs := (Keep.of_below (F := fun _ => False) hb).own h (fun _ _ h => h)

theorem one_row (w : World) (i : Nat) : (w.alloc (.cells #[nun i] 3)).ownsRow w.heap.size 3 1 (.slice (some ⟨w.heap.size, 0, none⟩) 1 1) 1 ([i].map nun) := by
  have := World.ownsRow_lit (size := 1) (e := 3) w #[nun i] 1 (base := w.heap.size) (Nat.le_refl _) (by unfold maxLen; omega) (by simp)
  simpa using this

end Tr
end Go.Proofs.YtcleeidfiaafcaaDoor
