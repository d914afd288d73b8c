/- What was given back last is taken first, bare: out of what the program's calls must answer. -/
import Derived.Test.YtalpbciceogjlaaDoorArnM
namespace Go.Proofs.YtalpbciceogjlaaDoor
set_option linter.ambiguousOpen false
open Go.RowKit
namespace An
open Ft Lv
set_option linter.unusedSimpArgs false
set_option linter.unusedVariables false

/-- The bare slot, as a law builds it. -/
@[reducible] def bareA : Array Value := #[.bool false, .bool false, .int .i64 (-1), .int .i64 (-1), .int .i64 (-1), .int .i64 0, .int .i64 0, .int .i64 0, .int .i64 0, .int .i64 0, .string ⟨#[]⟩, .string ⟨#[]⟩, .int .u64 0, .int .i64 0, .int .i64 0, .int .i64 0, .int .i64 0]

theorem neq_bare (w : World) : (binOp .neq 36 (.agg bare.cells.toArray) (.agg bareA)).run Tryd.prog w = .ok (.bool false) w := neq_self bare w

/-- Ints that came in. -/
def RdZ (w : World) (v : Value) (l : List Int) : Prop :=
  ∃ a cap, v = .slice a l.length cap ∧ l.length ≤ cap ∧ cap ≤ maxLen ∧ (0 < l.length → ∃ g o, a = some ⟨g, o, none⟩ ∧ g < w.heap.size ∧ ∀ k i, l[k]? = some i → w.cell? ⟨g, o + k, none⟩ = some (nu i))

section
variable {Rep : World → Nat → (Nat → Prop) → Arn → Prop} {w0 w w' : World} {p X : Nat} {F : Nat → Prop} {A A' : Arn} {s : Slt} {lv lv' : Value} {bk bk' : List Nat}

/-- The arena; a slot in a variable, and the law's own list, which lie apart. -/
structure La (Rep : World → Nat → (Nat → Prop) → Arn → Prop) (w0 w : World) (p X : Nat) (F : Nat → Prop) (A : Arn) (s : Slt) (lv : Value) (bk : List Nat) : Prop where
  rep : Rep w p F A
  good : Good A
  fl : ∀ k, F k → w0.heap.size ≤ k
  bel : Below w0.heap.size w0 w
  lone : Lone w X s
  row : w.ownsRow w0.heap.size 3 1 lv bk.length (bk.map nun)
  offX : ¬ F X
  offR : ∀ k, lv.ownBlock = some k → ¬ F k
  xw : w0.heap.size ≤ X

theorem La.turn (h : La Rep w0 w p X F A s lv bk) (hl : Left Rep w w' p F A') (hg : Good A') : ∃ F', La Rep w0 w' p X F' A' s lv bk := by
  obtain ⟨F', h1, h2, h3⟩ := hl
  have lX := (Array.getElem?_eq_some_iff.1 h.lone).1
  refine ⟨F', h1, hg, fun k hk => (h3 k hk).elim (h.fl k) (fun e => Nat.le_trans h.bel.size e), h.bel.trans (h2.below (fun k hk hc => by have := h.fl k hc; omega) h.bel.size), (h2.block X lX h.offX).trans h.lone, h2.own h.row h.offR, fun e => ?_, fun k hk e => ?_, h.xw⟩
  · rcases h3 X e with h4 | h4
    · exact h.offX h4
    · omega
  · rcases h3 k e with h4 | h4
    · exact h.offR k hk h4
    · have := (h.row.lt k hk).2
      omega

theorem La.below (H : KeepC Rep) (h : La Rep w0 w p X F A s lv bk) (hb : Below w.heap.size w w') : La Rep w0 w' p X F A s lv bk :=
  ⟨H.below h.rep hb, h.good, h.fl, h.bel.trans (hb.mono h.bel.size), h.lone.below hb, (Keep.of_below (F := fun _ => False) hb).own h.row (fun _ _ h => h), h.offX, h.offR, h.xw⟩

/-- The law's list has grown. -/
theorem La.grown (H : KeepC Rep) (h : La Rep w0 w p X F A s lv bk) {g cap : Nat} (ho : w'.ownsRow w0.heap.size 3 1 (.slice (some ⟨g, 0, none⟩) bk'.length cap) bk'.length (bk'.map nun)) (hg : w.grownBy w' lv.ownBlock) (hat : lv.ownBlock = some g ∨ g = w.heap.size) : La Rep w0 w' p X F A s (.slice (some ⟨g, 0, none⟩) bk'.length cap) bk' := by
  have hK : Keep (fun j => lv.ownBlock = some j) w w' := ⟨hg.os, hg.tape, hg.output, hg.size, fun k hk hn => hg.block k hk (fun e => hn e.symm)⟩
  refine ⟨H.keep h.rep hK (fun k hk e => h.offR k e hk), h.good, h.fl, h.bel.trans (hK.below (fun k hk e => by have := (h.row.lt k e).1; omega) h.bel.size), (hK.block X (Array.getElem?_eq_some_iff.1 h.lone).1 (fun e => ?_)).trans h.lone, ho, h.offX, fun k hk e => ?_, h.xw⟩
  · obtain ⟨c, hc, _⟩ := own_cellsT h.row e
    have := h.lone
    unfold Lone at this
    rw [this] at hc
    simp at hc
  · obtain rfl : g = k := by simpa [Value.ownBlock] using hk
    rcases hat with h1 | h1
    · exact h.offR g h1 e
    · have := H.lt h.rep g e
      omega
end

theorem drop_range (i : Nat) (h : i < 32) : (List.range 32).drop i = i :: (List.range 32).drop (i + 1) := by
  rw [List.drop_eq_getElem_cons (by simpa using h)]
  simp

end An
end Go.Proofs.YtalpbciceogjlaaDoor
