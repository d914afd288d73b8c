/- The laws' own 'works'. -/
import Derived.Test.YteclbmmhidmklaaHepG
namespace Go.Proofs.Yteclbmmhidmklaa
set_option linter.ambiguousOpen false
open Go.RowKit
namespace Hh
open Ft
set_option linter.unusedSimpArgs false
set_option linter.unusedVariables false
attribute [local go_sem] Oper.semAt_some

def l3 : List It := [⟨2, 5⟩, ⟨0, 5⟩, ⟨3, -1⟩]

theorem fill_l3 : fill l3 = [⟨3, -1⟩, ⟨0, 5⟩, ⟨2, 5⟩] := by rfl

theorem rdq_three (w : World) (a b c d e f : Int) (g : Nat) (t : TypeId) (hg : w.heap[g]? = some (.cells #[nu a, nu b, nu c, nu d, nu e, nu f] t)) : RdQ w (.slice (some ⟨g, 0, none⟩) 3 3) [⟨a, b⟩, ⟨c, d⟩, ⟨e, f⟩] := by
  refine ⟨_, 3, rfl, by simp, by decide, fun _ => ⟨g, 0, rfl, (Array.getElem?_eq_some_iff.1 hg).1, fun n x hx => ?_⟩⟩
  rcases n with _ | _ | _ | n
  · simp at hx
    subst hx
    simp [World.cell?, hg]
  · simp at hx
    subst hx
    simp [World.cell?, hg]
  · simp at hx
    subst hx
    simp [World.cell?, hg]
  · simp at hx

set_option maxRecDepth 1000000 in
set_option maxHeartbeats 4000000 in
theorem works_any {R : RepHT} (C : HeapB R) (w : World) : Calls Try.prog 6 #[] w fun e w' => e = .returned (.bool true) ∧ Below w.heap.size w w' := by
  obtain ⟨w1, hw1⟩ : ∃ w1, w.alloc (.cells #[nu 2, nu 5, nu 0, nu 5, nu 3, nu (-1)] 41) = w1 := ⟨_, rfl⟩
  have hb1 : Below w.heap.size w w1 := by rw [← hw1]; exact (Below.refl _ _).alloc (Nat.le_refl _) _
  have hg1 : w1.heap[w.heap.size]? = some (.cells #[nu 2, nu 5, nu 0, nu 5, nu 3, nu (-1)] 41) := by rw [← hw1]; exact heap_alloc_new _ _
  have c1 := Hid.mk' (filled_any C _ l3 w1 (rdq_three w1 2 5 0 5 3 (-1) w.heap.size _ hg1) (by
    intro x hx
    unfold l3 at hx
    simp only [List.mem_cons, List.not_mem_nil, or_false] at hx
    rcases hx with rfl | rfl | rfl <;> (unfold I64; dsimp only; omega)))
  rw [fill_l3] at c1
  have HB1 := Hid.mk' hb1
  clear hb1 hg1
  go_enter Try.func6, Try.ntmps6
  go_wp2_with fail
  refine c1.out.mono ?_
  rintro e w2 ⟨p, F, rfl, h2, f2, b2⟩
  have hk : Hk 64 [⟨3, -1⟩, ⟨0, 5⟩, ⟨2, 5⟩] := by rw [← fill_l3]; exact fill_good _
  have c2 := Hid.mk' (C.least w2 p F 64 _ h2 hk (by decide))
  have c3 : Hid (∀ wx, Below w2.heap.size w2 wx → Calls Try.prog 10 #[ptr p] wx fun e w' => e = .returned (nun 3) ∧ Below wx.heap.size wx w') := fun wx hb => C.len wx p F 64 _ (HeapB.below C h2 hb)
  have HB2 := Hid.mk' (HB1.out.trans (b2.mono HB1.out.size))
  clear h2 f2 b2 hk c1
  go_wp2_with fail
  refine c2.out.mono ?_
  rintro e w3 ⟨rfl, b3⟩
  have c4 := Hid.mk' (c3.out w3 b3)
  have HB3 := Hid.mk' (HB2.out.trans (b3.mono HB2.out.size))
  clear b3 c2 c3
  simp only [fstI, fstK, List.isEmpty_cons, Bool.not_false]
  go_wp2_with fail
  refine c4.out.mono ?_
  rintro e w4 ⟨rfl, b4⟩
  have HB4 := Hid.mk' (HB3.out.trans (b4.mono HB3.out.size))
  clear b4 c4
  go_wp2
  go_ret
  exact ⟨rfl, HB4.out⟩
end Hh
end Go.Proofs.Yteclbmmhidmklaa
