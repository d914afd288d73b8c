/- What the program's pack answers, call by call (for programs that do not reach all of its calls). -/
import Derived.Test.YtnllplholfhbdaaDoorFaceP10
namespace Go.Proofs.YtnllplholfhbdaaDoor
set_option linter.ambiguousOpen false
open Go.RowKit
namespace Pk
namespace Pp
open Sm Ft
set_option linter.unusedSimpArgs false
set_option linter.unusedVariables false

theorem open_any (w : World) (v : Value) (b : List UInt8) (h : RdB w v b) (hl : b.length ≤ 140737488351232) :
    Calls Tryd.prog 36 #[v] w fun e w' => ∃ p F, e = .returned (ptr p) ∧ RR w' p F b ∧ (∀ k, F k → w.heap.size ≤ k) ∧ Below w.heap.size w w' := by
  have hcv := conv_rd h
  obtain ⟨a, cap, rfl, _⟩ := h
  go_enter Tryd.func36, Tryd.ntmps36
  go_wp2
  go_ret
  exact ⟨w.heap.size, _, rfl, ⟨⟨heap_alloc_new _ _, hl⟩, rfl⟩, fun k hk => by subst hk; exact Nat.le_refl _, (Below.refl _ _).alloc (Nat.le_refl _) _⟩

theorem end_any (w : World) (p : Nat) (l : List UInt8) (h : Rd w p l) :
    Calls Tryd.prog 38 #[ptr p] w fun e w' => e = .returned (errE (if l.length = 0 then 0 else 3)) ∧ Below w.heap.size w w' := by
  obtain ⟨q0, qf⟩ := h.cells
  clear h
  cases l with
  | nil =>
    have q1 : w.cell? ⟨p, 0, none⟩ = some (.string ⟨#[]⟩) := q0
    clear q0
    go_enter Tryd.func38, Tryd.ntmps38
    go_wp2
    go_ret
    exact ⟨rfl, Below.refl _ _⟩
  | cons x l =>
    have hne : (tx (x :: l)).toList.isEmpty = false := by
      rw [ByteArray.toList_eq]
      rfl
    obtain ⟨f, hf⟩ : ∃ f, tx (x :: l) = f := ⟨_, rfl⟩
    rw [hf] at q0 hne
    clear hf
    go_enter Tryd.func38, Tryd.ntmps38
    go_wp2
    go_ret
    exact ⟨rfl, Below.refl _ _⟩

theorem keepW {w w' : World} {p : Nat} {F G : Nat → Prop} {l : List UInt8} (h : RW w p F l) (hk : Keep G w w') (hn : ∀ k, F k → ¬ G k) : RW w' p F l := by
  obtain ⟨v, h, rfl⟩ := h
  exact ⟨v, h.keep hk hn, rfl⟩

theorem ltW {w : World} {p : Nat} {F : Nat → Prop} {l : List UInt8} (h : RW w p F l) : ∀ k, F k → k < w.heap.size := by
  obtain ⟨v, h, rfl⟩ := h
  exact fun k hk => h.lt k hk

theorem keepR {w w' : World} {p : Nat} {F G : Nat → Prop} {l : List UInt8} (h : RR w p F l) (hk : Keep G w w') (hn : ∀ k, F k → ¬ G k) : RR w' p F l := by
  obtain ⟨h, rfl⟩ := h
  exact ⟨h.keep hk (hn p rfl), rfl⟩

theorem ltR {w : World} {p : Nat} {F : Nat → Prop} {l : List UInt8} (h : RR w p F l) : ∀ k, F k → k < w.heap.size := by
  obtain ⟨h, rfl⟩ := h
  intro k hk
  rw [show k = p from hk]
  exact h.lt

theorem number_rw (w : World) (p : Nat) (F : Nat → Prop) (l : List UInt8) (v : Nat) (h : RW w p F l) (hn : v < 18446744073709551616) (hl : (l ++ sev v).length ≤ 140737488351232) : Calls Tryd.prog 27 #[ptr p, u6 v] w fun e w' => (∃ u, e = .returned u) ∧ ∃ F', RW w' p F' (l ++ sev v) ∧ Keep F w w' ∧ Goes w F F' := by
  obtain ⟨v', h, rfl⟩ := h
  refine (number_put w p v' l v h hn hl).mono ?_
  rintro e w' ⟨hu, v', a, b, c⟩
  exact ⟨hu, _, ⟨v', a, rfl⟩, b, goes_moves c⟩

theorem text_rw (w : World) (p : Nat) (F : Nat → Prop) (l s : List UInt8) (h : RW w p F l) (hl : (l ++ txt s).length ≤ 140737488351232) : Calls Tryd.prog 101 #[ptr p, .string (tx s)] w fun e w' => (∃ u, e = .returned u) ∧ ∃ F', RW w' p F' (l ++ txt s) ∧ Keep F w w' ∧ Goes w F F' := by
  obtain ⟨v, h, rfl⟩ := h
  refine (text_put w p v l s h hl).mono ?_
  rintro e w' ⟨hu, v', a, b, c⟩
  exact ⟨hu, _, ⟨v', a, rfl⟩, b, goes_moves c⟩

theorem bytes_rw (w : World) (p : Nat) (F : Nat → Prop) (l : List UInt8) (h : RW w p F l) (hl : l.length ≤ 140737488351232) : Calls Tryd.prog 28 #[ptr p] w fun e w' => ∃ v, e = .returned v ∧ w'.ownsRow w.heap.size 5 1 v l.length (l.map by1) ∧ Below w.heap.size w w' := by
  obtain ⟨v, h, rfl⟩ := h
  exact bytes_put w p v l h hl

theorem end_rw (w : World) (p : Nat) (F : Nat → Prop) (l : List UInt8) (h : RR w p F l) : Calls Tryd.prog 38 #[ptr p] w fun e w' => e = .returned (errE (if l.length = 0 then 0 else 3)) ∧ Below w.heap.size w w' := by
  obtain ⟨h, rfl⟩ := h
  exact end_any w p l h

theorem rnum_rw (w : World) (p : Nat) (F : Nat → Prop) (l : List UInt8) (h : RR w p F l) : Calls Tryd.prog 63 #[ptr p] w fun e w' => e = .returned (.tuple #[u6 (num l).1, errE (num l).2.2]) ∧ ∃ F', RR w' p F' (l.drop (num l).2.1) ∧ Keep F w w' ∧ Goes w F F' := by
  obtain ⟨h, rfl⟩ := h
  refine (num_face w p l h).mono ?_
  rintro e w' ⟨a, b, c⟩
  exact ⟨a, _, ⟨b, rfl⟩, c, Goes.refl _ _⟩

theorem rtext_rw (w : World) (p : Nat) (F : Nat → Prop) (l : List UInt8) (m : Int) (h : RR w p F l) (hm : -9223372036854775808 ≤ m ∧ m ≤ 9223372036854775807) : Calls Tryd.prog 64 #[ptr p, nu m] w fun e w' => e = .returned (.tuple #[.string (tx (taken l m.toNat).1), errE (taken l m.toNat).2.2]) ∧ ∃ F', RR w' p F' (l.drop (taken l m.toNat).2.1) ∧ Keep F w w' ∧ Goes w F F' := by
  obtain ⟨h, rfl⟩ := h
  refine (txtR_face w p l m m.toNat rfl h hm).mono ?_
  rintro e w' ⟨a, b, c⟩
  exact ⟨a, _, ⟨b, rfl⟩, c, Goes.refl _ _⟩
end Pp
end Pk
end Go.Proofs.YtnllplholfhbdaaDoor
