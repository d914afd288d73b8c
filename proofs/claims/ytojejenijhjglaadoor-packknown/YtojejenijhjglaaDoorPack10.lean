/- The program's pack answers as 'Says' asks. -/
import Derived.Test.YtojejenijhjglaaDoorFaceP10
namespace Go.Proofs.YtojejenijhjglaaDoor
set_option linter.ambiguousOpen false
open Go.RowKit
namespace Pk
namespace Pp
open Sm Ft
set_option linter.unusedSimpArgs false
set_option linter.unusedVariables false

theorem open_any (w : World) (v : Value) (b : List UInt8) (h : RdB w v b) (hl : b.length ≤ 140737488351232) :
    Calls Tryd.prog 6 #[v] w fun e w' => ∃ p F, e = .returned (ptr p) ∧ RR w' p F b ∧ (∀ k, F k → w.heap.size ≤ k) ∧ Below w.heap.size w w' := by
  have hcv := conv_rd h
  obtain ⟨a, cap, rfl, _⟩ := h
  go_enter Tryd.func6, Tryd.ntmps6
  go_wp2
  go_ret
  exact ⟨w.heap.size, _, rfl, ⟨⟨heap_alloc_new _ _, hl⟩, rfl⟩, fun k hk => by subst hk; exact Nat.le_refl _, (Below.refl _ _).alloc (Nat.le_refl _) _⟩

theorem left_any (w : World) (p : Nat) (l : List UInt8) (h : Rd w p l) :
    Calls Tryd.prog 9 #[ptr p] w fun e w' => e = .returned (nu (l.length : Int)) ∧ Below w.heap.size w w' := by
  obtain ⟨q0, qf⟩ := h.cells
  have hs : (tx l).size = l.length := rfl
  have hsz := h.sz
  obtain ⟨f, hf⟩ : ∃ f, tx l = f := ⟨_, rfl⟩
  rw [hf] at q0 hs
  clear hf h
  go_enter Tryd.func9, Tryd.ntmps9
  go_wp2
  go_ret
  exact ⟨rfl, Below.refl _ _⟩

theorem end_any (w : World) (p : Nat) (l : List UInt8) (h : Rd w p l) :
    Calls Tryd.prog 11 #[ptr p] w fun e w' => e = .returned (errE (if l.length = 0 then 0 else 3)) ∧ Below w.heap.size w w' := by
  obtain ⟨q0, qf⟩ := h.cells
  clear h
  cases l with
  | nil =>
    have q1 : w.cell? ⟨p, 0, none⟩ = some (.string ⟨#[]⟩) := q0
    clear q0
    go_enter Tryd.func11, Tryd.ntmps11
    go_wp2
    go_ret
    exact ⟨rfl, Below.refl _ _⟩
  | cons x l =>
    have hne : (tx (x :: l)).toList.isEmpty = false := by
      rw [ByteArray.toList_eq]
      rfl
    obtain ⟨f, hf⟩ : ∃ f, tx (x :: l) = f := ⟨_, rfl⟩
    rw [hf] at q0 hne
    clear hf
    go_enter Tryd.func11, Tryd.ntmps11
    go_wp2
    go_ret
    exact ⟨rfl, Below.refl _ _⟩

theorem says : Says RW RR where
  keepW := by
    rintro w w' p F G l ⟨v, h, rfl⟩ hk hn
    exact ⟨v, h.keep hk hn, rfl⟩
  ltW := by
    rintro w p F l ⟨v, h, rfl⟩ k hk
    exact h.lt k hk
  keepR := by
    rintro w w' p F G l ⟨h, rfl⟩ hk hn
    exact ⟨h.keep hk (hn p rfl), rfl⟩
  ltR := by
    rintro w p F l ⟨h, rfl⟩ k hk
    rw [show k = p from hk]
    exact h.lt
  new := new_any
  number := by
    rintro w p F l n ⟨v, h, rfl⟩ hn hl
    refine (number_put w p v l n h hn hl).mono ?_
    rintro e w' ⟨hu, v', a, b, c⟩
    exact ⟨hu, _, ⟨v', a, rfl⟩, b, goes_moves c⟩
  text := by
    rintro w p F l s ⟨v, h, rfl⟩ hl
    refine (text_put w p v l s h hl).mono ?_
    rintro e w' ⟨hu, v', a, b, c⟩
    exact ⟨hu, _, ⟨v', a, rfl⟩, b, goes_moves c⟩
  bytes := by
    rintro w p F l ⟨v, h, rfl⟩ hl
    exact bytes_put w p v l h hl
  open_ := open_any
  left := by
    rintro w p F l ⟨h, rfl⟩
    exact left_any w p l h
  end_ := by
    rintro w p F l ⟨h, rfl⟩
    exact end_any w p l h
  rnum := by
    rintro w p F l ⟨h, rfl⟩
    refine (num_face w p l h).mono ?_
    rintro e w' ⟨a, b, c⟩
    exact ⟨a, _, ⟨b, rfl⟩, c, Goes.refl _ _⟩
  rtext := by
    rintro w p F l m ⟨h, rfl⟩ hm
    refine (txtR_face w p l m m.toNat rfl h hm).mono ?_
    rintro e w' ⟨a, b, c⟩
    exact ⟨a, _, ⟨b, rfl⟩, c, Goes.refl _ _⟩
end Pp
end Pk
end Go.Proofs.YtojejenijhjglaaDoor
