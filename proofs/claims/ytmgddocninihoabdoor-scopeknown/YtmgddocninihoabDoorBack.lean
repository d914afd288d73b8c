/- The walk of ScopeBack. -/
import Derived.Test.YtmgddocninihoabDoorWorks
namespace Go.Proofs.YtmgddocninihoabDoor
set_option linter.ambiguousOpen false
open Go.RowKit Nm Er
namespace Sc
set_option linter.unusedSimpArgs false
set_option linter.unusedVariables false

theorem Mp.facts {w : World} {pb mb : Nat} {l : List (List UInt8)} (h : Mp w pb mb l) : l.Nodup ∧ (∀ p ∈ l, dottedB p = true) := by obtain ⟨_, ⟨D, hD, _⟩, _⟩ := h; exact ⟨hD.nodup, hD.dotted⟩
theorem tab_below {w w' : World} (hT : Bt.Tab w) (h1 : 1 < w.heap.size) (hb : Below w.heap.size w w') : Bt.Tab w' ∧ 1 < w'.heap.size :=
  ⟨fun j hj => (hb.cell (p := ⟨1, j, none⟩) h1).trans (hT j hj), Nat.lt_of_lt_of_le h1 hb.size⟩
theorem print_len {l : List (List UInt8)} (hd : ∀ p ∈ l, dottedB p = true) (s : Nat) : (printL l s).length ≤ 8448 := by
  have h1 := outP_len l (fun p hp => dotted_len (hd p hp)) (Bt.numsL s 64)
  have h2 := Bt.ones_le s
  rw [Bt.numsL_len] at h1
  unfold printL
  omega

/-- Parse of any text. -/
def parseT (l : List (List UInt8)) (t : List UInt8) : Nat × Value := if 4096 < t.length then (0, noV 3) else ((parseG l 0 (wordsL 0 t)).1, errP (parseG l 0 (wordsL 0 t)).2.1 (parseG l 0 (wordsL 0 t)).2.2)
theorem parse_t (pb mb : Nat) (l : List (List UInt8)) (t : List UInt8) (w : World) (hM : Mp w pb mb l) (hm : t.length ≤ maxLen) :
    Calls Tryd.prog 6 #[.pointer (some ⟨pb, 0, none⟩), .string (B t)] w fun e w' => e = .returned (.tuple #[Bt.st (parseT l t).1, (parseT l t).2]) ∧ Below w.heap.size w w' := by
  unfold parseT
  by_cases h : 4096 < t.length
  · rw [if_pos h]; exact parse_long pb mb l t w hM h hm
  · rw [if_neg h]; exact parse_s pb mb l t w hM (by omega)
/-- An answer of Parse: an error and the empty set, or none and a set of the book's. -/
theorem parseT_cases (l : List (List UInt8)) (t : List UInt8) (h64 : l.length ≤ 64) : (∃ ty v, parseT l t = (0, .iface ty v)) ∨ ∃ x, parseT l t = (x, .nilIface) ∧ x < 18446744073709551616 ∧ Bt.less x (allS l.length) = 0 := by
  unfold parseT
  split
  · exact .inl ⟨_, _, rfl⟩
  · have h2 := parse_within l h64 (wordsL 0 t)
    have h3 := parseG_lt l h64 (wordsL 0 t) 0 (by decide)
    rcases parseG_no l (wordsL 0 t) 0 with h | ⟨h, h4 | h4⟩
    · refine .inr ⟨_, ?_, h3, h2⟩
      rw [h]; rfl
    · refine .inl ⟨_, _, by rw [h, h4]; rfl⟩
    · refine .inl ⟨_, _, by rw [h, h4]; rfl⟩
theorem parseT_print {l : List (List UInt8)} (hn : l.Nodup) (hd : ∀ p ∈ l, dottedB p = true) (h64 : l.length ≤ 64) (s : Nat) (hs : s < 18446744073709551616) (hw : Bt.less s (allS l.length) = 0) (h : (printL l s).length ≤ 4096) : parseT l (printL l s) = (s, .nilIface) := by
  unfold parseT
  rw [if_neg (by omega), parse_print hn hd h64 s hs hw]
  rfl

end Sc
end Go.Proofs.YtmgddocninihoabDoor
