/- The document's answer for tokens: its form. -/
import Derived.Test.YtkkpcngdpnoidaaRef8
import Derived.Laws.OwnMore
namespace Go.Proofs.Ytkkpcngdpnoidaa
set_option linter.ambiguousOpen false
open Go.RowKit
namespace Tk
open Sm
set_option linter.unusedSimpArgs false
set_option linter.unusedVariables false

theorem below_to' {w a b : World} (h : Below w.heap.size w a) (k : Below a.heap.size a b) : Below w.heap.size w b := h.trans (k.mono h.size)

/-- A token as the program holds it. -/
@[reducible] def tok (s b t : Int) : Value := .agg #[nu s, nu b, u8v t]

/-- May a token be? -/
def mayB (s b : Int) : Bool := decide (0 ≤ s ∧ s < 32 ∧ 1 ≤ b ∧ b ≤ 1048576)

theorem tok_cells {w : World} {g : Nat} {s b t : Int} (h : w.heap[g]? = some (.cells #[nu s, nu b, u8v t] 24)) : w.cell? ⟨g, 0, none⟩ = some (nu s) ∧ w.cell? ⟨g, 1, none⟩ = some (nu b) ∧ w.cell? ⟨g, 2, none⟩ = some (u8v t) := by
  simp [World.cell?, h]

/-- The form of a token. -/
def form (s b t : Nat) : List UInt8 := 116 :: (dg (num s b t) 20).map lt

theorem form_len (s b t : Nat) : (form s b t).length = 21 := by simp [form, dg_len]

/-- The hundred bits of a token. -/
def hund (s b t : Nat) : List Bool := ((bl s 8 ++ bl b 24) ++ bl t 64) ++ bl 0 4

theorem hund_len (s b t : Nat) : (hund s b t).length = 100 := by simp [hund, bl_len]

theorem nb_hund (s b t : Nat) (hs : s < 256) (hb : b < 16777216) (ht : t < 18446744073709551616) : nb (hund s b t) = num s b t := by
  unfold hund num
  rw [nb_append, nb_append, nb_append, nb_bl, nb_bl, nb_bl, nb_bl, bl_len, bl_len, bl_len]
  simp only [Nat.reducePow]
  omega

theorem digit_at (s b t k : Nat) (hs : s < 256) (hb : b < 16777216) (ht : t < 18446744073709551616) (hk : k < 20) : (dg (num s b t) 20)[k]? = some (nb (((hund s b t).drop (5 * k)).take 5)) := by
  rw [dg_at _ _ _ hk, nb_part _ _ _ (by rw [hund_len]; omega), nb_hund s b t hs hb ht, hund_len]
  rw [show (32 : Nat) ^ (20 - 1 - k) = 2 ^ (100 - 5 * k - 5) by rw [show (32 : Nat) = 2 ^ 5 from rfl, ← Nat.pow_mul]; congr 1; omega]

theorem conv_backG {w : World} {base : Nat} {v : Value} {l : List UInt8} {n : Nat} (hl : l.length = n) (hn : 0 < n) (h : w.ownsRow base 5 1 v n (l.map by1)) : (convert 44 9 v).run Try.prog w = .ok (.string (tx l)) w := by
  obtain ⟨a, cap, e, h1, h2, h3⟩ := own_rd' h hl
  obtain ⟨g, o, rfl, hg, hc⟩ := h3 (by rw [hl]; exact hn)
  subst e
  exact run_convert_bytes_back w 44 9 5 ⟨g, o, none⟩ cap l Try.underlying44 Try.underlying5 Try.underlying9 (fun j hj => by
    have := hc j hj
    rw [← this]
    unfold Addr.add
    by_cases h0 : j = 0
    · subst h0; simp
    · simp [h0])

/-- The hundred bits are laid. -/
theorem frm_take (D : List Nat) (k d : Nat) (h : D[k]? = some d) : (116 :: D.map lt).take (k + 1 + 1) = (116 :: D.map lt).take (k + 1) ++ [lt d] := by
  obtain ⟨hk, rfl⟩ := List.getElem?_eq_some_iff.1 h
  have h1 : k + 1 < (116 :: D.map lt).length := by simp; omega
  rw [List.take_succ_eq_append_getElem h1]
  simp

theorem form_step (s b t k : Nat) (hs : s < 256) (hb : b < 16777216) (ht : t < 18446744073709551616) (hk : k < 20) : (form s b t).take (k + 1 + 1) = (form s b t).take (k + 1) ++ [lt (nb (((hund s b t).drop (5 * k)).take 5))] :=
  frm_take _ k _ (digit_at s b t k hs hb ht hk)

end Tk
end Go.Proofs.Ytkkpcngdpnoidaa
