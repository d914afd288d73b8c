/- Words of bytes, in the program and in the document's answer. -/
import Derived.Test.YtfflmpmhacfijaaDoorRowB
namespace Go.Proofs.YtfflmpmhacfijaaDoor
set_option linter.ambiguousOpen false
open Go.RowKit
namespace Tg
open Sm
set_option linter.unusedSimpArgs false
set_option linter.unusedVariables false

def lowK (l : List UInt8) : Nat → Int
  | 0 => 0
  | k + 1 => bits .or .u64 (lowK l k) (IntKind.u64.wrap (((byI l k).toNat : Int) * 2 ^ (8 * k)))

theorem byI_at (l : List UInt8) (k : Nat) (h : k < l.length) : byI l k = l[k] := by
  unfold byI
  rw [List.getD_eq_getElem?_getD, List.getElem?_eq_getElem h]; rfl

theorem lowK_succ (l : List UInt8) (k : Nat) (h : k < l.length) : lowK l (k + 1) = bits .or .u64 (lowK l k) (IntKind.u64.wrap ((l[k].toNat : Int) * 2 ^ (8 * k))) := by
  show bits .or .u64 (lowK l k) (IntKind.u64.wrap (((byI l k).toNat : Int) * 2 ^ (8 * k))) = _
  rw [byI_at l k h]

set_option maxHeartbeats 1000000 in
theorem word_any (v : Value) (l : List UInt8) (w : World) (h : RdB w v l) (hl : l.length ≤ 8) :
    Calls Tryd.prog 19 #[v] w fun e w' => e = .returned (.int .u64 (lowK l l.length)) ∧ w' = w := by
  obtain ⟨a, cap, rfl, hc, hm, hcell⟩ := h
  unfold maxLen at hm
  have HC : Hid (0 < l.length → ∃ g o, a = some ⟨g, o, none⟩ ∧ g < w.heap.size ∧ ∀ j (hj : j < l.length), w.cell? ⟨g, o + j, none⟩ = some (by1 l[j])) := hcell
  clear hcell
  go_enter Tryd.func19, Tryd.ntmps19
  go_wp2
  go_loopw [3, 4, 5, 8] (fun nv i4 c5 i wr => ∃ k : Nat, k ≤ l.length ∧ i = nu k ∧ nv = .int .u64 (lowK l k) ∧ Hid (wr = w)) (fun _ _ _ i _ => l.length - (intOf i).toNat)
  case atStart => exact ⟨0, by omega, rfl, rfl, rfl⟩
  case round =>
    obtain ⟨k, hk, rfl, rfl, hwr⟩ := hrel
    by_cases hq : k < l.length
    · obtain ⟨g, o, rfl, _, hx⟩ := HC.out (by omega)
      have hcx : wr.cell? ⟨g, o + k, none⟩ = some (by1 l[k]) := by rw [hwr.out]; exact hx k hq
      have HS := Hid.mk' (lowK_succ l k hq)
      clear HC hx
      generalize l[k] = x at *
      have hxl := byte_lt x
      unfold by1 at *
      generalize x.toNat = xn at *
      go_wp2
      go_roundw
      case rel => exact ⟨k + 1, by omega, by go_num, by rw [HS.out], hwr⟩
      case measure => simp [intOf]; omega
    · obtain rfl : k = l.length := by omega
      go_wp2
      go_ret
      exact ⟨rfl, hwr.out⟩

set_option maxHeartbeats 1000000 in
theorem low_any (v : Value) (l : List UInt8) (w : World) (h : RdB w v l) (hl : l.length ≤ 8) :
    Calls Tryd.prog 25 #[v] w fun e w' => e = .returned (.int .u64 (lowK l l.length)) ∧ w' = w := by
  obtain ⟨a, cap, rfl, hc, hm, hcell⟩ := h
  unfold maxLen at hm
  have HC : Hid (0 < l.length → ∃ g o, a = some ⟨g, o, none⟩ ∧ g < w.heap.size ∧ ∀ j (hj : j < l.length), w.cell? ⟨g, o + j, none⟩ = some (by1 l[j])) := hcell
  clear hcell
  go_enter Tryd.func25, Tryd.ntmps25
  go_wp2
  go_loopw [3, 4] (fun nv i wr => ∃ k : Nat, k ≤ l.length ∧ i = nu k ∧ nv = .int .u64 (lowK l k) ∧ Hid (wr = w)) (fun _ i _ => l.length - (intOf i).toNat)
  case atStart => exact ⟨0, by omega, rfl, rfl, rfl⟩
  case round =>
    obtain ⟨k, hk, rfl, rfl, hwr⟩ := hrel
    by_cases hq : k < l.length
    · obtain ⟨g, o, rfl, _, hx⟩ := HC.out (by omega)
      have hcx : wr.cell? ⟨g, o + k, none⟩ = some (by1 l[k]) := by rw [hwr.out]; exact hx k hq
      have HS := Hid.mk' (lowK_succ l k hq)
      have h8 : k < 8 := by omega
      clear HC hx
      generalize l[k] = x at *
      have hxl := byte_lt x
      unfold by1 at *
      generalize x.toNat = xn at *
      go_wp2
      go_roundw
      case rel => exact ⟨k + 1, by omega, by go_num, by rw [HS.out], hwr⟩
      case measure => simp [intOf]; omega
    · obtain rfl : k = l.length := by omega
      go_wp2
      go_ret
      exact ⟨rfl, hwr.out⟩
end Tg
end Go.Proofs.YtfflmpmhacfijaaDoor
