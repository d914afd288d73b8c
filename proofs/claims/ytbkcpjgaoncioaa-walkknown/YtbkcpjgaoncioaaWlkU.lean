/- WalkKnown's lines: out of the contracts. -/
import Derived.Test.YtbkcpjgaoncioaaWlkK
namespace Go.Proofs.Ytbkcpjgaoncioaa
set_option linter.ambiguousOpen false
open Go.RowKit
namespace Wk
open An Ft Lv
set_option linter.unusedSimpArgs false
set_option linter.unusedVariables false

theorem own_rdW {w : World} {base n : Nat} {v : Value} {l : List Int} (h : w.ownsRow base 3 1 v n (l.map nu)) : RdW w v l := by
  have hn := h.1
  rw [List.length_map, Nat.mul_one] at hn
  subst hn
  obtain ⟨a, cap, rfl, h1, h2, h3⟩ := Nm.own_shape h
  refine ⟨a, cap, rfl, h1, h2, fun h0 => ?_⟩
  obtain ⟨g, rfl⟩ := h3 h0
  refine ⟨g, 0, rfl, (h.lt g rfl).2, fun k i hi => ?_⟩
  have hk := (List.getElem?_eq_some_iff.1 hi).1
  have := h.cellAt (g := g) (cap := cap) k (by omega)
  rw [Nat.zero_add, this, List.getElem?_map, hi]
  rfl

set_option maxRecDepth 100000 in
set_option maxHeartbeats 4000000 in
theorem knownLines_yes (w : World) (cA : ∀ (wx : World) (v : Value) (l : List Int) (a k : Int), RdW wx v l → (∀ x ∈ l, I64 x) → I64 a → I64 k → Calls Try.prog 4 #[v, lkU a k] wx fun e w' => e = .returned (.bool true) ∧ Below wx.heap.size wx w') :
    Calls Try.prog 23 #[] w fun e w' => e = .returned (.bool true) ∧ Below w.heap.size w w' := by
  obtain ⟨i0, ji, hz0, hz1, hz2⟩ := info_parts info_int
  have CA := Hid.mk' cA
  clear cA
  go_enter Try.func23, Try.ntmps23
  go_wp2
  go_loopw [1] (fun nv wr => ∃ n : Nat, n ≤ 9 ∧ nv = nun n ∧ Hid (Below w.heap.size w wr)) (fun nv _ => 9 - (intOf nv).toNat)
  case atStart => exact ⟨0, by omega, rfl, Below.refl _ _⟩
  case round =>
    obtain ⟨n, hn, rfl, HB⟩ := hrel
    by_cases h8 : n ≤ 8
    · have h8I : (n : Int) ≤ 8 := by omega
      go_wp2
      rename World => wa
      go_loopw [2, 3] (fun lv iv wr => ∃ (i : Nat) (a : Option Addr) (c : Nat), i ≤ n ∧ iv = nun i ∧ lv = .slice a i c ∧ Hid (∃ l : List Int, (∀ x ∈ l, I64 x) ∧ l.length = i ∧ wr.ownsRow w.heap.size 3 1 (.slice a i c) i (l.map nu) ∧ Below w.heap.size w wr)) (fun _ iv _ => n - (intOf iv).toNat)
      case atStart => exact ⟨0, none, 0, by omega, rfl, rfl, [], by simp, rfl, World.ownsRow_nil _ _ _ _, HB.out⟩
      case round =>
        clear HB
        obtain ⟨i, a, c, hi, rfl, rfl, HL⟩ := hrel
        by_cases hlt : i < n
        · have hltI : (i : Int) < (n : Int) := by omega
          obtain ⟨l, h1, h2, h3, h4⟩ := HL.out
          have HO := Hid.mk' h3
          have HBl := Hid.mk' h4
          have HL1 : Hid ((∀ x ∈ l ++ [(i : Int) * 9 + (n : Int)], I64 x) ∧ (l ++ [(i : Int) * 9 + (n : Int)]).length = i + 1) := by
            refine ⟨fun x hx => ?_, by simp [h2]⟩
            rcases List.mem_append.1 hx with hx | hx
            · exact h1 x hx
            · simp at hx
              subst hx
              exact ⟨by omega, by omega⟩
          have hs := h4.size
          clear h1 h2 h3 h4 HL
          go_wp2_with (first | (at_builtin; refine wpList_append_own _ rfl _ _ 35 rfl w.heap.size 3 i0 (.int .i64 0) 1 8 Try.underlying35 ji hz0 hz1 hz2 rfl (by decide) _ _ _ rfl (HO.out.alloc _) ⟨wr.heap.size, 0, none⟩ 1 1 [nu ((i : Int) * 9 + (n : Int))] rfl rfl (cell_one_new _ _ _) (by simp [Value.oneCell']) (by unfold maxLen; omega) (by omega) (by simp; omega) ?_; intro v4 w4 ho4 hg4 _; have HB4 : Hid (Below w.heap.size w w4) := Below.grown (HBl.out.alloc HBl.out.size _) hg4 (by have := HBl.out.size; simp; omega) (fun k hk => (HO.out.lt k hk).1); obtain ⟨g4, c4, rfl⟩ := ownsRow_succ ho4; have HO4 : Hid (w4.ownsRow w.heap.size 3 1 (.slice (some ⟨g4, 0, none⟩) (i + 1) c4) (i + 1) ((l ++ [(i : Int) * 9 + (n : Int)]).map nu)) := (by rw [List.map_append]; exact ho4); clear ho4 hg4) | fail)
          go_roundw
          case rel => exact ⟨i + 1, _, c4, by omega, by go_num, rfl, _, HL1.out.1, HL1.out.2, HO4.out, HB4.out⟩
          case measure => simp [intOf]; omega
        · have hltI : ¬ (i : Int) < (n : Int) := by omega
          obtain ⟨l, h1, h2, h3, h4⟩ := HL.out
          have CX : Hid (∀ wx (x y : Int), Below wr.heap.size wr wx → I64 x → I64 y → Calls Try.prog 4 #[.slice a i c, lkU x y] wx fun e w' => e = .returned (.bool true) ∧ Hid (Below wr.heap.size wr w')) := fun wx x y hb hx hy => by
            refine (CA.out wx _ l x y (own_rdW ((Keep.of_below (F := fun _ => False) hb).own h3 (fun _ _ h => h))) h1 hx hy).mono ?_
            rintro e w' ⟨rfl, hb'⟩
            exact ⟨rfl, hb.trans (hb'.mono hb.size)⟩
          have HBl := Hid.mk' h4
          clear h1 h2 h3 h4 HL
          go_wp2
          rename World => wb
          go_loopw [4] (fun kv wr => ∃ k : Nat, k ≤ 32 ∧ kv = nun k ∧ Hid (Below wb.heap.size wb wr)) (fun kv _ => 32 - (intOf kv).toNat)
          case atStart => exact ⟨0, by omega, rfl, Below.refl _ _⟩
          case round =>
            obtain ⟨k, hk, rfl, HK⟩ := hrel
            by_cases hk32 : k < 32
            · have hkI : (k : Int) < 32 := by omega
              go_wp2_with fail
              refine (CX.out _ k k HK.out ⟨by omega, by omega⟩ ⟨by omega, by omega⟩).mono ?_
              rintro e w5 ⟨rfl, hb5⟩
              go_wp2_with fail
              refine (CX.out _ k ((k : Int) + 1) hb5.out ⟨by omega, by omega⟩ ⟨by omega, by omega⟩).mono ?_
              rintro e w6 ⟨rfl, hb6⟩
              go_wp2_with fail
              refine (CX.out _ k ((k : Int) + 2) hb6.out ⟨by omega, by omega⟩ ⟨by omega, by omega⟩).mono ?_
              rintro e w7 ⟨rfl, hb7⟩
              go_wp2
              go_roundw
              case rel => exact ⟨k + 1, by omega, by go_num, hb7⟩
              case measure => simp [intOf]; omega
            · have hkI : ¬ (k : Int) < 32 := by omega
              have HBn : Hid (Below w.heap.size w wr) := HBl.out.trans (HK.out.mono HBl.out.size)
              go_wp2
              go_roundw
              case rel => exact ⟨n + 1, by omega, by go_num, HBn⟩
              case measure => simp [intOf]; omega
    · have h8I : ¬ (n : Int) ≤ 8 := by omega
      go_wp2
      go_ret
      exact ⟨rfl, HB.out⟩
end Wk
end Go.Proofs.Ytbkcpjgaoncioaa
