import Derived.Test.YtnllplholfhbdaaDoorEvS
import Derived.Test.YtnllplholfhbdaaDoorListsY
/- The law's works, EventBack and EventCut. -/
namespace Go.Proofs.YtnllplholfhbdaaDoor
set_option linter.ambiguousOpen false
open Go.RowKit
namespace Ev
open Pk Sm Ft
set_option linter.unusedSimpArgs false
set_option linter.unusedVariables false

theorem sev300 : sev 300 = [172, 2] := by
  rw [sev_ge 300 (by decide), sev_lt (300 / 128) (by decide)]
  rfl

theorem rd_new (w : World) (l : List UInt8) (h : l.length ≤ 1000000) : RdB (w.alloc (.cells (l.map by1).toArray 5)) (.slice (some ⟨w.heap.size, 0, none⟩) l.length l.length) l := by
  refine ⟨_, l.length, rfl, Nat.le_refl _, by unfold maxLen; omega, fun _ => ⟨w.heap.size, 0, rfl, by simp, fun j hj => ?_⟩⟩
  rw [Nat.zero_add, cell_of_row _ w.heap.size j _ _ _ (heap_alloc_new w _)]
  simp [hj]

theorem bytes300 : bytesE ⟨1, Sn.zero, 300, 0⟩ = [1, 172, 2] := by
  have hm : mayE ⟨1, Sn.zero, 300, 0⟩ = true := by decide
  rw [bytesE, if_pos hm, enc1, show sv 300 = sev 300 from rfl, sev300, sev_lt 1 (by decide)]
  rfl

set_option maxRecDepth 100000 in
theorem works_yes (R : Says) (w : World) : Calls Tryd.prog 16 #[] w fun e w' => e = .returned (.bool true) ∧ Below w.heap.size w w' := by
  have hm : mayE ⟨1, Sn.zero, 300, 0⟩ = true := by decide
  have hrf := may_rng ⟨1, Sn.zero, 300, 0⟩ hm (by simp [Sn.zero])
  have c1 := Hid.mk' (R.encode w ⟨1, Sn.zero, 300, 0⟩ hrf.2 hrf.1)
  rw [bytes300, hm] at c1
  simp only [errE, if_true] at c1
  have ha : Evt.arr ⟨1, Sn.zero, 300, 0⟩ = #[nu 1, nu 0, nu 0, nu 0, nu 0, nu 0, .string ⟨#[]⟩, .string ⟨#[]⟩, .int .u64 0, nu 0, nu 0, nu 0, nu 0, nu 300, nu 0] := rfl
  rw [ha] at c1
  have c4 : Hid (∀ wx v1 v2, RdB wx v1 [1, 172, 2] → RdB wx v2 [1, 172, 2] → Calls Tryd.prog 10 #[v1, v2] wx fun e w' => e = .returned (.bool true) ∧ Below wx.heap.size wx w') := fun wx v1 v2 h1 h2 => sameB_eq v1 v2 _ wx h1 h2
  clear hm hrf ha
  go_enter Tryd.func16, Tryd.ntmps16
  go_wp2_with fail
  refine c1.out.mono ?_
  rintro e w3 ⟨v, rfl, ho, hb⟩
  obtain ⟨a, cap, ev, _⟩ := own_rd (l := [1, 172, 2]) ho
  simp only [List.length_cons, List.length_nil, Nat.reduceAdd] at ev
  subst ev
  have hr1 : RdB (w3.alloc (.cells #[.int .u8 1, .int .u8 172, .int .u8 2] 5)) (.slice a 3 cap) [1, 172, 2] := (own_rd (l := [1, 172, 2]) ho).below ((Below.refl _ _).alloc (Nat.le_refl _) _)
  have hr2 : RdB (w3.alloc (.cells #[.int .u8 1, .int .u8 172, .int .u8 2] 5)) (.slice (some ⟨w3.heap.size, 0, none⟩) 3 3) [1, 172, 2] := rd_new w3 [1, 172, 2] (by decide)
  have C4 := Hid.mk' (c4.out _ _ _ hr1 hr2)
  have hB : Hid (Below w.heap.size w (w3.alloc (.cells #[.int .u8 1, .int .u8 172, .int .u8 2] 5))) := hb.alloc hb.size _
  clear hr1 hr2 c4 c1 ho hb
  go_wp2_with fail
  refine C4.out.mono ?_
  rintro e w4 ⟨rfl, hb4⟩
  have hB4 := Hid.mk' (hB.out.trans (hb4.mono hB.out.size))
  clear hb4
  go_wp2
  go_ret
  exact ⟨rfl, hB4.out⟩

theorem back_told (b : List UInt8) (g : Evt) (no : Nat) (hg : decE b = (g, no)) : (no ≠ 0 ∧ g = Evt.zero) ∨ (no = 0 ∧ mayE g = true ∧ (0 ≤ g.s.scopes ∧ g.s.scopes < 18446744073709551616) ∧ encE g = b) := by
  by_cases h0 : no = 0
  · subst h0
    exact .inr ⟨rfl, dec_back b g hg⟩
  · have := dec_no b (by rw [hg]; exact h0)
    rw [hg] at this
    exact .inl ⟨h0, this⟩

theorem back_enc (R : Says) (b : List UInt8) (g : Evt) (h1 : mayE g = true) (h2 : 0 ≤ g.s.scopes ∧ g.s.scopes < 18446744073709551616) (h3 : encE g = b) (wx : World) : Calls Tryd.prog 8 #[.agg g.arr] wx fun x w' => ∃ v, x = .returned (.tuple #[v, .nilIface]) ∧ w'.ownsRow wx.heap.size 5 1 v b.length (b.map by1) ∧ Below wx.heap.size wx w' := by
  obtain ⟨hr2, hf2⟩ := may_rng g h1 h2
  have := R.encode wx g hf2 hr2
  rw [bytesE, if_pos h1, h3, if_pos h1] at this
  exact this

end Ev
end Go.Proofs.YtnllplholfhbdaaDoor
