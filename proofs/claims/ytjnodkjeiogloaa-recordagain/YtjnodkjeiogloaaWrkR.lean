/- What each law on records asks first: a small record has one block, and is found. -/
import Derived.Test.YtjnodkjeiogloaaSayR
import Derived.Test.YtjnodkjeiogloaaSmeR
import Derived.Test.YtjnodkjeiogloaaBegR
namespace Go.Proofs.Ytjnodkjeiogloaa
set_option linter.ambiguousOpen false
open Go.RowKit
namespace Rc
open Sm Pk
set_option linter.unusedSimpArgs false
set_option linter.unusedVariables false

theorem rd_newR (w : World) (l : List UInt8) (h : l.length ≤ 1000000) : RdB (w.alloc (.cells (l.map by1).toArray 5)) (.slice (some ⟨w.heap.size, 0, none⟩) l.length l.length) l := by
  refine ⟨_, l.length, rfl, Nat.le_refl _, by unfold maxLen; omega, fun _ => ⟨w.heap.size, 0, rfl, by simp, fun j hj => ?_⟩⟩
  rw [Nat.zero_add, cell_of_row _ w.heap.size j _ _ _ (heap_alloc_new w _)]
  simp [hj]

/-- A list of rows that a call has made reads as those rows. -/
theorem rows_rdl {w : World} {base : Nat} {r : Value} {vs : List Value} {ps : List (List UInt8)} (h : w.ownsRow base 32 1 r vs.length vs) (hr : Rows w base vs ps) : RdL w r ps := by
  have hl := hr.len
  rcases h.2 with ⟨rfl, h0⟩ | ⟨g, cap, cur, rfl, h1, h2, h3, h4, h5, h6⟩
  · have : ps = [] := List.eq_nil_of_length_eq_zero (by omega)
    subst this
    exact ⟨none, 0, rfl, Nat.le_refl _, by decide, fun h => by simp at h⟩
  · refine ⟨some ⟨g, 0, none⟩, cap, by rw [hl], by omega, h4, fun _ => ⟨g, 0, rfl, (Array.getElem?_eq_some_iff.1 h2).1, fun j p hj => ?_⟩⟩
    have hj' : j < vs.length := by
      have := (List.getElem?_eq_some_iff.1 hj).1
      omega
    have ho := hr.own j vs[j] p (List.getElem?_eq_getElem hj') hj
    refine ⟨vs[j], ?_, own_rd ho, nz_own ho⟩
    rw [Nat.zero_add]
    have := h.cells (g := g) rfl j vs[j] (List.getElem?_eq_getElem hj')
    rw [Addr.add_lit, Nat.zero_add] at this
    exact this

theorem scan_seven : (scan 1 (blocks 1 [7])).1 = [[7]] ∧ (scan 1 (blocks 1 [7])).2.2 = 1 := by
  have h := scan_whole 1 [[7]] [] (fun p hp => by simp at hp; rw [hp]; decide) (fun b r hb => by simp at hb)
  have e : flat 1 [[7]] ++ [] = blocks 1 [7] := by simp [flat]
  rw [e] at h
  refine ⟨h.1, h.2.trans ?_⟩
  simp [flat, blocks_len]

set_option maxRecDepth 100000 in
set_option maxHeartbeats 4000000 in
theorem works_yes (SF : FrameC) (SS : ScanC) (w : World) : Calls Try.prog 17 #[] w fun e w' => e = .returned (.bool true) ∧ Below w.heap.size w w' := by
  have hB0 : Hid (Below w.heap.size w (w.alloc (.cells #[.int .u8 7] 5))) := (Below.refl _ _).alloc (Nat.le_refl _) _
  have hrd0 : RdB (w.alloc (.cells #[.int .u8 7] 5)) (.slice (some ⟨w.heap.size, 0, none⟩) 1 1) [7] := rd_newR w [7] (by decide)
  obtain ⟨F, hF⟩ : ∃ x, blocks 1 [7] = x := ⟨_, rfl⟩
  have hFl : F.length = 1 := by
    rw [← hF, blocks_len]
    decide
  have c1 : Hid (Calls Try.prog 19 #[.int .u32 1, .slice (some ⟨w.heap.size, 0, none⟩) 1 1] (w.alloc (.cells #[.int .u8 7] 5)) fun e w' => ∃ r, e = .returned (.tuple #[r, .nilIface]) ∧ w'.ownsRow (w.alloc (.cells #[.int .u8 7] 5)).heap.size 9 1 r 1 (F.map Nm.txt) ∧ Below (w.alloc (.cells #[.int .u8 7] 5)).heap.size (w.alloc (.cells #[.int .u8 7] 5)) w') := by
    have := SF _ 1 _ [7] (by decide) hrd0 (.inr ⟨_, _, _, rfl⟩) (by decide)
    rw [framed, if_neg (by decide), if_neg (by decide), hF, hFl] at this
    exact this
  have c2 : Hid (∀ wx v, Nm.Rd wx v F → Calls Try.prog 8 #[.int .u32 1, v] wx fun e w' => ∃ g cap u, e = .returned (.tuple #[.slice (some ⟨g, 0, none⟩) 1 cap, nu 1]) ∧ w'.cell? ⟨g, 0, none⟩ = some u ∧ RdB w' u [7] ∧ Below wx.heap.size wx w') := fun wx v hv => by
    have hs := scan_seven
    rw [hF] at hs
    refine (SS wx 1 v F (by decide) hv (by rw [hFl]; decide) (fun t ht => ?_)).mono ?_
    · rw [← hF] at ht
      have := blocks_short 1 [7] t ht
      omega
    · rintro e w' ⟨r, vs, rfl, ho, hr, _, hb⟩
      rw [hs.1] at hr
      rw [hs.2]
      obtain ⟨a, cap, rfl, _, _, hx⟩ := rows_rdl ho hr
      obtain ⟨g, o, rfl, hg, hy⟩ := hx (by decide)
      have ho0 : o = 0 := by
        rcases ho.2 with ⟨h0, _⟩ | ⟨g', cap', cur, h0, _⟩
        · simp at h0
        · simp at h0
          exact h0.1.2
      subst ho0
      obtain ⟨u, hc, hu, _⟩ := hy 0 [7] rfl
      exact ⟨g, cap, u, rfl, hc, hu, hb⟩
  have cS : Hid (∀ wx u1 u2, RdB wx u1 [7] → RdB wx u2 [7] → Calls Try.prog 12 #[u1, u2] wx fun e w' => e = .returned (.bool true) ∧ Below wx.heap.size wx w') := fun wx u1 u2 q1 q2 => sameB_eq u1 u2 [7] wx q1 q2
  have HFL := Hid.mk' hFl
  clear hrd0 hF hFl
  go_enter Try.func17, Try.ntmps17
  go_wp2_with fail
  refine c1.out.mono ?_
  rintro e x1 ⟨r, rfl, ho, hb⟩
  have HB1 := Hid.mk' (hB0.out.trans (hb.mono hB0.out.size))
  have HR1 : Hid (Nm.Rd x1 r F) := Nm.rd_own (by rw [HFL.out]; exact ho)
  obtain ⟨a1, k1, rfl, _⟩ := Nm.own_shape ho
  clear ho hb c1 hB0
  go_wp2_with fail
  refine (c2.out _ _ HR1.out).mono ?_
  rintro e x2 ⟨g, cap, u, rfl, hc, hu, hb⟩
  have HB2 := Hid.mk' (HB1.out.trans (hb.mono HB1.out.size))
  have hb3 : Below x2.heap.size x2 (x2.alloc (.cells #[.int .u8 7] 5)) := (Below.refl _ _).alloc (Nat.le_refl _) _
  have C3 := Hid.mk' (cS.out _ u _ (hu.below hb3) (rd_newR x2 [7] (by decide)))
  have HB3 := Hid.mk' (HB2.out.alloc HB2.out.size (.cells #[.int .u8 7] 5))
  obtain ⟨au, cu, rfl, _⟩ := hu
  clear hb hb3 HB1 HR1 c2 cS
  go_wp2_with fail
  refine C3.out.mono ?_
  rintro e x3 ⟨rfl, hb⟩
  have HB4 := Hid.mk' (HB3.out.trans (hb.mono HB3.out.size))
  clear hb C3
  go_wp2
  go_ret
  exact ⟨rfl, HB4.out⟩
end Rc
end Go.Proofs.Ytjnodkjeiogloaa
