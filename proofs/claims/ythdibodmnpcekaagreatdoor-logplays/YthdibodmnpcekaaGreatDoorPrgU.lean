import Derived.Test.YthdibodmnpcekaaGreatDoorPrgS
import Derived.Test.YthdibodmnpcekaaGreatDoorPrgT
import Derived.Test.YthdibodmnpcekaaGreatDoorRangeV
/- The program's record: All, and what it hands out. -/
namespace Go.Proofs.YthdibodmnpcekaaGreatDoor
set_option linter.ambiguousOpen false
open Go.RowKit
namespace Rc
namespace Pr
open Sm Pk
set_option linter.unusedSimpArgs false
set_option linter.unusedVariables false
attribute [local go_sem] Oper.semAt_some

theorem clone_p (w : World) (v : Value) (ls : List (List UInt8)) (hR : Nm.Rd w v ls) (hn : ls.length ≤ 8796093022208) :
    Calls Tryz.prog 60 #[v] w fun e w' => ∃ v', e = .returned v' ∧ w'.ownsRow w.heap.size 9 1 v' ls.length (ls.map Nm.txt) ∧ Below w.heap.size w w' := by
  obtain ⟨a, cap, rfl, h1, h2, h3⟩ := hR
  by_cases h0 : ls.length = 0
  · have hnil : ls = [] := List.eq_nil_of_length_eq_zero h0
    subst hnil
    cases a with
    | none =>
      refine (Tryz.slices_Clone_string_nil 0 cap w).mono ?_
      rintro e w' ⟨rfl, rfl⟩
      exact ⟨_, rfl, World.ownsRow_nil _ _ _ _, Below.refl _ _⟩
    | some ad =>
      refine (Tryz.slices_Clone_string_zero ad cap w).mono ?_
      rintro e w' ⟨v', rfl, ho, _, hb⟩
      exact ⟨_, rfl, ho, hb⟩
  · obtain ⟨g, o, rfl, hg, hc⟩ := h3 (by omega)
    have hzl : (ls.map tx).length = ls.length := by simp
    refine (Tryz.slices_Clone_string g o ls.length cap (ls.map tx) w (by rw [hzl]; exact Nat.le_refl _) (by omega) (fun j hj => ?_)).mono ?_
    · rw [hzl] at hj
      rw [hc j hj]
      congr 2
      rw [List.getD_eq_getElem?_getD, List.getElem?_map, List.getElem?_eq_getElem hj]
      rfl
    · rintro e w' ⟨v', rfl, ho, _, hb⟩
      rw [← hzl, List.take_length, hzl, List.map_map] at ho
      exact ⟨_, rfl, ho, hb⟩

/-- What All has made: two variables, and a copy of the blocks. -/
structure Made (w0 w : World) (ep : Nat) (ls : List (List UInt8)) (Be Bl : Nat) (cv : Value) : Prop where
  e : Boxed w Be 22 (.int .u32 (ep : Int))
  l : Boxed w Bl 63 cv
  row : w.ownsRow w0.heap.size 9 1 cv ls.length (ls.map Nm.txt)
  be : w0.heap.size ≤ Be
  bl : w0.heap.size ≤ Bl
  bel : Below w0.heap.size w0 w

set_option maxRecDepth 100000 in
set_option maxHeartbeats 1000000 in
theorem allMake_p (ep : Nat) (v : Value) (ls : List (List UInt8)) (w : World) (hR : Nm.Rd w v ls) (hn : ls.length ≤ 8796093022208) :
    Calls Tryz.prog 39 #[.int .u32 (ep : Int), v] w fun e w' => ∃ Be Bl cv, e = .returned (.func (.func 61) #[] #[.pointer (some ⟨Bl, 0, none⟩), .pointer (some ⟨Be, 0, none⟩)]) ∧ Made w w' ep ls Be Bl cv := by
  have HR := Hid.mk' hR
  obtain ⟨a, cap, rfl, _⟩ := hR
  obtain ⟨n, hnn⟩ : ∃ n, ls.length = n := ⟨_, rfl⟩
  have HN := Hid.mk' hnn
  rw [hnn] at HR ⊢
  have b1 : Hid (Boxed ((w.alloc (.cells #[.int .u32 (ep : Int)] 22)).alloc (.cells #[.slice a n cap] 63)) w.heap.size 22 (.int .u32 (ep : Int))) := (Boxed.new w _ _).alloc _
  have b2 : Hid (Boxed ((w.alloc (.cells #[.int .u32 (ep : Int)] 22)).alloc (.cells #[.slice a n cap] 63)) (w.heap.size + 1) 63 (.slice a n cap)) := by
    have := Boxed.new (w.alloc (.cells #[.int .u32 (ep : Int)] 22)) 63 (.slice a n cap)
    exact Hid.mk' (by simpa using this)
  have q0 : Hid (Below w.heap.size w ((w.alloc (.cells #[.int .u32 (ep : Int)] 22)).alloc (.cells #[.slice a n cap] 63))) := ((Below.refl _ w).alloc (Nat.le_refl _) _).alloc (by simp) _
  have hs0 : Hid (((w.alloc (.cells #[.int .u32 (ep : Int)] 22)).alloc (.cells #[.slice a n cap] 63)).heap.size = w.heap.size + 2) := by show _ = _; simp
  have C := Hid.mk' (clone_p _ (.slice a n cap) ls (HR.out.below q0.out) hn)
  rw [hnn] at C
  clear hnn
  go_enter Tryz.func39, Tryz.ntmps39
  go_wp2_with fail
  refine C.out.mono ?_
  rintro e w2 ⟨cv, rfl, ho, hb⟩
  have hbx : Boxed w2 (w.heap.size + 1) 63 (.slice a n cap) := (hb.block _ (by rw [hs0.out]; omega)).trans b2.out
  have hbe : Hid (Boxed w2 w.heap.size 22 (.int .u32 (ep : Int))) := (hb.block _ (by rw [hs0.out]; omega)).trans b1.out
  have hc := hbx.cell
  have hf := hbx.frozen
  have HBX := Hid.mk' hbx
  have HB := Hid.mk' (q0.out.trans (hb.mono q0.out.size))
  have HO := Hid.mk' ho
  obtain ⟨ac, cc, rfl, _⟩ := Nm.own_shape ho
  have hne : Hid (some (w.heap.size + 1) ≠ Value.ownBlock (.slice ac n cc)) := fun e => by
    have := (ho.lt _ e.symm).1
    rw [hs0.out] at this
    omega
  have hob : Hid (∀ b, Value.ownBlock (.slice ac n cc) = some b → w.heap.size + 2 ≤ b) := fun b hb' => by
    have := (HO.out.lt b hb').1
    rw [hs0.out] at this
    exact this
  clear ho hb hbx C b1 b2 q0
  go_wp2
  go_ret
  refine ⟨_, _, _, rfl, hbe.out.other (by omega) _, HBX.out.set _, ?_, Nat.le_refl _, by omega, HB.out.setCell (p := ⟨w.heap.size + 1, 0, none⟩) (by show w.heap.size ≤ w.heap.size + 1; omega) _⟩
  rw [HN.out]
  exact own_mono (HO.out.kept (grownBy_setCell' _ _ _) (.inr hne.out.symm)) (by rw [hs0.out]; omega)

theorem rd_leaves {X : Nat → Prop} {lo hi : Nat} {W W' : World} {v : Value} {ls : List (List UInt8)} (h : Nm.Rd W v ls) (hl : Rf.Leaves X lo hi W W') (hX : ∀ b, v.ownBlock = some b → X b) : Nm.Rd W' v ls := by
  obtain ⟨a, cap, rfl, h1, h2, h3⟩ := h
  refine ⟨a, cap, rfl, h1, h2, fun h0 => ?_⟩
  obtain ⟨g, o, rfl, hg, hc⟩ := h3 h0
  exact ⟨g, o, rfl, Nat.lt_of_lt_of_le hg hl.size, fun j hj => hl.cell (a := ⟨g, o + j, none⟩) (.inl (hX g rfl)) (hc j hj)⟩

/-- What the iterator leans on. -/
structure Base3 (w : World) (ep : Nat) (ls : List (List UInt8)) (Be Bl : Nat) (cv : Value) : Prop where
  e : Boxed w Be 22 (.int .u32 (ep : Int))
  l : Boxed w Bl 63 cv
  rd : Nm.Rd w cv ls

theorem Base3.below {w w' : World} {ep : Nat} {ls : List (List UInt8)} {Be Bl : Nat} {cv : Value} (h : Base3 w ep ls Be Bl cv) (hb : Below w.heap.size w w') : Base3 w' ep ls Be Bl cv :=
  ⟨(hb.block _ h.e.lt).trans h.e, (hb.block _ h.l.lt).trans h.l, h.rd.below hb⟩

theorem Base3.leaves {lo hi : Nat} {w w' : World} {ep : Nat} {ls : List (List UInt8)} {Be Bl : Nat} {cv : Value} (h : Base3 w ep ls Be Bl cv) (hl : Rf.Leaves (fun b => b = Be ∨ b = Bl ∨ cv.ownBlock = some b) lo hi w w') : Base3 w' ep ls Be Bl cv :=
  ⟨hl.boxed (.inl (.inl rfl)) h.e, hl.boxed (.inl (.inr (.inl rfl))) h.l, rd_leaves h.rd hl (fun b hb => .inr (.inr hb))⟩

theorem Base3.text {w : World} {ep : Nat} {ls : List (List UInt8)} {Be Bl : Nat} {cv : Value} (h : Base3 w ep ls Be Bl cv) (i : Nat) (b : List UInt8) (hb : ls[i]? = some b) : ∃ g o cap, cv = .slice (some ⟨g, o, none⟩) ls.length cap ∧ w.cell? ⟨g, o + i, none⟩ = some (.string (tx b)) := by
  obtain ⟨a, cap, rfl, h1, h2, h3⟩ := h.rd
  have hi : i < ls.length := (List.getElem?_eq_some_iff.1 hb).1
  obtain ⟨g, o, rfl, hg, hc⟩ := h3 (by omega)
  refine ⟨g, o, cap, rfl, ?_⟩
  have := hc i hi
  rw [List.getElem?_eq_getElem hi] at hb
  rw [this, Option.some.inj hb]
  rfl

/-- What 'opened' says of any block. -/
theorem opened_any (ep : Nat) (b : List UInt8) (hep : ep < 4294967296) (hl : b.length ≤ 9223372036854775807) :
    ∃ (z : Nat) (f : ByteArray) (d : Bool), (∀ w, Calls Tryz.prog 62 #[.int .u32 (ep : Int), .string (tx b)] w (fun e w' => e = .returned (.tuple #[nu (z : Int), .string f, .bool d]) ∧ Below w.heap.size w w')) ∧ d = decide (opensP ep b) ∧ (d = true → z = sizeB b ∧ f = tx (b.drop 11)) := by
  by_cases h : b.length < 11
  · refine ⟨0, ⟨#[]⟩, false, fun w => (opened_short ep b w h).mono ?_, ?_, fun h => by cases h⟩
    · rintro e w' ⟨rfl, rfl⟩
      exact ⟨rfl, Below.refl _ _⟩
    · rw [decide_eq_false]
      intro q
      have := q.1
      omega
  · exact ⟨_, _, _, fun w => opened_p ep b w hep (by omega) hl, rfl, fun _ => ⟨rfl, rfl⟩⟩
end Pr
end Rc
end Go.Proofs.YthdibodmnpcekaaGreatDoor
