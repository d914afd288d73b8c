/- A book of scopes: the map from names to numbers, as a list of names. -/
import Derived.Test.YtmgddocninihoabDoorRefu
import Derived.Maps.OwnSet
import Derived.StringKeys
import Derived.Maps.RangeWalk
import Derived.Deep.RegionHeld3
namespace Go.Proofs.YtmgddocninihoabDoor
set_option linter.ambiguousOpen false
open Go.RowKit Go.Maps Nm
namespace Sc
set_option linter.unusedSimpArgs false
set_option linter.unusedVariables false

theorem law : Keyed Tryd.prog 9 := string_keyed Tryd.underlying9
theorem zeroE (w : World) : (zeroValue 3).run Tryd.prog w = .ok (.int .i64 0) w := by kernel_rfl
theorem key_l (p : List UInt8) (h : p.length ≤ maxLen) : keyOf Tryd.prog 9 (.string (B p)) = some (.string p) := WideMaps.keyOf_string_mk Tryd.underlying9 h

/-- The map's datum holds the names of the list, each with its number. -/
structure Bd (D : DataW Unit) (l : List (List UInt8)) : Prop where
  size : Maps.size D = l.length
  hasD : ∀ kl, Maps.has D kl = true ↔ ∃ p, p ∈ l ∧ kl = .string p
  atD : ∀ i (h : i < l.length) z, D.atKey (.string l[i]) z = .lit (.int .i64 i)
  nodup : l.Nodup
  dotted : ∀ p ∈ l, dottedB p = true
  most : l.length ≤ 64

theorem bd_nil : Bd (.map []) [] := ⟨rfl, by intro kl; simp [Maps.has], by intro i h; simp at h, List.nodup_nil, by simp, by simp⟩

theorem Bd.has_eq {D : DataW Unit} {l : List (List UInt8)} (h : Bd D l) (p : List UInt8) : Maps.has D (.string p) = decide (p ∈ l) := by
  by_cases hp : p ∈ l
  · rw [decide_eq_true hp]; exact (h.hasD _).2 ⟨p, hp, rfl⟩
  · rw [decide_eq_false hp]
    cases hh : Maps.has D (.string p) with
    | false => rfl
    | true =>
      obtain ⟨q, hq, e⟩ := (h.hasD _).1 hh
      cases e
      exact absurd hq hp

theorem keyLit_string (p : List UInt8) : WideAt.IsKeyLit (.string p) := trivial

theorem Bd.put {D : DataW Unit} {l : List (List UInt8)} (h : Bd D l) (hT : Tidy D) (p : List UInt8) (hp : p ∉ l) (hd : dottedB p = true) (hl : l.length < 64) :
    Bd (D.put (.string p) (.lit (.int .i64 l.length))) (l ++ [p]) := by
  have hn : Maps.has D (.string p) = false := by rw [h.has_eq, decide_eq_false hp]
  refine ⟨?_, ?_, ?_, ?_, ?_, by simp; omega⟩
  · rw [size_put hT, hn, h.size]; simp
  · intro kl
    by_cases hk : kl = .string p
    · subst hk
      rw [has_put_same hT.isMap (keyLit_string p)]
      simp
    · rw [has_put_other hk, h.hasD]
      constructor
      · rintro ⟨q, hq, e⟩; exact ⟨q, by simp [hq], e⟩
      · rintro ⟨q, hq, e⟩
        rcases List.mem_append.1 hq with h1 | h1
        · exact ⟨q, h1, e⟩
        · rw [List.mem_singleton.1 h1] at e; exact absurd e hk
  · intro i hi z
    by_cases hil : i < l.length
    · rw [List.getElem_append_left hil, atKey_put_other, h.atD i hil]
      intro e
      have : l[i] = p := by cases e; rfl
      exact hp (this ▸ List.getElem_mem hil)
    · obtain rfl : i = l.length := by simp at hi; omega
      rw [List.getElem_append_right (Nat.le_refl _)]
      simp only [Nat.sub_self, List.getElem_cons_zero]
      exact atKey_put_same hT.isMap (keyLit_string p) _ _
  · rw [List.nodup_append]
    exact ⟨h.nodup, by simp, fun a ha b hb e => hp (by rw [List.mem_singleton.1 hb] at e; exact e ▸ ha)⟩
  · intro q hq
    rcases List.mem_append.1 hq with h1 | h1
    · exact h.dotted q h1
    · rw [List.mem_singleton.1 h1]; exact hd

/-- A book's memory: its cell leads to the map. -/
structure Mp (w : World) (pb mb : Nat) (l : List (List UInt8)) : Prop where
  cell : w.cell? ⟨pb, 0, none⟩ = some (.map (some mb))
  own : ∃ D : DataW Unit, Bd D l ∧ w.ownsMap Tryd.prog 9 (plainElem Tryd.prog 3) mb l.length D
  ne : pb ≠ mb

theorem Mp.lt {w : World} {pb mb : Nat} {l : List (List UInt8)} (h : Mp w pb mb l) : pb < w.heap.size ∧ mb < w.heap.size := by
  refine ⟨?_, ?_⟩
  · rcases Nat.lt_or_ge pb w.heap.size with h0 | h0
    · exact h0
    · have := h.cell; simp [World.cell?, Array.getElem?_eq_none h0] at this
  · obtain ⟨D, _, h⟩ := h.own; exact h.lt

theorem grown_of_below {w w' : World} (h : Below w.heap.size w w') : w.grownBy w' none := ⟨h.os, h.tape, h.output, h.size, fun i hi _ => h.block i hi⟩

theorem Mp.kept {w w' : World} {pb mb : Nat} {l : List (List UInt8)} (h : Mp w pb mb l) (hb : Below w.heap.size w w') : Mp w' pb mb l := by
  refine ⟨(hb.cell (p := ⟨pb, 0, none⟩) h.lt.1).trans h.cell, ?_, h.ne⟩
  obtain ⟨D, hD, ho⟩ := h.own
  exact ⟨D, hD, ho.kept (grown_of_below hb) (by simp)⟩

theorem Mp.drew {w : World} {pb mb : Nat} {l : List (List UInt8)} (h : Mp w pb mb l) : Mp w.drew pb mb l := ⟨h.cell, h.own, h.ne⟩

/-- What add answers. -/
def addNo (l : List (List UInt8)) (p : List UInt8) : Int := if dottedB p = false then 8 else if p ∈ l then 9 else 0

set_option maxRecDepth 100000 in
set_option maxHeartbeats 1000000 in
theorem add_bad (pb mb : Nat) (l : List (List UInt8)) (p : List UInt8) (w : World) (hM : Mp w pb mb l) (hp : p.length ≤ maxLen) (hd : dottedB p = false) :
    Calls Tryd.prog 25 #[.pointer (some ⟨pb, 0, none⟩), .string (B p)] w fun e w' => e = .returned (.int .i64 8) ∧ Below w.heap.size w w' := by
  have cd := dotted_l p w hp
  rw [hd] at cd
  go_enter Tryd.func25, Tryd.ntmps25
  go_wp2_with (go_at_call 31; refine cd.mono ?_; rintro e w1 ⟨rfl, hb1⟩)
  go_ret
  exact ⟨rfl, hb1⟩

set_option maxRecDepth 100000 in
set_option maxHeartbeats 1000000 in
theorem add_twice (pb mb : Nat) (l : List (List UInt8)) (p : List UInt8) (w : World) (hM : Mp w pb mb l) (hp : p.length ≤ maxLen) (hd : dottedB p = true) (hin : p ∈ l) :
    Calls Tryd.prog 25 #[.pointer (some ⟨pb, 0, none⟩), .string (B p)] w fun e w' => e = .returned (.int .i64 9) ∧ Below w.heap.size w w' := by
  have cd := dotted_l p w hp
  rw [hd] at cd
  have HP : Hid (p.length ≤ maxLen) := hp
  clear hp
  go_enter Tryd.func25, Tryd.ntmps25
  go_wp2_with (first | (go_at_call 31; refine cd.mono ?_; rintro e w1 ⟨rfl, hb1⟩; clear cd; obtain ⟨hc, ⟨D, hD, ho⟩, hne⟩ := hM.kept hb1; have hhas := hD.has_eq p; rw [decide_eq_true hin] at hhas) | (at_lookup; refine wpList_lookup_own_ok_int _ rfl _ _ 68 rfl 9 3 .i64 law Tryd.underlying68 Tryd.underlying3 (zeroE _) mb _ D rfl ho _ _ rfl (key_l p HP.out) ?_; rw [hhas]; intro c _ _))
  go_ret
  exact ⟨rfl, hb1⟩
theorem grown_below {w w' : World} {b mb : Nat} (h : w.grownBy w' (some mb)) (hb : b ≤ mb) (hl : mb < w.heap.size) : Below b w w' :=
  ⟨h.os, h.tape, h.output, h.size, fun k hk => h.block k (by omega) (by simp; omega)⟩

set_option maxRecDepth 100000 in
set_option maxHeartbeats 1000000 in
theorem add_new (pb mb : Nat) (l : List (List UInt8)) (p : List UInt8) (w : World) (hM : Mp w pb mb l) (hp : p.length ≤ maxLen) (hd : dottedB p = true) (hin : p ∉ l) (hl : l.length < 64) :
    Calls Tryd.prog 25 #[.pointer (some ⟨pb, 0, none⟩), .string (B p)] w fun e w' => e = .returned (.int .i64 0) ∧ w.grownBy w' (some mb) ∧ Mp w' pb mb (l ++ [p]) := by
  have cd := dotted_l p w hp
  rw [hd] at cd
  have HP : Hid (p.length ≤ maxLen) := hp
  have h131 := dotted_len hd
  clear hp
  have hlb := hM.lt.2
  have CC : Hid (∀ w1 : World, Calls Tryd.prog 36 #[.string (B p)] w1 fun e w' => e = .returned (.string (B p)) ∧ Below w1.heap.size w1 w') := fun w1 => clone_l p w1 (by omega)
  go_enter Tryd.func25, Tryd.ntmps25
  go_wp2_with (first | (go_at_call 31; refine cd.mono ?_; rintro e w1 ⟨rfl, hb1⟩; clear cd; obtain ⟨hc, ⟨D, hD, ho⟩, hne⟩ := hM.kept hb1; have hhas := hD.has_eq p; rw [decide_eq_false hin] at hhas) | (at_lookup; refine wpList_lookup_own_ok_int _ rfl _ _ 68 rfl 9 3 .i64 law Tryd.underlying68 Tryd.underlying3 (zeroE _) mb _ D rfl ho _ _ rfl (key_l p HP.out) ?_; rw [hhas]; intro c _ _) | (at_len; refine wpList_len_own _ rfl _ 68 rfl 9 3 Tryd.underlying68 _ mb _ D rfl ho ?_; rw [hD.size]))
  have hg1 : w.grownBy w1.drew (some mb) := ⟨hb1.os, hb1.tape, hb1.output, hb1.size, fun i hi _ => hb1.block i hi⟩
  have hsz := hb1.size
  have hpb := (hM.kept hb1).lt.1
  go_region_held3 (fun w' => w'.cell? ⟨pb, 0, none⟩ = some (.map (some mb)) ∧ w.grownBy w' (some mb)) (first | assumption | exact ⟨by assumption, hg1⟩) (first | (go_at_call 36; refine (CC.out _).mono ?_; rintro e w2 ⟨rfl, hb2⟩; have ho2 : w2.ownsMap Tryd.prog 9 (plainElem Tryd.prog 3) mb l.length D := ho.kept (w := w1) (row := none) ⟨hb2.os, hb2.tape, hb2.output, hb2.size, fun i hi _ => hb2.block i hi⟩ (by simp); have hS2 : w2.cell? ⟨pb, 0, none⟩ = some (.map (some mb)) ∧ w.grownBy w2 (some mb) := ⟨(hb2.cell (p := ⟨pb, 0, none⟩) hpb).trans hc, hg1.trans ⟨hb2.os, hb2.tape, hb2.output, hb2.size, fun i hi _ => hb2.block i hi⟩⟩; obtain ⟨w3, hrun, ho3, hg3⟩ := ho2.update law Tryd.underlying68 (by unfold maxLen; omega) (key_l p HP.out) (plainElem_int (a := (l.length : Int)) Tryd.underlying3 (WalkArith.wf_i64 (by omega))); have hS3 : w3.cell? ⟨pb, 0, none⟩ = some (.map (some mb)) ∧ w.grownBy w3 (some mb) := ⟨(World.cell?_of_block (hg3.block pb (Nat.lt_of_lt_of_le hpb hb2.size) (by simpa using hne))).trans hS2.1, hS2.2.trans hg3⟩))
  go_wp2
  go_ret
  exact ⟨rfl, hS3.2, hS3.1, ⟨_, hD.put (ho.tidy law) p hin hd hl, by simpa using ho3⟩, hne⟩
end Sc
end Go.Proofs.YtmgddocninihoabDoor
