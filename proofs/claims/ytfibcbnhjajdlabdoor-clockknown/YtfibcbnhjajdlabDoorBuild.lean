/- A strings.Builder that a call has made: its writes, the other blocks kept. -/
import Derived.Test.YtfibcbnhjajdlabDoorShelf
import Derived.Test.YtfibcbnhjajdlabDoorParts
import Derived.Test.YtfibcbnhjajdlabDoorRange
namespace Go.Proofs.YtfibcbnhjajdlabDoor
set_option linter.ambiguousOpen false
open Go.RowKit Nm
namespace Lb
set_option linter.unusedSimpArgs false
set_option linter.unusedVariables false

theorem sizeB : (Tryd.prog.info? 44).map (·.size) = some 2 := by kernel_rfl
theorem liesB : liesAt Tryd.prog Tryd.prog.depth 44 (2 / Tryd.prog.cellsOf 44) 0 44 1 = true := by kernel_rfl

/-- A builder in the block b, which holds the bytes bs in a row from base on. -/
structure Bu (w : World) (b base : Nat) (bs : List UInt8) : Prop where
  ex : ∃ p v, (p = .pointer none ∨ p = .pointer (some ⟨b, 0, none⟩)) ∧ w.heap[b]? = some (.cells #[p, v] 44 (0, 0)) ∧ w.ownsRow base 5 1 v bs.length (Lib.byteCells bs)
  lt : b < base

/-- What a write leaves: all blocks but the builder's and rows from base on. -/
structure Kb (b base : Nat) (w w' : World) : Prop where
  os : w'.os = w.os
  tape : w'.tape = w.tape
  output : w'.output = w.output
  size : w.heap.size ≤ w'.heap.size
  block : ∀ k o, w.heap[k]? = some o → k ≠ b → (k < base ∨ ∀ c fz, o ≠ .cells c 5 fz) → w'.heap[k]? = some o

theorem Kb.refl (b base : Nat) (w : World) : Kb b base w w := ⟨rfl, rfl, rfl, Nat.le_refl _, fun _ _ h _ _ => h⟩
theorem Kb.trans {b base : Nat} {u v w : World} (h : Kb b base u v) (k : Kb b base v w) : Kb b base u w :=
  ⟨k.os.trans h.os, k.tape.trans h.tape, k.output.trans h.output, Nat.le_trans h.size k.size, fun i o hi hb ho => k.block i o (h.block i o hi hb ho) hb ho⟩
theorem Kb.below {b base n : Nat} {w w' : World} (h : Kb b base w w') (hn : n ≤ b) (hb : b < base) (hw : n ≤ w.heap.size) : Below n w w' :=
  ⟨h.os, h.tape, h.output, h.size, fun k hk => by
    have hlt : k < w.heap.size := by omega
    rw [Array.getElem?_eq_getElem hlt]
    exact h.block k _ (Array.getElem?_eq_getElem hlt) (by omega) (.inl (by omega))⟩
theorem Kb.set {b base : Nat} (w : World) (i : Nat) (v : Value) : Kb b base w (w.setCell ⟨b, i, none⟩ v) :=
  ⟨rfl, rfl, rfl, (KeepsWalks.setCell w _ v).size, fun k o hk hb _ => (Below.heap_setCell _ _ _ k (fun e => hb e)).trans hk⟩
theorem Kb.alloc (b base : Nat) (w : World) (o : Obj) : Kb b base w (w.alloc o) :=
  ⟨rfl, rfl, rfl, (World.grownBy_alloc w o none).size, fun k x hk _ _ => ((World.grownBy_alloc w o none).block k (Array.getElem?_eq_some_iff.1 hk).1 (by simp)).trans hk⟩
theorem Kb.grown {b base : Nat} {w w' : World} {v : Value} {n : Nat} {xs : List Value} (hg : w.grownBy w' v.ownBlock) (hown : w.ownsRow base 5 1 v n xs) : Kb b base w w' :=
  ⟨hg.os, hg.tape, hg.output, hg.size, fun k o hk hb ho => (hg.block k (Array.getElem?_eq_some_iff.1 hk).1 (fun e => by
    rcases hown.2 with ⟨rfl, _⟩ | ⟨g, cap, cur, rfl, hbg, hgb, _⟩
    · cases e
    · have : k = g := by simpa [Value.ownBlock] using e
      subst this
      rcases ho with ho | ho
      · omega
      · rw [hgb] at hk; cases hk; exact ho _ _ rfl)).trans hk⟩

theorem Bu.fits {w : World} {b base : Nat} {bs : List UInt8} (h : Bu w b base bs) {B : Nat} (hB : B ≤ b) : Lib.IsBuilder 44 5 B b (Lib.byteCells bs) w := by
  obtain ⟨⟨p, v, hp, hb, ho⟩, hlt⟩ := h
  have ho2 : w.ownsRow B 5 1 v (Lib.byteCells bs).length (Lib.byteCells bs) := by
    rw [Lib.byteCells_length]
    refine ⟨ho.1, ?_⟩
    rcases ho.2 with h1 | ⟨g, cap, cur, e1, e2, e3⟩
    · exact .inl h1
    · exact .inr ⟨g, cap, cur, e1, by omega, e3⟩
  have hne : v.ownBlock ≠ some b := by
    rcases ho.2 with ⟨rfl, _⟩ | ⟨g, cap, cur, rfl, e2, _⟩
    · intro h; cases h
    · intro h
      have : g = b := by simpa [Value.ownBlock] using h
      omega
  rcases hp with rfl | rfl
  · exact .inl ⟨hB, v, hb, ho2, hne⟩
  · exact .inr ⟨hB, v, hb, ho2, hne⟩

set_option maxHeartbeats 1000000 in
set_option maxRecDepth 100000 in
theorem check_fresh (b : Nat) (w : World) (v : Value) (hb : w.heap[b]? = some (.cells #[.pointer none, v] 44 (0, 0))) :
    Calls Tryd.prog 35 #[.pointer (some ⟨b, 0, none⟩)] w fun e w' => e = .returned (.tuple #[]) ∧ w' = w.setCell ⟨b, 0, none⟩ (.pointer (some ⟨b, 0, none⟩)) := by
  obtain ⟨j, hj, hjs⟩ := Option.map_eq_some_iff.1 sizeB
  have h0 : w.cell? ⟨b, 0, none⟩ = some (.pointer none) := by rw [Lib.cell_of_heap hb]; rfl
  have hsh : w.shape? b = some (44, 2) := by simp [World.shape?, hb]
  have hfz : w.frozen? ⟨b, 0, none⟩ = false := Lib.frozen_of_heap hb 0
  go_enter Tryd.func35, Tryd.ntmps35
  go_wp2
  rw [Lib.run_to_unsafe w ⟨b, 0, none⟩ Tryd.underlying41 Tryd.underlying68 hj (by rw [hjs]; decide) hsh (Nat.zero_lt_succ 1)]
  simp only [Result.andThen]
  rw [Oper.upon_value]
  go_wp2
  rw [run_callFunc_extern Tryd.func47 (by kernel_rfl) (by kernel_rfl) (by kernel_rfl) (e := Extern.AbiNoEscape.same) (by kernel_rfl)]
  rw [Lib.run_noEscape]
  simp only [Result.andThen]
  rw [Oper.upon_value]
  go_wp2
  rw [Lib.run_from_unsafe w ⟨b, 0, none⟩ Tryd.underlying68 Tryd.underlying41 hj hsh liesB]
  simp only [Result.andThen]
  rw [Oper.upon_value]
  go_wp2
  go_end0
  exact ⟨rfl, rfl⟩

set_option maxHeartbeats 1000000 in
set_option maxRecDepth 100000 in
theorem check_used (b : Nat) (w : World) (v : Value) (hb : w.heap[b]? = some (.cells #[.pointer (some ⟨b, 0, none⟩), v] 44 (0, 0))) :
    Calls Tryd.prog 35 #[.pointer (some ⟨b, 0, none⟩)] w fun e w' => e = .returned (.tuple #[]) ∧ w' = w := by
  have h0 : w.cell? ⟨b, 0, none⟩ = some (.pointer (some ⟨b, 0, none⟩)) := by rw [Lib.cell_of_heap hb]; rfl
  obtain ⟨j, hj, _⟩ := Option.map_eq_some_iff.1 sizeB
  go_enter Tryd.func35, Tryd.ntmps35
  go_wp2
  rw [Lib.run_neq_ptr_same w _ Tryd.underlying41 hj]
  go_wp2
  go_end0
  exact ⟨rfl, rfl⟩

/-- copyCheck: the builder is there as it was, and used. -/
theorem check_any (b base : Nat) (bs : List UInt8) (w : World) (h : Bu w b base bs) :
    Calls Tryd.prog 35 #[.pointer (some ⟨b, 0, none⟩)] w fun e w' => e = .returned (.tuple #[]) ∧ Kb b base w w' ∧ ∃ v, w'.heap[b]? = some (.cells #[.pointer (some ⟨b, 0, none⟩), v] 44 (0, 0)) ∧ w'.ownsRow base 5 1 v bs.length (Lib.byteCells bs) := by
  obtain ⟨⟨p, v, hp, hb, ho⟩, hlt⟩ := h
  rcases hp with rfl | rfl
  · refine (check_fresh b w v hb).mono ?_
    rintro e w' ⟨rfl, rfl⟩
    refine ⟨rfl, Kb.set w 0 _, v, ?_, ownsRow_setCell_below ho (a := ⟨b, 0, none⟩) hlt _⟩
    obtain ⟨hl, hk⟩ := Array.getElem?_eq_some_iff.1 hb
    show (w.heap.modify b _)[b]? = _
    rw [Array.getElem?_eq_getElem (by rw [Array.size_modify]; exact hl), Array.getElem_modify_self, hk]
    rfl
  · refine (check_used b w v hb).mono ?_
    rintro e w' ⟨rfl, rfl⟩
    exact ⟨rfl, Kb.refl _ _ _, v, hb, ho⟩

theorem Bu.put {w : World} {b base : Nat} {v v' : Value} {bs : List UInt8} (hlt : b < base) (hb : w.heap[b]? = some (.cells #[.pointer (some ⟨b, 0, none⟩), v] 44 (0, 0))) (ho : w.ownsRow base 5 1 v' bs.length (Lib.byteCells bs)) : Bu (w.setCell ⟨b, 1, none⟩ v') b base bs := by
  refine ⟨⟨_, v', .inr rfl, ?_, ownsRow_setCell_below ho (a := ⟨b, 1, none⟩) hlt _⟩, hlt⟩
  obtain ⟨hl, hk⟩ := Array.getElem?_eq_some_iff.1 hb
  show (w.heap.modify b _)[b]? = _
  rw [Array.getElem?_eq_getElem (by rw [Array.size_modify]; exact hl), Array.getElem_modify_self, hk]
  rfl

theorem Tryd.infoU8 : (Tryd.prog.info? 5).map (fun i => (i.zero, i.size, i.bytes)) = some (some (.int .u8 0), 1, 1) := by kernel_rfl

theorem own_is_slice {w : World} {base n : Nat} {v : Value} {e : TypeId} {xs : List Value} (h : w.ownsRow base e 1 v n xs) : ∃ a m cap, v = .slice a m cap := by
  rcases h.2 with ⟨rfl, _⟩ | ⟨g, cap, cur, rfl, _⟩
  · exact ⟨_, _, _, rfl⟩
  · exact ⟨_, _, _, rfl⟩

theorem own_ne {w : World} {b base n : Nat} {v : Value} {e : TypeId} {xs : List Value} (h : w.ownsRow base e 1 v n xs) (hb : b < base) : some b ≠ v.ownBlock := by
  rcases h.2 with ⟨rfl, _⟩ | ⟨g, cap, cur, rfl, hbg, _⟩
  · intro h; cases h
  · intro h
    have : b = g := by simpa [Value.ownBlock] using h
    omega

set_option maxHeartbeats 2000000 in
set_option maxRecDepth 100000 in
theorem writeByte_any (b base : Nat) (bs : List UInt8) (c : UInt8) (w : World) (h : Bu w b base bs) (hlen : bs.length ≤ 1000000000) (hbw : base ≤ w.heap.size) :
    Calls Tryd.prog 24 #[.pointer (some ⟨b, 0, none⟩), .int .u8 (c.toNat : Int)] w fun e w' => e = .returned .nilIface ∧ Kb b base w w' ∧ Bu w' b base (bs ++ [c]) := by
  obtain ⟨i0, hi, hz0, hz1, hz2⟩ := info_parts Tryd.infoU8
  have hlt := h.lt
  have cc := check_any b base bs w h
  go_enter Tryd.func24, Tryd.ntmps24
  go_wp2_with fail
  refine cc.mono ?_
  rintro e w1 ⟨rfl, hk1, v, hbk, hown⟩
  have hs1 := hk1.size
  have c0 : w1.cell? ⟨b, 0, none⟩ = some (.pointer (some ⟨b, 0, none⟩)) := by rw [Lib.cell_of_heap hbk]; rfl
  have c1 : w1.cell? ⟨b, 1, none⟩ = some v := by rw [Lib.cell_of_heap hbk]; rfl
  go_wp2_with (at_builtin; refine wpList_append_own _ rfl _ _ 42 rfl base 5 i0 (.int .u8 0) 1 1 Tryd.underlying42 hi hz0 hz1 hz2 rfl (by decide) _ _ _ rfl (hown.alloc _) ⟨w1.heap.size, 0, none⟩ 1 1 [.int .u8 (c.toNat : Int)] rfl rfl (cell_one_new _ _ _) (by simp [Value.oneCell']) (by unfold maxLen; omega) (by omega) (by simp; omega) ?_; intro v' w2 hown' hgrow _; have hlb : b < w1.heap.size := (Array.getElem?_eq_some_iff.1 hbk).1; have hb2 : w2.heap[b]? = some (.cells #[.pointer (some ⟨b, 0, none⟩), v] 44 (0, 0)) := (hgrow.block b (by simp; omega) (own_ne hown hlt)).trans ((Below.heap_alloc w1 _ b hlb).trans hbk); have d0 : w2.cell? ⟨b, 0, none⟩ = some (.pointer (some ⟨b, 0, none⟩)) := (by rw [Lib.cell_of_heap hb2]; rfl); have d1 : w2.cell? ⟨b, 1, none⟩ = some v := (by rw [Lib.cell_of_heap hb2]; rfl); have f1 : w2.frozen? ⟨b, 1, none⟩ = false := Lib.frozen_of_heap hb2 1; obtain ⟨g', cap', rfl⟩ := ownsRow_succ hown')
  go_ret
  refine ⟨rfl, (hk1.trans ((Kb.alloc _ _ _ _).trans (Kb.grown hgrow (hown.alloc _)))).trans (Kb.set _ 1 _), Bu.put hlt hb2 ?_⟩
  have e1 : Lib.byteCells (bs ++ [c]) = Lib.byteCells bs ++ [.int .u8 (c.toNat : Int)] := by simp [Lib.byteCells]
  rw [e1, List.length_append]
  exact hown'

set_option maxHeartbeats 2000000 in
set_option maxRecDepth 100000 in
theorem writeString_any (b base : Nat) (bs p : List UInt8) (w : World) (h : Bu w b base bs) (hlen : bs.length ≤ 1000000000) (hp : p.length ≤ 1000000000) (hbw : base ≤ w.heap.size) :
    Calls Tryd.prog 22 #[.pointer (some ⟨b, 0, none⟩), .string (B p)] w fun e w' => e = .returned (.tuple #[.int .i64 (p.length : Int), .nilIface]) ∧ Kb b base w w' ∧ Bu w' b base (bs ++ p) := by
  obtain ⟨i0, hi, hz0, hz1, hz2⟩ := info_parts Tryd.infoU8
  have hlt := h.lt
  have hsz : (B p).size = p.length := rfl
  have cc := check_any b base bs w h
  go_enter Tryd.func22, Tryd.ntmps22
  go_wp2_with fail
  refine cc.mono ?_
  rintro e w1 ⟨rfl, hk1, v, hbk, hown⟩
  have hs1 := hk1.size
  have c0 : w1.cell? ⟨b, 0, none⟩ = some (.pointer (some ⟨b, 0, none⟩)) := by rw [Lib.cell_of_heap hbk]; rfl
  have c1 : w1.cell? ⟨b, 1, none⟩ = some v := by rw [Lib.cell_of_heap hbk]; rfl
  go_wp2_with (at_builtin; refine Lib.wpList_append_own_string _ rfl _ _ 42 9 rfl base 5 i0 Tryd.underlying42 Tryd.underlying9 hi hz0 hz1 hz2 _ _ _ rfl hown (B p) rfl (by unfold maxLen; show bs.length + p.length ≤ _; omega) (by show bs.length + p.length ≤ _; omega) (by omega) ?_; intro v' w2 hown' hgrow _; have hlb : b < w1.heap.size := (Array.getElem?_eq_some_iff.1 hbk).1; have hb2 : w2.heap[b]? = some (.cells #[.pointer (some ⟨b, 0, none⟩), v] 44 (0, 0)) := (hgrow.block b hlb (own_ne hown hlt)).trans hbk; have d0 : w2.cell? ⟨b, 0, none⟩ = some (.pointer (some ⟨b, 0, none⟩)) := (by rw [Lib.cell_of_heap hb2]; rfl); have d1 : w2.cell? ⟨b, 1, none⟩ = some v := (by rw [Lib.cell_of_heap hb2]; rfl); have f1 : w2.frozen? ⟨b, 1, none⟩ = false := Lib.frozen_of_heap hb2 1; obtain ⟨a', n', cap', rfl⟩ := own_is_slice hown')
  go_ret2
  refine ⟨rfl, (hk1.trans (Kb.grown hgrow hown)).trans (Kb.set _ 1 _), Bu.put hlt hb2 ?_⟩
  have e1 : Lib.byteCells (bs ++ p) = Lib.byteCells bs ++ Lib.strCells (B p) := by simp [Lib.byteCells, Lib.strCells, B]
  rw [e1, List.length_append]
  exact hown'

theorem len_any (b base : Nat) (bs : List UInt8) (w : World) (h : Bu w b base bs) :
    Calls Tryd.prog 25 #[.pointer (some ⟨b, 0, none⟩)] w fun e w' => e = .returned (.int .i64 (bs.length : Int)) ∧ w' = w := by
  have := Tryd.Builder_Len b b _ w (h.fits (Nat.le_refl _))
  rw [Lib.byteCells_length] at this
  exact this

theorem string_any (b base n : Nat) (bs : List UInt8) (w : World) (h : Bu w b base bs) (hn : n ≤ b) (hw : n ≤ w.heap.size) :
    Calls Tryd.prog 26 #[.pointer (some ⟨b, 0, none⟩)] w fun e w' => e = .returned (.string (B bs)) ∧ Below n w w' ∧ Lib.OthersKept 5 (some b) w w' :=
  (Tryd.Builder_String_any_k n b bs w (Lib.IsBuilderF.of (h.fits hn)) hw).mono (by rintro e w' ⟨rfl, _, h2, h3⟩; exact ⟨rfl, h2, h3⟩)
end Lb
end Go.Proofs.YtfibcbnhjajdlabDoor
