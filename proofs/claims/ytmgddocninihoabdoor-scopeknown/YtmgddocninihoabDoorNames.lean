/- Names of a book: its scopes in their order, in new memory. -/
import Derived.Test.YtmgddocninihoabDoorLook
import Derived.Test.YtmgddocninihoabDoorOwn
import Derived.Test.YtmgddocninihoabDoorRange
import Derived.Deep.OwnRows
namespace Go.Proofs.YtmgddocninihoabDoor
set_option linter.ambiguousOpen false
open Go.RowKit Go.Maps Nm
namespace Sc
set_option linter.unusedSimpArgs false
set_option linter.unusedVariables false

theorem grown_set (W : World) (b i : Nat) (v : Value) : W.grownBy (W.setCell ⟨b, i, none⟩ v) (some b) :=
  ⟨rfl, rfl, rfl, (KeepsWalks.setCell W _ v).size, fun k _ hk => Below.heap_setCell _ _ _ k (fun e => hk (by rw [e]))⟩

theorem own_of_row {W : World} {base g n : Nat} {t : TypeId} {f : Nat → Value} (h : W.rowIs g t n f) (hb : base ≤ g) (hn : n ≤ maxLen) : W.ownsRow base t 1 (.slice (some ⟨g, 0, none⟩) n n) n ((List.range n).map f) := by
  obtain ⟨c, h1, h2, h3⟩ := h
  refine ⟨by simp, .inr ⟨g, n, c, rfl, hb, h1, Nat.le_refl _, hn, by simpa using h2, ?_⟩⟩
  refine List.ext_getElem (by simp [h2]) fun i h4 h5 => ?_
  have hi : i < n := by simpa using h5
  have := h3 i hi
  simp only [List.getElem_take, Array.getElem_toList, List.getElem_map, List.getElem_range]
  have hc : i < c.size := by omega
  rw [Array.getElem?_eq_getElem hc] at this
  exact Option.some.inj this

theorem map_txt (l : List (List UInt8)) : (List.range l.length).map (fun i => txt (l.getD i [])) = l.map txt := by
  refine List.ext_getElem (by simp) fun i h1 h2 => ?_
  have hi : i < l.length := by simpa using h2
  simp only [List.getElem_map, List.getElem_range]
  rw [getD_at l i hi]

/-- A name that has come, or the empty text that is there ahead of it. -/
def nm (l : List (List UInt8)) (left : Lit → Bool) (i : Nat) : Value := if left (.string (l.getD i [])) then .string ByteArray.empty else txt (l.getD i [])

set_option maxRecDepth 100000 in
set_option maxHeartbeats 2000000 in
theorem names_s (pb mb : Nat) (l : List (List UInt8)) (w : World) (hM : Mp w pb mb l) :
    Calls Tryd.prog 19 #[.pointer (some ⟨pb, 0, none⟩)] w fun e w' => ∃ v, e = .returned v ∧ w'.ownsRow w.heap.size 9 1 v l.length (l.map txt) ∧ Below w.heap.size w w' := by
  obtain ⟨hpb, hmb⟩ := hM.lt
  obtain ⟨hc, ⟨D, hD, ho⟩, hne⟩ := hM
  have h64 := hD.most
  have hmk := run_make_row' (P := Tryd.prog) 26 9 (.string ByteArray.empty) 16 Tryd.underlying26 Tryd.info9 rfl .i64 .i64 l.length (by omega) (by omega)
  have ho1 := ho.alloc (.cells (madeCells #[.string ByteArray.empty] l.length) 9)
  have hc1 : (w.alloc (.cells (madeCells #[.string ByteArray.empty] l.length) 9)).cell? ⟨pb, 0, none⟩ = some (.map (some mb)) := by
    rw [World.cell?_alloc_lt _ _ ⟨pb, 0, none⟩ hpb]; exact hc
  have hr0 := World.rowIs_made w (.string ByteArray.empty) l.length 9
  have hs1 : (w.alloc (.cells (madeCells #[.string ByteArray.empty] l.length) 9)).heap.size = w.heap.size + 1 := by simp
  have hB1 : Below w.heap.size w (w.alloc (.cells (madeCells #[.string ByteArray.empty] l.length) 9)) := (Below.refl _ _).alloc (Nat.le_refl _) _
  go_enter Tryd.func19, Tryd.ntmps19
  go_wp2_with (first | (at_len; refine wpList_len_own _ rfl _ 68 rfl 9 3 Tryd.underlying68 _ mb _ D rfl ho ?_; rw [hD.size]) | (at_range; refine wpList_range_own _ rfl _ 68 rfl 9 3 law Tryd.underlying68 _ mb _ D rfl ho1 ?_; rw [hs1]; intro w0 hrg0 hg0 hs0))
  go_frame
  go_loopw [5] (fun _ wr => ∃ left cnt, wr.ranges Tryd.prog 9 (plainElem Tryd.prog 3) mb (w.heap.size + 1) l.length D left cnt ∧ Below w.heap.size w wr ∧ wr.rowIs w.heap.size 9 l.length (nm l left)) (fun _ wr => wr.rangeLeft mb (w.heap.size + 1))
  case atStart =>
    refine ⟨_, _, hrg0, hB1.grown hg0 (by omega) (fun k e => by cases e), (hr0.of_block (hg0.block _ (by omega) (by simp))).congr fun i hi => ?_⟩
    have : Maps.has D (.string (l.getD i [])) = true := by rw [hD.has_eq, getD_at l i hi, decide_eq_true (List.getElem_mem hi)]
    unfold nm; rw [if_pos this]
  case round =>
    obtain ⟨left, cnt, hrg, hb, hrow⟩ := hrel
    go_wp2_with (at_next; refine wpList_next_ranges _ rfl _ rfl 9 law _ (fun q : List UInt8 => Value.string (B q)) (Value.int .i64) entry_inv val_inv mb (w.heap.size + 1) _ D left cnt rfl hrg ?_ ?_)
    · intro _ hl0
      have hown := own_of_row (base := w.heap.size) (hrow.congr (g := fun i => txt (l.getD i [])) fun i hi => by simp [nm, hl0]) (Nat.le_refl _) (by unfold maxLen; omega)
      rw [map_txt] at hown
      go_wp2
      go_ret
      exact ⟨_, rfl, hown, hb⟩
    · intro q c kl y yp w1 cnt1 hkey hlx hv hat hrg1 hlt1 hg1 hs1' hen
      obtain ⟨i, hi, hq, rfl, rfl⟩ := entry_at hD hkey hv hat
      have hql := (key_len hkey).2
      have hq2 := hD.dotted q (hq ▸ List.getElem_mem hi)
      have h131 := dotted_len hq2
      have hb1 : Below w.heap.size w w1 := hb.trans ⟨hg1.os, hg1.tape, hg1.output, hg1.size, fun k hk => hg1.block k (by have := hb.size; omega) (by simp; omega)⟩
      have hrow1 : w1.rowIs w.heap.size 9 l.length (nm l left) := hrow.of_block (hg1.block _ hrow.lt (by simp))
      have h1 : cnt1 < cnt := hlt1
      have HN : Hid (∀ j, j < l.length → (if j = i then Value.string (B q) else nm l left j) = nm l (fun z => left z && !z.sameKey (.string q)) j) := fun j hj => by
        simp only [nm, getD_at l j hj, ← hq, struck l hD.nodup left hi hj]
        by_cases hji : j = i
        · subst hji; simp [txt]
        · simp [hji]
      have HQ : Hid (l[i] = q) := hq
      clear hq hat hv hkey hq2
      have CC : Hid (∀ w1 : World, Calls Tryd.prog 36 #[.string (B q)] w1 fun e w' => e = .returned (.string (B q)) ∧ Below w1.heap.size w1 w') := fun w1 => clone_l q w1 (by omega)
      go_wp2_with (go_at_call 36; refine (CC.out _).mono ?_; rintro e w2 ⟨rfl, hb2⟩; have hrow2 := hrow1.of_block (hb2.block _ hrow1.lt); have hce := hrow2.cell hi; have hfr := hrow2.frozen i)
      have hgs := grown_set w2 w.heap.size i (.string (B q))
      have hrg3 := (hrg1.kept (grown_of_below hb2) (by simp) (by simp)).kept hgs (by simp; omega) (by simp)
      have hb2' := hb1.trans (hb2.mono hb1.size)
      go_roundw
      case rel => exact ⟨_, _, hrg3, hb2'.grown hgs hb2'.size (fun k e => by cases e; exact Nat.le_refl _), (hrow2.set i _).congr HN.out⟩
      case measure => rw [hrg3.left_eq, hrg.left_eq]; exact h1
end Sc
end Go.Proofs.YtmgddocninihoabDoor
