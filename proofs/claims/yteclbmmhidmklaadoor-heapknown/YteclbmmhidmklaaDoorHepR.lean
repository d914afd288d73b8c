import Derived.Test.YteclbmmhidmklaaDoorHepS
import Derived.Deep.RegionHeld3
import Derived.RangeFuncBox
/- The document's heap: New, Drop, Key, Least. -/
namespace Go.Proofs.YteclbmmhidmklaaDoor
set_option linter.ambiguousOpen false
open Go.RowKit
namespace Hh
open Ft
set_option linter.unusedSimpArgs false
set_option linter.unusedVariables false

theorem drop_lt (L : List It) (i : Int) : ((dropH L i).length < L.length) ↔ hasH L i = true := by
  unfold dropH hasH
  induction L with
  | nil => simp
  | cons x L ih =>
    have h2 := List.length_filter_le (fun x => !(x.i == i)) L
    rw [List.filter_cons, List.any_cons]
    cases hx : x.i == i
    · have e1 : (x :: L).length = L.length + 1 := rfl
      simp only [Bool.not_false, if_true, List.length_cons, Bool.false_or]
      rw [← ih]
      omega
    · simp
      omega

theorem dropH_take (L : List It) (i : Int) (k : Nat) (x : It) (hx : L[k]? = some x) : dropH (L.take (k + 1)) i = if x.i = i then dropH (L.take k) i else dropH (L.take k) i ++ [x] := by
  have e : L.take (k + 1) = L.take k ++ [x] := by
    obtain ⟨h1, rfl⟩ := List.getElem?_eq_some_iff.1 hx
    exact List.take_succ_eq_append_getElem h1
  rw [e]
  unfold dropH
  rw [List.filter_append]
  by_cases h : x.i = i
  · rw [if_pos h]
    simp [h]
  · rw [if_neg h]
    simp [h]

/-- How the document's heap lies: its own block, and the row of those that are in it. -/
structure RHp (base : Nat) (w : World) (t : Nat) (N : Int) (lv : Value) (L : List It) : Prop where
  blk : w.heap[t]? = some (.cells #[nu N, lv] 43)
  row : w.ownsRow base 67 2 lv L.length (L.flatMap It.cells)
  lo : base ≤ t
  ne : lv.ownBlock ≠ some t

section
variable {base t : Nat} {w w' : World} {N : Int} {lv : Value} {L : List It}

theorem RHp.tlt (h : RHp base w t N lv L) : t < w.heap.size := (Array.getElem?_eq_some_iff.1 h.blk).1

theorem RHp.cells (h : RHp base w t N lv L) : w.cell? ⟨t, 0, none⟩ = some (nu N) ∧ w.cell? ⟨t, 1, none⟩ = some lv ∧ ∀ i, w.frozen? ⟨t, i, none⟩ = false := by
  have hb := h.blk
  exact ⟨by simp [World.cell?, hb], by simp [World.cell?, hb], fun i => by simp [World.frozen?, hb]⟩

theorem RHp.below (h : RHp base w t N lv L) (hb : Below w.heap.size w w') : RHp base w' t N lv L :=
  ⟨(hb.block t h.tlt).trans h.blk, own_belowI h.row hb, h.lo, h.ne⟩

/-- What an item holds, where it lies. -/
theorem RHp.at (h : RHp base w t N lv L) {k : Nat} {x : It} (hx : L[k]? = some x) : ∃ g c, lv = .slice (some ⟨g, 0, none⟩) L.length c ∧ L.length ≤ c ∧ c ≤ maxLen ∧ w.cell? ⟨g, k * 2, none⟩ = some (nu x.i) ∧ w.cell? ⟨g, k * 2 + 1, none⟩ = some (nu x.k) := by
  obtain ⟨hk, hxe⟩ := List.getElem?_eq_some_iff.1 hx
  obtain ⟨a, c, e, h1, h2, h3⟩ := own_rdI h.row rfl
  obtain ⟨g, o, rfl, h4⟩ := h3 (by omega)
  have h0 : o = 0 := by
    rcases h.row.2 with ⟨e2, h5⟩ | ⟨g', cap, cur, e2, _⟩
    · omega
    · rw [e2] at e
      simp only [Value.slice.injEq, Option.some.injEq, Addr.mk.injEq] at e
      exact e.1.2.1.symm
  subst h0
  refine ⟨g, c, e, h1, h2, ?_, ?_⟩
  · have := h4 k hk 0 (nu x.i) (by rw [hxe]; rfl)
    simpa using this
  · have := h4 k hk 1 (nu x.k) (by rw [hxe]; rfl)
    simpa using this

theorem RHp.shape (h : RHp base w t N lv L) : ∃ a c, lv = .slice a L.length c ∧ L.length ≤ c ∧ c ≤ maxLen := by
  obtain ⟨a, c, e, h1, h2, _⟩ := own_rdI h.row rfl
  exact ⟨a, c, e, h1, h2⟩
end

set_option maxRecDepth 100000 in
theorem newH_ref (n : Int) (w : World) :
    Calls Tryd.prog 6 #[nu n] w fun e w' => (if n < 1 ∨ 65536 < n then e = .returned (.tuple #[.pointer none, nu 1]) ∧ Below w.heap.size w w' else e = .returned (.tuple #[ptr w.heap.size, nu 0]) ∧ RHp w.heap.size w' w.heap.size n (.slice none 0 0) [] ∧ Below w.heap.size w w') := by
  by_cases h : n < 1 ∨ 65536 < n
  · simp only [if_pos h]
    rcases h with h | h
    · have h1 : decide (n < 1) = true := decide_eq_true h
      go_enter Tryd.func6, Tryd.ntmps6
      go_wp2
      go_ret2
      exact ⟨rfl, Below.refl _ _⟩
    · have h1 : decide (n < 1) = false := decide_eq_false (by omega)
      have h2 : decide (65536 < n) = true := decide_eq_true h
      have h0 : ¬ n < 1 := by omega
      go_enter Tryd.func6, Tryd.ntmps6
      go_wp2
      go_ret2
      exact ⟨rfl, Below.refl _ _⟩
  · simp only [if_neg h]
    have h0 : ¬ n < 1 := by omega
    have h2 : ¬ 65536 < n := by omega
    have HB : Hid (Below w.heap.size w (w.alloc (.cells #[nu n, .slice none 0 0] 43))) := (Below.refl _ _).alloc (Nat.le_refl _) _
    have HR : Hid (RHp w.heap.size (w.alloc (.cells #[nu n, .slice none 0 0] 43)) w.heap.size n (.slice none 0 0) []) := ⟨heap_alloc_new _ _, World.ownsRow_nil _ _ _ _, Nat.le_refl _, by simp [Value.ownBlock]⟩
    clear h
    go_enter Tryd.func6, Tryd.ntmps6
    go_wp2
    go_ret2
    exact ⟨rfl, HR.out, HB.out⟩

set_option maxRecDepth 100000 in
set_option maxHeartbeats 2000000 in
theorem dropH_ref (base : Nat) (w : World) (t : Nat) (N : Int) (lv : Value) (L : List It) (i : Int) (h : RHp base w t N lv L) (hl : L.length ≤ 100000) (hb : base ≤ w.heap.size) :
    Calls Tryd.prog 12 #[ptr t, nu i] w fun e w' => e = .returned (.bool (hasH L i)) ∧ ∃ lv', RHp base w' t N lv' (dropH L i) ∧ Keep (fun k => k = t) w w' ∧ (∀ g, lv'.ownBlock = some g → w.heap.size ≤ g) := by
  obtain ⟨i0, ji, hz0, hz1, hz2⟩ := info_parts infoIt
  obtain ⟨a, c, rfl, hc1, hc2⟩ := h.shape
  obtain ⟨n, hn⟩ : ∃ n, L.length = n := ⟨_, rfl⟩
  rw [hn] at hc1 hl h
  unfold maxLen at hc2
  have hcI : (c : Int) ≤ 9223372036854775807 := by omega
  have HR : Hid (∀ wx, Below w.heap.size w wx → RHp base wx t N (.slice a n c) L) := fun wx hb => h.below hb
  have HN := Hid.mk' hn
  have htl := h.tlt
  have q1 := h.cells.2.1
  obtain ⟨bb, hbb⟩ : ∃ bb, hasH L i = bb := ⟨_, rfl⟩
  rw [hbb]
  have HBB := Hid.mk' hbb
  clear h hn hbb
  go_enter Tryd.func12, Tryd.ntmps12
  go_wp2
  go_loopw [5, 6] (fun lv kv wr => ∃ (k : Nat) (a' : Option Addr) (n' c' : Nat), k ≤ n ∧ kv = nun k ∧ lv = .slice a' n' c' ∧ n' ≤ k ∧ Hid (wr.ownsRow w.heap.size 67 2 (.slice a' n' c') n' ((dropH (L.take k) i).flatMap It.cells) ∧ (dropH (L.take k) i).length = n' ∧ Below w.heap.size w wr)) (fun _ kv _ => n - (intOf kv).toNat)
  case atStart => exact ⟨0, none, 0, 0, Nat.zero_le _, rfl, rfl, Nat.le_refl _, World.ownsRow_nil _ _ _ _, rfl, Below.refl _ _⟩
  case round =>
    obtain ⟨k, a', n', c', hk, rfl, rfl, hnk, HL⟩ := hrel
    have hq1 := (HR.out wr HL.out.2.2).cells.2.1
    by_cases hlt : k < n
    · have hkI : (k : Int) < (n : Int) := by omega
      have hk0 : (0 : Int) ≤ (k : Int) := by omega
      obtain ⟨x, hx⟩ : ∃ x, L[k]? = some x := ⟨_, List.getElem?_eq_getElem (by rw [HN.out]; exact hlt)⟩
      obtain ⟨g, c9, e9, _, _, hx1, hx2⟩ := (HR.out wr HL.out.2.2).at hx
      simp only [Value.slice.injEq] at e9
      obtain ⟨rfl, e9n, rfl⟩ := e9
      clear e9n
      obtain ⟨xi, xk⟩ := x
      dsimp only at hx1 hx2
      have hdt := dropH_take L i k ⟨xi, xk⟩ hx
      dsimp only at hdt
      by_cases he : xi = i
      · rw [if_pos he] at hdt
        have hbe : (xi == i) = true := by simpa using he
        have HD := Hid.mk' hdt
        clear hx hdt he
        go_wp2
        go_roundw
        case rel => exact ⟨k + 1, a', n', c', by omega, by go_num, rfl, by omega, by rw [HD.out]; exact HL.out⟩
        case measure => simp [intOf]; omega
      · rw [if_neg he] at hdt
        have hbe : (xi == i) = false := by simpa using he
        have HD := Hid.mk' hdt
        have hmid : wr.rangeAt g (k * 2) [nu xi, nu xk] := fun j v hv => by
          rcases j with _ | _ | j
          · simp at hv
            subst hv
            simpa using hx1
          · simp at hv
            subst hv
            exact hx2
          · simp at hv
        have HMID := Hid.mk' hmid
        clear hx hdt he hmid
        go_wp2_with (first | (refine wpList_load_mid rfl 67 _ rfl g (k * 2) rfl [nu xi, nu xk] _ HMID.out Tryd.underlying67 rfl size_it ?_) | (at_builtin; refine wpList_append_own (P := Tryd.prog) _ rfl _ _ 41 rfl w.heap.size 67 i0 (.agg #[.int .i64 0, .int .i64 0]) 2 16 Tryd.underlying41 ji hz0 hz1 hz2 rfl (by decide) _ n' _ rfl (HL.out.1.alloc _) ⟨wr.heap.size, 0, none⟩ 1 1 [nu xi, nu xk] rfl rfl (cell_two_new _ _ _ _) (by simp [Value.oneCell']) (by unfold maxLen; omega) (by omega) (by have := HL.out.2.2.size; simp; omega) ?_; intro v8 w8 ho8 hg8 _; have HB8 : Hid (Below w.heap.size w w8) := (HL.out.2.2.alloc HL.out.2.2.size _).grown hg8 (HL.out.2.2.alloc HL.out.2.2.size _).size (fun r e => (HL.out.1.lt r e).1); obtain ⟨g8, c8, rfl⟩ := ownsRow_succ ho8; have HO8 := Hid.mk' ho8; clear ho8 hg8) | fail)
        go_roundw
        case rel => exact ⟨k + 1, _, n' + 1, c8, by omega, by go_num, rfl, by omega, by rw [HD.out, List.flatMap_append]; exact HO8.out, by rw [HD.out, List.length_append, HL.out.2.1]; rfl, HB8.out⟩
        case measure => simp [intOf]; omega
    · have hkI : ¬ (k : Int) < (n : Int) := by omega
      have hkn : k = n := by omega
      have htk : L.take k = L := by rw [hkn]; exact List.take_of_length_le (by rw [HN.out]; exact Nat.le_refl _)
      rw [htk] at HL
      have HDL : Hid (decide (n' < n) = bb) := by
        show _ = _
        rw [← HBB.out, Bool.eq_iff_iff, decide_eq_true_iff, ← drop_lt, HL.out.2.1, HN.out]
      have hfz := (HR.out wr HL.out.2.2).cells.2.2 1
      have hks : Keep (fun j => j = t) w (wr.setCell ⟨t, 1, none⟩ (.slice a' n' c')) := ((Keep.of_below (F := fun j => j = t) HL.out.2.2)).setCell (p := ⟨t, 1, none⟩) (.inl rfl) _
      have HKS := Hid.mk' hks
      have HNEW : Hid (RHp base (wr.setCell ⟨t, 1, none⟩ (.slice a' n' c')) t N (.slice a' n' c') (dropH L i)) := by
        have hne : Value.ownBlock (.slice a' n' c') ≠ some t := fun e => by have := (HL.out.1.lt t e).1; omega
        refine ⟨?_, ?_, (HR.out wr HL.out.2.2).lo, hne⟩
        · rw [heap_setCell_same _ t 1 _ _ _ (HR.out wr HL.out.2.2).blk]
          rfl
        · rw [HL.out.2.1]
          have h1 : (wr.setCell ⟨t, 1, none⟩ (.slice a' n' c')).ownsRow w.heap.size 67 2 (.slice a' n' c') n' ((dropH L i).flatMap It.cells) := ((Keep.refl (fun j => j = t) wr).setCell (p := ⟨t, 1, none⟩) (.inl rfl) _).own HL.out.1 (fun k hk e => hne (e ▸ hk))
          exact own_monoI h1 hb
      have HLO : Hid (∀ g, Value.ownBlock (.slice a' n' c') = some g → w.heap.size ≤ g) := fun g e => (HL.out.1.lt g e).1
      clear hks htk hkn
      go_wp2
      go_ret
      refine ⟨?_, _, HNEW.out, HKS.out, HLO.out⟩
      show Ending.returned (Value.bool (decide (n' < n))) = _
      rw [HDL.out]
end Hh
end Go.Proofs.YteclbmmhidmklaaDoor
