/- The document's expiry: how it lies; without. -/
import Derived.Test.YthjdpfmnbmnbhaaDoorExpS
import Derived.Deep.RegionHeld3
import Derived.RangeFuncBox
import Derived.Laws.AppendOwnNone
import Derived.Deep.AppendLies
namespace Go.Proofs.YthjdpfmnbmnbhaaDoor
set_option linter.ambiguousOpen false
open Go.RowKit
namespace Ex
open Hh Ft
set_option linter.unusedSimpArgs false
set_option linter.unusedVariables false

theorem dropE_take (L : List En) (s : Int) (k : Nat) (x : En) (hx : L[k]? = some x) : dropE (L.take (k + 1)) s = if x.s = s then dropE (L.take k) s else dropE (L.take k) s ++ [x] := by
  have e : L.take (k + 1) = L.take k ++ [x] := by
    obtain ⟨h1, rfl⟩ := List.getElem?_eq_some_iff.1 hx
    exact List.take_succ_eq_append_getElem h1
  rw [e]
  unfold dropE
  rw [List.filter_append]
  by_cases h : x.s = s
  · rw [if_pos h]
    simp [h]
  · rw [if_neg h]
    simp [h]

/-- How the document's expiry lies: its own block, and the row of its entries. -/
structure RXp (base : Nat) (w : World) (t : Nat) (lv : Value) (L : List En) : Prop where
  blk : w.heap[t]? = some (.cells #[lv] 28)
  row : w.ownsRow base 69 3 lv L.length (L.flatMap En.cells)
  lo : base ≤ t
  ne : lv.ownBlock ≠ some t

section
variable {base t : Nat} {w w' : World} {lv : Value} {L : List En}

theorem RXp.tlt (h : RXp base w t lv L) : t < w.heap.size := (Array.getElem?_eq_some_iff.1 h.blk).1

theorem RXp.cells (h : RXp base w t lv L) : w.cell? ⟨t, 0, none⟩ = some lv ∧ ∀ i, w.frozen? ⟨t, i, none⟩ = false := by
  have hb := h.blk
  exact ⟨by simp [World.cell?, hb], fun i => by simp [World.frozen?, hb]⟩

theorem RXp.below (h : RXp base w t lv L) (hb : Below w.heap.size w w') : RXp base w' t lv L :=
  ⟨(hb.block t h.tlt).trans h.blk, own_belowI h.row hb, h.lo, h.ne⟩

/-- What an entry holds, where it lies. -/
theorem RXp.at (h : RXp base w t lv L) {k : Nat} {x : En} (hx : L[k]? = some x) : ∃ g c, lv = .slice (some ⟨g, 0, none⟩) L.length c ∧ L.length ≤ c ∧ c ≤ maxLen ∧ w.cell? ⟨g, k * 3, none⟩ = some (nu x.s) ∧ w.cell? ⟨g, k * 3 + 1, none⟩ = some (nu x.b) ∧ w.cell? ⟨g, k * 3 + 2, none⟩ = some (nu x.t) := by
  obtain ⟨hk, hxe⟩ := List.getElem?_eq_some_iff.1 hx
  obtain ⟨a, c, e, h1, h2, h3⟩ := own_rdEn h.row rfl
  obtain ⟨g, o, rfl, h4⟩ := h3 (by omega)
  have h0 : o = 0 := by
    rcases h.row.2 with ⟨e2, h5⟩ | ⟨g', cap, cur, e2, _⟩
    · omega
    · rw [e2] at e
      simp only [Value.slice.injEq, Option.some.injEq, Addr.mk.injEq] at e
      exact e.1.2.1.symm
  subst h0
  refine ⟨g, c, e, h1, h2, ?_, ?_, ?_⟩
  · have := h4 k hk 0 (nu x.s) (by rw [hxe]; rfl)
    simpa using this
  · have := h4 k hk 1 (nu x.b) (by rw [hxe]; rfl)
    simpa using this
  · have := h4 k hk 2 (nu x.t) (by rw [hxe]; rfl)
    simpa using this

theorem RXp.shape (h : RXp base w t lv L) : ∃ a c, lv = .slice a L.length c ∧ L.length ≤ c ∧ c ≤ maxLen := by
  obtain ⟨a, c, e, h1, h2, _⟩ := own_rdEn h.row rfl
  exact ⟨a, c, e, h1, h2⟩
end

theorem range3 {w : World} {g o : Nat} {a b c : Value} (h0 : w.cell? ⟨g, o, none⟩ = some a) (h1 : w.cell? ⟨g, o + 1, none⟩ = some b) (h2 : w.cell? ⟨g, o + 2, none⟩ = some c) : w.rangeAt g o [a, b, c] := fun j v hv => by
  rcases j with _ | _ | _ | j
  · simp at hv
    subst hv
    simpa using h0
  · simp at hv
    subst hv
    exact h1
  · simp at hv
    subst hv
    exact h2
  · simp at hv

theorem one3 (a b c : Int) : ∀ u ∈ [nu a, nu b, nu c], u.oneCell' = true := by
  intro u hu
  simp only [List.mem_cons, List.not_mem_nil, or_false] at hu
  rcases hu with rfl | rfl | rfl <;> rfl

set_option maxRecDepth 100000 in
set_option maxHeartbeats 2000000 in
theorem without_ref (base : Nat) (w : World) (t : Nat) (lv : Value) (L : List En) (i : Int) (h : RXp base w t lv L) (hl : L.length ≤ 1000) (hb : base ≤ w.heap.size) :
    Calls Tryd.prog 23 #[ptr t, nu i] w fun e w' => e = .returned (.bool (hasE L i)) ∧ ∃ lv', RXp base w' t lv' (dropE L i) ∧ Keep (fun k => k = t) w w' ∧ (∀ g, lv'.ownBlock = some g → w.heap.size ≤ g) := by
  obtain ⟨i0, ji, hz0, hz1, hz2⟩ := info_parts infoEn
  obtain ⟨a, c, rfl, hc1, hc2⟩ := h.shape
  obtain ⟨n, hn⟩ : ∃ n, L.length = n := ⟨_, rfl⟩
  rw [hn] at hc1 hl h
  unfold maxLen at hc2
  have hcI : (c : Int) ≤ 9223372036854775807 := by omega
  have HR : Hid (∀ wx, Below w.heap.size w wx → RXp base wx t (.slice a n c) L) := fun wx hb => h.below hb
  have HN := Hid.mk' hn
  have htl := h.tlt
  have q1 := h.cells.1
  obtain ⟨bb, hbb⟩ : ∃ bb, hasE L i = bb := ⟨_, rfl⟩
  rw [hbb]
  have HBB := Hid.mk' hbb
  clear h hn hbb
  go_enter Tryd.func23, Tryd.ntmps23
  go_wp2
  go_loopw [5, 6] (fun lv kv wr => ∃ (k : Nat) (a' : Option Addr) (n' c' : Nat), k ≤ n ∧ kv = nun k ∧ lv = .slice a' n' c' ∧ n' ≤ k ∧ Hid (wr.ownsRow w.heap.size 69 3 (.slice a' n' c') n' ((dropE (L.take k) i).flatMap En.cells) ∧ (dropE (L.take k) i).length = n' ∧ Below w.heap.size w wr)) (fun _ kv _ => n - (intOf kv).toNat)
  case atStart => exact ⟨0, none, 0, 0, Nat.zero_le _, rfl, rfl, Nat.le_refl _, World.ownsRow_nil _ _ _ _, rfl, Below.refl _ _⟩
  case round =>
    obtain ⟨k, a', n', c', hk, rfl, rfl, hnk, HL⟩ := hrel
    have hq1 := (HR.out wr HL.out.2.2).cells.1
    by_cases hlt : k < n
    · have hkI : (k : Int) < (n : Int) := by omega
      have hk0 : (0 : Int) ≤ (k : Int) := by omega
      obtain ⟨x, hx⟩ : ∃ x, L[k]? = some x := ⟨_, List.getElem?_eq_getElem (by rw [HN.out]; exact hlt)⟩
      obtain ⟨g, c9, e9, _, _, hx1, hx2, hx3⟩ := (HR.out wr HL.out.2.2).at hx
      simp only [Value.slice.injEq] at e9
      obtain ⟨rfl, e9n, rfl⟩ := e9
      clear e9n
      obtain ⟨xs, xb, xt⟩ := x
      dsimp only at hx1 hx2 hx3
      have hdt := dropE_take L i k ⟨xs, xb, xt⟩ hx
      dsimp only at hdt
      by_cases he : xs = i
      · rw [if_pos he] at hdt
        have hbe : (xs != i) = false := by simpa using he
        have HD := Hid.mk' hdt
        clear hx hdt he
        go_wp2
        go_roundw
        case rel => exact ⟨k + 1, a', n', c', by omega, by go_num, rfl, by omega, by rw [HD.out]; exact HL.out⟩
        case measure => simp [intOf]; omega
      · rw [if_neg he] at hdt
        have hbe : (xs != i) = true := by simpa using he
        have HD := Hid.mk' hdt
        have HMID := Hid.mk' (range3 hx1 hx2 hx3)
        clear hx hdt he
        go_wp2_with (first | (refine wpList_load_mid rfl 69 _ rfl g (k * 3) rfl [nu xs, nu xb, nu xt] _ HMID.out Tryd.underlying69 rfl size_en ?_) | (at_builtin; refine wpList_append_own (P := Tryd.prog) _ rfl _ _ 26 rfl w.heap.size 69 i0 (.agg #[.int .i64 0, .int .i64 0, .int .i64 0]) 3 24 Tryd.underlying26 ji hz0 hz1 hz2 rfl (by decide) _ n' _ rfl (HL.out.1.alloc _) ⟨wr.heap.size, 0, none⟩ 1 1 [nu xs, nu xb, nu xt] rfl rfl (World.news_of_block (heap_alloc_new _ _)) (one3 _ _ _) (by unfold maxLen; omega) (by omega) (by have := HL.out.2.2.size; simp; omega) ?_; intro v8 w8 ho8 hg8 _; have HB8 : Hid (Below w.heap.size w w8) := (HL.out.2.2.alloc HL.out.2.2.size _).grown hg8 (HL.out.2.2.alloc HL.out.2.2.size _).size (fun r e => (HL.out.1.lt r e).1); obtain ⟨g8, c8, rfl⟩ := ownsRow_succ ho8; have HO8 := Hid.mk' ho8; clear ho8 hg8) | fail)
        go_roundw
        case rel => exact ⟨k + 1, _, n' + 1, c8, by omega, by go_num, rfl, by omega, by rw [HD.out, List.flatMap_append]; exact HO8.out, by rw [HD.out, List.length_append, HL.out.2.1]; rfl, HB8.out⟩
        case measure => simp [intOf]; omega
    · have hkI : ¬ (k : Int) < (n : Int) := by omega
      have hkn : k = n := by omega
      have htk : L.take k = L := by rw [hkn]; exact List.take_of_length_le (by rw [HN.out]; exact Nat.le_refl _)
      rw [htk] at HL
      have HDL : Hid (decide (n' < n) = bb) := by
        show _ = _
        have h1 := drop_lt (L := L) (s := i)
        rw [HL.out.2.1, HN.out, HBB.out] at h1
        exact h1
      have hfz := (HR.out wr HL.out.2.2).cells.2 0
      have hks : Keep (fun j => j = t) w (wr.setCell ⟨t, 0, none⟩ (.slice a' n' c')) := ((Keep.of_below (F := fun j => j = t) HL.out.2.2)).setCell (p := ⟨t, 0, none⟩) (.inl rfl) _
      have HKS := Hid.mk' hks
      have HNEW : Hid (RXp base (wr.setCell ⟨t, 0, none⟩ (.slice a' n' c')) t (.slice a' n' c') (dropE L i)) := by
        have hne : Value.ownBlock (.slice a' n' c') ≠ some t := fun e => by have := (HL.out.1.lt t e).1; omega
        refine ⟨?_, ?_, (HR.out wr HL.out.2.2).lo, hne⟩
        · rw [heap_setCell_same _ t 0 _ _ _ (HR.out wr HL.out.2.2).blk]
          rfl
        · rw [HL.out.2.1]
          have h1 : (wr.setCell ⟨t, 0, none⟩ (.slice a' n' c')).ownsRow w.heap.size 69 3 (.slice a' n' c') n' ((dropE L i).flatMap En.cells) := ((Keep.refl (fun j => j = t) wr).setCell (p := ⟨t, 0, none⟩) (.inl rfl) _).own HL.out.1 (fun k hk e => hne (e ▸ hk))
          exact own_monoI h1 hb
      have HLO : Hid (∀ g, Value.ownBlock (.slice a' n' c') = some g → w.heap.size ≤ g) := fun g e => (HL.out.1.lt g e).1
      clear hks htk hkn
      go_wp2
      go_ret
      refine ⟨?_, _, HNEW.out, HKS.out, HLO.out⟩
      show Ending.returned (Value.bool (decide (n' < n))) = _
      rw [HDL.out]

set_option maxRecDepth 100000 in
theorem nextE_ref (base : Nat) (w : World) (t : Nat) (lv : Value) (L : List En) (h : RXp base w t lv L) :
    Calls Tryd.prog 15 #[ptr t] w fun e w' => e = .returned (.tuple #[nu (nextE L), .bool (snextE L)]) ∧ w' = w := by
  have q1 := h.cells.1
  cases L with
  | nil =>
    obtain ⟨a, c, rfl, hc1, hc2⟩ := h.shape
    clear h
    simp only [List.length_nil] at q1
    go_enter Tryd.func15, Tryd.ntmps15
    go_wp2
    go_ret2
    exact ⟨rfl, rfl⟩
  | cons x L =>
    obtain ⟨g, c, rfl, hc1, hc2, hx1, hx2, hx3⟩ := h.at (k := 0) (x := x) rfl
    obtain ⟨n, hn⟩ : ∃ n, (x :: L).length = n + 1 := ⟨L.length, rfl⟩
    rw [hn] at hc1 q1
    unfold maxLen at hc2
    have hcI : (c : Int) ≤ 9223372036854775807 := by omega
    have hb : (((n + 1 : Nat) : Int) == 0) = false := by
      simp only [beq_eq_false_iff_ne]
      omega
    have hp : (0 : Int) < ((n + 1 : Nat) : Int) := by omega
    simp only [Nat.zero_mul, Nat.zero_add] at hx1 hx2 hx3
    clear h hn
    go_enter Tryd.func15, Tryd.ntmps15
    go_wp2
    go_ret2
    exact ⟨rfl, rfl⟩
end Ex
end Go.Proofs.YthjdpfmnbmnbhaaDoor
