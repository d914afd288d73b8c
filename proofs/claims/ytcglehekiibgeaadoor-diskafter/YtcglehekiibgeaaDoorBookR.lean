/- The book of the rows that were handed out. -/
import Derived.Test.YtcglehekiibgeaaDoorApartR
namespace Go.Proofs.YtcglehekiibgeaaDoor
set_option linter.ambiguousOpen false
open Go.RowKit
namespace Dk
open Sm Ft
set_option linter.unusedSimpArgs false
set_option linter.unusedVariables false

@[reducible] def bkC (rv : Value) : Array Value := #[.slice none 0 0, .slice none 0 0, .slice none 0 0, .slice none 0 0, .slice none 0 0, .slice none 0 0, .slice none 0 0, .slice none 0 0, rv, .slice none 0 0]

/-- The book lies there. -/
structure Bk (w : World) (base gb : Nat) (rv : Value) (vs : List Value) : Prop where
  blk : w.heap[gb]? = some (.cells (bkC rv) 43)
  row : w.ownsRow base 57 1 rv vs.length vs
  own : ∀ l (h : l < vs.length), ∃ n xs, n < 900000 ∧ w.ownsRow base 53 2 vs[l] n xs
  sep : ∀ l m (h : l < vs.length) (h' : m < vs.length), l ≠ m → Nm.Sep vs[l] vs[m]
  offr : ∀ l (h : l < vs.length), Nm.Sep rv vs[l]
  offb : ∀ l (h : l < vs.length), vs[l].ownBlock ≠ some gb
  offg : rv.ownBlock ≠ some gb
  lo : base ≤ gb

/-- Its footprint. -/
def bfp (gb : Nat) (rv : Value) (vs : List Value) : Nat → Prop := fun k => k = gb ∨ rv.ownBlock = some k ∨ Wb vs k

theorem Bk.keep {w w' : World} {base gb : Nat} {rv : Value} {vs : List Value} {F : Nat → Prop} (h : Bk w base gb rv vs) (hk : Keep F w w') (hF : ∀ k, bfp gb rv vs k → ¬ F k) : Bk w' base gb rv vs :=
  ⟨hk.at h.blk (hF gb (.inl rfl)), hk.own h.row (fun k hv => hF k (.inr (.inl hv))), fun l hl => by
    obtain ⟨n, xs, h1, h2⟩ := h.own l hl
    exact ⟨n, xs, h1, hk.own h2 (fun k hv => hF k (.inr (.inr ⟨l, hl, hv⟩)))⟩, h.sep, h.offr, h.offb, h.offg, h.lo⟩

theorem Bk.lt {w : World} {base gb : Nat} {rv : Value} {vs : List Value} (h : Bk w base gb rv vs) (k : Nat) (hk : bfp gb rv vs k) : base ≤ k ∧ k < w.heap.size := by
  rcases hk with rfl | hk | ⟨l, hl, hk⟩
  · exact ⟨h.lo, (Array.getElem?_eq_some_iff.1 h.blk).1⟩
  · exact h.row.lt k hk
  · obtain ⟨n, xs, _, h2⟩ := h.own l hl
    exact h2.lt k hk

theorem bk_new (w : World) : Bk (w.alloc (.cells (bkC (.slice none 0 0)) 43)) w.heap.size w.heap.size (.slice none 0 0) [] :=
  ⟨heap_alloc_new _ _, World.ownsRow_nil _ _ _ _, fun l h => by simp at h, fun l m h => by simp at h, fun l h => by simp at h, fun l h => by simp at h, by simp [Value.ownBlock], Nat.le_refl _⟩

theorem snoc_at (vs : List Value) (v : Value) (l : Nat) (hl : l < (vs ++ [v]).length) : (∃ h : l < vs.length, (vs ++ [v])[l] = vs[l]) ∨ (l = vs.length ∧ (vs ++ [v])[l] = v) := by
  rcases Nat.lt_or_ge l vs.length with h' | h'
  · left; exact ⟨h', List.getElem_append_left h'⟩
  · right
    have : l = vs.length := by simp at hl; omega
    subst this
    exact ⟨rfl, by simp⟩

theorem Bk.put {w w6 : World} {base gb : Nat} {rv rv' v : Value} {vs : List Value} {o : Obj} (h : Bk w base gb rv vs) (hv : ∃ n xs, n < 900000 ∧ w.ownsRow base 53 2 v n xs) (hs : ∀ k, v.ownBlock = some k → ¬ bfp gb rv vs k)
    (hg : Nm.Grew (w.alloc o) w6 base 57 1 rv rv' vs.length vs 1 [v]) :
    w6.heap[gb]? = some (.cells (bkC rv) 43) ∧ Bk (w6.setCell ⟨gb, 8, none⟩ rv') base gb rv' (vs ++ [v]) ∧ Keep (bfp gb rv vs) w (w6.setCell ⟨gb, 8, none⟩ rv') ∧ Moves w rv rv' := by
  have hlt : gb < w.heap.size := (Array.getElem?_eq_some_iff.1 h.blk).1
  have hKa : Keep (bfp gb rv vs) w (w.alloc o) := (Keep.refl _ _).alloc _
  have hK6 : Keep (bfp gb rv vs) w w6 := hKa.grown hg.grown (fun k hk => .inl (.inr (.inl hk)))
  have hR6 : Keep (fun k => rv.ownBlock = some k) w w6 := ((Keep.refl _ _).alloc _).grown hg.grown (fun k hk => .inl hk)
  have hb6 := hR6.at h.blk h.offg
  have hMv : Moves w rv rv' := fun k hk => by
    rcases hg.place with hp | ⟨b, hp, hb⟩
    · left; rw [← hp]; exact hk
    · right
      rw [hp, Option.some.injEq] at hk
      simp at hb
      omega
  have hne : rv'.ownBlock ≠ some gb := fun e => by
    rcases hMv gb e with h1 | h1
    · exact h.offg h1
    · omega
  have hK7 : Keep (fun k => k = gb) w6 (w6.setCell ⟨gb, 8, none⟩ rv') := (Keep.refl (fun k => k = gb) w6).setCell (p := ⟨gb, 8, none⟩) (.inl rfl) _
  have hown6 : ∀ x n xs, w.ownsRow base 53 2 x n xs → Nm.Sep rv x → x.ownBlock ≠ some gb → (w6.setCell ⟨gb, 8, none⟩ rv').ownsRow base 53 2 x n xs := fun x n xs hx hsx hxb =>
    hK7.own (hR6.own hx (fun k hk e => hsx k e hk)) (fun k hk e => hxb (by rw [hk, e]))
  have hsv : ∀ x n xs, w.ownsRow base 53 2 x n xs → Nm.Sep rv x → Nm.Sep rv' x := fun x n xs hx hsx k hk hxk => by
    rcases hMv k hk with h1 | h1
    · exact hsx k h1 hxk
    · have := (hx.lt k hxk).2
      omega
  have hvr : Nm.Sep rv v := fun k hk hvk => hs k hvk (.inr (.inl hk))
  have hvb : v.ownBlock ≠ some gb := fun e => hs gb e (.inl rfl)
  refine ⟨hb6, ⟨?_, ?_, ?_, ?_, ?_, ?_, hne, h.lo⟩, ?_, hMv⟩
  · exact heap_setCell_same _ gb 8 _ _ rv' hb6
  · have := hg.own
    rw [show vs.length + 1 = (vs ++ [v]).length by simp] at this
    exact hK7.own this (fun k hk e => hne (by rw [hk, e]))
  · intro l hl
    rcases snoc_at vs v l hl with ⟨hl', e⟩ | ⟨_, e⟩
    · rw [e]
      obtain ⟨n, xs, h1, h2⟩ := h.own l hl'
      exact ⟨n, xs, h1, hown6 _ _ _ h2 (h.offr l hl') (h.offb l hl')⟩
    · rw [e]
      obtain ⟨n, xs, h1, h2⟩ := hv
      exact ⟨n, xs, h1, hown6 _ _ _ h2 hvr hvb⟩
  · intro l m hl hm hlm
    rcases snoc_at vs v l hl with ⟨hl', e⟩ | ⟨hl', e⟩
    · rcases snoc_at vs v m hm with ⟨hm', e'⟩ | ⟨hm', e'⟩
      · rw [e, e']; exact h.sep l m hl' hm' hlm
      · rw [e, e']
        intro k hk hvk
        exact hs k hvk (.inr (.inr ⟨l, hl', hk⟩))
    · rcases snoc_at vs v m hm with ⟨hm', e'⟩ | ⟨hm', e'⟩
      · rw [e, e']
        intro k hk hvk
        exact hs k hk (.inr (.inr ⟨m, hm', hvk⟩))
      · omega
  · intro l hl
    rcases snoc_at vs v l hl with ⟨hl', e⟩ | ⟨_, e⟩
    · rw [e]
      obtain ⟨n, xs, h1, h2⟩ := h.own l hl'
      exact hsv _ _ _ h2 (h.offr l hl')
    · rw [e]
      obtain ⟨n, xs, h1, h2⟩ := hv
      exact hsv _ _ _ h2 hvr
  · intro l hl
    rcases snoc_at vs v l hl with ⟨hl', e⟩ | ⟨_, e⟩
    · rw [e]; exact h.offb l hl'
    · rw [e]; exact hvb
  · exact hK6.setCell (p := ⟨gb, 8, none⟩) (.inl (.inl rfl)) _

theorem bk_cells {w : World} {gb : Nat} {rv : Value} (h : w.heap[gb]? = some (.cells (bkC rv) 43)) : w.cell? ⟨gb, 8, none⟩ = some rv ∧ (∀ i, i < 8 → w.cell? ⟨gb, i, none⟩ = some (.slice none 0 0)) ∧ w.cell? ⟨gb, 9, none⟩ = some (.slice none 0 0) ∧ (∀ i, w.frozen? ⟨gb, i, none⟩ = false) := by
  refine ⟨by simp [World.cell?, h], fun i hi => ?_, by simp [World.cell?, h], fun i => by simp [World.frozen?, h]⟩
  have hc : i = 0 ∨ i = 1 ∨ i = 2 ∨ i = 3 ∨ i = 4 ∨ i = 5 ∨ i = 6 ∨ i = 7 := by omega
  rcases hc with rfl | rfl | rfl | rfl | rfl | rfl | rfl | rfl <;> simp [World.cell?, h]

set_option maxRecDepth 100000 in
set_option maxHeartbeats 2000000 in
theorem bookRaws_any (w : World) (base gb : Nat) (rv v : Value) (vs : List Value) (h : Bk w base gb rv vs) (hv : ∃ n xs, n < 900000 ∧ w.ownsRow base 53 2 v n xs) (hs : ∀ k, v.ownBlock = some k → ¬ bfp gb rv vs k) (hn : vs.length < 1000000) (hb : base ≤ w.heap.size) :
    Calls Tryd.prog 29 #[.pointer (some ⟨gb, 0, none⟩), v] w fun e w' => (∃ u, e = .returned u) ∧ ∃ rv', Bk w' base gb rv' (vs ++ [v]) ∧ Keep (bfp gb rv vs) w w' ∧ Moves w rv rv' := by
  obtain ⟨j0, hj, hy0, hy1, hy2⟩ := info_parts info_rows
  obtain ⟨k8, kl, k9, kf⟩ := bk_cells h.blk
  clear kl k9
  have HP : Hid (∀ w6 rv', Nm.Grew (w.alloc (.cells #[v] 57)) w6 base 57 1 rv rv' vs.length vs 1 [v] → _) := fun w6 rv' hg => Bk.put h hv hs hg
  have hrow := Hid.mk' (h.row.alloc (.cells #[v] 57))
  obtain ⟨n, xs, hn9, hvo⟩ := hv
  obtain ⟨av, cv, rfl, _, _, _⟩ := Nm.own_shape hvo
  obtain ⟨ar, cr, hrv, hcr1, hcr2, _⟩ := Nm.own_shape h.row
  subst hrv
  have hlt : gb < w.heap.size := (Array.getElem?_eq_some_iff.1 h.blk).1
  clear h hs hvo
  go_enter Tryd.func29, Tryd.ntmps29
  go_wp2_with (at_builtin; refine Nm.wpList_append_keep _ rfl _ _ 40 rfl base 57 j0 (.slice none 0 0) 1 24 Tryd.underlying40 hj hy0 hy1 hy2 rfl (by decide) _ _ _ rfl hrow.out ⟨w.heap.size, 0, none⟩ 1 1 [.slice av n cv] rfl rfl (cell_one_new _ _ _) (by intro u hu; simp at hu; subst hu; rfl) (by unfold maxLen; omega) (by omega) (by simp; omega) (by decide) ?_; intro v' w6 hgrew; obtain ⟨a', c', hv', _, _, _⟩ := Nm.own_shape hgrew.own; subst hv'; obtain ⟨hb6, hB6, hK6, hM6⟩ := HP.out _ _ hgrew; obtain ⟨z8, zl, z9, zf⟩ := bk_cells hb6; have HB6 := Hid.mk' hB6; have HK6 := Hid.mk' hK6; have HM6 := Hid.mk' hM6; clear hgrew hb6 hB6 hK6 hM6 zl z9)
  go_end0
  exact ⟨⟨_, rfl⟩, _, HB6.out, HK6.out, HM6.out⟩
end Dk
end Go.Proofs.YtcglehekiibgeaaDoor
