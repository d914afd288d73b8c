/- The document's arena: how it lies, and its calls. -/
import Derived.Test.YtbkcpjgaoncioaaArnP
import Derived.Test.YtbkcpjgaoncioaaOwn
import Derived.Laws.ResultCell
namespace Go.Proofs.Ytbkcpjgaoncioaa
set_option linter.ambiguousOpen false
open Go.RowKit
namespace An
open Ft Lv
set_option linter.unusedSimpArgs false
set_option linter.unusedVariables false

/-- It lies in the block g, its slots in sv, its free ones in fv. -/
structure RAn (base : Nat) (w : World) (g : Nat) (sv fv : Value) (A : Arn) : Prop where
  blk : w.heap[g]? = some (.cells #[sv, fv, nun A.wr] 80)
  sl : w.ownsRow base 52 17 sv A.sl.length (scs A.sl)
  fr : w.ownsRow base 3 1 fv A.fr.length (A.fr.map nun)
  lo : base ≤ g

/-- Where it lies. -/
def rfp (g : Nat) (sv fv : Value) (k : Nat) : Prop := k = g ∨ sv.ownBlock = some k ∨ fv.ownBlock = some k

section
variable {base : Nat} {w w' : World} {g : Nat} {sv fv : Value} {A : Arn}

theorem own_cellsT {e : TypeId} {size n : Nat} {v : Value} {xs : List Value} (h : w.ownsRow base e size v n xs) {k : Nat} (hk : v.ownBlock = some k) : ∃ cur, w.heap[k]? = some (.cells cur e (0, 0)) ∧ base ≤ k := by
  rcases h.2 with ⟨rfl, _⟩ | ⟨b, cap, cur, rfl, hb, hc, _⟩
  · simp [Value.ownBlock] at hk
  · obtain rfl : b = k := by simpa [Value.ownBlock] using hk
    exact ⟨cur, hc, hb⟩

theorem RAn.glt (h : RAn base w g sv fv A) : g < w.heap.size := (Array.getElem?_eq_some_iff.1 h.blk).1

theorem RAn.lt (h : RAn base w g sv fv A) (k : Nat) (hk : rfp g sv fv k) : base ≤ k ∧ k < w.heap.size := by
  rcases hk with rfl | hk | hk
  · exact ⟨h.lo, h.glt⟩
  · exact h.sl.lt k hk
  · exact h.fr.lt k hk

theorem RAn.keep (h : RAn base w g sv fv A) {G : Nat → Prop} (hk : Keep G w w') (hn : ∀ k, rfp g sv fv k → ¬ G k) : RAn base w' g sv fv A :=
  ⟨(hk.block g h.glt (hn g (.inl rfl))).trans h.blk, hk.own h.sl (fun k hkk => hn k (.inr (.inl hkk))), hk.own h.fr (fun k hkk => hn k (.inr (.inr hkk))), h.lo⟩

theorem RAn.below (h : RAn base w g sv fv A) (hb : Below w.heap.size w w') : RAn base w' g sv fv A :=
  h.keep (Keep.of_below (F := fun _ => False) hb) (fun _ _ h => h)

theorem RAn.cells (h : RAn base w g sv fv A) : w.cell? ⟨g, 0, none⟩ = some sv ∧ w.cell? ⟨g, 1, none⟩ = some fv ∧ w.cell? ⟨g, 2, none⟩ = some (nun A.wr) ∧ ∀ i, w.frozen? ⟨g, i, none⟩ = false := by
  have := h.blk
  simp [World.cell?, World.frozen?, this]

theorem RAn.ne (h : RAn base w g sv fv A) : sv.ownBlock ≠ some g ∧ fv.ownBlock ≠ some g ∧ (∀ k, sv.ownBlock = some k → fv.ownBlock ≠ some k) := by
  refine ⟨fun e => ?_, fun e => ?_, fun k e1 e2 => ?_⟩
  · obtain ⟨c, hc, _⟩ := own_cellsT h.sl e
    rw [h.blk] at hc
    simp at hc
  · obtain ⟨c, hc, _⟩ := own_cellsT h.fr e
    rw [h.blk] at hc
    simp at hc
  · obtain ⟨c, hc, _⟩ := own_cellsT h.sl e1
    obtain ⟨d, hd, _⟩ := own_cellsT h.fr e2
    rw [hc] at hd
    simp at hd

/-- Its slots, one by one. -/
theorem RAn.slot (h : RAn base w g sv fv A) (hl : A.sl.length = 32) (k : Nat) (hk : k < 32) : ∃ b cap, sv = .slice (some ⟨b, 0, none⟩) 32 cap ∧ 32 ≤ cap ∧ cap ≤ maxLen ∧ w.rangeAt b (k * 17) (A.sl.getD k bare).cells ∧ b < w.heap.size := by
  have h0 := h.sl
  rw [hl] at h0
  rcases h0.2 with ⟨_, h1⟩ | ⟨b, cap, cur, rfl, hb, hc, h3, h4, h5, h6⟩
  · omega
  · refine ⟨b, cap, rfl, h3, h4, fun j v hv => ?_, (Array.getElem?_eq_some_iff.1 hc).1⟩
    have hj : j < 17 := (List.getElem?_eq_some_iff.1 hv).1
    have hx : A.sl[k]? = some (A.sl.getD k bare) := by
      rw [List.getD_eq_getElem?_getD, List.getElem?_eq_getElem (by omega)]
      rfl
    have := h0.cellAt (g := b) (cap := cap) (k * 17 + j) (by rw [hl] at *; omega)
    rw [this, scs_at A.sl k _ hx j hj]
    exact hv
end

set_option maxRecDepth 100000 in
theorem there_ref (i : Int) (w : World) : Calls Try.prog 37 #[nu i] w fun e w' => e = .returned (.bool (decide (there i))) ∧ w' = w := by
  obtain ⟨r, hr⟩ : ∃ r, decide (there i) = r := ⟨_, rfl⟩
  rw [hr]
  unfold there at hr
  by_cases h1 : 0 ≤ i
  · have hm : r = decide (i < 32) := by rw [← hr]; exact decide_eq_decide.2 (by omega)
    clear hr
    subst hm
    go_enter Try.func37, Try.ntmps37
    go_wp2
    go_ret
    exact ⟨rfl, rfl⟩
  · have hm : r = false := by rw [← hr]; exact decide_eq_false (by omega)
    clear hr
    subst hm
    go_enter Try.func37, Try.ntmps37
    go_wp2
    go_ret
    exact ⟨rfl, rfl⟩

set_option maxRecDepth 100000 in
theorem bare_ref (w : World) : Calls Try.prog 36 #[] w fun e w' => e = .returned bare.v ∧ w' = w.alloc (.cells bare.cells.toArray 52) := by
  go_enter Try.func36, Try.ntmps36
  go_wp2
  refine bodyPost_ret (results_cell_row rfl _ _ w.heap.size _ _ _ _ rfl (heap_alloc_new w _) Try.underlying52 rfl size_slt) rfl ?_
  exact ⟨rfl, rfl⟩

/-! ### The list of free ones -/

/-- Where a slot stands among the free ones. -/
def pos (l : List Nat) (i : Nat) : Int := if i ∈ l then (l.idxOf i : Int) else -1

theorem idx_first (l : List Nat) (i k : Nat) (hk : k < l.length) (he : l[k]? = some i) (hn : ∀ j, j < k → l[j]? ≠ some i) : l.idxOf i = k := by
  induction l generalizing k with
  | nil => simp at hk
  | cons a l ih =>
    cases k with
    | zero =>
      simp at he
      subst he
      simp
    | succ k =>
      have h0 := hn 0 (by omega)
      have ha : a ≠ i := fun e => h0 (by simp [e])
      have := ih k (by simpa using hk) (by simpa using he) (fun j hj => by
        have := hn (j + 1) (by omega)
        simpa using this)
      have hb : (a == i) = false := by simpa using ha
      rw [List.idxOf_cons, this, hb]
      rfl

/-- The free ones, one by one. -/
theorem RAn.freeAt {base : Nat} {w : World} {g : Nat} {sv fv : Value} {A : Arn} (h : RAn base w g sv fv A) (hp : 0 < A.fr.length) : ∃ b cap, fv = .slice (some ⟨b, 0, none⟩) A.fr.length cap ∧ A.fr.length ≤ cap ∧ cap ≤ maxLen ∧ b < w.heap.size ∧ ∀ k i, A.fr[k]? = some i → w.cell? ⟨b, k, none⟩ = some (nun i) := by
  rcases h.fr.2 with ⟨_, h1⟩ | ⟨b, cap, cur, rfl, hb, hc, h3, h4, h5, h6⟩
  · omega
  · refine ⟨b, cap, rfl, h3, h4, (Array.getElem?_eq_some_iff.1 hc).1, fun k i hi => ?_⟩
    have hk : k < A.fr.length := (List.getElem?_eq_some_iff.1 hi).1
    have := h.fr.cellAt (g := b) (cap := cap) k (by omega)
    rw [this, List.getElem?_map, hi]
    rfl

end An
end Go.Proofs.Ytbkcpjgaoncioaa
