/- The document's arena: how it lies, and its calls. -/
import Derived.Test.YtalpbciceogjlaaDoorArnP
import Derived.Test.YtalpbciceogjlaaDoorOwn
import Derived.Laws.ResultCell
namespace Go.Proofs.YtalpbciceogjlaaDoor
set_option linter.ambiguousOpen false
open Go.RowKit
namespace An
open Ft Lv
set_option linter.unusedSimpArgs false
set_option linter.unusedVariables false

/-- It lies in the block g, its slots in sv, its free ones in fv. -/
structure RAn (base : Nat) (w : World) (g : Nat) (sv fv : Value) (A : Arn) : Prop where
  blk : w.heap[g]? = some (.cells #[sv, fv, nun A.wr] 48)
  sl : w.ownsRow base 36 17 sv A.sl.length (scs A.sl)
  fr : w.ownsRow base 3 1 fv A.fr.length (A.fr.map nun)
  lo : base ≤ g

/-- Where it lies. -/
def rfp (g : Nat) (sv fv : Value) (k : Nat) : Prop := k = g ∨ sv.ownBlock = some k ∨ fv.ownBlock = some k

section
variable {base : Nat} {w w' : World} {g : Nat} {sv fv : Value} {A : Arn}

theorem own_cellsT {e : TypeId} {size n : Nat} {v : Value} {xs : List Value} (h : w.ownsRow base e size v n xs) {k : Nat} (hk : v.ownBlock = some k) : ∃ cur, w.heap[k]? = some (.cells cur e (0, 0)) ∧ base ≤ k := by
  rcases h.2 with ⟨rfl, _⟩ | ⟨b, cap, cur, rfl, hb, hc, _⟩
  · simp [Value.ownBlock] at hk
  · obtain rfl : b = k := by simpa [Value.ownBlock] using hk
    exact ⟨cur, hc, hb⟩

theorem RAn.glt (h : RAn base w g sv fv A) : g < w.heap.size := (Array.getElem?_eq_some_iff.1 h.blk).1

theorem RAn.lt (h : RAn base w g sv fv A) (k : Nat) (hk : rfp g sv fv k) : base ≤ k ∧ k < w.heap.size := by
  rcases hk with rfl | hk | hk
  · exact ⟨h.lo, h.glt⟩
  · exact h.sl.lt k hk
  · exact h.fr.lt k hk

theorem RAn.keep (h : RAn base w g sv fv A) {G : Nat → Prop} (hk : Keep G w w') (hn : ∀ k, rfp g sv fv k → ¬ G k) : RAn base w' g sv fv A :=
  ⟨(hk.block g h.glt (hn g (.inl rfl))).trans h.blk, hk.own h.sl (fun k hkk => hn k (.inr (.inl hkk))), hk.own h.fr (fun k hkk => hn k (.inr (.inr hkk))), h.lo⟩

theorem RAn.below (h : RAn base w g sv fv A) (hb : Below w.heap.size w w') : RAn base w' g sv fv A :=
  h.keep (Keep.of_below (F := fun _ => False) hb) (fun _ _ h => h)

theorem RAn.cells (h : RAn base w g sv fv A) : w.cell? ⟨g, 0, none⟩ = some sv ∧ w.cell? ⟨g, 1, none⟩ = some fv ∧ w.cell? ⟨g, 2, none⟩ = some (nun A.wr) ∧ ∀ i, w.frozen? ⟨g, i, none⟩ = false := by
  have := h.blk
  simp [World.cell?, World.frozen?, this]

theorem RAn.ne (h : RAn base w g sv fv A) : sv.ownBlock ≠ some g ∧ fv.ownBlock ≠ some g ∧ (∀ k, sv.ownBlock = some k → fv.ownBlock ≠ some k) := by
  refine ⟨fun e => ?_, fun e => ?_, fun k e1 e2 => ?_⟩
  · obtain ⟨c, hc, _⟩ := own_cellsT h.sl e
    rw [h.blk] at hc
    simp at hc
  · obtain ⟨c, hc, _⟩ := own_cellsT h.fr e
    rw [h.blk] at hc
    simp at hc
  · obtain ⟨c, hc, _⟩ := own_cellsT h.sl e1
    obtain ⟨d, hd, _⟩ := own_cellsT h.fr e2
    rw [hc] at hd
    simp at hd

/-- Its slots, one by one. -/
theorem RAn.slot (h : RAn base w g sv fv A) (hl : A.sl.length = 32) (k : Nat) (hk : k < 32) : ∃ b cap, sv = .slice (some ⟨b, 0, none⟩) 32 cap ∧ 32 ≤ cap ∧ cap ≤ maxLen ∧ w.rangeAt b (k * 17) (A.sl.getD k bare).cells ∧ b < w.heap.size := by
  have h0 := h.sl
  rw [hl] at h0
  rcases h0.2 with ⟨_, h1⟩ | ⟨b, cap, cur, rfl, hb, hc, h3, h4, h5, h6⟩
  · omega
  · refine ⟨b, cap, rfl, h3, h4, fun j v hv => ?_, (Array.getElem?_eq_some_iff.1 hc).1⟩
    have hj : j < 17 := (List.getElem?_eq_some_iff.1 hv).1
    have hx : A.sl[k]? = some (A.sl.getD k bare) := by
      rw [List.getD_eq_getElem?_getD, List.getElem?_eq_getElem (by omega)]
      rfl
    have := h0.cellAt (g := b) (cap := cap) (k * 17 + j) (by rw [hl] at *; omega)
    rw [this, scs_at A.sl k _ hx j hj]
    exact hv
end

set_option maxRecDepth 100000 in
theorem there_ref (i : Int) (w : World) : Calls Tryd.prog 29 #[nu i] w fun e w' => e = .returned (.bool (decide (there i))) ∧ w' = w := by
  obtain ⟨r, hr⟩ : ∃ r, decide (there i) = r := ⟨_, rfl⟩
  rw [hr]
  unfold there at hr
  by_cases h1 : 0 ≤ i
  · have hm : r = decide (i < 32) := by rw [← hr]; exact decide_eq_decide.2 (by omega)
    clear hr
    subst hm
    go_enter Tryd.func29, Tryd.ntmps29
    go_wp2
    go_ret
    exact ⟨rfl, rfl⟩
  · have hm : r = false := by rw [← hr]; exact decide_eq_false (by omega)
    clear hr
    subst hm
    go_enter Tryd.func29, Tryd.ntmps29
    go_wp2
    go_ret
    exact ⟨rfl, rfl⟩

set_option maxRecDepth 100000 in
theorem bare_ref (w : World) : Calls Tryd.prog 14 #[] w fun e w' => e = .returned bare.v ∧ w' = w.alloc (.cells bare.cells.toArray 36) := by
  go_enter Tryd.func14, Tryd.ntmps14
  go_wp2
  refine bodyPost_ret (results_cell_row rfl _ _ w.heap.size _ _ _ _ rfl (heap_alloc_new w _) Tryd.underlying36 rfl size_slt) rfl ?_
  exact ⟨rfl, rfl⟩

set_option maxRecDepth 100000 in
theorem get_ref (base : Nat) (w : World) (g : Nat) (sv fv : Value) (A : Arn) (i : Int) (h : RAn base w g sv fv A) (hg : Good A) :
    Calls Tryd.prog 15 #[ptr g, nu i] w fun e w' => e = .returned (.tuple #[(A.at i).v, nu (Arn.atE i : Int)]) ∧ Below w.heap.size w w' := by
  have c1 : Hid (∀ wx, _) := fun wx => there_ref i wx
  have hz := lone_zero w
  have hB : Below w.heap.size w (w.alloc (.cells sltZ 36)) := (Below.refl _ _).alloc (Nat.le_refl _) _
  have hR := h.below hB
  obtain ⟨w0, hw0⟩ : ∃ w0, w.alloc (.cells sltZ 36) = w0 := ⟨_, rfl⟩
  rw [hw0] at hz hB hR
  unfold Arn.at Arn.atE
  by_cases ht : there i
  · rw [if_pos ht, if_pos ht]
    obtain ⟨k, rfl⟩ : ∃ k : Nat, i = (k : Int) := ⟨i.toNat, by omega⟩
    have hk : k < 32 := by omega
    obtain ⟨b, cap, rfl, hc1, hc2, hr, hbl⟩ := hR.slot hg.len k hk
    obtain ⟨q0, q1, q2, qf⟩ := hR.cells
    unfold maxLen at hc2
    simp only [Int.toNat_natCast]
    obtain ⟨x, hx⟩ : ∃ x, A.sl.getD k bare = x := ⟨_, rfl⟩
    rw [hx] at hr ⊢
    have HRG := Hid.mk' hr
    have HZ := Hid.mk' hz
    have HB := Hid.mk' hB
    have hkI : (k : Int) < 32 := by omega
    simp only [decide_eq_true ht] at c1
    have HW0 := Hid.mk' hw0
    clear h hg hr hx ht q1 q2 hw0 hz hR hB
    go_enter Tryd.func15, Tryd.ntmps15
    go_wp2_with fail
    refine (c1.out _).mono ?_
    rintro e w1 ⟨rfl, hw1⟩
    rw [HW0.out] at hw1
    subst w1
    go_wp2_with (first | (refine wpList_load_slt rfl _ rfl b (k * 17) rfl x HRG.out ?_) | (refine wpList_store_lone rfl _ _ rfl w.heap.size rfl x rfl _ HZ.out ?_; intro w2 hl2 hg2 hs2; have HL := Hid.mk' hl2; have HB2 : Hid (Below w.heap.size w w2) := (HB.out.grown hg2 HB.out.size (fun r e => by cases e; exact Nat.le_refl _)); clear hl2 hg2 hs2) | fail)
    refine bodyPost_ret (results_slt rfl _ _ w.heap.size x rfl HL.out) rfl ?_
    exact ⟨rfl, HB2.out⟩
  · rw [if_neg ht, if_neg ht]
    have HZ := Hid.mk' hz
    have HB := Hid.mk' hB
    have HW0 := Hid.mk' hw0
    simp only [decide_eq_false ht] at c1
    clear h hg ht hw0 hz hR hB
    go_enter Tryd.func15, Tryd.ntmps15
    go_wp2_with fail
    refine (c1.out _).mono ?_
    rintro e w1 ⟨rfl, hw1⟩
    rw [HW0.out] at hw1
    subst w1
    go_wp2_with (first | (refine wpList_store_lone rfl _ _ rfl w.heap.size rfl slt0 rfl _ HZ.out ?_; intro w2 hl2 hg2 hs2; have HL := Hid.mk' hl2; have HB2 : Hid (Below w.heap.size w w2) := (HB.out.grown hg2 HB.out.size (fun r e => by cases e; exact Nat.le_refl _)); clear hl2 hg2 hs2) | fail)
    refine bodyPost_ret (results_slt rfl _ _ w.heap.size slt0 rfl HL.out) rfl ?_
    exact ⟨rfl, HB2.out⟩

/-! ### The list of free ones -/

/-- Where a slot stands among the free ones. -/
def pos (l : List Nat) (i : Nat) : Int := if i ∈ l then (l.idxOf i : Int) else -1

theorem idx_first (l : List Nat) (i k : Nat) (hk : k < l.length) (he : l[k]? = some i) (hn : ∀ j, j < k → l[j]? ≠ some i) : l.idxOf i = k := by
  induction l generalizing k with
  | nil => simp at hk
  | cons a l ih =>
    cases k with
    | zero =>
      simp at he
      subst he
      simp
    | succ k =>
      have h0 := hn 0 (by omega)
      have ha : a ≠ i := fun e => h0 (by simp [e])
      have := ih k (by simpa using hk) (by simpa using he) (fun j hj => by
        have := hn (j + 1) (by omega)
        simpa using this)
      have hb : (a == i) = false := by simpa using ha
      rw [List.idxOf_cons, this, hb]
      rfl

/-- The free ones, one by one. -/
theorem RAn.freeAt {base : Nat} {w : World} {g : Nat} {sv fv : Value} {A : Arn} (h : RAn base w g sv fv A) (hp : 0 < A.fr.length) : ∃ b cap, fv = .slice (some ⟨b, 0, none⟩) A.fr.length cap ∧ A.fr.length ≤ cap ∧ cap ≤ maxLen ∧ b < w.heap.size ∧ ∀ k i, A.fr[k]? = some i → w.cell? ⟨b, k, none⟩ = some (nun i) := by
  rcases h.fr.2 with ⟨_, h1⟩ | ⟨b, cap, cur, rfl, hb, hc, h3, h4, h5, h6⟩
  · omega
  · refine ⟨b, cap, rfl, h3, h4, (Array.getElem?_eq_some_iff.1 hc).1, fun k i hi => ?_⟩
    have hk : k < A.fr.length := (List.getElem?_eq_some_iff.1 hi).1
    have := h.fr.cellAt (g := b) (cap := cap) k (by omega)
    rw [this, List.getElem?_map, hi]
    rfl

set_option maxRecDepth 100000 in
theorem at_ref (base : Nat) (w : World) (g : Nat) (sv fv : Value) (A : Arn) (i : Nat) (h : RAn base w g sv fv A) (hg : Good A) (hi : i < 32) :
    Calls Tryd.prog 39 #[ptr g, nun i] w fun e w' => e = .returned (nu (pos A.fr i)) ∧ w' = w := by
  obtain ⟨q0, q1, q2, qf⟩ := h.cells
  have hfew := hg.few
  obtain ⟨n, hn⟩ : ∃ n, A.fr.length = n := ⟨_, rfl⟩
  obtain ⟨l, hl⟩ : ∃ l, A.fr = l := ⟨_, rfl⟩
  have hfa : Hid (0 < n → ∃ b cap, fv = .slice (some ⟨b, 0, none⟩) n cap ∧ n ≤ cap ∧ cap ≤ maxLen ∧ b < w.heap.size ∧ ∀ k i, l[k]? = some i → w.cell? ⟨b, k, none⟩ = some (nun i)) := fun hp => by
    rw [← hl, ← hn] at *
    exact h.freeAt hp
  obtain ⟨a0, c0, hfv, _⟩ := Nm.own_shape h.fr
  rw [hn] at hfv hfew
  have hln : l.length = n := by rw [← hl]; exact hn
  have HLN := Hid.mk' hln
  rw [hl]
  subst hfv
  obtain ⟨r, hr⟩ : ∃ r, pos l i = r := ⟨_, rfl⟩
  have HR := Hid.mk' hr
  rw [hr]
  clear h hg q0 q2 hn hln hl hr
  go_enter Tryd.func39, Tryd.ntmps39
  go_wp2
  go_loopw [5] (fun kv wr => ∃ k : Nat, k ≤ n ∧ kv = nun k ∧ wr = w ∧ Hid (∀ j, j < k → l[j]? ≠ some i)) (fun kv _ => n - (intOf kv).toNat)
  case atStart => exact ⟨0, Nat.zero_le _, rfl, rfl, fun j hj => by omega⟩
  case round =>
    obtain ⟨k, hk, rfl, rfl, hne⟩ := hrel
    by_cases hlt : k < n
    · obtain ⟨b, cap, hv, hc1, hc2, hbl, hcell⟩ := hfa.out (by omega)
      simp only [Value.slice.injEq, true_and] at hv
      obtain ⟨rfl, rfl⟩ := hv
      unfold maxLen at hc2
      obtain ⟨x, hx⟩ : ∃ x, l[k]? = some x := ⟨_, List.getElem?_eq_getElem (by rw [HLN.out]; exact hlt)⟩
      have hc := hcell k x hx
      have hkI : (k : Int) < (n : Int) := by omega
      clear hcell hfa
      by_cases he : x = i
      · subst he
        have HP : Hid (r = (k : Int)) := by
          show _ = _
          rw [← HR.out, pos, if_pos (List.mem_of_getElem? hx), idx_first l x k (by rw [HLN.out]; exact hlt) hx hne.out]
        have hee : ((x : Int) == (x : Int)) = true := by simp
        clear hx hne
        go_wp2
        go_ret
        exact ⟨by rw [HP.out]; rfl, rfl⟩
      · have hee : ((x : Int) == (i : Int)) = false := by simp; omega
        have HN2 : Hid (∀ j, j < k + 1 → l[j]? ≠ some i) := fun j hj e => by
          rcases Nat.lt_or_ge j k with h1 | h1
          · exact hne.out j h1 e
          · obtain rfl : j = k := by omega
            rw [hx] at e
            exact he (Option.some.inj e)
        clear hx hne he
        go_wp2
        go_roundw
        case rel => exact ⟨k + 1, by omega, by go_num, trivial, HN2⟩
        case measure => simp [intOf]; omega
    · obtain rfl : k = n := by omega
      have HP : Hid (r = -1) := by
        show _ = _
        rw [← HR.out, pos, if_neg]
        intro hm
        obtain ⟨j, hj⟩ := List.getElem?_of_mem hm
        have hjl := (List.getElem?_eq_some_iff.1 hj).1
        exact hne.out j (by have := HLN.out; omega) hj
      clear hne hfa
      go_wp2
      go_ret
      exact ⟨by rw [HP.out]; rfl, rfl⟩
end An
end Go.Proofs.YtalpbciceogjlaaDoor
