/- ArnR, ArnS, ArnT, ArnU, in one text. -/
import Derived.Test.YthabnombfbehkaaGreatDoorBaM
import Derived.Test.YthabnombfbehkaaGreatDoorOwn
import Derived.Laws.ResultCell
/- The document's arena: how it lies, and its calls. -/
namespace Go.Proofs.YthabnombfbehkaaGreatDoor
set_option linter.ambiguousOpen false
open Go.RowKit
namespace An
open Ft Lv
set_option linter.unusedSimpArgs false
set_option linter.unusedVariables false

/-- It lies in the block g, its slots in sv, its free ones in fv. -/
structure RAn (base : Nat) (w : World) (g : Nat) (sv fv : Value) (A : Arn) : Prop where
  blk : w.heap[g]? = some (.cells #[sv, fv, nun A.wr] 65)
  sl : w.ownsRow base 50 17 sv A.sl.length (scs A.sl)
  fr : w.ownsRow base 3 1 fv A.fr.length (A.fr.map nun)
  lo : base ≤ g

/-- Where it lies. -/
def rfp (g : Nat) (sv fv : Value) (k : Nat) : Prop := k = g ∨ sv.ownBlock = some k ∨ fv.ownBlock = some k

section
variable {base : Nat} {w w' : World} {g : Nat} {sv fv : Value} {A : Arn}

theorem own_cellsT {e : TypeId} {size n : Nat} {v : Value} {xs : List Value} (h : w.ownsRow base e size v n xs) {k : Nat} (hk : v.ownBlock = some k) : ∃ cur, w.heap[k]? = some (.cells cur e (0, 0)) ∧ base ≤ k := by
  rcases h.2 with ⟨rfl, _⟩ | ⟨b, cap, cur, rfl, hb, hc, _⟩
  · simp [Value.ownBlock] at hk
  · obtain rfl : b = k := by simpa [Value.ownBlock] using hk
    exact ⟨cur, hc, hb⟩

theorem RAn.glt (h : RAn base w g sv fv A) : g < w.heap.size := (Array.getElem?_eq_some_iff.1 h.blk).1

theorem RAn.lt (h : RAn base w g sv fv A) (k : Nat) (hk : rfp g sv fv k) : base ≤ k ∧ k < w.heap.size := by
  rcases hk with rfl | hk | hk
  · exact ⟨h.lo, h.glt⟩
  · exact h.sl.lt k hk
  · exact h.fr.lt k hk

theorem RAn.keep (h : RAn base w g sv fv A) {G : Nat → Prop} (hk : Keep G w w') (hn : ∀ k, rfp g sv fv k → ¬ G k) : RAn base w' g sv fv A :=
  ⟨(hk.block g h.glt (hn g (.inl rfl))).trans h.blk, hk.own h.sl (fun k hkk => hn k (.inr (.inl hkk))), hk.own h.fr (fun k hkk => hn k (.inr (.inr hkk))), h.lo⟩

theorem RAn.below (h : RAn base w g sv fv A) (hb : Below w.heap.size w w') : RAn base w' g sv fv A :=
  h.keep (Keep.of_below (F := fun _ => False) hb) (fun _ _ h => h)

theorem RAn.cells (h : RAn base w g sv fv A) : w.cell? ⟨g, 0, none⟩ = some sv ∧ w.cell? ⟨g, 1, none⟩ = some fv ∧ w.cell? ⟨g, 2, none⟩ = some (nun A.wr) ∧ ∀ i, w.frozen? ⟨g, i, none⟩ = false := by
  have := h.blk
  simp [World.cell?, World.frozen?, this]

theorem RAn.ne (h : RAn base w g sv fv A) : sv.ownBlock ≠ some g ∧ fv.ownBlock ≠ some g ∧ (∀ k, sv.ownBlock = some k → fv.ownBlock ≠ some k) := by
  refine ⟨fun e => ?_, fun e => ?_, fun k e1 e2 => ?_⟩
  · obtain ⟨c, hc, _⟩ := own_cellsT h.sl e
    rw [h.blk] at hc
    simp at hc
  · obtain ⟨c, hc, _⟩ := own_cellsT h.fr e
    rw [h.blk] at hc
    simp at hc
  · obtain ⟨c, hc, _⟩ := own_cellsT h.sl e1
    obtain ⟨d, hd, _⟩ := own_cellsT h.fr e2
    rw [hc] at hd
    simp at hd

/-- Its slots, one by one. -/
theorem RAn.slot (h : RAn base w g sv fv A) (hl : A.sl.length = 32) (k : Nat) (hk : k < 32) : ∃ b cap, sv = .slice (some ⟨b, 0, none⟩) 32 cap ∧ 32 ≤ cap ∧ cap ≤ maxLen ∧ w.rangeAt b (k * 17) (A.sl.getD k bare).cells ∧ b < w.heap.size := by
  have h0 := h.sl
  rw [hl] at h0
  rcases h0.2 with ⟨_, h1⟩ | ⟨b, cap, cur, rfl, hb, hc, h3, h4, h5, h6⟩
  · omega
  · refine ⟨b, cap, rfl, h3, h4, fun j v hv => ?_, (Array.getElem?_eq_some_iff.1 hc).1⟩
    have hj : j < 17 := (List.getElem?_eq_some_iff.1 hv).1
    have hx : A.sl[k]? = some (A.sl.getD k bare) := by
      rw [List.getD_eq_getElem?_getD, List.getElem?_eq_getElem (by omega)]
      rfl
    have := h0.cellAt (g := b) (cap := cap) (k * 17 + j) (by rw [hl] at *; omega)
    rw [this, scs_at A.sl k _ hx j hj]
    exact hv
end

set_option maxRecDepth 100000 in
theorem there_ref (i : Int) (w : World) : Calls Tryz.prog 41 #[nu i] w fun e w' => e = .returned (.bool (decide (there i))) ∧ w' = w := by
  obtain ⟨r, hr⟩ : ∃ r, decide (there i) = r := ⟨_, rfl⟩
  rw [hr]
  unfold there at hr
  by_cases h1 : 0 ≤ i
  · have hm : r = decide (i < 32) := by rw [← hr]; exact decide_eq_decide.2 (by omega)
    clear hr
    subst hm
    go_enter Tryz.func41, Tryz.ntmps41
    go_wp2
    go_ret
    exact ⟨rfl, rfl⟩
  · have hm : r = false := by rw [← hr]; exact decide_eq_false (by omega)
    clear hr
    subst hm
    go_enter Tryz.func41, Tryz.ntmps41
    go_wp2
    go_ret
    exact ⟨rfl, rfl⟩

set_option maxRecDepth 100000 in
theorem bare_ref (w : World) : Calls Tryz.prog 20 #[] w fun e w' => e = .returned bare.v ∧ w' = w.alloc (.cells bare.cells.toArray 50) := by
  go_enter Tryz.func20, Tryz.ntmps20
  go_wp2
  refine bodyPost_ret (results_cell_row rfl _ _ w.heap.size _ _ _ _ rfl (heap_alloc_new w _) Tryz.underlying50 rfl size_slt) rfl ?_
  exact ⟨rfl, rfl⟩

/-! ### The list of free ones -/

/-- Where a slot stands among the free ones. -/
def pos (l : List Nat) (i : Nat) : Int := if i ∈ l then (l.idxOf i : Int) else -1

theorem idx_first (l : List Nat) (i k : Nat) (hk : k < l.length) (he : l[k]? = some i) (hn : ∀ j, j < k → l[j]? ≠ some i) : l.idxOf i = k := by
  induction l generalizing k with
  | nil => simp at hk
  | cons a l ih =>
    cases k with
    | zero =>
      simp at he
      subst he
      simp
    | succ k =>
      have h0 := hn 0 (by omega)
      have ha : a ≠ i := fun e => h0 (by simp [e])
      have := ih k (by simpa using hk) (by simpa using he) (fun j hj => by
        have := hn (j + 1) (by omega)
        simpa using this)
      have hb : (a == i) = false := by simpa using ha
      rw [List.idxOf_cons, this, hb]
      rfl

/-- The free ones, one by one. -/
theorem RAn.freeAt {base : Nat} {w : World} {g : Nat} {sv fv : Value} {A : Arn} (h : RAn base w g sv fv A) (hp : 0 < A.fr.length) : ∃ b cap, fv = .slice (some ⟨b, 0, none⟩) A.fr.length cap ∧ A.fr.length ≤ cap ∧ cap ≤ maxLen ∧ b < w.heap.size ∧ ∀ k i, A.fr[k]? = some i → w.cell? ⟨b, k, none⟩ = some (nun i) := by
  rcases h.fr.2 with ⟨_, h1⟩ | ⟨b, cap, cur, rfl, hb, hc, h3, h4, h5, h6⟩
  · omega
  · refine ⟨b, cap, rfl, h3, h4, (Array.getElem?_eq_some_iff.1 hc).1, fun k i hi => ?_⟩
    have hk : k < A.fr.length := (List.getElem?_eq_some_iff.1 hi).1
    have := h.fr.cellAt (g := b) (cap := cap) k (by omega)
    rw [this, List.getElem?_map, hi]
    rfl

set_option maxRecDepth 100000 in
theorem at_ref (base : Nat) (w : World) (g : Nat) (sv fv : Value) (A : Arn) (i : Nat) (h : RAn base w g sv fv A) (hg : Good A) (hi : i < 32) :
    Calls Tryz.prog 76 #[ptr g, nun i] w fun e w' => e = .returned (nu (pos A.fr i)) ∧ w' = w := by
  obtain ⟨q0, q1, q2, qf⟩ := h.cells
  have hfew := hg.few
  obtain ⟨n, hn⟩ : ∃ n, A.fr.length = n := ⟨_, rfl⟩
  obtain ⟨l, hl⟩ : ∃ l, A.fr = l := ⟨_, rfl⟩
  have hfa : Hid (0 < n → ∃ b cap, fv = .slice (some ⟨b, 0, none⟩) n cap ∧ n ≤ cap ∧ cap ≤ maxLen ∧ b < w.heap.size ∧ ∀ k i, l[k]? = some i → w.cell? ⟨b, k, none⟩ = some (nun i)) := fun hp => by
    rw [← hl, ← hn] at *
    exact h.freeAt hp
  obtain ⟨a0, c0, hfv, _⟩ := Nm.own_shape h.fr
  rw [hn] at hfv hfew
  have hln : l.length = n := by rw [← hl]; exact hn
  have HLN := Hid.mk' hln
  rw [hl]
  subst hfv
  obtain ⟨r, hr⟩ : ∃ r, pos l i = r := ⟨_, rfl⟩
  have HR := Hid.mk' hr
  rw [hr]
  clear h hg q0 q2 hn hln hl hr
  go_enter Tryz.func76, Tryz.ntmps76
  go_wp2
  go_loopw [5] (fun kv wr => ∃ k : Nat, k ≤ n ∧ kv = nun k ∧ wr = w ∧ Hid (∀ j, j < k → l[j]? ≠ some i)) (fun kv _ => n - (intOf kv).toNat)
  case atStart => exact ⟨0, Nat.zero_le _, rfl, rfl, fun j hj => by omega⟩
  case round =>
    obtain ⟨k, hk, rfl, rfl, hne⟩ := hrel
    by_cases hlt : k < n
    · obtain ⟨b, cap, hv, hc1, hc2, hbl, hcell⟩ := hfa.out (by omega)
      simp only [Value.slice.injEq, true_and] at hv
      obtain ⟨rfl, rfl⟩ := hv
      unfold maxLen at hc2
      obtain ⟨x, hx⟩ : ∃ x, l[k]? = some x := ⟨_, List.getElem?_eq_getElem (by rw [HLN.out]; exact hlt)⟩
      have hc := hcell k x hx
      have hkI : (k : Int) < (n : Int) := by omega
      clear hcell hfa
      by_cases he : x = i
      · subst he
        have HP : Hid (r = (k : Int)) := by
          show _ = _
          rw [← HR.out, pos, if_pos (List.mem_of_getElem? hx), idx_first l x k (by rw [HLN.out]; exact hlt) hx hne.out]
        have hee : ((x : Int) == (x : Int)) = true := by simp
        clear hx hne
        go_wp2
        go_ret
        exact ⟨by rw [HP.out]; rfl, rfl⟩
      · have hee : ((x : Int) == (i : Int)) = false := by simp; omega
        have HN2 : Hid (∀ j, j < k + 1 → l[j]? ≠ some i) := fun j hj e => by
          rcases Nat.lt_or_ge j k with h1 | h1
          · exact hne.out j h1 e
          · obtain rfl : j = k := by omega
            rw [hx] at e
            exact he (Option.some.inj e)
        clear hx hne he
        go_wp2
        go_roundw
        case rel => exact ⟨k + 1, by omega, by go_num, trivial, HN2⟩
        case measure => simp [intOf]; omega
    · obtain rfl : k = n := by omega
      have HP : Hid (r = -1) := by
        show _ = _
        rw [← HR.out, pos, if_neg]
        intro hm
        obtain ⟨j, hj⟩ := List.getElem?_of_mem hm
        have hjl := (List.getElem?_eq_some_iff.1 hj).1
        exact hne.out j (by have := HLN.out; omega) hj
      clear hne hfa
      go_wp2
      go_ret
      exact ⟨by rw [HP.out]; rfl, rfl⟩
end An
end Go.Proofs.YthabnombfbehkaaGreatDoor
/- The document's arena: a slot is taken out of the free ones; Take, Place. -/
namespace Go.Proofs.YthabnombfbehkaaGreatDoor
set_option linter.ambiguousOpen false
open Go.RowKit
namespace An
open Ft Lv
set_option linter.unusedSimpArgs false
set_option linter.unusedVariables false

theorem erase_step (l : List Nat) (k i x : Nat) (hx : l[i]? = some x) : (l.take (i + 1)).eraseIdx k = if i = k then (l.take i).eraseIdx k else (l.take i).eraseIdx k ++ [x] := by
  have hi : i < l.length := (List.getElem?_eq_some_iff.1 hx).1
  have e : l.take (i + 1) = l.take i ++ [x] := by
    rw [List.take_add_one, hx]
    rfl
  have hl : (l.take i).length = i := by rw [List.length_take]; omega
  rw [e]
  rcases Nat.lt_trichotomy i k with h | h | h
  · rw [if_neg (by omega), List.eraseIdx_of_length_le (by simp [hl]; omega), List.eraseIdx_of_length_le (by rw [hl]; omega)]
  · subst h
    have e2 : (l.take i).eraseIdx i = l.take i := List.eraseIdx_of_length_le (by rw [hl]; exact Nat.le_refl _)
    rw [if_pos rfl, List.eraseIdx_append_of_length_le (by rw [hl]; exact Nat.le_refl _), hl, e2, Nat.sub_self]
    simp
  · rw [if_neg (by omega), List.eraseIdx_append_of_lt_length (by rw [hl]; exact h)]

/-- The list of free ones is put in. -/
theorem RAn.setFree {base : Nat} {w wr : World} {g : Nat} {sv fv lv : Value} {A : Arn} {l : List Nat} (h : RAn base wr g sv fv A) (hgw : g < w.heap.size) (ho : wr.ownsRow w.heap.size 3 1 lv l.length (l.map nun)) : RAn base (wr.setCell ⟨g, 1, none⟩ lv) g sv lv ⟨A.sl, l, A.wr⟩ := by
  have hb := h.blk
  have hG : wr.grownBy (wr.setCell ⟨g, 1, none⟩ lv) (some g) := ⟨rfl, rfl, rfl, by simp, fun k hk hn => Below.heap_setCell _ _ _ k (fun e => hn (by rw [e]))⟩
  refine ⟨heap_setCell_same _ g 1 _ _ _ hb, h.sl.kept hG (.inr h.ne.1), (own_monoA (ho.kept hG (.inr fun e => by have := (ho.lt g e).1; omega)) (Nat.le_of_lt (Nat.lt_of_le_of_lt h.lo hgw))), h.lo⟩

set_option maxRecDepth 100000 in
set_option maxHeartbeats 1000000 in
theorem without_ref (base : Nat) (w : World) (g : Nat) (sv fv : Value) (A : Arn) (k : Nat) (h : RAn base w g sv fv A) (hg : Good A) (hk : k < 32) :
    Calls Tryz.prog 21 #[ptr g, nun k] w fun e w' => (∃ u, e = .returned u) ∧ ∃ fv', RAn base w' g sv fv' ⟨A.sl, A.fr.eraseIdx k, A.wr⟩ ∧ Keep (fun j => j = g) w w' ∧ (∀ j, fv'.ownBlock = some j → w.heap.size ≤ j) := by
  obtain ⟨i0, ji, hz0, hz1, hz2⟩ := info_parts info_int
  have hfew := hg.few
  have HA := Hid.mk' h
  have hgl := h.glt
  obtain ⟨l, hl⟩ : ∃ l, A.fr = l := ⟨_, rfl⟩
  obtain ⟨n, hn⟩ : ∃ n, l.length = n := ⟨_, rfl⟩
  have hfa : Hid (0 < n → ∃ b cap, fv = .slice (some ⟨b, 0, none⟩) n cap ∧ n ≤ cap ∧ cap ≤ maxLen ∧ b < w.heap.size ∧ ∀ k i, l[k]? = some i → w.cell? ⟨b, k, none⟩ = some (nun i)) := fun hp => by
    rw [← hn, ← hl] at *
    exact h.freeAt hp
  obtain ⟨a0, c0, hfv, _⟩ := Nm.own_shape h.fr
  rw [hl, hn] at hfv hfew
  have HLN := Hid.mk' hn
  rw [hl]
  subst hfv
  have hcells : Hid (∀ wr, Below w.heap.size w wr → wr.cell? ⟨g, 1, none⟩ = some (.slice a0 n c0) ∧ wr.frozen? ⟨g, 1, none⟩ = false) := fun wr hb => by
    obtain ⟨_, q1, _, qf⟩ := (HA.out.below hb).cells
    exact ⟨q1, qf 1⟩
  clear h hg hn hl
  go_enter Tryz.func21, Tryz.ntmps21
  go_wp2
  go_loopw [4, 5] (fun lv iv wr => ∃ (i m : Nat) (ys : List Nat), i ≤ n ∧ m ≤ i ∧ iv = nun i ∧ Hid (ys = (l.take i).eraseIdx k) ∧ Hid (ys.length = m) ∧ Hid (wr.ownsRow w.heap.size 3 1 lv m (ys.map nun)) ∧ Hid (Below w.heap.size w wr)) (fun _ iv _ => n - (intOf iv).toNat)
  case atStart => exact ⟨0, 0, [], Nat.zero_le _, Nat.le_refl _, rfl, by show _ = _; simp, rfl, World.ownsRow_nil _ _ _ _, Below.refl _ _⟩
  case round =>
    obtain ⟨i, m, ys, hi, hm, rfl, hys, hyl, hO, hB⟩ := hrel
    obtain ⟨q1, qf⟩ := hcells.out wr hB.out
    obtain ⟨al, cl, hlv, hcl1, hcl2⟩ := Nm.own_shape hO.out
    subst hlv
    by_cases hlt : i < n
    · have hiI : (i : Int) < (n : Int) := by omega
      obtain ⟨b, cap, hv, hc1, hc2, hbl, hcell⟩ := hfa.out (by omega)
      simp only [Value.slice.injEq, true_and] at hv
      obtain ⟨rfl, rfl⟩ := hv
      unfold maxLen at hc2
      obtain ⟨x, hx⟩ : ∃ x, l[i]? = some x := ⟨_, List.getElem?_eq_getElem (by rw [HLN.out]; exact hlt)⟩
      have hc : wr.cell? ⟨b, i, none⟩ = some (nun x) := (hB.out.cell (p := ⟨b, i, none⟩) hbl).trans (hcell i x hx)
      have hst := erase_step l k i x hx
      by_cases he : i = k
      · subst he
        rw [if_pos rfl] at hst
        have HY2 : Hid (ys = (l.take (i + 1)).eraseIdx i) := hys.out.trans hst.symm
        have hee : ((i : Int) == (i : Int)) = true := by simp
        clear hcell hc hx hst hys
        go_wp2
        go_roundw
        case rel => exact ⟨i + 1, m, ys, by omega, by omega, by go_num, HY2, hyl, hO, hB⟩
        case measure => simp [intOf]; omega
      · rw [if_neg he] at hst
        have HY2 : Hid (ys ++ [x] = (l.take (i + 1)).eraseIdx k) := by
          show _ = _
          rw [hst, hys.out]
        have HYL : Hid ((ys ++ [x]).length = m + 1) := by
          show _ = _
          rw [List.length_append, hyl.out]
          rfl
        have HYM : Hid ((ys ++ [x]).map nun = ys.map nun ++ [nun x]) := by show _ = _; simp
        have hee : ((i : Int) == (k : Int)) = false := by simp; omega
        have hone : Hid (∀ u ∈ [nun x], u.oneCell' = true) := by
          intro u hu
          simp at hu
          subst hu
          rfl
        have hmx : Hid (m + 1 ≤ maxLen) := by show _ ≤ _; unfold maxLen; omega
        have hby : Hid ((m + 1) * 8 ≤ 140737488355328) := by show _ ≤ _; omega
        have hbs : Hid (w.heap.size ≤ wr.heap.size) := hB.out.size
        clear hcell hx hst hys
        go_wp2_with (at_builtin; refine wpList_append_own _ rfl _ _ 55 rfl w.heap.size 3 i0 (.int .i64 0) 1 8 Tryz.underlying55 ji hz0 hz1 hz2 rfl (by decide) _ _ _ rfl (hO.out.alloc _) ⟨wr.heap.size, 0, none⟩ 1 1 [nun x] rfl rfl (World.news_of_block (heap_alloc_new _ _)) hone.out hmx.out hby.out (by have := hbs.out; simp; omega) ?_; intro v' w4 hown4 hgrow _; rw [← HYM.out] at hown4; have HO4 := Hid.mk' hown4; have HB4 : Hid (Below w.heap.size w w4) := Below.grown (hB.out.alloc hbs.out _) hgrow (by have := hbs.out; simp; omega) (fun j hj => (hO.out.lt j hj).1); clear hown4 hgrow)
        go_roundw
        case rel => exact ⟨i + 1, m + 1, ys ++ [x], by omega, by omega, by go_num, HY2, HYL, HO4, HB4⟩
        case measure => simp [intOf]; omega
    · obtain rfl : i = n := by omega
      have hye : ys = l.eraseIdx k := by
        have := hys.out
        rwa [List.take_of_length_le (by rw [HLN.out]; exact Nat.le_refl _)] at this
      have hO' : wr.ownsRow w.heap.size 3 1 (.slice al m cl) (l.eraseIdx k).length ((l.eraseIdx k).map nun) := by
        rw [← hye, hyl.out]
        exact hO.out
      have hiI : ¬ (i : Int) < (i : Int) := by omega
      have HF := Hid.mk' ((HA.out.below hB.out).setFree hgl hO')
      have HK : Hid (Keep (fun j => j = g) w (wr.setCell ⟨g, 1, none⟩ (.slice al m cl))) := ((Keep.of_below (F := fun j => j = g) hB.out)).setCell (p := ⟨g, 1, none⟩) (.inl rfl) _
      have HP : Hid (∀ j, (Value.slice al m cl).ownBlock = some j → w.heap.size ≤ j) := fun j hj => (hO.out.lt j hj).1
      clear hfa hys hye hO'
      go_wp2
      go_end0
      exact ⟨⟨_, rfl⟩, _, HF.out, HK.out, HP.out⟩

/-- The document's arena, as a footprint. -/
def RepA (base : Nat) (w : World) (g : Nat) (F : Nat → Prop) (A : Arn) : Prop := ∃ sv fv, RAn base w g sv fv A ∧ F = rfp g sv fv ∧ base ≤ w.heap.size

theorem RepA.keep {base : Nat} {w w' : World} {g : Nat} {F G : Nat → Prop} {A : Arn} (h : RepA base w g F A) (hk : Keep G w w') (hn : ∀ k, F k → ¬ G k) : RepA base w' g F A := by
  obtain ⟨sv, fv, h1, rfl, h3⟩ := h
  exact ⟨sv, fv, h1.keep hk hn, rfl, Nat.le_trans h3 hk.size⟩

theorem RepA.below {base : Nat} {w w' : World} {g : Nat} {F : Nat → Prop} {A : Arn} (h : RepA base w g F A) (hb : Below w.heap.size w w') : RepA base w' g F A :=
  h.keep (Keep.of_below (F := fun _ => False) hb) (fun _ _ h => h)

theorem RepA.lt {base : Nat} {w : World} {g : Nat} {F : Nat → Prop} {A : Arn} (h : RepA base w g F A) (k : Nat) (hk : F k) : base ≤ k ∧ k < w.heap.size := by
  obtain ⟨sv, fv, h1, rfl, h3⟩ := h
  exact h1.lt k hk

/-- What a call leaves of it. -/
def LeftA (base : Nat) (w w' : World) (g : Nat) (F : Nat → Prop) (A : Arn) : Prop := ∃ G, RepA base w' g G A ∧ Keep F w w' ∧ Goes w F G

theorem leftA_same {base : Nat} {w : World} {g : Nat} {F : Nat → Prop} {A : Arn} (h : RepA base w g F A) : LeftA base w w g F A := ⟨F, h, Keep.refl _ _, Goes.refl _ _⟩

theorem leftA_free {base : Nat} {w w' : World} {g : Nat} {sv fv fv' : Value} {A : Arn} (h : RAn base w' g sv fv' A) (hb : base ≤ w.heap.size) (hk : Keep (fun j => j = g) w w') (hn : ∀ j, fv'.ownBlock = some j → w.heap.size ≤ j) : LeftA base w w' g (rfp g sv fv) A :=
  ⟨rfp g sv fv', ⟨sv, fv', h, rfl, Nat.le_trans hb hk.size⟩, hk.weaken (fun k _ e => .inl e), fun k hk' => by
    rcases hk' with e | e | e
    · exact .inl (.inl e)
    · exact .inl (.inr (.inl e))
    · exact .inr (hn k e)⟩

set_option maxRecDepth 100000 in
theorem take_r (base : Nat) (w : World) (g : Nat) (F : Nat → Prop) (A : Arn) (h : RepA base w g F A) (hg : Good A) :
    Calls Tryz.prog 11 #[ptr g] w fun e w' => e = .returned (.tuple #[nun A.take.2.1, nun A.take.1]) ∧ LeftA base w w' g F A.take.2.2 := by
  have HA := Hid.mk' h
  obtain ⟨sv, fv, h1, rfl, h3⟩ := h
  obtain ⟨q0, q1, q2, qf⟩ := h1.cells
  have hfew := hg.few
  have cW := Hid.mk' (without_ref base w g sv fv A 0 h1 hg (by decide))
  cases hf : A.fr with
  | nil =>
    have hT : Hid (A.take = (19, 0, A)) := by
      show _ = _
      unfold Arn.take
      rw [hf]
    have h4 := h1.fr
    rw [hf] at h4
    obtain ⟨a0, c0, rfl, _⟩ := Nm.own_shape h4
    clear h1 h4 hf cW
    go_enter Tryz.func11, Tryz.ntmps11
    go_wp2
    go_ret2
    rw [hT.out]
    exact ⟨rfl, leftA_same HA.out⟩
  | cons i r =>
    have hT : Hid (A.take = (0, i, ⟨A.sl, r, A.wr⟩)) := by
      show _ = _
      unfold Arn.take
      rw [hf]
    have hE : A.fr.eraseIdx 0 = r := by rw [hf]; rfl
    rw [hE] at cW
    obtain ⟨b, cap, hv, hc1, hc2, hbl, hcell⟩ := h1.freeAt (by rw [hf]; simp)
    have hc := hcell 0 i (by rw [hf]; rfl)
    obtain ⟨n, hn⟩ : ∃ n, A.fr.length = n := ⟨_, rfl⟩
    have hpos : 0 < n := by rw [← hn, hf]; simp
    rw [hn] at hv hc1 hfew
    unfold maxLen at hc2
    subst hv
    have hnz : ((n : Int) == 0) = false := by simp; omega
    have hnI : (0 : Int) < (n : Int) := by omega
    clear h1 hf hE hcell hn
    go_enter Tryz.func11, Tryz.ntmps11
    go_wp2_with fail
    refine cW.out.mono ?_
    rintro e w1 ⟨⟨u, rfl⟩, fv', r1, r2, r3⟩
    have HL : Hid (LeftA base w w1 g (rfp g sv (.slice (some ⟨b, 0, none⟩) n cap)) ⟨A.sl, r, A.wr⟩) := leftA_free r1 h3 r2 r3
    clear r1 r2 r3 cW
    go_wp2
    go_ret2
    rw [hT.out]
    exact ⟨rfl, HL.out⟩

theorem erase_idx (i : Nat) : ∀ l : List Nat, l.eraseIdx (l.idxOf i) = l.erase i
  | [] => rfl
  | a :: l => by
    rw [List.idxOf_cons, List.erase_cons]
    cases h : a == i with
    | true => simp
    | false => simp [erase_idx i l]

theorem pos_in {l : List Nat} {i : Nat} (h : i ∈ l) : pos l i = (l.idxOf i : Int) ∧ l.eraseIdx (l.idxOf i) = l.erase i := ⟨by rw [pos, if_pos h], erase_idx i l⟩

theorem pos_out {l : List Nat} {i : Nat} (h : i ∉ l) : pos l i = -1 := by rw [pos, if_neg h]

end An
end Go.Proofs.YthabnombfbehkaaGreatDoor
/- The document's arena: Put, Give, New. -/
namespace Go.Proofs.YthabnombfbehkaaGreatDoor
set_option linter.ambiguousOpen false
open Go.RowKit
namespace An
open Ft Lv
set_option linter.unusedSimpArgs false
set_option linter.unusedVariables false

theorem heap_setCells (b : Nat) (T : TypeId) : ∀ (vs : List Value) (o : Nat) (w : World) (C : Array Value), w.heap[b]? = some (.cells C T) → o + vs.length ≤ C.size → ∃ C' : Array Value, (w.setCells b o vs).heap[b]? = some (.cells C' T) ∧ C'.toList = C.toList.take o ++ vs ++ C.toList.drop (o + vs.length)
  | [], o, w, C, h, hs => ⟨C, h, by simp⟩
  | v :: r, o, w, C, h, hs => by
    simp only [List.length_cons] at hs
    have h1 := heap_setCell_same w b o C T v h
    obtain ⟨C', h2, h3⟩ := heap_setCells b T r (o + 1) (w.setCell ⟨b, o, none⟩ v) _ h1 (by simp; omega)
    refine ⟨C', h2, ?_⟩
    have ho : o < C.toList.length := by rw [Array.length_toList]; omega
    have e0 : (C.toList.set o v).drop (o + 1 + r.length) = C.toList.drop (o + 1 + r.length) := List.drop_set_of_lt (by omega)
    rw [h3, Array.toList_setIfInBounds, List.take_set, e0]
    have e : (C.toList.take (o + 1)).set o v = C.toList.take o ++ [v] := by
      rw [List.take_add_one, List.getElem?_eq_getElem ho, List.set_append_right _ _ (by rw [List.length_take]; omega), List.length_take, show o - min o C.toList.length = 0 by omega]
      simp
    rw [e]
    simp only [List.length_cons, List.append_assoc, List.cons_append, List.nil_append]
    rw [show o + 1 + r.length = o + (r.length + 1) by omega]

theorem grown_setCells (b : Nat) : ∀ (vs : List Value) (o : Nat) (w : World), w.grownBy (w.setCells b o vs) (some b)
  | [], o, w => ⟨rfl, rfl, rfl, Nat.le_refl _, fun _ _ _ => rfl⟩
  | v :: r, o, w => by
    have ih := grown_setCells b r (o + 1) (w.setCell ⟨b, o, none⟩ v)
    exact ⟨ih.os, ih.tape, ih.output, by have := ih.size; rw [World.setCells]; simpa using this, fun k hk hn => (ih.block k (by simpa using hk) hn).trans (Below.heap_setCell _ _ _ k (fun e => hn (by rw [e])))⟩

section
variable {base : Nat} {w : World} {g b cap : Nat} {fv : Value} {A : Arn}

/-- A slot may be written. -/
theorem RAn.thereAt (h : RAn base w g (.slice (some ⟨b, 0, none⟩) 32 cap) fv A) (hl : A.sl.length = 32) (k : Nat) (hk : k < 32) : w.there b (k * 17) 17 := by
  have h0 := h.sl
  rw [hl] at h0
  rcases h0.2 with ⟨_, h1⟩ | ⟨b', cap', cur, e, hb, hc, h3, h4, h5, h6⟩
  · omega
  · simp only [Value.slice.injEq, Option.some.injEq, Addr.mk.injEq, and_true, true_and] at e
    obtain ⟨rfl, rfl⟩ := e
    refine fun j hj => ⟨?_, by simp [World.frozen?, hc]⟩
    rw [cell_of_row w b _ _ _ _ hc]
    simp
    omega

/-- A slot is written. -/
theorem RAn.stored (h : RAn base w g (.slice (some ⟨b, 0, none⟩) 32 cap) fv A) (hl : A.sl.length = 32) (k : Nat) (hk : k < 32) (x : Slt) : RAn base (w.setCells b (k * 17) x.cells) g (.slice (some ⟨b, 0, none⟩) 32 cap) fv ⟨A.sl.set k x, A.fr, A.wr⟩ := by
  have hG := grown_setCells b x.cells (k * 17) w
  have hne := h.ne
  refine ⟨(hG.block g h.glt (fun e => hne.1 e.symm)).trans h.blk, ?_, h.fr.kept hG (.inr (fun e => hne.2.2 b rfl e)), h.lo⟩
  have h0 := h.sl
  rw [hl] at h0
  have hll : (A.sl.set k x).length = 32 := by rw [List.length_set, hl]
  simp only
  rw [hll]
  rcases h0.2 with ⟨_, h1⟩ | ⟨b', cap', cur, e, hb, hc, h3, h4, h5, h6⟩
  · omega
  · simp only [Value.slice.injEq, Option.some.injEq, Addr.mk.injEq, and_true, true_and] at e
    obtain ⟨rfl, rfl⟩ := e
    obtain ⟨C', e1, e2⟩ := heap_setCells b _ x.cells (k * 17) w cur hc (by rw [Slt.len]; omega)
    refine ⟨by rw [scs_len, hll], .inr ⟨b, cap, C', rfl, hb, e1, h3, h4, ?_, ?_⟩⟩
    · rw [← Array.length_toList, e2, List.length_append, List.length_append, List.length_take, List.length_drop, Slt.len, Array.length_toList]
      omega
    · rw [e2, scs_set A.sl k x (by omega), ← h6, Slt.len]
      have hc1 : (cur.toList.take (32 * 17)).take (k * 17) = cur.toList.take (k * 17) := by
        rw [List.take_take, show min (k * 17) (32 * 17) = k * 17 by omega]
      rw [hc1, List.drop_take, List.take_append, List.take_append]
      have hlen : (cur.toList.take (k * 17)).length = k * 17 := by rw [List.length_take, Array.length_toList]; omega
      have ha : (cur.toList.take (k * 17)).take (32 * 17) = cur.toList.take (k * 17) := List.take_of_length_le (by rw [hlen]; omega)
      have hb' : x.cells.take (32 * 17 - k * 17) = x.cells := List.take_of_length_le (by rw [Slt.len]; omega)
      rw [List.length_append, hlen, Slt.len, ha, hb']

/-- The writes are counted. -/
theorem RAn.counted {sv : Value} (h : RAn base w g sv fv A) (n : Nat) : RAn base (w.setCell ⟨g, 2, none⟩ (nun n)) g sv fv ⟨A.sl, A.fr, n⟩ := by
  have hG : w.grownBy (w.setCell ⟨g, 2, none⟩ (nun n)) (some g) := ⟨rfl, rfl, rfl, by simp, fun k hk hn => Below.heap_setCell _ _ _ k (fun e => hn (by rw [e]))⟩
  exact ⟨heap_setCell_same _ g 2 _ _ _ h.blk, h.sl.kept hG (.inr h.ne.1), h.fr.kept hG (.inr h.ne.2.1), h.lo⟩
end

theorem leftA_self {base : Nat} {w w' : World} {g : Nat} {sv fv : Value} {A : Arn} (h : RAn base w' g sv fv A) (hb : base ≤ w.heap.size) (hk : Keep (rfp g sv fv) w w') : LeftA base w w' g (rfp g sv fv) A :=
  ⟨rfp g sv fv, ⟨sv, fv, h, rfl, Nat.le_trans hb hk.size⟩, hk, Goes.refl _ _⟩

set_option maxRecDepth 100000 in
set_option maxHeartbeats 1000000 in
theorem put_r (base : Nat) (w : World) (g : Nat) (F : Nat → Prop) (A : Arn) (i : Int) (s : Slt) (h : RepA base w g F A) (hg : Good A) (hwr : A.wr ≤ 1000000000) :
    Calls Tryz.prog 30 #[ptr g, nu i, s.v] w fun e w' => e = .returned (nun (A.put i s).1) ∧ LeftA base w w' g F (A.put i s).2 := by
  have c1 : Hid (∀ wx, _) := fun wx => there_ref i wx
  obtain ⟨sv, fv, h1, rfl, h3⟩ := h
  have hz := lone_new w s
  have hB : Below w.heap.size w (w.alloc (.cells s.cells.toArray 50)) := (Below.refl _ _).alloc (Nat.le_refl _) _
  have hR := h1.below hB
  obtain ⟨w0, hw0⟩ : ∃ w0, w.alloc (.cells s.cells.toArray 50) = w0 := ⟨_, rfl⟩
  rw [hw0] at hz hB hR
  have HW0 := Hid.mk' hw0
  have HB := Hid.mk' hB
  unfold Arn.put
  by_cases ht : there i
  · rw [if_pos ht]
    obtain ⟨k, rfl⟩ : ∃ k : Nat, i = (k : Int) := ⟨i.toNat, by omega⟩
    have hk : k < 32 := by omega
    obtain ⟨b, cap, rfl, hc1, hc2, hr, hbl⟩ := hR.slot hg.len k hk
    obtain ⟨q0, q1, q2, qf⟩ := hR.cells
    unfold maxLen at hc2
    simp only [Int.toNat_natCast]
    have hkI : (k : Int) < 32 := by omega
    simp only [decide_eq_true ht] at c1
    have hgb : g ≠ b := fun e => hR.ne.1 (by rw [e]; rfl)
    have hbw : w.heap.size ≠ b := fun e => by
      have := (h1.sl.lt b rfl).2
      omega
    have HTH := Hid.mk' (hR.thereAt hg.len k hk)
    have hS0 : w0.cell? ⟨g, 0, none⟩ = some (.slice (some ⟨b, 0, none⟩) 32 cap) ∧ Lone w0 w.heap.size s := ⟨q0, hz⟩
    have HR1 : Hid (RAn base (w0.drew.setCells b (k * 17) s.cells) g (.slice (some ⟨b, 0, none⟩) 32 cap) fv ⟨A.sl.set k s, A.fr, A.wr⟩) := (hR.below (Below.refl _ _).drew).stored hg.len k hk s
    have HK1 : Hid (Keep (rfp g (.slice (some ⟨b, 0, none⟩) 32 cap) fv) w (w0.drew.setCells b (k * 17) s.cells)) := by
      have hG := grown_setCells b s.cells (k * 17) w0.drew
      exact ⟨hG.os.trans hB.os, hG.tape.trans hB.tape, hG.output.trans hB.output, Nat.le_trans hB.size hG.size, fun j hj hn => (hG.block j (Nat.lt_of_lt_of_le hj hB.size) (fun e => hn (.inr (.inl e.symm)))).trans (hB.block j hj)⟩
    have hS1 : (w0.drew.setCells b (k * 17) s.cells).cell? ⟨g, 0, none⟩ = some (.slice (some ⟨b, 0, none⟩) 32 cap) ∧ Lone (w0.drew.setCells b (k * 17) s.cells) w.heap.size s := ⟨(World.cell?_setCells_out b _ _ _ _ (fun e => absurd e hgb)).trans hS0.1, ((grown_setCells b s.cells (k * 17) w0.drew).block _ (Array.getElem?_eq_some_iff.1 hS0.2).1 (fun e => hbw (Option.some.inj e))).trans hS0.2⟩
    have HTD : Hid (w0.drew.there b (k * 17) 17) := HTH.out
    clear ht q1 q2 hw0 hB hr
    go_enter Tryz.func30, Tryz.ntmps30
    go_wp2_with fail
    refine (c1.out _).mono ?_
    rintro e w1 ⟨rfl, hw1⟩
    rw [HW0.out] at hw1
    subst w1
    go_wp2_with fail
    refine wp_region_held_drew (S := fun w' => w'.cell? ⟨g, 0, none⟩ = some (.slice (some ⟨b, 0, none⟩) 32 cap) ∧ Lone w' w.heap.size s) (by kernel_rfl) hS0 (fun hHeld => ?_)
    refine wpAnyH_take (i := 0) (v := ?_) rfl (by kernel_rfl) (by kernel_rfl) (by kernel_rfl) (fun _ _ _ h => h) (Or.inl ⟨by rfl, ?_⟩) hHeld ?_
    rotate_left
    · (intro w' hS'; go_simp <;> with_reducible rfl)
    simp only [Act.put, List.getElem_toArray, List.getElem_cons_succ, List.getElem_cons_zero, List.setIfInBounds_toArray, List.set]
    refine wpAnyH_take (i := 1) (v := ?_) rfl (by kernel_rfl) (by kernel_rfl) (by kernel_rfl) (fun _ _ _ h => h) (Or.inl ⟨by rfl, ?_⟩) hHeld ?_
    rotate_left
    · (intro w' hS'; go_simp <;> with_reducible rfl)
    simp only [Act.put, List.getElem_toArray, List.getElem_cons_succ, List.getElem_cons_zero, List.setIfInBounds_toArray, List.set]
    refine wpAnyH_take (i := 2) (v := ?_) rfl (by kernel_rfl) (by kernel_rfl) (by kernel_rfl) (fun _ _ _ h => h) (Or.inl ⟨by rfl, ?_⟩) hHeld ?_
    rotate_left
    · (intro w' hS'; go_simp <;> with_reducible rfl)
    simp only [Act.put, List.getElem_toArray, List.getElem_cons_succ, List.getElem_cons_zero, List.setIfInBounds_toArray, List.set]
    refine wpAnyH_take (i := 3) (v := ?_) rfl (by kernel_rfl) (by kernel_rfl) (by kernel_rfl) (fun _ _ _ h => h) (Or.inl ⟨by rfl, ?_⟩) hHeld ?_
    rotate_left
    · (intro w' hS'; go_simp <;> with_reducible rfl)
    simp only [Act.put, List.getElem_toArray, List.getElem_cons_succ, List.getElem_cons_zero, List.setIfInBounds_toArray, List.set]
    refine wpAnyH_take (i := 4) (v := ?_) rfl (by kernel_rfl) (by kernel_rfl) (by kernel_rfl) (fun _ _ _ h => h) (Or.inl ⟨by rfl, ?_⟩) hHeld ?_
    rotate_left
    · (intro w' hS'; go_simp <;> with_reducible rfl)
    simp only [Act.put, List.getElem_toArray, List.getElem_cons_succ, List.getElem_cons_zero, List.setIfInBounds_toArray, List.set]
    refine wpAnyH_take (i := 5) (v := _) rfl (by kernel_rfl) (by kernel_rfl) (by kernel_rfl) (fun _ _ _ h => h) (yieldsIf_load_mid (by rfl) 50 _ rfl w.heap.size 0 rfl s.cells _ (fun w' h => h.2.range) Tryz.underlying50 rfl size_slt) hHeld ?_
    simp only [Act.put, List.getElem_toArray, List.getElem_cons_succ, List.getElem_cons_zero, List.setIfInBounds_toArray, List.set]
    refine wpAnyH_take (i := 6) (v := ?_) rfl (by kernel_rfl) (by kernel_rfl) (by kernel_rfl) (fun _ _ _ h => h) (Or.inl ⟨by rfl, ?_⟩) hHeld ?_
    rotate_left
    · (intro w' hS'; go_simp <;> with_reducible rfl)
    simp only [Act.put, List.getElem_toArray, List.getElem_cons_succ, List.getElem_cons_zero, List.setIfInBounds_toArray, List.set]
    refine wpAnyH_ready (rs := [7]) (by kernel_rfl) (by simp) ?_
    refine AllReadyH.cons rfl (fun K hK => ?_) AllReadyH.nil
    rw [if_pos (by rfl)]
    simp only [List.getElem_toArray, List.getElem_cons_succ, List.getElem_cons_zero]
    refine wp_store_mid 50 _ _ rfl b (k * 17) s.cells.toArray rfl rfl HTD.out size_slt (all_one s) ?_
    refine hK.out _ _ hS1 (fun hHeld => ?_)
    clear hK K
    refine wpAnyH_done (by kernel_rfl) ?_ _
    simp only [Act.put, List.getElem_toArray, List.getElem_cons_succ, List.getElem_cons_zero, List.setIfInBounds_toArray, List.set]
    clear hHeld hS0 hS1 HTD HTH
    obtain ⟨z0, z1, z2, zf⟩ := HR1.out.cells
    have HRC : Hid (RAn base ((w0.drew.setCells b (k * 17) s.cells).setCell ⟨g, 2, none⟩ (nu ((A.wr : Int) + 1))) g (.slice (some ⟨b, 0, none⟩) 32 cap) fv ⟨A.sl.set k s, A.fr, A.wr + 1⟩) := HR1.out.counted (A.wr + 1)
    have HKC : Hid (Keep (rfp g (.slice (some ⟨b, 0, none⟩) 32 cap) fv) w ((w0.drew.setCells b (k * 17) s.cells).setCell ⟨g, 2, none⟩ (nu ((A.wr : Int) + 1)))) := HK1.out.setCell (p := ⟨g, 2, none⟩) (.inl (.inl rfl)) _
    generalize w0.drew.setCells b (k * 17) s.cells = w3 at *
    clear HR1 HK1
    go_wp2
    go_ret
    exact ⟨rfl, leftA_self HRC.out h3 HKC.out⟩
  · rw [if_neg ht]
    simp only [decide_eq_false ht] at c1
    have HL : Hid (LeftA base w w0 g (rfp g sv fv) A) := leftA_self hR h3 (Keep.of_below hB)
    clear ht hw0 hB hR hz h1
    go_enter Tryz.func30, Tryz.ntmps30
    go_wp2_with fail
    refine (c1.out _).mono ?_
    rintro e w1 ⟨rfl, hw1⟩
    rw [HW0.out] at hw1
    subst w1
    go_wp2
    go_ret
    exact ⟨rfl, HL.out⟩
end An
end Go.Proofs.YthabnombfbehkaaGreatDoor
/- The document's arena: Give, New. -/
namespace Go.Proofs.YthabnombfbehkaaGreatDoor
set_option linter.ambiguousOpen false
open Go.RowKit
namespace An
open Ft Lv
set_option linter.unusedSimpArgs false
set_option linter.unusedVariables false

/-- Ints are appended to a row of one's own. -/
theorem append_rowI {w : World} {base n : Nat} {v : Value} {xs : List Value} (hown : w.ownsRow base 3 1 v n xs) {u : Value} {b2 m : Nat} {l : List Nat} (hR : w.ownsRow b2 3 1 u m (l.map nun)) (hb : (n + m) * 8 ≤ 140737488355328) (hbase : base ≤ w.heap.size) (ty : TypeId) :
    ∃ v' w', (Builtin.append_ #[55, 55] ty #[v, u]).run Tryz.prog w = .ok v' w' ∧ w'.ownsRow base 3 1 v' (n + m) (xs ++ l.map nun) ∧ w.grownBy w' v.ownBlock := by
  obtain ⟨i0, hi, hz0, hz1, hz2⟩ := info_parts info_int
  have hlm := hR.1
  rw [List.length_map, Nat.mul_one] at hlm
  rcases hR.2 with ⟨rfl, rfl⟩ | ⟨g, cap, cur, rfl, h1, h2, h3, h4, h5, h6⟩
  · obtain rfl := List.eq_nil_of_length_eq_zero hlm
    exact ⟨v, w, run_append_owned_none w base 55 ty 3 i0 1 Tryz.underlying55 hi v n xs hown, by simpa using hown, ⟨rfl, rfl, rfl, Nat.le_refl _, fun _ _ _ => rfl⟩⟩
  · have hn : ∀ j u, (l.map nun)[j]? = some u → w.cell? ((⟨g, 0, none⟩ : Addr).add j) = some u := fun j u hj => hR.cells (g := g) rfl j u hj
    obtain ⟨v', w', hr, g1, g2, _, g4⟩ := run_append_own_at (P := Tryz.prog) w base 55 ty 3 i0 (.int .i64 0) 1 8 Tryz.underlying55 hi hz0 hz1 hz2 rfl (by decide) v n xs hown ⟨g, 0, none⟩ m cap (l.map nun) (by simp [hlm]) hn (fun u hu => by
      obtain ⟨b, _, rfl⟩ := List.mem_map.1 hu
      rfl) (by unfold maxLen; omega) hb hbase
    exact ⟨v', w', hr, g1, g2⟩

theorem wpList_append_rowI {w : World} {ops : Array Oper} {rest : List Oper} {o : Oper} {a : Act} {Q : Exit → Act → World → Prop} (hgd : o.guard = none) (s x : Operand)
    (ho : o.op = .call { callee := .builtin .append, args := #[s, x], argTypes := #[55, 55] })
    (base n : Nat) (v u : Value) (xs : List Value) (b2 m : Nat) (l : List Nat) (hs : a.eval s = v) (hx : a.eval x = u) (hown : w.ownsRow base 3 1 v n xs) (hR : w.ownsRow b2 3 1 u m (l.map nun)) (hb : (n + m) * 8 ≤ 140737488355328) (hbase : base ≤ w.heap.size)
    (h : ∀ v' w', w'.ownsRow base 3 1 v' (n + m) (xs ++ l.map nun) → w.grownBy w' v.ownBlock → wpList Tryz.prog ops Q rest (a.put o.dst v') w') : wpList Tryz.prog ops Q (o :: rest) a w := by
  refine wpList_plain hgd fun K hK => ?_
  obtain ⟨v', w', hr, h1, h2⟩ := append_rowI hown hR hb hbase o.type
  unfold Oper.wp execOp
  simp only [ho, resolve, invoke, builtin, Sem.run_bind, Sem.run_pure, Result.andThen_ok, List.map_toArray, List.map_cons, List.map_nil, hs, hx, hr]
  exact hK _ _ (h v' w' h1 h2)

set_option maxRecDepth 100000 in
set_option maxHeartbeats 1000000 in
theorem give_r (base : Nat) (w : World) (g : Nat) (F : Nat → Prop) (A : Arn) (i : Int) (h : RepA base w g F A) (hg : Good A) (hwr : A.wr ≤ 1000000000) :
    Calls Tryz.prog 48 #[ptr g, nu i] w fun e w' => e = .returned (nun (A.free i).1) ∧ LeftA base w w' g F (A.free i).2 := by
  have c1 := Hid.mk' (there_ref i w)
  have HA := Hid.mk' h
  obtain ⟨sv, fv, h1, rfl, h3⟩ := h
  unfold Arn.free
  by_cases ht : there i
  · rw [if_pos ht]
    rw [decide_eq_true ht] at c1
    obtain ⟨k, rfl⟩ : ∃ k : Nat, i = (k : Int) := ⟨i.toNat, by omega⟩
    have hk : k < 32 := by omega
    simp only [Int.toNat_natCast]
    have c2 := Hid.mk' (at_ref base w g sv fv A k h1 hg hk)
    by_cases hm : k ∈ A.fr
    · rw [if_pos hm]
      obtain ⟨p1, p2⟩ := pos_in hm
      rw [p1] at c2
      generalize A.fr.idxOf k = j at *
      have hj : (0 : Int) ≤ (j : Int) := by omega
      clear h1 ht hm p1 p2
      go_enter Tryz.func48, Tryz.ntmps48
      go_wp2_with fail
      refine c1.out.mono ?_
      rintro e w1 ⟨rfl, hw1⟩
      subst w1
      go_wp2_with fail
      refine c2.out.mono ?_
      rintro e w1 ⟨rfl, hw1⟩
      subst w1
      go_wp2
      go_ret
      exact ⟨rfl, leftA_same HA.out⟩
    · rw [if_neg hm]
      rw [pos_out hm] at c2
      have hfew := hg.few
      obtain ⟨q0, q1, q2, qf⟩ := h1.cells
      have hgl := h1.glt
      have HF0 : Hid ((w.alloc (.cells #[nun k] 3)).ownsRow base 3 1 fv A.fr.length (A.fr.map nun)) := h1.fr.alloc _
      have HL0 : Hid ((w.alloc (.cells #[nun k] 3)).ownsRow w.heap.size 3 1 (.slice (some ⟨w.heap.size, 0, none⟩) 1 1) 1 [nun k]) := World.ownsRow_lit (size := 1) w #[nun k] 1 (Nat.le_refl _) (by decide) rfl
      have HB0 : Hid (Below w.heap.size w (w.alloc (.cells #[nun k] 3))) := (Below.refl _ _).alloc (Nat.le_refl _) _
      have hbb : Hid ((1 + A.fr.length) * 8 ≤ 140737488355328) := by show _ ≤ _; omega
      have HH1 := Hid.mk' h1
      have hlen : Hid ([nun k] ++ A.fr.map nun = (k :: A.fr).map nun) := rfl
      obtain ⟨m4, hm4⟩ : ∃ m4, (k :: A.fr).length = m4 := ⟨_, rfl⟩
      have HM4 := Hid.mk' hm4
      have hll : Hid (1 + A.fr.length = m4) := by show _ = _; rw [← hm4, List.length_cons]; omega
      clear hm4
      obtain ⟨b, cap, hsv, hc1, hc2, _, _⟩ := h1.slot hg.len k hk
      unfold maxLen at hc2
      subst hsv
      obtain ⟨af, cf, hfv, _⟩ := Nm.own_shape h1.fr
      obtain ⟨nf, hnf⟩ : ∃ nf, A.fr.length = nf := ⟨_, rfl⟩
      rw [hnf] at hfv
      subst hfv
      have q0' : (w.alloc (.cells #[nun k] 3)).cell? ⟨g, 0, none⟩ = some (.slice (some ⟨b, 0, none⟩) 32 cap) := (World.cell?_alloc_lt _ _ _ hgl).trans q0
      have q1' : (w.alloc (.cells #[nun k] 3)).cell? ⟨g, 1, none⟩ = some (.slice af nf cf) := (World.cell?_alloc_lt _ _ _ hgl).trans q1
      have cB : Hid (∀ wx, _) := fun wx => bare_ref wx
      have hkI : (k : Int) < 32 := by omega
      have HG := Hid.mk' hg
      clear h1 ht hm q2 hg hnf
      go_enter Tryz.func48, Tryz.ntmps48
      go_wp2_with fail
      refine c1.out.mono ?_
      rintro e w1 ⟨rfl, hw1⟩
      subst w1
      go_wp2_with fail
      refine c2.out.mono ?_
      rintro e w1 ⟨rfl, hw1⟩
      subst w1
      go_upto_region 7 with (at_builtin; refine wpList_append_rowI rfl _ _ rfl w.heap.size 1 _ _ [nun k] base A.fr.length A.fr rfl rfl HL0.out HF0.out hbb.out (by simp) ?_; intro v4 w4 ho4 hg4; rw [hlen.out] at ho4; rw [hll.out] at ho4; obtain ⟨a4, c4, rfl, _⟩ := Nm.own_shape ho4; have HO4 := Hid.mk' ho4; have hB4 : Below w.heap.size w w4 := (HB0.out.grown hg4 HB0.out.size (fun r e => by cases e; exact Nat.le_refl _)); have HB4 := Hid.mk' hB4; have z1 := ((HH1.out.below hB4).cells).2.1; have zf := ((HH1.out.below hB4).cells).2.2.2; clear ho4 hg4 hB4)
      have hR5 : RAn base (w4.setCell ⟨g, 1, none⟩ (.slice a4 m4 c4)) g (.slice (some ⟨b, 0, none⟩) 32 cap) (.slice a4 m4 c4) ⟨A.sl, k :: A.fr, A.wr⟩ := (HH1.out.below HB4.out).setFree hgl (by rw [HM4.out]; exact HO4.out)
      have hK5 : Keep (fun j => j = g) w (w4.setCell ⟨g, 1, none⟩ (.slice a4 m4 c4)) := (Keep.of_below (F := fun j => j = g) HB4.out).setCell (p := ⟨g, 1, none⟩) (.inl rfl) _
      have HN4 : Hid (∀ j, (Value.slice a4 m4 c4).ownBlock = some j → w.heap.size ≤ j) := fun j hj => (HO4.out.lt j hj).1
      generalize w4.setCell ⟨g, 1, none⟩ (.slice a4 m4 c4) = w5 at *
      have HR5 := Hid.mk' hR5
      have HK5 := Hid.mk' hK5
      have hS0 := hR5.cells.1
      obtain ⟨w6, hw6⟩ : ∃ w6, w5.drew.alloc (.cells bare.cells.toArray 50) = w6 := ⟨_, rfl⟩
      have HW6 := Hid.mk' hw6
      have hb6 : Below w5.heap.size w5 w6 := by rw [← hw6]; exact (Below.refl _ _).drew.alloc (Nat.le_refl _) _
      have hR6 := hR5.below hb6
      have hS6 := hR6.cells.1
      have HTD := Hid.mk' (hR6.thereAt HG.out.len k hk)
      have HR7 := Hid.mk' (hR6.stored HG.out.len k hk bare)
      have hS7 := HR7.out.cells.1
      have HK7 : Hid (Keep (fun j => j = g ∨ j = b) w (w6.setCells b (k * 17) bare.cells)) := by
        have hG := grown_setCells b bare.cells (k * 17) w6
        exact ⟨hG.os.trans (hb6.os.trans hK5.os), hG.tape.trans (hb6.tape.trans hK5.tape), hG.output.trans (hb6.output.trans hK5.output), Nat.le_trans hK5.size (Nat.le_trans hb6.size hG.size), fun j hj hn => (hG.block j (Nat.lt_of_lt_of_le hj (Nat.le_trans hK5.size hb6.size)) (fun e => hn (.inr (Option.some.inj e)))).trans ((hb6.block j (Nat.lt_of_lt_of_le hj hK5.size)).trans (hK5.block j hj (fun e => hn (.inl e))))⟩
      clear hR5 hK5 hw6 hR6 z1 zf q0 q1 q0' q1' qf c1 c2 HF0 HL0 HB0 HO4
      refine wp_region_held_drew (S := fun w' => w'.cell? ⟨g, 0, none⟩ = some (.slice (some ⟨b, 0, none⟩) 32 cap)) (by kernel_rfl) hS0 (fun hHeld => ?_)
      refine wpAnyH_take (i := 0) (v := ?_) rfl (by kernel_rfl) (by kernel_rfl) (by kernel_rfl) (fun _ _ _ h => h) (Or.inl ⟨by rfl, ?_⟩) hHeld ?_
      rotate_left
      · (intro w' hS'; go_simp <;> with_reducible rfl)
      simp only [Act.put, List.getElem_toArray, List.getElem_cons_succ, List.getElem_cons_zero, List.setIfInBounds_toArray, List.set]
      refine wpAnyH_take (i := 1) (v := ?_) rfl (by kernel_rfl) (by kernel_rfl) (by kernel_rfl) (fun _ _ _ h => h) (Or.inl ⟨by rfl, ?_⟩) hHeld ?_
      rotate_left
      · (intro w' hS'; go_simp <;> with_reducible rfl)
      simp only [Act.put, List.getElem_toArray, List.getElem_cons_succ, List.getElem_cons_zero, List.setIfInBounds_toArray, List.set]
      refine wpAnyH_take (i := 2) (v := ?_) rfl (by kernel_rfl) (by kernel_rfl) (by kernel_rfl) (fun _ _ _ h => h) (Or.inl ⟨by rfl, ?_⟩) hHeld ?_
      rotate_left
      · (intro w' hS'; go_simp <;> with_reducible rfl)
      simp only [Act.put, List.getElem_toArray, List.getElem_cons_succ, List.getElem_cons_zero, List.setIfInBounds_toArray, List.set]
      refine wpAnyH_take (i := 3) (v := ?_) rfl (by kernel_rfl) (by kernel_rfl) (by kernel_rfl) (fun _ _ _ h => h) (Or.inl ⟨by rfl, ?_⟩) hHeld ?_
      rotate_left
      · (intro w' hS'; go_simp <;> with_reducible rfl)
      simp only [Act.put, List.getElem_toArray, List.getElem_cons_succ, List.getElem_cons_zero, List.setIfInBounds_toArray, List.set]
      refine wpAnyH_take (i := 4) (v := ?_) rfl (by kernel_rfl) (by kernel_rfl) (by kernel_rfl) (fun _ _ _ h => h) (Or.inl ⟨by rfl, ?_⟩) hHeld ?_
      rotate_left
      · (intro w' hS'; go_simp <;> with_reducible rfl)
      simp only [Act.put, List.getElem_toArray, List.getElem_cons_succ, List.getElem_cons_zero, List.setIfInBounds_toArray, List.set]
      refine wpAnyH_ready (rs := [5]) (by kernel_rfl) (by simp) ?_
      refine AllReadyH.cons rfl (fun K hK => ?_) AllReadyH.nil
      go_simp
      refine (cB.out _).mono ?_
      rintro e w7 ⟨rfl, hw7⟩
      rw [HW6.out] at hw7
      subst w7
      go_wp2_with fail
      refine hK.out _ _ hS6 (fun hHeld => ?_)
      clear hK K
      refine wpAnyH_take (i := 6) (v := ?_) rfl (by kernel_rfl) (by kernel_rfl) (by kernel_rfl) (fun _ _ _ h => h) (Or.inl ⟨by rfl, ?_⟩) hHeld ?_
      rotate_left
      · (intro w' hS'; go_simp <;> with_reducible rfl)
      simp only [Act.put, List.getElem_toArray, List.getElem_cons_succ, List.getElem_cons_zero, List.setIfInBounds_toArray, List.set]
      refine wpAnyH_ready (rs := [7]) (by kernel_rfl) (by simp) ?_
      refine AllReadyH.cons rfl (fun K hK => ?_) AllReadyH.nil
      rw [if_pos (by rfl)]
      simp only [List.getElem_toArray, List.getElem_cons_succ, List.getElem_cons_zero]
      refine wp_store_mid 50 _ _ rfl b (k * 17) bare.cells.toArray rfl rfl HTD.out size_slt (all_one bare) ?_
      refine hK.out _ _ hS7 (fun hHeld => ?_)
      clear hK K
      refine wpAnyH_done (by kernel_rfl) ?_ _
      simp only [Act.put, List.getElem_toArray, List.getElem_cons_succ, List.getElem_cons_zero, List.setIfInBounds_toArray, List.set]
      clear hHeld hS0 hS6 hS7 HTD
      obtain ⟨z0, z1, z2, zf⟩ := HR7.out.cells
      have HRC : Hid (RAn base ((w6.setCells b (k * 17) bare.cells).setCell ⟨g, 2, none⟩ (nu ((A.wr : Int) + 1))) g (.slice (some ⟨b, 0, none⟩) 32 cap) (.slice a4 m4 c4) ⟨A.sl.set k bare, k :: A.fr, A.wr + 1⟩) := HR7.out.counted (A.wr + 1)
      have HKC : Hid (Keep (fun j => j = g ∨ j = b) w ((w6.setCells b (k * 17) bare.cells).setCell ⟨g, 2, none⟩ (nu ((A.wr : Int) + 1)))) := HK7.out.setCell (p := ⟨g, 2, none⟩) (.inl (.inl rfl)) _
      generalize w6.setCells b (k * 17) bare.cells = w7 at *
      clear HR7 HK7
      go_wp2
      go_ret
      refine ⟨rfl, rfp g (.slice (some ⟨b, 0, none⟩) 32 cap) (.slice a4 m4 c4), ⟨_, _, HRC.out, rfl, Nat.le_trans h3 HKC.out.size⟩, HKC.out.weaken (fun j _ e => ?_), fun j hj => ?_⟩
      · rcases e with e | e
        · exact .inl e
        · exact .inr (.inl (by rw [e]; rfl))
      · rcases hj with e | e | e
        · exact .inl (.inl e)
        · exact .inl (.inr (.inl e))
        · exact .inr (HN4.out j e)
  · rw [if_neg ht]
    rw [decide_eq_false ht] at c1
    clear h1 ht
    go_enter Tryz.func48, Tryz.ntmps48
    go_wp2_with fail
    refine c1.out.mono ?_
    rintro e w1 ⟨rfl, hw1⟩
    subst w1
    go_wp2
    go_ret
    exact ⟨rfl, leftA_same HA.out⟩

/-- The slots are put in. -/
theorem RAn.setSlots {base : Nat} {wr : World} {g : Nat} {sv fv lv : Value} {A : Arn} {l : List Slt} (h : RAn base wr g sv fv A) (ho : wr.ownsRow base 50 17 lv l.length (scs l)) : RAn base (wr.setCell ⟨g, 0, none⟩ lv) g lv fv ⟨l, A.fr, A.wr⟩ := by
  have hb := h.blk
  have hG : wr.grownBy (wr.setCell ⟨g, 0, none⟩ lv) (some g) := ⟨rfl, rfl, rfl, by simp, fun k hk hn => Below.heap_setCell _ _ _ k (fun e => hn (by rw [e]))⟩
  refine ⟨heap_setCell_same _ g 0 _ _ _ hb, ho.kept hG (.inr fun e => ?_), h.fr.kept hG (.inr h.ne.2.1), h.lo⟩
  obtain ⟨c, hc, _⟩ := own_cellsT ho e
  rw [hb] at hc
  simp at hc

theorem RAn.setFree' {base : Nat} {wr : World} {g : Nat} {sv fv lv : Value} {A : Arn} {l : List Nat} (h : RAn base wr g sv fv A) (ho : wr.ownsRow base 3 1 lv l.length (l.map nun)) : RAn base (wr.setCell ⟨g, 1, none⟩ lv) g sv lv ⟨A.sl, l, A.wr⟩ := by
  have hb := h.blk
  have hG : wr.grownBy (wr.setCell ⟨g, 1, none⟩ lv) (some g) := ⟨rfl, rfl, rfl, by simp, fun k hk hn => Below.heap_setCell _ _ _ k (fun e => hn (by rw [e]))⟩
  refine ⟨heap_setCell_same _ g 1 _ _ _ hb, h.sl.kept hG (.inr h.ne.1), ho.kept hG (.inr fun e => ?_), h.lo⟩
  obtain ⟨c, hc, _⟩ := own_cellsT ho e
  rw [hb] at hc
  simp at hc

theorem RAn.grown {base : Nat} {w w' : World} {g : Nat} {sv fv : Value} {A : Arn} (h : RAn base w g sv fv A) {row : Option Nat} (hg : w.grownBy w' row) (hr : ∀ k, row = some k → ¬ rfp g sv fv k) : RAn base w' g sv fv A :=
  h.keep (G := fun k => row = some k) ⟨hg.os, hg.tape, hg.output, hg.size, fun k hk hn => hg.block k hk (fun e => hn e.symm)⟩ (fun k hk e => hr k e hk)

/-- The arena's first k slots are there. -/
def arnK (k : Nat) : Arn := ⟨List.replicate k bare, List.range k, 0⟩

theorem slt_fold (x : Slt) : List.foldl (fun (cs : Array Value) (y : Value × Nat) => cs.setIfInBounds y.snd y.fst) sltZ x.cells.zipIdx = x.cells.toArray := by kernel_rfl

set_option maxRecDepth 100000 in
set_option maxHeartbeats 1000000 in
theorem new_r (w : World) : Calls Tryz.prog 6 #[] w fun e w' => ∃ F, e = .returned (ptr w.heap.size) ∧ RepA w.heap.size w' w.heap.size F arn0 ∧ Below w.heap.size w w' := by
  have cB : Hid (∀ wx, _) := fun wx => bare_ref wx
  obtain ⟨i0, ji, hz0, hz1, hz2⟩ := info_parts info_int
  obtain ⟨i1, jj, hy0, hy1, hy2⟩ := info_parts info_slt
  have HR0 : Hid (RAn w.heap.size (w.alloc (.cells #[.slice none 0 0, .slice none 0 0, .int .i64 0] 65)) w.heap.size (.slice none 0 0) (.slice none 0 0) (arnK 0)) := ⟨heap_alloc_new _ _, World.ownsRow_nil _ _ _ _, World.ownsRow_nil _ _ _ _, Nat.le_refl _⟩
  have HB0 : Hid (Below w.heap.size w (w.alloc (.cells #[.slice none 0 0, .slice none 0 0, .int .i64 0] 65))) := (Below.refl _ _).alloc (Nat.le_refl _) _
  go_enter Tryz.func6, Tryz.ntmps6
  go_wp2
  go_loopw [2] (fun kv wr => ∃ (k : Nat), k ≤ 32 ∧ kv = nun k ∧ Hid (∃ sv fv, RAn w.heap.size wr w.heap.size sv fv (arnK k)) ∧ Hid (Below w.heap.size w wr)) (fun kv _ => 32 - (intOf kv).toNat)
  case atStart => exact ⟨0, by omega, rfl, ⟨_, _, HR0.out⟩, HB0⟩
  case round =>
    obtain ⟨k, hk, rfl, hrr, hB⟩ := hrel
    clear HR0 HB0
    by_cases hlt : k < 32
    · obtain ⟨sv, fv, hR⟩ := hrr.out
      have hsl := hR.sl
      have hfl := hR.fr
      have e1 : (arnK k).sl.length = k := by simp [arnK]
      have e2 : (arnK k).fr.length = k := by simp [arnK]
      rw [e1] at hsl
      rw [e2] at hfl
      obtain ⟨a1, c1, rfl, _, hc1, _⟩ := Nm.own_shape hsl
      obtain ⟨a2, c2, rfl, _, hc2, _⟩ := Nm.own_shape hfl
      have hkI : (k : Int) < 32 := by omega
      obtain ⟨w6, hw6⟩ : ∃ w6, wr.drew.alloc (.cells bare.cells.toArray 50) = w6 := ⟨_, rfl⟩
      have HW6 := Hid.mk' hw6
      have hb6 : Below wr.heap.size wr w6 := by rw [← hw6]; exact (Below.refl _ _).drew.alloc (Nat.le_refl _) _
      have hS0 := hR.cells.1
      have hS6 := (hR.below hb6).cells.1
      have hb8 : Below wr.heap.size wr (w6.alloc (.cells bare.cells.toArray 50)) := hb6.alloc hb6.size _
      have hS8 := (hR.below hb8).cells.1
      have hR8 := hR.below hb8
      have HSL : Hid ((w6.alloc (.cells bare.cells.toArray 50)).ownsRow w.heap.size 50 17 (.slice a1 k c1) k (scs (arnK k).sl)) := by
        have := hR8.sl
        rw [e1] at this
        exact this
      have HNB : Hid (∀ j u, bare.cells[j]? = some u → (w6.alloc (.cells bare.cells.toArray 50)).cell? ((⟨w6.heap.size, 0, none⟩ : Addr).add j) = some u) := World.news_of_block (cs := bare.cells.toArray) (heap_alloc_new _ _)
      have HMX : Hid (k + 1 ≤ maxLen) := by show _ ≤ _; unfold maxLen; omega
      have HBY : Hid ((k + 1) * 144 ≤ 140737488355328) := by show _ ≤ _; omega
      have HBZ : Hid (w.heap.size ≤ (w6.alloc (.cells bare.cells.toArray 50)).heap.size) := Nat.le_trans hB.out.size hb8.size
      have HGR : Hid (∀ w9, (w6.alloc (.cells bare.cells.toArray 50)).grownBy w9 (Value.slice a1 k c1).ownBlock → w9.cell? ⟨w.heap.size, 0, none⟩ = some (.slice a1 k c1) ∧ w9.frozen? ⟨w.heap.size, 0, none⟩ = false ∧ ∀ g9 c9, w9.ownsRow w.heap.size 50 17 (.slice (some ⟨g9, 0, none⟩) (k + 1) c9) (k + 1) (scs (arnK k).sl ++ bare.cells) → RAn w.heap.size (w9.setCell ⟨w.heap.size, 0, none⟩ (.slice (some ⟨g9, 0, none⟩) (k + 1) c9)) w.heap.size (.slice (some ⟨g9, 0, none⟩) (k + 1) c9) (.slice a2 k c2) ⟨List.replicate (k + 1) bare, List.range k, 0⟩ ∧ Below w.heap.size w (w9.setCell ⟨w.heap.size, 0, none⟩ (.slice (some ⟨g9, 0, none⟩) (k + 1) c9))) := fun w9 hg9 => by
        have hn8 := hR8.ne
        have hblk : w9.heap[w.heap.size]? = some (.cells #[.slice a1 k c1, .slice a2 k c2, .int .i64 0] 65) := (hg9.block _ hR8.glt (fun e => hn8.1 e.symm)).trans hR8.blk
        refine ⟨by simp [World.cell?, hblk], by simp [World.frozen?, hblk], fun g9 c9 ho9 => ?_⟩
        have hbw : Below w.heap.size w w9 := (hB.out.trans (hb8.mono hB.out.size)).grown hg9 HBZ.out (fun r e => (HSL.out.lt r e).1)
        have hfr9 : w9.ownsRow w.heap.size 3 1 (.slice a2 k c2) (arnK k).fr.length ((arnK k).fr.map nun) := hR8.fr.kept hg9 (by
          cases h : (Value.slice a2 k c2).ownBlock with
          | none => exact .inl rfl
          | some x => exact .inr (fun e => hn8.2.2 x e.symm h))
        have hG : w9.grownBy (w9.setCell ⟨w.heap.size, 0, none⟩ (.slice (some ⟨g9, 0, none⟩) (k + 1) c9)) (some w.heap.size) := ⟨rfl, rfl, rfl, by simp, fun k hk hn => Below.heap_setCell _ _ _ k (fun e => hn (by rw [e]))⟩
        refine ⟨⟨heap_setCell_same _ _ 0 _ _ _ hblk, ?_, hfr9.kept hG (.inr fun e => ?_), Nat.le_refl _⟩, hbw.setCell (p := ⟨w.heap.size, 0, none⟩) (Nat.le_refl _) _⟩
        · refine World.ownsRow.kept ?_ hG (.inr fun e => ?_)
          · simp only
            rw [List.length_replicate, List.replicate_succ', scs_snoc]
            exact ho9
          · obtain ⟨c, hc, _⟩ := own_cellsT ho9 e
            rw [hblk] at hc
            simp at hc
        · obtain ⟨c, hc, _⟩ := own_cellsT hfr9 e
          rw [hblk] at hc
          simp at hc
      have hfl9 : Hid (∀ w10 sv, RAn w.heap.size w10 w.heap.size sv (.slice a2 k c2) ⟨List.replicate (k + 1) bare, List.range k, 0⟩ → w10.ownsRow w.heap.size 3 1 (.slice a2 k c2) k ((List.range k).map nun)) := fun w10 sv h => by
        have := h.fr
        simp only [List.length_range] at this
        exact this
      have hone : Hid (∀ u ∈ [nun k], u.oneCell' = true) := by
        intro u hu
        simp at hu
        subst hu
        rfl
      have HBI : Hid ((k + 1) * 8 ≤ 140737488355328) := by show _ ≤ _; omega
      have HFI : Hid (∀ w10 sv, RAn w.heap.size w10 w.heap.size sv (.slice a2 k c2) ⟨List.replicate (k + 1) bare, List.range k, 0⟩ ∧ Below w.heap.size w w10 → ∀ w11, (w10.alloc (.cells #[nun k] 3)).grownBy w11 (Value.slice a2 k c2).ownBlock → ∀ g11 c11, w11.ownsRow w.heap.size 3 1 (.slice (some ⟨g11, 0, none⟩) (k + 1) c11) (k + 1) ((List.range k).map nun ++ [nun k]) → w11.cell? ⟨w.heap.size, 1, none⟩ = some (.slice a2 k c2) ∧ w11.frozen? ⟨w.heap.size, 1, none⟩ = false ∧ Hid (RAn w.heap.size (w11.setCell ⟨w.heap.size, 1, none⟩ (.slice (some ⟨g11, 0, none⟩) (k + 1) c11)) w.heap.size sv (.slice (some ⟨g11, 0, none⟩) (k + 1) c11) (arnK (k + 1)) ∧ Below w.heap.size w (w11.setCell ⟨w.heap.size, 1, none⟩ (.slice (some ⟨g11, 0, none⟩) (k + 1) c11)))) := fun w10 sv ⟨h10, hb10⟩ w11 hg11 g11 c11 ho11 => by
        have hA := h10.below ((Below.refl _ _).alloc (Nat.le_refl _) (.cells #[nun k] 3))
        have hbA : Below w.heap.size w (w10.alloc (.cells #[nun k] 3)) := hb10.alloc hb10.size _
        have hn := hA.ne
        have hblk : w11.heap[w.heap.size]? = some (.cells #[sv, .slice a2 k c2, .int .i64 0] 65) := (hg11.block _ hA.glt (fun e => hn.2.1 e.symm)).trans hA.blk
        have hsl11 : w11.ownsRow w.heap.size 50 17 sv (List.replicate (k + 1) bare).length (scs (List.replicate (k + 1) bare)) := hA.sl.kept hg11 (by
          cases h : sv.ownBlock with
          | none => exact .inl rfl
          | some x => exact .inr (fun e => hn.2.2 x h e.symm))
        have hbw : Below w.heap.size w w11 := hbA.grown hg11 hbA.size (fun r e => (hA.fr.lt r e).1)
        have hG : w11.grownBy (w11.setCell ⟨w.heap.size, 1, none⟩ (.slice (some ⟨g11, 0, none⟩) (k + 1) c11)) (some w.heap.size) := ⟨rfl, rfl, rfl, by simp, fun k hk hn => Below.heap_setCell _ _ _ k (fun e => hn (by rw [e]))⟩
        refine ⟨by simp [World.cell?, hblk], by simp [World.frozen?, hblk], ⟨heap_setCell_same _ _ 1 _ _ _ hblk, hsl11.kept hG (.inr fun e => ?_), World.ownsRow.kept ?_ hG (.inr fun e => ?_), Nat.le_refl _⟩, hbw.setCell (p := ⟨w.heap.size, 1, none⟩) (Nat.le_refl _) _⟩
        · obtain ⟨c, hc, _⟩ := own_cellsT hsl11 e
          rw [hblk] at hc
          simp at hc
        · simp only [arnK]
          rw [List.length_range, List.range_succ, List.map_append]
          exact ho11
        · obtain ⟨c, hc, _⟩ := own_cellsT ho11 e
          rw [hblk] at hc
          simp at hc
      clear e1 e2 hrr hw6
      go_wp2_with fail
      refine wp_region_held_drew (S := fun _ => True) (by kernel_rfl) trivial (fun hHeld => ?_)
      refine wpAnyH_take (i := 0) (v := ?_) rfl (by kernel_rfl) (by kernel_rfl) (by kernel_rfl) (fun _ _ _ h => h) (Or.inl ⟨by rfl, ?_⟩) hHeld ?_
      rotate_left
      · (intro w' hS'; go_simp <;> with_reducible rfl)
      simp only [Act.put, List.getElem_toArray, List.getElem_cons_succ, List.getElem_cons_zero, List.setIfInBounds_toArray, List.set]
      refine wpAnyH_take (i := 1) (v := ?_) rfl (by kernel_rfl) (by kernel_rfl) (by kernel_rfl) (fun _ _ _ h => h) (Or.inl ⟨by rfl, ?_⟩) hHeld ?_
      rotate_left
      · (intro w' hS'; go_simp <;> with_reducible rfl)
      simp only [Act.put, List.getElem_toArray, List.getElem_cons_succ, List.getElem_cons_zero, List.setIfInBounds_toArray, List.set]
      refine wpAnyH_take (i := 2) (v := ?_) rfl (by kernel_rfl) (by kernel_rfl) (by kernel_rfl) (fun _ _ _ h => h) (Or.inl ⟨by rfl, ?_⟩) hHeld ?_
      rotate_left
      · (intro w' hS'; go_simp <;> with_reducible rfl)
      simp only [Act.put, List.getElem_toArray, List.getElem_cons_succ, List.getElem_cons_zero, List.setIfInBounds_toArray, List.set]
      refine wpAnyH_take (i := 3) (v := ?_) rfl (by kernel_rfl) (by kernel_rfl) (by kernel_rfl) (fun _ _ _ h => h) (Or.inl ⟨by rfl, ?_⟩) hHeld ?_
      rotate_left
      · (intro w' hS'; go_simp <;> with_reducible rfl)
      simp only [Act.put, List.getElem_toArray, List.getElem_cons_succ, List.getElem_cons_zero, List.setIfInBounds_toArray, List.set]
      refine wpAnyH_ready (rs := [4, 5]) (by kernel_rfl) (by simp) ?_
      refine AllReadyH.cons rfl (fun K hK => ?_) (AllReadyH.cons rfl (fun K hK => ?_) AllReadyH.nil)
      · skip
        go_simp
        refine hK.out _ _ trivial (fun hHeld => ?_)
        clear hK K
        try simp only [Act.put, List.getElem_toArray, List.getElem_cons_succ, List.getElem_cons_zero, List.setIfInBounds_toArray, List.set]
        refine wpAnyH_ready (rs := [5]) (by kernel_rfl) (by simp) ?_
        refine AllReadyH.cons rfl (fun K hK => ?_) AllReadyH.nil
        go_simp
        refine (cB.out _).mono ?_
        rintro e w7 ⟨rfl, hw7⟩
        rw [HW6.out] at hw7
        subst w7
        go_wp2_with fail
        refine hK.out _ _ trivial (fun hHeld => ?_)
        clear hK K
        refine wpAnyH_ready (rs := [6]) (by kernel_rfl) (by simp) ?_
        refine AllReadyH.cons rfl (fun K hK => ?_) AllReadyH.nil
        go_simp
        simp only [Slt.len, slt_fold]
        go_simp
        refine hK.out _ _ trivial (fun hHeld => ?_)
        clear hK K
        refine wpAnyH_ready (rs := [7]) (by kernel_rfl) (by simp) ?_
        refine AllReadyH.cons rfl (fun K hK => ?_) AllReadyH.nil
        rw [if_pos (by rfl)]
        simp only [List.getElem_toArray, List.getElem_cons_succ, List.getElem_cons_zero]
        refine wp_append_lies _ _ _ 63 rfl w.heap.size 50 i1 slt0.v 17 144 Tryz.underlying63 jj hy0 hy1 hy2 rfl (by decide) (.slice a1 k c1) k (scs (arnK k).sl) rfl HSL.out ⟨w6.heap.size, 0, none⟩ 1 1 bare.cells rfl rfl HNB.out bare.one (by decide) HMX.out HBY.out HBZ.out _ rfl ?_
        intro g9 c9 w9 ho9 hg9 _ _
        obtain ⟨hS9, hF9, hr9⟩ := HGR.out w9 hg9
        have HR9 := Hid.mk' (hr9 g9 c9 ho9)
        clear hr9 ho9 hg9
        refine hK.out _ _ trivial (fun hHeld => ?_)
        clear hK K
        try simp only [Act.put, List.getElem_toArray, List.getElem_cons_succ, List.getElem_cons_zero, List.setIfInBounds_toArray, List.set]
        refine wpAnyH_take (i := 8) (v := ?_) rfl (by kernel_rfl) (by kernel_rfl) (by kernel_rfl) (fun _ _ _ h => h) (Or.inl ⟨by rfl, ?_⟩) hHeld ?_
        rotate_left
        · (intro w' hS'; go_simp <;> with_reducible rfl)
        simp only [Act.put, List.getElem_toArray, List.getElem_cons_succ, List.getElem_cons_zero, List.setIfInBounds_toArray, List.set]
        refine wpAnyH_take (i := 9) (v := ?_) rfl (by kernel_rfl) (by kernel_rfl) (by kernel_rfl) (fun _ _ _ h => h) (Or.inl ⟨by rfl, ?_⟩) hHeld ?_
        rotate_left
        · (intro w' hS'; go_simp <;> with_reducible rfl)
        simp only [Act.put, List.getElem_toArray, List.getElem_cons_succ, List.getElem_cons_zero, List.setIfInBounds_toArray, List.set]
        refine wpAnyH_ready (rs := [10]) (by kernel_rfl) (by simp) ?_
        refine AllReadyH.cons rfl (fun K hK => ?_) AllReadyH.nil
        go_simp
        refine hK.out _ _ trivial (fun hHeld => ?_)
        clear hK K
        refine wpAnyH_done (by kernel_rfl) ?_ _
        try simp only [Act.put, List.getElem_toArray, List.getElem_cons_succ, List.getElem_cons_zero, List.setIfInBounds_toArray, List.set]
        generalize w9.setCell ⟨w.heap.size, 0, none⟩ (.slice (some ⟨g9, 0, none⟩) (k + 1) c9) = w10 at *
        obtain ⟨z0, z1, z2, zf⟩ := HR9.out.1.cells
        have HO9 := Hid.mk' (hfl9.out _ _ HR9.out.1)
        have hbz9 : Hid (w.heap.size ≤ w10.heap.size) := HR9.out.2.size
        clear hS9 hF9 hHeld
        go_wp2_with (at_builtin; refine wpList_append_lies _ rfl _ _ 55 rfl w.heap.size 3 i0 (.int .i64 0) 1 8 Tryz.underlying55 ji hz0 hz1 hz2 rfl (by decide) (.slice a2 k c2) k ((List.range k).map nun) rfl (HO9.out.alloc _) ⟨w10.heap.size, 0, none⟩ 1 1 [nun k] rfl rfl (World.news_of_block (heap_alloc_new _ _)) hone.out (by decide) HMX.out HBI.out (by have := hbz9.out; simp; omega) _ rfl ?_; intro g11 c11 w11 ho11 hg11 _ _; obtain ⟨y1, yf, HR11⟩ := HFI.out w10 _ HR9.out w11 hg11 g11 c11 ho11; clear ho11 hg11)
        go_roundw
        case rel => exact ⟨k + 1, by omega, by go_num, ⟨_, _, HR11.out.1⟩, HR11.out.2⟩
        case measure => simp [intOf]; omega
      · skip
        go_simp
        refine (cB.out _).mono ?_
        rintro e w7 ⟨rfl, hw7⟩
        rw [HW6.out] at hw7
        subst w7
        go_wp2_with fail
        refine hK.out _ _ trivial (fun hHeld => ?_)
        clear hK K
        refine wpAnyH_ready (rs := [4, 6]) (by kernel_rfl) (by simp) ?_
        refine AllReadyH.cons rfl (fun K hK => ?_) (AllReadyH.cons rfl (fun K hK => ?_) AllReadyH.nil)
        · skip
          go_simp
          refine hK.out _ _ trivial (fun hHeld => ?_)
          clear hK K
          try simp only [Act.put, List.getElem_toArray, List.getElem_cons_succ, List.getElem_cons_zero, List.setIfInBounds_toArray, List.set]
          refine wpAnyH_ready (rs := [6]) (by kernel_rfl) (by simp) ?_
          refine AllReadyH.cons rfl (fun K hK => ?_) AllReadyH.nil
          go_simp
          simp only [Slt.len, slt_fold]
          go_simp
          refine hK.out _ _ trivial (fun hHeld => ?_)
          clear hK K
          refine wpAnyH_ready (rs := [7]) (by kernel_rfl) (by simp) ?_
          refine AllReadyH.cons rfl (fun K hK => ?_) AllReadyH.nil
          rw [if_pos (by rfl)]
          simp only [List.getElem_toArray, List.getElem_cons_succ, List.getElem_cons_zero]
          refine wp_append_lies _ _ _ 63 rfl w.heap.size 50 i1 slt0.v 17 144 Tryz.underlying63 jj hy0 hy1 hy2 rfl (by decide) (.slice a1 k c1) k (scs (arnK k).sl) rfl HSL.out ⟨w6.heap.size, 0, none⟩ 1 1 bare.cells rfl rfl HNB.out bare.one (by decide) HMX.out HBY.out HBZ.out _ rfl ?_
          intro g9 c9 w9 ho9 hg9 _ _
          obtain ⟨hS9, hF9, hr9⟩ := HGR.out w9 hg9
          have HR9 := Hid.mk' (hr9 g9 c9 ho9)
          clear hr9 ho9 hg9
          refine hK.out _ _ trivial (fun hHeld => ?_)
          clear hK K
          try simp only [Act.put, List.getElem_toArray, List.getElem_cons_succ, List.getElem_cons_zero, List.setIfInBounds_toArray, List.set]
          refine wpAnyH_take (i := 8) (v := ?_) rfl (by kernel_rfl) (by kernel_rfl) (by kernel_rfl) (fun _ _ _ h => h) (Or.inl ⟨by rfl, ?_⟩) hHeld ?_
          rotate_left
          · (intro w' hS'; go_simp <;> with_reducible rfl)
          simp only [Act.put, List.getElem_toArray, List.getElem_cons_succ, List.getElem_cons_zero, List.setIfInBounds_toArray, List.set]
          refine wpAnyH_take (i := 9) (v := ?_) rfl (by kernel_rfl) (by kernel_rfl) (by kernel_rfl) (fun _ _ _ h => h) (Or.inl ⟨by rfl, ?_⟩) hHeld ?_
          rotate_left
          · (intro w' hS'; go_simp <;> with_reducible rfl)
          simp only [Act.put, List.getElem_toArray, List.getElem_cons_succ, List.getElem_cons_zero, List.setIfInBounds_toArray, List.set]
          refine wpAnyH_ready (rs := [10]) (by kernel_rfl) (by simp) ?_
          refine AllReadyH.cons rfl (fun K hK => ?_) AllReadyH.nil
          go_simp
          refine hK.out _ _ trivial (fun hHeld => ?_)
          clear hK K
          refine wpAnyH_done (by kernel_rfl) ?_ _
          try simp only [Act.put, List.getElem_toArray, List.getElem_cons_succ, List.getElem_cons_zero, List.setIfInBounds_toArray, List.set]
          generalize w9.setCell ⟨w.heap.size, 0, none⟩ (.slice (some ⟨g9, 0, none⟩) (k + 1) c9) = w10 at *
          obtain ⟨z0, z1, z2, zf⟩ := HR9.out.1.cells
          have HO9 := Hid.mk' (hfl9.out _ _ HR9.out.1)
          have hbz9 : Hid (w.heap.size ≤ w10.heap.size) := HR9.out.2.size
          clear hS9 hF9 hHeld
          go_wp2_with (at_builtin; refine wpList_append_lies _ rfl _ _ 55 rfl w.heap.size 3 i0 (.int .i64 0) 1 8 Tryz.underlying55 ji hz0 hz1 hz2 rfl (by decide) (.slice a2 k c2) k ((List.range k).map nun) rfl (HO9.out.alloc _) ⟨w10.heap.size, 0, none⟩ 1 1 [nun k] rfl rfl (World.news_of_block (heap_alloc_new _ _)) hone.out (by decide) HMX.out HBI.out (by have := hbz9.out; simp; omega) _ rfl ?_; intro g11 c11 w11 ho11 hg11 _ _; obtain ⟨y1, yf, HR11⟩ := HFI.out w10 _ HR9.out w11 hg11 g11 c11 ho11; clear ho11 hg11)
          go_roundw
          case rel => exact ⟨k + 1, by omega, by go_num, ⟨_, _, HR11.out.1⟩, HR11.out.2⟩
          case measure => simp [intOf]; omega
        · skip
          go_simp
          simp only [Slt.len, slt_fold]
          go_simp
          refine hK.out _ _ trivial (fun hHeld => ?_)
          clear hK K
          refine wpAnyH_ready (rs := [4]) (by kernel_rfl) (by simp) ?_
          refine AllReadyH.cons rfl (fun K hK => ?_) AllReadyH.nil
          go_simp
          refine hK.out _ _ trivial (fun hHeld => ?_)
          clear hK K
          try simp only [Act.put, List.getElem_toArray, List.getElem_cons_succ, List.getElem_cons_zero, List.setIfInBounds_toArray, List.set]
          refine wpAnyH_ready (rs := [7]) (by kernel_rfl) (by simp) ?_
          refine AllReadyH.cons rfl (fun K hK => ?_) AllReadyH.nil
          rw [if_pos (by rfl)]
          simp only [List.getElem_toArray, List.getElem_cons_succ, List.getElem_cons_zero]
          refine wp_append_lies _ _ _ 63 rfl w.heap.size 50 i1 slt0.v 17 144 Tryz.underlying63 jj hy0 hy1 hy2 rfl (by decide) (.slice a1 k c1) k (scs (arnK k).sl) rfl HSL.out ⟨w6.heap.size, 0, none⟩ 1 1 bare.cells rfl rfl HNB.out bare.one (by decide) HMX.out HBY.out HBZ.out _ rfl ?_
          intro g9 c9 w9 ho9 hg9 _ _
          obtain ⟨hS9, hF9, hr9⟩ := HGR.out w9 hg9
          have HR9 := Hid.mk' (hr9 g9 c9 ho9)
          clear hr9 ho9 hg9
          refine hK.out _ _ trivial (fun hHeld => ?_)
          clear hK K
          try simp only [Act.put, List.getElem_toArray, List.getElem_cons_succ, List.getElem_cons_zero, List.setIfInBounds_toArray, List.set]
          refine wpAnyH_take (i := 8) (v := ?_) rfl (by kernel_rfl) (by kernel_rfl) (by kernel_rfl) (fun _ _ _ h => h) (Or.inl ⟨by rfl, ?_⟩) hHeld ?_
          rotate_left
          · (intro w' hS'; go_simp <;> with_reducible rfl)
          simp only [Act.put, List.getElem_toArray, List.getElem_cons_succ, List.getElem_cons_zero, List.setIfInBounds_toArray, List.set]
          refine wpAnyH_take (i := 9) (v := ?_) rfl (by kernel_rfl) (by kernel_rfl) (by kernel_rfl) (fun _ _ _ h => h) (Or.inl ⟨by rfl, ?_⟩) hHeld ?_
          rotate_left
          · (intro w' hS'; go_simp <;> with_reducible rfl)
          simp only [Act.put, List.getElem_toArray, List.getElem_cons_succ, List.getElem_cons_zero, List.setIfInBounds_toArray, List.set]
          refine wpAnyH_ready (rs := [10]) (by kernel_rfl) (by simp) ?_
          refine AllReadyH.cons rfl (fun K hK => ?_) AllReadyH.nil
          go_simp
          refine hK.out _ _ trivial (fun hHeld => ?_)
          clear hK K
          refine wpAnyH_done (by kernel_rfl) ?_ _
          try simp only [Act.put, List.getElem_toArray, List.getElem_cons_succ, List.getElem_cons_zero, List.setIfInBounds_toArray, List.set]
          generalize w9.setCell ⟨w.heap.size, 0, none⟩ (.slice (some ⟨g9, 0, none⟩) (k + 1) c9) = w10 at *
          obtain ⟨z0, z1, z2, zf⟩ := HR9.out.1.cells
          have HO9 := Hid.mk' (hfl9.out _ _ HR9.out.1)
          have hbz9 : Hid (w.heap.size ≤ w10.heap.size) := HR9.out.2.size
          clear hS9 hF9 hHeld
          go_wp2_with (at_builtin; refine wpList_append_lies _ rfl _ _ 55 rfl w.heap.size 3 i0 (.int .i64 0) 1 8 Tryz.underlying55 ji hz0 hz1 hz2 rfl (by decide) (.slice a2 k c2) k ((List.range k).map nun) rfl (HO9.out.alloc _) ⟨w10.heap.size, 0, none⟩ 1 1 [nun k] rfl rfl (World.news_of_block (heap_alloc_new _ _)) hone.out (by decide) HMX.out HBI.out (by have := hbz9.out; simp; omega) _ rfl ?_; intro g11 c11 w11 ho11 hg11 _ _; obtain ⟨y1, yf, HR11⟩ := HFI.out w10 _ HR9.out w11 hg11 g11 c11 ho11; clear ho11 hg11)
          go_roundw
          case rel => exact ⟨k + 1, by omega, by go_num, ⟨_, _, HR11.out.1⟩, HR11.out.2⟩
          case measure => simp [intOf]; omega
    · obtain rfl : k = 32 := by omega
      obtain ⟨sv, fv, hR⟩ := hrr.out
      have HF : Hid (RepA w.heap.size wr w.heap.size (rfp w.heap.size sv fv) arn0) := ⟨sv, fv, hR, rfl, hB.out.size⟩
      clear hrr hR
      go_wp2
      go_ret
      exact ⟨_, rfl, HF.out, hB.out⟩
end An
end Go.Proofs.YthabnombfbehkaaGreatDoor
