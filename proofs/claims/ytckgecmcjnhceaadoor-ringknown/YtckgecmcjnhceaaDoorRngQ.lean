/- Rings in plain words: a slot is taken out, two are put together, all are handed out. -/
import Derived.Test.YtckgecmcjnhceaaDoorRngP
namespace Go.Proofs.YtckgecmcjnhceaaDoor
set_option linter.ambiguousOpen false
open Go.RowKit
namespace Rg
open An
set_option linter.unusedSimpArgs false
set_option linter.unusedVariables false

theorem lk_set {S : List Slt} (hl : S.length = 32) {i x y : Nat} (c d : Int) (hi : i < 32) (hx : x < 32) (hy : y < 32) (h : Lk S x y) (h1 : x ≠ i) (h2 : y ≠ i) : Lk (setN (setP S i c) i d) x y := by
  have hl1 : (setP S i c).length = 32 := by rw [setP_len, hl]
  refine ⟨?_, ?_⟩
  · rw [nx_setN hl1 _ _ _ (by omega) (by omega), if_neg (by omega), nx_setP hl _ _ _ (by omega) (by omega)]
    exact h.1
  · rw [pv_setN hl1 _ _ _ (by omega) (by omega), pv_setP hl _ _ _ (by omega) (by omega), if_neg (by omega)]
    exact h.2

theorem Ring.set_off {S : List Slt} (hl : S.length = 32) {l : List Nat} (h : Ring S l) {i : Nat} (c d : Int) (hi : i < 32) (hn : i ∉ l) : Ring (setN (setP S i c) i d) l :=
  ⟨h.nd, h.lt, path_of h.path (fun x y hx hy hxy => lk_set hl c d hi (h.lt x (List.dropLast_subset _ hx)) (h.lt y (List.mem_of_mem_tail hy)) hxy (fun e => hn (e ▸ List.dropLast_subset _ hx)) (fun e => hn (e ▸ List.mem_of_mem_tail hy))),
    fun z a hz ha => lk_set hl c d hi (h.lt z (mem_last hz)) (h.lt a (mem_head ha)) (h.shut z a hz ha) (fun e => hn (e ▸ mem_last hz)) (fun e => hn (e ▸ mem_head ha))⟩

/-- The slot is told no more. -/
theorem unwell {S : List Slt} (hl : S.length = 32) {i : Nat} (hi : i < 32) (d : Int) : ¬ well (setN (setP S i (-1)) i d) i := by
  intro h
  have h1 := h.2.1
  rw [pv_setN (by rw [setP_len, hl]) _ _ _ (by omega) (by omega), pv_setP hl _ _ _ (by omega) (by omega), if_pos rfl] at h1
  omega

theorem unlinked {S : List Slt} (hl : S.length = 32) {i : Nat} (hi : i < 32) : pv (setN (setP S i (-1)) i (-1)) i = -1 ∧ nx (setN (setP S i (-1)) i (-1)) i = -1 := by
  refine ⟨?_, ?_⟩
  · rw [pv_setN (by rw [setP_len, hl]) _ _ _ (by omega) (by omega), pv_setP hl _ _ _ (by omega) (by omega), if_pos rfl]
  · rw [nx_setN (by rw [setP_len, hl]) _ _ _ (by omega) (by omega), if_pos rfl]

/-- A ring of a slot and of others, without it. -/
theorem Ring.cut {S : List Slt} (hl : S.length = 32) {i : Nat} {m : List Nat} (h : Ring S (i :: m)) : Ring (setN (setP (link S (pv S i) (nx S i)) i (-1)) i (-1)) m ∧ (m = [] → pv S i = i) ∧ (∀ p, m.getLast? = some p → pv S i = p) := by
  have hi := h.lt i (by simp)
  have hn : i ∉ m := (List.nodup_cons.1 h.nd).1
  cases m with
  | nil =>
    have := h.shut i i (by simp) (by simp)
    exact ⟨Ring.nil _, fun _ => this.2, by simp⟩
  | cons n r =>
    obtain ⟨p, hp⟩ : ∃ p, (n :: r).getLast? = some p := ⟨_, List.getLast?_eq_some_getLast (by simp)⟩
    have hnd := (List.nodup_cons.1 h.nd).2
    have hlt : ∀ x ∈ n :: r, x < 32 := fun x hx => h.lt x (List.mem_cons_of_mem _ hx)
    have hpi : Lk S p i := h.shut p i (by rw [List.getLast?_cons_cons]; exact hp) (by simp)
    have hpath : Lk S i n ∧ Path S (n :: r) := h.path
    have hp3 := hlt p (mem_last hp)
    have hn3 := hlt n (by simp)
    refine ⟨?_, by simp, fun q hq => ?_⟩
    · rw [hpi.2, hpath.1.1]
      have hR : Ring (link S p n) (n :: r) := by
        refine ⟨hnd, hlt, path_of hpath.2 (fun u v hu hv huv => ?_), fun z a hz ha => ?_⟩
        · have hul := List.dropLast_subset _ hu
          have hvl := List.mem_of_mem_tail hv
          exact lk_link hl hp3 hn3 (hlt u hul) (hlt v hvl) huv (fun e => nodup_last hnd hp (e ▸ hu)) (fun e => nodup_head hnd (a := n) rfl (e ▸ hv))
        · obtain rfl : p = z := Option.some.inj (hp.symm.trans hz)
          simp at ha
          subst ha
          exact lk_new hl hp3 hn3
      exact hR.set_off (by rw [link_len, hl]) _ _ hi hn
    · obtain rfl : p = q := Option.some.inj (hp.symm.trans hq)
      exact hpi.2

theorem Ring.drop {S : List Slt} (hl : S.length = 32) {u v : List Nat} {i : Nat} (h : Ring S (u ++ i :: v)) : ∃ S', drop S (lastI (u ++ i :: v)) i = ⟨lastI (u ++ v), 0, -1, S'⟩ ∧ S'.length = 32 ∧ Ring S' (u ++ v) ∧ ¬ Rg.well S' i ∧ (pv S' i = -1 ∧ nx S' i = -1) ∧ ∀ m, Ring S m → (∀ x ∈ m, x ∉ u ++ i :: v) → Ring S' m := by
  have hil : i ∈ u ++ i :: v := by simp
  have hi := h.lt i hil
  have hw := h.well hil
  have hr : Ring S (i :: (v ++ u)) := by
    have := h.rot
    simpa using this
  obtain ⟨h1, h2, h3⟩ := hr.cut hl
  have hll : (link S (pv S i) (nx S i)).length = 32 := by rw [link_len, hl]
  obtain ⟨z, hz⟩ : ∃ z, (u ++ i :: v).getLast? = some z := ⟨_, List.getLast?_eq_some_getLast (by simp)⟩
  have hz3 := h.lt z (mem_last hz)
  refine ⟨_, ?_, ?_, h1.rot, unwell hll hi _, unlinked hll hi, fun m hm hd => ?_⟩
  · unfold Rg.drop
    rw [lastI_some hz, if_neg (by omega), if_neg (fun e => e hw)]
    congr 1
    cases v with
    | nil =>
      have hzi : z = i := by simpa using hz.symm
      rw [if_neg (by omega)]
      cases u with
      | nil =>
        rw [if_pos (h2 rfl)]
        rfl
      | cons a u =>
        obtain ⟨p, hp⟩ : ∃ p, (a :: u).getLast? = some p := ⟨_, List.getLast?_eq_some_getLast (by simp)⟩
        have hpi := h3 p (by simpa using hp)
        have hne : p ≠ i := fun e => (List.nodup_append.1 h.nd).2.2 p (mem_last hp) i (by simp) e
        rw [if_neg (by omega), List.append_nil, lastI_some hp, hpi]
    | cons b v =>
      rw [last_app _ (by simp), List.getLast?_cons_cons] at hz
      have hne : z ≠ i := fun e => by
        have := (List.nodup_cons.1 (List.nodup_append.1 h.nd).2.1).1
        exact this (e ▸ mem_last hz)
      rw [if_pos (by omega)]
      exact (lastI_some (by rw [last_app _ (by simp)]; exact hz)).symm
  · rw [setN_len, setP_len, hll]
  · obtain ⟨p, n, hp, hn, q1, q2⟩ := h.sides hil
    rw [q1.2, q2.1]
    exact (hm.link_off hl (h.lt p hp) (h.lt n hn) (fun e => hd p e hp) (fun e => hd n e hn)).set_off (by rw [link_len, hl]) _ _ hi (fun e => hd i e hil)

theorem Ring.splice {S : List Slt} (hl : S.length = 32) {l m : List Nat} (h : Ring S l) (k : Ring S m) (hd : ∀ x ∈ l, x ∉ m) : ∃ S', splice S (lastI l) (lastI m) = ⟨lastI (l ++ m), 0, -1, S'⟩ ∧ S'.length = 32 ∧ Ring S' (l ++ m) := by
  cases hz : l.getLast? with
  | none =>
    obtain rfl := List.getLast?_eq_none_iff.1 hz
    refine ⟨S, ?_, hl, k⟩
    unfold Rg.splice
    rw [lastI_nil, List.nil_append]
    cases hy : m.getLast? with
    | none =>
      obtain rfl := List.getLast?_eq_none_iff.1 hy
      rfl
    | some y =>
      have := k.lt y (mem_last hy)
      rw [lastI_some hy, if_neg (by omega), if_pos rfl]
  | some z =>
    have hz3 := h.lt z (mem_last hz)
    cases hy : m.getLast? with
    | none =>
      obtain rfl := List.getLast?_eq_none_iff.1 hy
      refine ⟨S, ?_, hl, by simpa using h⟩
      unfold Rg.splice
      rw [lastI_nil, List.append_nil, lastI_some hz, if_neg (by omega), if_neg (by omega), if_pos rfl]
    | some y =>
      have hy3 := k.lt y (mem_last hy)
      obtain ⟨a, ha⟩ : ∃ a, l.head? = some a := by
        cases l with
        | nil => simp at hz
        | cons a r => exact ⟨a, rfl⟩
      obtain ⟨b, hb⟩ : ∃ b, m.head? = some b := by
        cases m with
        | nil => simp at hy
        | cons a r => exact ⟨a, rfl⟩
      have hme : m ≠ [] := fun e => by rw [e] at hy; simp at hy
      refine ⟨link (link S z b) y a, ?_, by rw [link_len, link_len, hl], h.join hl k hd hz ha hy hb⟩
      have hne : z ≠ y := fun e => hd z (mem_last hz) (e ▸ mem_last hy)
      unfold Rg.splice
      rw [lastI_some hz, lastI_some hy, lastI_some (by rw [last_app _ hme]; exact hy), if_neg (by omega), if_neg (by omega), if_neg (by omega), if_neg (by omega), if_neg (fun e => e (h.well (mem_last hz))), if_neg (fun e => e (k.well (mem_last hy))), (k.shut y b hy hb).1, (h.shut z a hz ha).1]

theorem goes_path {S : List Slt} {z : Nat} : ∀ (r : List Nat) (x f : Nat), Path S (x :: r) → (x :: r).Nodup → (∀ i ∈ x :: r, i < 32) → (x :: r).getLast? = some z → (x :: r).length ≤ f → goes S z f x = x :: r
  | [], x, 0, _, _, _, _, hf => by simp at hf
  | [], x, f + 1, _, _, hlt, hz, hf => by
    obtain rfl : x = z := by simpa using hz
    have := hlt x (by simp)
    unfold goes
    rw [if_pos (by omega), if_pos rfl]
    simp
  | y :: r, x, 0, _, _, _, _, hf => by simp at hf
  | y :: r, x, f + 1, hp, hn, hlt, hz, hf => by
    have hx := hlt x (by simp)
    have hp' : Lk S x y ∧ Path S (y :: r) := hp
    rw [List.getLast?_cons_cons] at hz
    have hne : x ≠ z := fun e => (List.nodup_cons.1 hn).1 (e ▸ mem_last hz)
    have ih := goes_path r y f hp'.2 (List.nodup_cons.1 hn).2 (fun i hi => hlt i (List.mem_cons_of_mem _ hi)) hz (by simp at hf ⊢; omega)
    unfold goes
    rw [if_pos (by omega), if_neg (by omega), hp'.1.1, ih]
    simp

theorem Ring.all {S : List Slt} {l : List Nat} (h : Ring S l) : allL S (lastI l) = l := by
  unfold allL
  cases hz : l.getLast? with
  | none =>
    obtain rfl := List.getLast?_eq_none_iff.1 hz
    rw [lastI_nil, if_neg (by omega)]
  | some z =>
    have hz3 := h.lt z (mem_last hz)
    cases l with
    | nil => simp at hz
    | cons a r =>
      rw [lastI_some hz, if_pos (by omega), (h.shut z a hz rfl).1]
      exact goes_path r a 32 h.path h.nd h.lt hz h.few

theorem goes_lt (S : List Slt) (last : Int) : ∀ (f : Nat) (i : Int), ∀ x ∈ goes S last f i, x < 32
  | 0, i, x, hx => by simp [goes] at hx
  | f + 1, i, x, hx => by
    unfold goes at hx
    split at hx
    · rename_i ht
      rcases List.mem_cons.1 hx with rfl | hx
      · omega
      · split at hx
        · simp at hx
        · exact goes_lt S last f _ x hx
    · simp at hx

theorem goes_len (S : List Slt) (last : Int) : ∀ (f : Nat) (i : Int), (goes S last f i).length ≤ f
  | 0, i => by simp [goes]
  | f + 1, i => by
    unfold goes
    split
    · simp only [List.length_cons]
      split
      · simp
      · have := goes_len S last f (nx S i)
        omega
    · simp

theorem allL_len (S : List Slt) (last : Int) : (allL S last).length ≤ 32 := by
  unfold allL
  split
  · exact goes_len S last 32 _
  · simp

theorem lastI_none (l : List Nat) : lastI l = -1 ↔ l = [] := by
  constructor
  · intro h
    cases hz : l.getLast? with
    | none => exact List.getLast?_eq_none_iff.1 hz
    | some z =>
      rw [lastI_some hz] at h
      omega
  · rintro rfl
    rfl
end Rg
end Go.Proofs.YtckgecmcjnhceaaDoor
