/- The program's disk and the document's side by side; what the program's area must answer. -/
import Derived.Test.YtlgjnefieflmbaaDoorAreL
import Derived.Test.YtlgjnefieflmbaaDoorApartY
import Derived.Test.YtlgjnefieflmbaaDoorSameR
import Derived.Test.YtlgjnefieflmbaaDoorPlace
import Derived.Test.YtlgjnefieflmbaaDoorListsY
import Derived.Test.YtlgjnefieflmbaaDoorLentB
import Derived.Test.YtlgjnefieflmbaaDoorAppR
namespace Go.Proofs.YtlgjnefieflmbaaDoor
set_option linter.ambiguousOpen false
open Go.RowKit
namespace Ae
open Sm Ft Dk
set_option linter.unusedSimpArgs false
set_option linter.unusedVariables false

/-- No text is longer than a block. -/
def Small (d : Dsk) : Prop := ∀ r ∈ d.tr, r.2.length ≤ 256

theorem Small.wr {d : Dsk} (h : Small d) (i : Int) (s : List UInt8) : Small (wrD d i s) := by
  unfold wrD
  split
  · rename_i hw
    intro r hr
    simp only [List.mem_append, List.mem_singleton] at hr
    rcases hr with hr | rfl
    · exact h r hr
    · unfold wrN at hw
      show s.length ≤ 256
      split at hw
      · split at hw
        · simp at hw
        · omega
      · simp at hw
  · exact h

theorem Small.ups (ts : List (List UInt8)) : ∀ (b : Int) {d : Dsk}, Small d → Small (ups b ts d).2 := by
  induction ts with
  | nil => exact fun b d h => h
  | cons t ts ih =>
    intro b d h
    rw [Ae.ups]
    split
    · exact ih (b + 1) (h.wr _ _)
    · exact h

theorem Small.save {d : Dsk} (h : Small d) (a n : Int) (ep : Nat) (x : List UInt8) : Small (save d a n ep x).2 := by
  unfold Ae.save
  split
  · split
    · exact h
    · split
      · exact (h.ups _ _).wr _ _
      · exact h.ups _ _
  · exact h

theorem small_last (i : Int) (l : List Raw) (h : ∀ r ∈ l, r.2.length ≤ 256) (k : Nat) : (lastK i l k).length ≤ 256 := by
  induction k with
  | zero => exact Nat.zero_le _
  | succ k ih =>
    rw [lastK]
    cases hk : l[k]? with
    | none => exact ih
    | some r =>
      simp only
      split
      · exact h r (List.mem_of_getElem? hk)
      · exact ih

theorem Small.read {d : Dsk} (h : Small d) (i : Int) : (rdT d i).length ≤ 256 := by
  unfold rdT
  split
  · exact small_last i d.tr h _
  · exact Nat.zero_le _

/-- A disk's numbers. -/
structure Nb (d : Dsk) : Prop where
  n1 : 1 ≤ d.n
  n2 : d.n ≤ 4096
  lo : -1 ≤ d.left
  hi : d.left ≤ 9223372036854775807
  sm : Small d

theorem ups_left2 (ts : List (List UInt8)) : ∀ (b : Int) (d : Dsk), (-1 ≤ d.left ∧ d.left ≤ 9223372036854775807) → -1 ≤ (ups b ts d).2.left ∧ (ups b ts d).2.left ≤ 9223372036854775807 := by
  induction ts with
  | nil => exact fun b d h => h
  | cons t ts ih =>
    intro b d h
    rw [ups]
    split
    · exact ih (b + 1) _ (wrD_left _ _ _ h)
    · exact h

theorem Nb.save {d : Dsk} (h : Nb d) (a n : Int) (ep : Nat) (x : List UInt8) : Nb (save d a n ep x).2 := by
  have hl : -1 ≤ (Ae.save d a n ep x).2.left ∧ (Ae.save d a n ep x).2.left ≤ 9223372036854775807 := by
    unfold Ae.save
    split
    · split
      · exact ⟨h.lo, h.hi⟩
      · split
        · exact wrD_left _ _ _ (ups_left2 _ _ _ ⟨h.lo, h.hi⟩)
        · exact ups_left2 _ _ _ ⟨h.lo, h.hi⟩
    · exact ⟨h.lo, h.hi⟩
  have hn := save_n d a n ep x
  exact ⟨by rw [hn]; exact h.n1, by rw [hn]; exact h.n2, hl.1, hl.2, h.sm.save a n ep x⟩

theorem Nb.wr {d : Dsk} (h : Nb d) (i : Int) (s : List UInt8) : Nb (wrD d i s) := by
  have hl := wrD_left d i s ⟨h.lo, h.hi⟩
  have hn := wrD_n d i s
  exact ⟨by rw [hn]; exact h.n1, by rw [hn]; exact h.n2, hl.1, hl.2, h.sm.wr i s⟩

theorem Nb.cut {d : Dsk} (h : Nb d) (m : Int) (h1 : -1 ≤ m) (h2 : m ≤ 9223372036854775807) : Nb ⟨d.n, m, d.tr⟩ := ⟨h.n1, h.n2, h1, h2, h.sm⟩

/-- How many raw writes a Save makes at most. -/
theorem save_tr {d : Dsk} (h : Nb d) (a n : Int) (ep : Nat) (x : List UInt8) : (save d a n ep x).2.tr.length ≤ d.tr.length + 4097 := by
  unfold save
  split
  · rename_i hm
    split
    · exact Nat.le_add_right _ _
    · rename_i hl
      obtain ⟨m1, m2, m3⟩ := may_out hm
      have hp := pcs_fit x n hl
      have h1 := (ups_n (fst a n ep) (pcs x) d).2
      have h2 := h.n2
      split
      · have h3 := wrD_tr (ups (fst a n ep) (pcs x) d).2 a (hdr ep x)
        simp only
        omega
      · omega
  · exact Nat.le_add_right _ _

theorem save_le (d : Dsk) (a n : Int) (ep : Nat) (x : List UInt8) : (save d a n ep x).1 ≤ 24 := by
  have hu : ∀ (ts : List (List UInt8)) (b : Int) (d : Dsk), (ups b ts d).1 ≤ 24 := by
    intro ts
    induction ts with
    | nil => exact fun b d => Nat.zero_le _
    | cons t ts ih =>
      intro b d
      rw [ups]
      split
      · exact ih _ _
      · exact wrN_le _ _ _
  unfold save
  split
  · split
    · show 3 ≤ 24
      decide
    · split
      · exact wrN_le _ _ _
      · exact hu _ _ _
  · show 1 ≤ 24
    decide

theorem told_le (ep : Nat) (s : List UInt8) (o : Option (List UInt8)) : (told ep s o).1 ≤ 24 ∧ (told ep s o).2.1 ≤ ep := by
  cases o with
  | none => exact ⟨by show 21 ≤ 24; decide, Nat.zero_le _⟩
  | some x =>
    rw [told]
    split
    · exact ⟨Nat.zero_le _, Nat.le_refl _⟩
    · exact ⟨by show 21 ≤ 24; decide, Nat.zero_le _⟩

theorem load_le (d : Dsk) (a n : Int) : (load d a n).1 ≤ 24 ∧ (load d a n).2.1 < 4294967296 := by
  unfold load
  split
  · split
    · exact ⟨by show 10 ≤ 24; decide, by show 0 < 4294967296; decide⟩
    · split
      · exact ⟨by show 21 ≤ 24; decide, by show 0 < 4294967296; decide⟩
      · split
        · exact ⟨by show 21 ≤ 24; decide, by show 0 < 4294967296; decide⟩
        · have h1 := told_le (num4 (rdT d a) 0) (rdT d a) (lie d (fst a n (num4 (rdT d a) 0)) (num4 (rdT d a) 4))
          have h2 := num4_lt (rdT d a) 0
          exact ⟨h1.1, by omega⟩
  · exact ⟨by show 1 ≤ 24; decide, by show 0 < 4294967296; decide⟩

/-- The bytes that Load tells are few. -/
theorem load_len (d : Dsk) (a n : Int) (hn : d.n ≤ 4096) : (load d a n).2.2.length ≤ 1048576 := by
  unfold load
  split
  · rename_i hm
    obtain ⟨m1, m2, m3⟩ := may_out hm
    split
    · exact Nat.zero_le _
    · split
      · exact Nat.zero_le _
      · split
        · exact Nat.zero_le _
        · rename_i hz
          cases hl : lie d (fst a n (num4 (rdT d a) 0)) (num4 (rdT d a) 4) with
          | none => exact Nat.zero_le _
          | some x =>
            have := lie_len d _ _ _ x (Nat.le_refl _) hl
            rw [told]
            split
            · show x.length ≤ 1048576
              omega
            · exact Nat.zero_le _
  · exact Nat.zero_le _

/-- What the program's Save must answer. -/
def SaveC (Rep : World → Nat → (Nat → Prop) → Dsk → Prop) : Prop := ∀ (w : World) (p : Nat) (F : Nat → Prop) (d : Dsk) (a n : Int) (ep : Nat) (v : Value) (x : List UInt8), Rep w p F d → Nb d → d.tr.length + 5000 ≤ 1000000000 → (-9223372036854775808 ≤ a ∧ a ≤ 9223372036854775807) → (-9223372036854775808 ≤ n ∧ n ≤ 9223372036854775807) → ep < 4294967296 → (∀ w', Keep F w w' → RdB w' v x) → Pk.Nz v →
  Calls Tryd.prog 23 #[ptr p, nu a, nu n, .int .u32 (ep : Int), v] w fun e w' => e = .returned (errE (save d a n ep x).1) ∧ ∃ G, Rep w' p G (save d a n ep x).2 ∧ Keep F w w' ∧ Goes w F G

/-- What the program's Load must answer. -/
def LoadC (Rep : World → Nat → (Nat → Prop) → Dsk → Prop) : Prop := ∀ (w : World) (p : Nat) (F : Nat → Prop) (d : Dsk) (a n : Int), Rep w p F d → Nb d → d.tr.length ≤ 1000000000 → (-9223372036854775808 ≤ a ∧ a ≤ 9223372036854775807) → (-9223372036854775808 ≤ n ∧ n ≤ 9223372036854775807) →
  Calls Tryd.prog 38 #[ptr p, nu a, nu n] w fun e w' => ∃ r, e = .returned (.tuple #[.int .u32 ((load d a n).2.1 : Int), r, errE (load d a n).1]) ∧ w'.ownsRow w.heap.size 5 1 r (load d a n).2.2.length ((load d a n).2.2.map by1) ∧ Below w.heap.size w w'

/-- Two disks, all above what was there. -/
structure Dp (Rep : World → Nat → (Nat → Prop) → Dsk → Prop) (w wr : World) (p g : Nat) (F G : Nat → Prop) (d e : Dsk) : Prop where
  rep : Rep wr p F d
  ref : RepR w.heap.size wr g G e
  fg : ∀ k, F k → ¬ G k
  fl : ∀ k, F k → w.heap.size ≤ k
  bel : Below w.heap.size w wr

section
variable {Rep : World → Nat → (Nat → Prop) → Dsk → Prop} {w wr w' : World} {p g : Nat} {F G F' G' : Nat → Prop} {d e d' : Dsk}

theorem Dp.keep (H : Says Rep) (h : Dp Rep w wr p g F G d e) {K : Nat → Prop} (hk : Keep K wr w') (hK : ∀ k, K k → ¬ F k ∧ ¬ G k ∧ w.heap.size ≤ k) : Dp Rep w w' p g F G d e :=
  ⟨H.keep h.rep hk (fun k hf hc => (hK k hc).1 hf), h.ref.keep hk (fun k hf hc => (hK k hc).2.1 hf), h.fg, h.fl, h.bel.trans (hk.below (fun k hk hc => by have := (hK k hc).2.2; omega) h.bel.size)⟩

theorem Dp.below (H : Says Rep) (h : Dp Rep w wr p g F G d e) (hb : Below wr.heap.size wr w') : Dp Rep w w' p g F G d e :=
  h.keep H (Keep.of_below (F := fun _ => False) hb) (fun k hk => hk.elim)

theorem Dp.turn1 (H : Says Rep) (h : Dp Rep w wr p g F G d e) (hr : Rep w' p F' d') (hk : Keep F wr w') (hg : Goes wr F F') : Dp Rep w w' p g F' G d' e := by
  refine ⟨hr, h.ref.keep hk (fun k hf hc => h.fg k hc hf), fun k hf hc => ?_, fun k hf => ?_, h.bel.trans (hk.below (fun k hk hc => by have := h.fl k hc; omega) h.bel.size)⟩
  · rcases hg k hf with h1 | h1
    · exact h.fg k h1 hc
    · have := (h.ref.lt k hc).2
      omega
  · rcases hg k hf with h1 | h1
    · exact h.fl k h1
    · exact Nat.le_trans h.bel.size h1

theorem Dp.turn2 (H : Says Rep) (h : Dp Rep w wr p g F G d e) (hr : RepR w.heap.size w' g G' d') (hk : Keep G wr w') (hg : Goes wr G G') : Dp Rep w w' p g F G' d d' := by
  refine ⟨H.keep h.rep hk (fun k hf hc => h.fg k hf hc), hr, fun k hf hc => ?_, h.fl, h.bel.trans (hk.below (fun k hk hc => by have := (h.ref.lt k hc).1; omega) h.bel.size)⟩
  rcases hg k hc with h1 | h1
  · exact h.fg k hf h1
  · have := H.lt h.rep k hf
    omega
end
end Ae
end Go.Proofs.YtlgjnefieflmbaaDoor
