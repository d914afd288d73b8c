/- An image on a disk, in plain words: its header, its blocks, what Save leaves and what Load tells. No program is named here but a disk's state. -/
import Derived.Test.YtlgjnefieflmbaaDoorOneK
import Derived.Test.YtlgjnefieflmbaaDoorRecP
namespace Go.Proofs.YtlgjnefieflmbaaDoor
set_option linter.ambiguousOpen false
open Go.RowKit
namespace Ae
open Sm Ft Dk Rc
set_option linter.unusedSimpArgs false
set_option linter.unusedVariables false

/-- May a place be? -/
def may (d : Dsk) (a n : Int) : Bool := decide (0 ≤ a ∧ 1 ≤ n ∧ a + 1 + 2 * n ≤ d.n)

/-- An image's bytes, block by block. -/
def pcs (l : List UInt8) : List (List UInt8) := if h : l = [] then [] else l.take 256 :: pcs (l.drop 256)
  termination_by l.length
  decreasing_by
    have := List.length_pos_iff.2 h
    rw [List.length_drop]
    omega

theorem pcs_nil : pcs [] = [] := by rw [pcs, dif_pos rfl]

theorem pcs_cons (l : List UInt8) (h : l ≠ []) : pcs l = l.take 256 :: pcs (l.drop 256) := by rw [pcs, dif_neg h]

theorem pcs_len (f : Nat) (l : List UInt8) (h : l.length ≤ 256 * f) : (pcs l).length = (l.length + 255) / 256 := by
  induction f generalizing l with
  | zero =>
    have : l = [] := List.eq_nil_of_length_eq_zero (by omega)
    subst this
    rw [pcs_nil]
    rfl
  | succ f ih =>
    by_cases hl : l = []
    · subst hl
      rw [pcs_nil]
      rfl
    · have hp := List.length_pos_iff.2 hl
      rw [pcs_cons l hl, List.length_cons, ih (l.drop 256) (by rw [List.length_drop]; omega), List.length_drop]
      omega

theorem pcs_count (l : List UInt8) : (pcs l).length = (l.length + 255) / 256 := pcs_len l.length l (by omega)

theorem pcs_short (f : Nat) : ∀ l : List UInt8, l.length ≤ f → ∀ t ∈ pcs l, t.length ≤ 256 := by
  induction f with
  | zero =>
    intro l h t ht
    have : l = [] := List.eq_nil_of_length_eq_zero (by omega)
    subst this
    rw [pcs_nil] at ht
    simp at ht
  | succ f ih =>
    intro l h t ht
    by_cases hl : l = []
    · subst hl
      rw [pcs_nil] at ht
      simp at ht
    · rw [pcs_cons l hl, List.mem_cons] at ht
      rcases ht with rfl | ht
      · rw [List.length_take]
        omega
      · have hp := List.length_pos_iff.2 hl
        exact ih (l.drop 256) (by rw [List.length_drop]; omega) t ht

/-- The k-th block. -/
theorem pcs_at (k : Nat) : ∀ l : List UInt8, (pcs l)[k]? = if 256 * k < l.length then some ((l.drop (256 * k)).take 256) else none := by
  induction k with
  | zero =>
    intro l
    by_cases hl : l = []
    · subst hl
      rw [pcs_nil]
      rfl
    · have hp := List.length_pos_iff.2 hl
      rw [pcs_cons l hl, if_pos (by omega)]
      rfl
  | succ k ih =>
    intro l
    by_cases hl : l = []
    · subst hl
      rw [pcs_nil, if_neg (by simp)]
      rfl
    · rw [pcs_cons l hl, List.getElem?_cons_succ, ih (l.drop 256), List.length_drop, List.drop_drop]
      by_cases h : 256 * (k + 1) < l.length
      · rw [if_pos (by omega), if_pos h, show 256 + 256 * k = 256 * (k + 1) by omega]
      · rw [if_neg (by omega), if_neg h]

/-- The header. -/
def hd12 (ep : Nat) (x : List UInt8) : List UInt8 := lo ep 4 ++ lo x.length 4 ++ lo (crc x) 4

def hdr (ep : Nat) (x : List UInt8) : List UInt8 := hd12 ep x ++ lo (crc (hd12 ep x)) 4

theorem hd12_len (ep : Nat) (x : List UInt8) : (hd12 ep x).length = 12 := by simp [hd12, lo_len]

theorem hdr_len (ep : Nat) (x : List UInt8) : (hdr ep x).length = 16 := by simp [hdr, hd12_len, lo_len]

/-- The number that four bytes tell. -/
def num4 (s : List UInt8) (k : Nat) : Nat := num ((s.drop k).take 4)

theorem num_lo (v : Nat) : ∀ n, v < 256 ^ n → num (lo v n) = v := by
  intro n
  induction n generalizing v with
  | zero => intro h; simp at h; subst h; rfl
  | succ n ih =>
    intro h
    rw [lo, num, ih (v / 256) (by rw [Nat.pow_succ] at h; exact Nat.div_lt_of_lt_mul (by rw [Nat.mul_comm]; exact h))]
    rw [UInt8.toNat_ofNat']
    omega

theorem hdr_ep (ep : Nat) (x : List UInt8) (h : ep < 4294967296) : num4 (hdr ep x) 0 = ep := by
  have e : ((hdr ep x).drop 0).take 4 = lo ep 4 := by
    rw [List.drop_zero, hdr, hd12, List.append_assoc, List.append_assoc, List.take_append_of_le_length (by rw [lo_len]; omega), List.take_of_length_le (by rw [lo_len]; omega)]
  rw [num4, e]
  exact num_lo ep 4 h

theorem hdr_size (ep : Nat) (x : List UInt8) (h : x.length < 4294967296) : num4 (hdr ep x) 4 = x.length := by
  have e : ((hdr ep x).drop 4).take 4 = lo x.length 4 := by
    rw [hdr, hd12, List.append_assoc, List.append_assoc, List.drop_append_of_le_length (by rw [lo_len]; omega), List.drop_of_length_le (by rw [lo_len]; omega), List.nil_append, List.take_append_of_le_length (by rw [lo_len]; omega), List.take_of_length_le (by rw [lo_len]; omega)]
  rw [num4, e]
  exact num_lo _ 4 h

/-- An area's first block. -/
def fst (a n : Int) (ep : Nat) : Int := a + 1 + ((ep % 2 : Nat) : Int) * n

/-- Texts are written upwards, as long as it goes. -/
def ups (b : Int) : List (List UInt8) → Dsk → Nat × Dsk
  | [], d => (0, d)
  | t :: ts, d => if wrN d b t = 0 then ups (b + 1) ts (wrD d b t) else (wrN d b t, d)

/-- Save. -/
def save (d : Dsk) (a n : Int) (ep : Nat) (x : List UInt8) : Nat × Dsk :=
  if may d a n = true then
    if n * 256 < (x.length : Int) then (3, d)
    else if (ups (fst a n ep) (pcs x) d).1 = 0 then (wrN (ups (fst a n ep) (pcs x) d).2 a (hdr ep x), wrD (ups (fst a n ep) (pcs x) d).2 a (hdr ep x))
    else ups (fst a n ep) (pcs x) d
  else (1, d)

/-- The bytes that lie there. -/
def lie (d : Dsk) (b : Int) (size : Nat) : Option (List UInt8) :=
  if h : size = 0 then some [] else
    if (rdT d b).length < min size 256 then none
    else (lie d (b + 1) (size - min size 256)).map fun r => (rdT d b).take (min size 256) ++ r
  termination_by size
  decreasing_by omega

/-- What is told of a header and of the bytes that lie there. -/
def told (ep : Nat) (s : List UInt8) : Option (List UInt8) → Nat × Nat × List UInt8
  | none => (21, 0, [])
  | some x => if hdr ep x = s then (0, ep, x) else (21, 0, [])

/-- Load: its answer, its epoch and its bytes. -/
def load (d : Dsk) (a n : Int) : Nat × Nat × List UInt8 :=
  if may d a n = true then
    if rdT d a = [] then (10, 0, [])
    else if (rdT d a).length ≠ 16 then (21, 0, [])
    else if n * 256 < (num4 (rdT d a) 4 : Int) then (21, 0, [])
    else told (num4 (rdT d a) 0) (rdT d a) (lie d (fst a n (num4 (rdT d a) 0)) (num4 (rdT d a) 4))
  else (1, 0, [])

theorem lie_len (d : Dsk) : ∀ (f : Nat) (b : Int) (size : Nat) (x : List UInt8), size ≤ f → lie d b size = some x → x.length = size := by
  intro f
  induction f with
  | zero =>
    intro b size x h hx
    have : size = 0 := by omega
    subst this
    rw [lie, dif_pos rfl] at hx
    simp at hx
    rw [hx]
    rfl
  | succ f ih =>
    intro b size x h hx
    rw [lie] at hx
    by_cases h0 : size = 0
    · rw [dif_pos h0] at hx
      simp at hx
      rw [hx, h0]
      rfl
    · rw [dif_neg h0] at hx
      by_cases hl : (rdT d b).length < min size 256
      · rw [if_pos hl] at hx
        simp at hx
      · rw [if_neg hl] at hx
        obtain ⟨r, hr, rfl⟩ := Option.map_eq_some_iff.1 hx
        have := ih (b + 1) (size - min size 256) r (by omega) hr
        rw [List.length_append, List.length_take, this]
        omega

/-- Where an image's blocks lie, its bytes are told. -/
theorem lie_pcs (d : Dsk) : ∀ (f : Nat) (b : Int) (x : List UInt8), x.length ≤ f → (∀ k : Nat, k < (pcs x).length → rdT d (b + (k : Int)) = (pcs x).getD k []) → lie d b x.length = some x := by
  intro f
  induction f with
  | zero =>
    intro b x h _
    have : x = [] := List.eq_nil_of_length_eq_zero (by omega)
    subst this
    rw [lie, dif_pos (show ([] : List UInt8).length = 0 from rfl)]
  | succ f ih =>
    intro b x h hk
    by_cases hx : x = []
    · subst hx
      rw [lie, dif_pos (show ([] : List UInt8).length = 0 from rfl)]
    · have hp := List.length_pos_iff.2 hx
      have h0 := hk 0 (by rw [pcs_cons x hx]; simp)
      rw [pcs_cons x hx] at h0
      have h0' : rdT d b = x.take 256 := by simpa using h0
      rw [lie, dif_neg (by omega), h0', if_neg (by rw [List.length_take]; omega)]
      have hr := ih (b + 1) (x.drop 256) (by rw [List.length_drop]; omega) (fun k hk' => by
        have := hk (k + 1) (by rw [pcs_cons x hx, List.length_cons]; omega)
        rw [pcs_cons x hx, show b + ((k + 1 : Nat) : Int) = b + 1 + (k : Int) by omega] at this
        simpa using this)
      rw [List.length_drop] at hr
      rw [show x.length - min x.length 256 = x.length - 256 by omega, hr]
      simp only [Option.map_some]
      congr 1
      rw [List.take_take, show min (min x.length 256) 256 = min x.length 256 by omega]
      by_cases h2 : x.length ≤ 256
      · rw [show min x.length 256 = x.length by omega, List.take_length, List.drop_of_length_le h2, List.append_nil]
      · rw [show min x.length 256 = 256 by omega, List.take_append_drop]

/-- An image lies at a place. -/
structure Img (d : Dsk) (a n : Int) (ep : Nat) (x : List UInt8) : Prop where
  mayb : may d a n = true
  epl : ep < 4294967296
  len : (x.length : Int) ≤ n * 256
  big : x.length < 4294967296
  head : rdT d a = hdr ep x
  body : ∀ k : Nat, k < (pcs x).length → rdT d (fst a n ep + (k : Int)) = (pcs x).getD k []

theorem Img.load {d : Dsk} {a n : Int} {ep : Nat} {x : List UInt8} (h : Img d a n ep x) : load d a n = (0, ep, x) := by
  have h1 : hdr ep x ≠ [] := fun e => by
    have := hdr_len ep x
    rw [e] at this
    simp at this
  have h2 := h.len
  rw [Ae.load, if_pos h.mayb, h.head, if_neg h1, hdr_len, if_neg (by simp), hdr_size ep x h.big, if_neg (by omega), hdr_ep ep x h.epl, lie_pcs d x.length (fst a n ep) x (Nat.le_refl _) h.body, told, if_pos rfl]

/-- What else is written leaves it. -/
theorem Img.same {d d' : Dsk} {a n : Int} {ep : Nat} {x : List UInt8} (h : Img d a n ep x) (hn : d'.n = d.n) (h0 : rdT d' a = rdT d a) (hs : ∀ k : Nat, k < (pcs x).length → rdT d' (fst a n ep + (k : Int)) = rdT d (fst a n ep + (k : Int))) : Img d' a n ep x :=
  ⟨by have := h.mayb; unfold Ae.may at this ⊢; rw [hn]; exact this, h.epl, h.len, h.big, h0.trans h.head, fun k hk => (hs k hk).trans (h.body k hk)⟩

theorem ups_n (b : Int) (ts : List (List UInt8)) : ∀ d : Dsk, (ups b ts d).2.n = d.n ∧ (ups b ts d).2.tr.length ≤ d.tr.length + ts.length := by
  induction ts generalizing b with
  | nil => exact fun d => ⟨rfl, Nat.le_refl _⟩
  | cons t ts ih =>
    intro d
    rw [ups]
    split
    · obtain ⟨h1, h2⟩ := ih (b + 1) (wrD d b t)
      have h3 := wrD_tr d b t
      exact ⟨h1.trans (wrD_n _ _ _), by rw [List.length_cons]; omega⟩
    · exact ⟨rfl, Nat.le_add_right _ _⟩

/-- What lies outside stays. -/
theorem ups_out (ts : List (List UInt8)) : ∀ (b : Int) (d : Dsk) (i : Int), 0 ≤ i → i < d.n → (i < b ∨ b + (ts.length : Int) ≤ i) → rdT (ups b ts d).2 i = rdT d i := by
  induction ts with
  | nil => exact fun b d i _ _ _ => rfl
  | cons t ts ih =>
    intro b d i h0 h1 h2
    rw [List.length_cons] at h2
    rw [ups]
    split
    · rename_i hw
      rw [ih (b + 1) (wrD d b t) i h0 (by rw [wrD_n]; exact h1) (by omega), rdT_wrote d b t i hw ⟨h0, h1⟩, if_neg (by omega)]
    · rfl

/-- Where all is written. -/
theorem ups_all (ts : List (List UInt8)) : ∀ (b : Int) (d : Dsk), (ups b ts d).1 = 0 → 0 ≤ b → b + (ts.length : Int) ≤ d.n → ∀ k : Nat, k < ts.length → rdT (ups b ts d).2 (b + (k : Int)) = ts.getD k [] := by
  induction ts with
  | nil => exact fun b d _ _ _ k hk => by simp at hk
  | cons t ts ih =>
    intro b d h h0 h1 k hk
    rw [List.length_cons] at h1 hk
    rw [ups] at h ⊢
    split at h
    · rename_i hw
      rw [if_pos hw]
      cases k with
      | zero =>
        rw [ups_out ts (b + 1) (wrD d b t) _ (by omega) (by rw [wrD_n]; omega) (by omega), rdT_wrote d b t _ hw (by omega), if_pos (by omega)]
        rfl
      | succ k =>
        have := ih (b + 1) (wrD d b t) h (by omega) (by rw [wrD_n]; omega) k (by omega)
        rw [show b + ((k + 1 : Nat) : Int) = b + 1 + (k : Int) by omega, this]
        simp
    · rename_i hw
      exact absurd h hw

/-- With the power on all is written; cut, just the first ones. -/
theorem ups_left (ts : List (List UInt8)) : ∀ (b : Int) (d : Dsk), 0 ≤ b → b + (ts.length : Int) ≤ d.n → (∀ t ∈ ts, t.length ≤ 256) → -1 ≤ d.left → ((d.left = -1 → (ups b ts d).1 = 0 ∧ (ups b ts d).2.left = -1) ∧ (0 ≤ d.left → (ups b ts d).1 = (if (ts.length : Int) ≤ d.left then 0 else 22) ∧ ((ts.length : Int) ≤ d.left → (ups b ts d).2.left = d.left - (ts.length : Int)))) := by
  induction ts with
  | nil =>
    intro b d _ _ _ _
    refine ⟨fun h => ⟨rfl, h⟩, fun h => ⟨by rw [if_pos (by simpa using h)]; rfl, fun _ => by simp [ups]⟩⟩
  | cons t ts ih =>
    intro b d h0 h1 h2 h3
    rw [List.length_cons] at h1
    have ht := h2 t (by simp)
    by_cases hz : d.left = 0
    · have hw : wrN d b t = 22 := by
        unfold wrN
        rw [if_pos (by omega), if_neg (by omega), if_pos hz]
      refine ⟨fun h => by omega, fun h => ?_⟩
      rw [ups, if_neg (by rw [hw]; decide), hw, if_neg (by rw [List.length_cons]; omega)]
      exact ⟨rfl, fun h => by rw [List.length_cons] at h; omega⟩
    · have hw : wrN d b t = 0 := by
        unfold wrN
        rw [if_pos (by omega), if_neg (by omega), if_neg hz]
      have hl : (wrD d b t).left = if 0 < d.left then d.left - 1 else d.left := by
        unfold wrD
        rw [if_pos hw]
      have hi := ih (b + 1) (wrD d b t) (by omega) (by rw [wrD_n]; omega) (fun t ht => h2 t (by simp [ht])) (by rw [hl]; split <;> omega)
      rw [ups, if_pos hw]
      refine ⟨fun h => ?_, fun h => ?_⟩
      · rw [if_neg (by omega)] at hl
        exact hi.1 (by omega)
      · rw [if_pos (by omega)] at hl
        obtain ⟨e1, e2⟩ := hi.2 (by omega)
        rw [List.length_cons]
        refine ⟨?_, fun hle => ?_⟩
        · rw [e1, hl]
          by_cases hle : (ts.length : Int) ≤ d.left - 1
          · rw [if_pos hle, if_pos (by omega)]
          · rw [if_neg hle, if_neg (by omega)]
        · rw [e2 (by omega), hl]
          omega
end Ae
end Go.Proofs.YtlgjnefieflmbaaDoor
