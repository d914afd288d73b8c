/- Plain facts: the order of texts by their pieces is an order; what stands under a dotted name, and how two dotted names are joined. No program is named here. -/
import Derived.Test.YtlfoipddhcdmmabPlain
namespace Go.Proofs.Ytlfoipddhcdmmab
namespace Nm

structure Ord3 {α : Type} (c : α → α → Int) : Prop where
  rng : ∀ a b, c a b = -1 ∨ c a b = 0 ∨ c a b = 1
  zero : ∀ a b, c a b = 0 ↔ a = b
  anti : ∀ a b, c b a = - c a b
  trans : ∀ a b d, c a b ≤ 0 → c b d ≤ 0 → c a d ≤ 0

def lexC {α : Type} (c : α → α → Int) : List α → List α → Int
  | [], [] => 0
  | [], _ :: _ => -1
  | _ :: _, [] => 1
  | p :: ps, q :: qs => if c p q = 0 then lexC c ps qs else c p q

theorem Ord3.self {α : Type} {c : α → α → Int} (h : Ord3 c) (a : α) : c a a = 0 := (h.zero a a).2 rfl

theorem lex_ord {α : Type} {c : α → α → Int} (h : Ord3 c) : Ord3 (lexC c) where
  rng := by
    intro a
    induction a with
    | nil => intro b; cases b <;> simp [lexC]
    | cons p ps ih =>
      intro b
      cases b with
      | nil => simp [lexC]
      | cons q qs =>
        rw [lexC]; split
        · exact ih qs
        · exact h.rng p q
  zero := by
    intro a
    induction a with
    | nil => intro b; cases b <;> simp [lexC]
    | cons p ps ih =>
      intro b
      cases b with
      | nil => simp [lexC]
      | cons q qs =>
        rw [lexC]; split
        · rename_i h0
          rw [ih qs, List.cons.injEq, ← h.zero p q]
          simp [h0]
        · rename_i h0
          rw [List.cons.injEq, ← h.zero p q]
          simp [h0]
  anti := by
    intro a
    induction a with
    | nil => intro b; cases b <;> simp [lexC]
    | cons p ps ih =>
      intro b
      cases b with
      | nil => simp [lexC]
      | cons q qs =>
        rw [lexC, lexC, h.anti p q]
        by_cases h0 : c p q = 0
        · simp [h0, ih qs]
        · rw [if_neg (by omega), if_neg h0]
  trans := by
    intro a
    induction a with
    | nil =>
      intro b d _ _
      cases d <;> simp [lexC]
    | cons p ps ih =>
      intro b d h1 h2
      cases b with
      | nil => simp [lexC] at h1
      | cons q qs =>
        cases d with
        | nil => simp [lexC] at h2
        | cons r rs =>
          rw [lexC] at h1 h2 ⊢
          by_cases e1 : c p q = 0
          · have := (h.zero p q).1 e1
            subst this
            rw [if_pos e1] at h1
            by_cases e2 : c p r = 0
            · rw [if_pos e2] at h2 ⊢
              exact ih qs rs h1 h2
            · rw [if_neg e2] at h2 ⊢
              exact h2
          · rw [if_neg e1] at h1
            by_cases e2 : c q r = 0
            · have := (h.zero q r).1 e2
              subst this
              rw [if_neg e1]; exact h1
            · rw [if_neg e2] at h2
              have h3 := h.trans p q r h1 h2
              have e3 : c p r ≠ 0 := by
                intro e
                have := (h.zero p r).1 e
                subst this
                have := h.anti p q
                omega
              rw [if_neg e3]; exact h3

def byteC (a b : UInt8) : Int := if a < b then -1 else if b < a then 1 else 0

theorem byte_ord : Ord3 byteC where
  rng := by intro a b; unfold byteC; split <;> (try split) <;> simp
  zero := by
    intro a b; unfold byteC
    constructor
    · intro h
      split at h
      · simp at h
      · split at h
        · simp at h
        · rename_i h1 h2
          rw [UInt8.lt_iff_toNat_lt] at h1 h2
          exact UInt8.toNat_inj.1 (by omega)
    · rintro rfl; simp
  anti := by
    intro a b; unfold byteC
    simp only [UInt8.lt_iff_toNat_lt]
    rcases Nat.lt_trichotomy a.toNat b.toNat with h | h | h
    · rw [if_neg (by omega), if_pos h, if_pos h]; rfl
    · rw [if_neg (by omega), if_neg (by omega), if_neg (by omega), if_neg (by omega)]; rfl
    · rw [if_pos h, if_neg (by omega), if_pos h]
  trans := by
    intro a b d; unfold byteC
    simp only [UInt8.lt_iff_toNat_lt]
    intro h1 h2
    by_cases g1 : b.toNat < a.toNat
    · rw [if_neg (by omega), if_pos g1] at h1; omega
    · by_cases g2 : d.toNat < b.toNat
      · rw [if_neg (by omega), if_pos g2] at h2; omega
      · split
        · omega
        · rw [if_neg (by omega)]; omega

theorem cb_lex (a b : List UInt8) : Lib.compareBytes a b = lexC byteC a b := by
  induction a generalizing b with
  | nil => cases b <;> rfl
  | cons p ps ih =>
    cases b with
    | nil => rfl
    | cons q qs =>
      rw [Lib.compareBytes, lexC]
      unfold byteC
      split
      · simp
      · split
        · simp
        · simp [ih]; rfl

theorem cb_ord : Ord3 Lib.compareBytes := by
  have : Lib.compareBytes = lexC byteC := by funext a b; exact cb_lex a b
  rw [this]; exact lex_ord byte_ord

theorem cmpP_lex (a b : List (List UInt8)) : cmpP a b = lexC Lib.compareBytes a b := by
  induction a generalizing b with
  | nil => cases b <;> rfl
  | cons p ps ih =>
    cases b with
    | nil => rfl
    | cons q qs => rw [cmpP, lexC, ih]

theorem cmpP_ord : Ord3 cmpP := by
  have : cmpP = lexC Lib.compareBytes := by funext a b; exact cmpP_lex a b
  rw [this]; exact lex_ord cb_ord

/-- The pieces with dots between. -/
def joinL : List (List UInt8) → List UInt8
  | [] => []
  | [p] => p
  | p :: q :: ps => p ++ 46 :: joinL (q :: ps)

theorem join_pieces (l : List UInt8) : joinL (pieces l) = l := by
  induction l with
  | nil => rfl
  | cons c l ih =>
    have hne := pieces_ne l
    by_cases h : c = 46
    · subst h
      rw [pieces_dot]
      cases hp : pieces l with
      | nil => exact absurd hp hne
      | cons q qs => rw [hp] at ih; simp [joinL, ih]
    · rw [pieces_nodot h]
      cases hp : pieces l with
      | nil => exact absurd hp hne
      | cons q qs =>
        rw [hp] at ih
        cases qs with
        | nil => simp [joinL] at ih ⊢; exact ih
        | cons r rs => simp [joinL] at ih ⊢; exact ih

theorem pieces_inj {a b : List UInt8} (h : pieces a = pieces b) : a = b := by
  rw [← join_pieces a, h, join_pieces]

theorem cmpT_ord : Ord3 cmpT where
  rng := fun a b => cmpP_ord.rng _ _
  zero := fun a b => ⟨fun h => pieces_inj ((cmpP_ord.zero _ _).1 h), fun h => by subst h; exact (cmpP_ord.zero _ _).2 rfl⟩
  anti := fun a b => cmpP_ord.anti _ _
  trans := fun a b d => cmpP_ord.trans _ _ _

/-! under -/
theorem under_iff (a b : List UInt8) : underB a b = true ↔ 0 < (partsL b).length ∧ (partsL b) <+: (partsL a) := by
  unfold underB
  simp only [Bool.and_eq_true, decide_eq_true_eq, beq_iff_eq]
  constructor
  · rintro ⟨⟨h1, h2⟩, h3⟩
    refine ⟨h1, ?_⟩
    rw [← h3]; exact List.take_prefix _ _
  · rintro ⟨h1, h2⟩
    exact ⟨⟨h1, h2.length_le⟩, (List.prefix_iff_eq_take.1 h2).symm⟩

theorem under_trans {a b c : List UInt8} (h1 : underB a b = true) (h2 : underB b c = true) : underB a c = true := by
  rw [under_iff] at *
  exact ⟨h2.1, h2.2.trans h1.2⟩

theorem parts_inj {a b : List UInt8} (h0 : 0 < (partsL a).length) (h : partsL a = partsL b) : a = b := by
  have ha : dottedB a = true := by rw [parts_dotted]; simpa using h0
  have hb : dottedB b = true := by rw [parts_dotted, ← h]; simpa using h0
  unfold partsL at h
  rw [if_pos ha, if_pos hb] at h
  exact pieces_inj h

theorem under_anti {a b : List UInt8} (h1 : underB a b = true) (h2 : underB b a = true) : a = b := by
  rw [under_iff] at *
  have e := h1.2.eq_of_length (Nat.le_antisymm h1.2.length_le h2.2.length_le)
  exact parts_inj h2.1 e.symm

theorem under_self (a : List UInt8) : underB a a = dottedB a := by
  rw [Bool.eq_iff_iff, under_iff, parts_dotted]
  simp

theorem cmp_prefix (p q : List (List UInt8)) (h : p <+: q) : cmpP p q ≤ 0 := by
  induction p generalizing q with
  | nil => cases q <;> simp [cmpP]
  | cons x p ih =>
    cases q with
    | nil => simp at h
    | cons y q =>
      rw [List.cons_prefix_cons] at h
      obtain ⟨rfl, h⟩ := h
      rw [cmpP, if_pos (cb_ord.self x)]
      exact ih q h

theorem under_cmp {a b : List UInt8} (h : underB a b = true) : cmpT b a ≤ 0 := by
  rw [under_iff] at h
  have ha : dottedB a = true := by
    rw [parts_dotted]; have := h.2.length_le; simp; omega
  have hb : dottedB b = true := by rw [parts_dotted]; simpa using h.1
  have h2 := h.2
  unfold partsL at h2
  rw [if_pos ha, if_pos hb] at h2
  exact cmp_prefix _ _ h2

end Nm
end Go.Proofs.Ytlfoipddhcdmmab
