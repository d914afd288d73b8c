/- Payloads in rows of their own: what growing worlds leave of them. -/
import Derived.Test.YthdibodmnpcekaaSayR
import Derived.RangeFuncBox
namespace Go.Proofs.Ythdibodmnpcekaa
set_option linter.ambiguousOpen false
open Go.RowKit
namespace Rc
open Sm Pk
set_option linter.unusedSimpArgs false
set_option linter.unusedVariables false

/-- Rows of unlike things lie in unlike blocks. -/
theorem own_sep {w : World} {b b' n m s s' : Nat} {e e' : TypeId} {u v : Value} {xs ys : List Value} (h : w.ownsRow b e s u n xs) (h' : w.ownsRow b' e' s' v m ys) (hne : e ≠ e') : Nm.Sep u v := by
  intro k hk hk'
  rcases h.2 with ⟨rfl, _⟩ | ⟨g, cap, cur, rfl, _, hg, _⟩
  · simp [Value.ownBlock] at hk
  · rcases h'.2 with ⟨rfl, _⟩ | ⟨g', cap', cur', rfl, _, hg', _⟩
    · simp [Value.ownBlock] at hk'
    · obtain rfl : g = k := by simpa [Value.ownBlock] using hk
      obtain rfl : g' = g := by simpa [Value.ownBlock] using hk'
      rw [hg] at hg'
      simp at hg'
      exact hne hg'.2

theorem sep_keptR {u v : Value} (h : Nm.Sep u v) : v.ownBlock = none ∨ v.ownBlock ≠ u.ownBlock := by
  cases hv : v.ownBlock with
  | none => exact .inl rfl
  | some b => exact .inr (fun e => h b e.symm hv)

theorem sep_box {b : Nat} {v : Value} {w : World} {base n : Nat} {e : TypeId} {s : Nat} {xs : List Value} (h : w.ownsRow base e s v n xs) (hb : b < base) : v.ownBlock = none ∨ v.ownBlock ≠ some b := by
  cases hv : v.ownBlock with
  | none => exact .inl rfl
  | some g =>
    refine .inr (fun e => ?_)
    have := (h.lt g hv).1
    cases e
    omega

theorem Rows.kept {w w' : World} {base : Nat} {vs : List Value} {ps : List (List UInt8)} {row : Option Nat} (h : Rows w base vs ps) (hg : w.grownBy w' row) (hr : ∀ v ∈ vs, v.ownBlock = none ∨ v.ownBlock ≠ row) : Rows w' base vs ps :=
  ⟨h.len, fun k v p hv hp => (h.own k v p hv hp).kept hg (hr v (List.mem_of_getElem? hv)), h.apart⟩

theorem Rows.at_ {w : World} {base : Nat} {vs : List Value} {ps : List (List UInt8)} (h : Rows w base vs ps) {v : Value} (hv : v ∈ vs) : ∃ p : List UInt8, w.ownsRow base 5 1 v p.length (p.map by1) := by
  obtain ⟨j, hj, rfl⟩ := List.getElem_of_mem hv
  have hp : ps[j]? = some (ps[j]'(by rw [← h.len]; exact hj)) := List.getElem?_eq_getElem _
  exact ⟨_, h.own j vs[j] _ (List.getElem?_eq_getElem hj) hp⟩

theorem Rows.below {w w' : World} {base : Nat} {vs : List Value} {ps : List (List UInt8)} (h : Rows w base vs ps) (hb : Below w.heap.size w w') : Rows w' base vs ps :=
  ⟨h.len, fun k v p hv hp => own_keptB (h.own k v p hv hp) hb, h.apart⟩

theorem Rows.mono {w : World} {b c : Nat} {vs : List Value} {ps : List (List UInt8)} (h : Rows w b vs ps) (hc : c ≤ b) : Rows w c vs ps :=
  ⟨h.len, fun k v p hv hp => own_mono (h.own k v p hv hp) hc, h.apart⟩

/-- One more, in memory that is newer. -/
theorem Rows.snoc {w : World} {base H : Nat} {vs : List Value} {ps : List (List UInt8)} {v : Value} {p : List UInt8} (h : Rows w base vs ps) (hv : w.ownsRow H 5 1 v p.length (p.map by1)) (hb : base ≤ H) (hlt : ∀ u ∈ vs, ∀ b, u.ownBlock = some b → b < H) : Rows w base (vs ++ [v]) (ps ++ [p]) := by
  have hsep : ∀ u ∈ vs, Nm.Sep u v := fun u hu b h1 h2 => by
    have e1 := hlt u hu b h1
    have e2 := (hv.lt b h2).1
    omega
  have hsp : ∀ {k : Nat} {u : Value}, (vs ++ [v])[k]? = some u → (k < vs.length ∧ vs[k]? = some u) ∨ (k = vs.length ∧ u = v) := fun {k u} hk => by
    rcases Nat.lt_or_ge k vs.length with hl | hl
    · rw [List.getElem?_append_left hl] at hk
      exact .inl ⟨hl, hk⟩
    · rw [List.getElem?_append_right hl] at hk
      obtain ⟨j, hj⟩ : ∃ j, k - vs.length = j := ⟨_, rfl⟩
      rw [hj] at hk
      cases j with
      | zero =>
        simp at hk
        exact .inr ⟨by omega, hk.symm⟩
      | succ j => simp at hk
  refine ⟨by rw [List.length_append, List.length_append, h.len]; rfl, fun k u q hu hq => ?_, fun j k u x hne hu hx => ?_⟩
  · rcases hsp hu with ⟨hl, hu⟩ | ⟨rfl, rfl⟩
    · rw [List.getElem?_append_left (by rw [← h.len]; exact hl)] at hq
      exact h.own k u q hu hq
    · rw [h.len, List.getElem?_append_right (Nat.le_refl _), Nat.sub_self] at hq
      simp at hq
      subst hq
      exact own_mono hv hb
  · rcases hsp hu with ⟨hl, hu2⟩ | ⟨e1, e2⟩
    · rcases hsp hx with ⟨hl', hx2⟩ | ⟨e3, e4⟩
      · exact h.apart j k u x hne hu2 hx2
      · rw [e4]
        exact hsep u (List.mem_of_getElem? hu2)
    · rcases hsp hx with ⟨hl', hx2⟩ | ⟨e3, e4⟩
      · rw [e2]
        exact (hsep x (List.mem_of_getElem? hx2)).symm
      · exact absurd (e1.trans e3.symm) hne

end Rc
end Go.Proofs.Ythdibodmnpcekaa
