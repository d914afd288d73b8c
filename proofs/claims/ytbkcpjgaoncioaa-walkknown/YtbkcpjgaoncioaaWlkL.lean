/- WalkLives: out of the contracts. -/
import Derived.Test.YtbkcpjgaoncioaaWlkF
import Derived.Test.YtbkcpjgaoncioaaApaW
namespace Go.Proofs.Ytbkcpjgaoncioaa
set_option linter.ambiguousOpen false
open Go.RowKit
namespace Wk
open An Ft Lv
set_option linter.unusedSimpArgs false
set_option linter.unusedVariables false

/-- Links that lie there. -/
def RdK (w : World) (v : Value) (K : List (Int × Int)) : Prop :=
  ∃ a cap, v = .slice a K.length cap ∧ K.length ≤ cap ∧ cap ≤ maxLen ∧ (0 < K.length → ∃ g o, a = some ⟨g, o, none⟩ ∧ g < w.heap.size ∧ ∀ n x, K[n]? = some x → w.rangeAt g (o + n * 2) [nu x.1, nu x.2])

/-- Lists of ints in a list. -/
structure Ps (w : World) (base : Nat) (pv : Value) (vs : List Value) : Prop where
  row : w.ownsRow base 35 1 pv vs.length vs
  own : ∀ l (h : l < vs.length), ∃ n xs, n ≤ 7 ∧ w.ownsRow base 3 1 vs[l] n xs
  sep : ∀ l m (h : l < vs.length) (h' : m < vs.length), l ≠ m → Nm.Sep vs[l] vs[m]
  le : base ≤ w.heap.size

theorem own_belW {w w' : World} {base : Nat} {e : TypeId} {size : Nat} {v : Value} {n : Nat} {xs : List Value} (h : w.ownsRow base e size v n xs) (hb : Below w.heap.size w w') : w'.ownsRow base e size v n xs := (Keep.of_below (F := fun _ => False) hb).own h (fun _ _ h => h)

theorem Ps.nil (w : World) (base : Nat) (h : base ≤ w.heap.size) : Ps w base (.slice none 0 0) [] := ⟨World.ownsRow_nil _ _ _ _, fun l h => by simp at h, fun l m h => by simp at h, h⟩

theorem Ps.below {w w' : World} {base : Nat} {pv : Value} {vs : List Value} (h : Ps w base pv vs) (hb : Below w.heap.size w w') : Ps w' base pv vs :=
  ⟨own_belW h.row hb, fun l hl => by
    obtain ⟨n, xs, h1, h2⟩ := h.own l hl
    exact ⟨n, xs, h1, own_belW h2 hb⟩, h.sep, Nat.le_trans h.le hb.size⟩

theorem types_apart {w : World} {b1 b2 s1 s2 n1 n2 : Nat} {v1 v2 : Value} {x1 x2 : List Value} (h1 : w.ownsRow b1 35 s1 v1 n1 x1) (h2 : w.ownsRow b2 3 s2 v2 n2 x2) : Nm.Sep v1 v2 := fun k e1 e2 => by
  obtain ⟨c1, hc1, _⟩ := own_cellsT h1 e1
  obtain ⟨c2, hc2, _⟩ := own_cellsT h2 e2
  rw [hc1] at hc2
  simp at hc2

theorem snoc2_at (vs : List Value) (a b : Value) (l : Nat) (hl : l < (vs ++ [a, b]).length) : (∃ h : l < vs.length, (vs ++ [a, b])[l] = vs[l]) ∨ (l = vs.length ∧ (vs ++ [a, b])[l] = a) ∨ (l = vs.length + 1 ∧ (vs ++ [a, b])[l] = b) := by
  rcases Nat.lt_or_ge l vs.length with h | h
  · exact .inl ⟨h, List.getElem_append_left h⟩
  · right
    have hl' : l < vs.length + 2 := by simpa using hl
    rcases Nat.eq_or_lt_of_le h with e | e
    · left
      subst e
      exact ⟨rfl, by simp⟩
    · right
      obtain rfl : l = vs.length + 1 := by omega
      exact ⟨rfl, by simp⟩

/-- Two more. -/
theorem Ps.two {w w' : World} {base : Nat} {pv pv' a b : Value} {vs : List Value} {o : Obj} (h : Ps w base pv vs) (ha : ∃ n xs, n ≤ 7 ∧ w.ownsRow base 3 1 a n xs) (hb : ∃ n xs, n ≤ 7 ∧ w.ownsRow base 3 1 b n xs) (hab : Nm.Sep a b) (hsa : ∀ l (h : l < vs.length), Nm.Sep vs[l] a) (hsb : ∀ l (h : l < vs.length), Nm.Sep vs[l] b)
    (ho : w'.ownsRow base 35 1 pv' (vs.length + 2) (vs ++ [a, b])) (hg : (w.alloc o).grownBy w' pv.ownBlock) : Ps w' base pv' (vs ++ [a, b]) := by
  have keep : ∀ {v : Value} {n : Nat} {xs : List Value}, w.ownsRow base 3 1 v n xs → w'.ownsRow base 3 1 v n xs := fun {v n xs} hv => by
    refine (hv.alloc o).kept hg ?_
    cases hvb : v.ownBlock with
    | none => exact .inl rfl
    | some k => exact .inr (fun e => types_apart h.row hv k e.symm hvb)
  refine ⟨by simpa using ho, fun l hl => ?_, fun l m hl hm hne => ?_, Nat.le_trans h.le (Nat.le_trans (by simp) hg.size)⟩
  · rcases snoc2_at vs a b l hl with ⟨h1, e⟩ | ⟨_, e⟩ | ⟨_, e⟩
    · obtain ⟨n, xs, h2, h3⟩ := h.own l h1
      exact ⟨n, xs, h2, by rw [e]; exact keep h3⟩
    · obtain ⟨n, xs, h2, h3⟩ := ha
      exact ⟨n, xs, h2, by rw [e]; exact keep h3⟩
    · obtain ⟨n, xs, h2, h3⟩ := hb
      exact ⟨n, xs, h2, by rw [e]; exact keep h3⟩
  · rcases snoc2_at vs a b l hl with ⟨h1, e1⟩ | ⟨h1, e1⟩ | ⟨h1, e1⟩ <;> rcases snoc2_at vs a b m hm with ⟨h2, e2⟩ | ⟨h2, e2⟩ | ⟨h2, e2⟩ <;> rw [e1, e2]
    · exact h.sep l m h1 h2 hne
    · exact hsa l h1
    · exact hsb l h1
    · exact (hsa m h2).symm
    · omega
    · exact hab
    · exact (hsb m h2).symm
    · exact hab.symm
    · omega

theorem apart0_ints (w : World) : Calls Try.prog 14 #[.slice none 0 0] w fun e w' => e = .returned (.bool true) ∧ w' = w := by
  go_enter Try.func14, Try.ntmps14
  go_wp2
  go_loopw [3, 4] (fun kv _ wr => kv = .int .i64 0 ∧ Hid (wr = w)) (fun _ _ _ => 0)
  case atStart => exact ⟨rfl, rfl⟩
  case round =>
    obtain ⟨rfl, hw⟩ := hrel
    go_wp2
    go_loopw [5, 6] (fun gv kv wr => gv = .slice none 0 0 ∧ kv = .int .i64 0 ∧ Hid (wr = w)) (fun _ _ _ => 0)
    case atStart => exact ⟨rfl, rfl, hw⟩
    case round =>
      obtain ⟨rfl, rfl, hw⟩ := hrel
      go_wp2
      go_loopw [9] (fun kv wr => kv = .int .i64 0 ∧ Hid (wr = w)) (fun _ _ => 0)
      case atStart => exact ⟨rfl, hw⟩
      case round =>
        obtain ⟨rfl, hw⟩ := hrel
        go_wp2
        go_ret
        exact ⟨rfl, hw.out⟩

/-- They lie apart; nothing below is turned. -/
theorem apart_ps (w0 w : World) (pv : Value) (vs : List Value) (h : Ps w w0.heap.size pv vs) (hb : Below w0.heap.size w0 w) (hn : vs.length ≤ 200) :
    Calls Try.prog 14 #[pv] w fun e w' => e = .returned (.bool true) ∧ Below w0.heap.size w0 w' := by
  rcases h.row.2 with ⟨rfl, h0⟩ | ⟨L, cap, cur, rfl, hbg, hg, hnc, hcm, hcs, htk⟩
  · refine (apart0_ints w).mono ?_
    rintro e w' ⟨rfl, rfl⟩
    exact ⟨rfl, hb⟩
  · have hf : ∀ l, ∃ q : Nat × List Value, ∀ hl : l < vs.length, q.1 ≤ 7 ∧ w.ownsRow w0.heap.size 3 1 vs[l] q.1 q.2 := fun l => by
      by_cases hl : l < vs.length
      · obtain ⟨n, xs, h1, h2⟩ := h.own l hl
        exact ⟨(n, xs), fun _ => ⟨h1, h2⟩⟩
      · exact ⟨(0, []), fun h => absurd h hl⟩
    obtain ⟨f, hf⟩ := Classical.axiomOfChoice hf
    have hL : LsR w w0.heap.size L vs (fun l => if l < vs.length then (f l).1 else 0) (fun l => (f l).2) := by
      refine ⟨fun l hl => ?_, fun l hl => ?_, (Array.getElem?_eq_some_iff.1 hg).1, h.le⟩
      · simp only [if_pos hl]
        exact (hf l hl).2
      · obtain ⟨⟨u, h1, h2⟩, _⟩ := own_cellS h.row l (by omega)
        rw [List.getElem?_eq_getElem hl] at h1
        rw [h2, ← h1]
    have ha : ApartR L vs := ⟨h.sep, fun l hl e => by
      obtain ⟨n, xs, h1, h2⟩ := h.own l hl
      exact types_apart h.row h2 L rfl e⟩
    refine (apartW_l vs _ w0.heap.size L cap _ w hL ha (by omega) (fun l => ?_) hnc hcm).mono ?_
    · by_cases hl : l < vs.length
      · simp only [if_pos hl]
        have := (hf l hl).1
        omega
      · simp only [if_neg hl]
        omega
    · rintro e w' ⟨rfl, hk, _⟩
      refine ⟨rfl, hb.trans (hk.below (fun k hk hc => ?_) hb.size)⟩
      obtain ⟨l, hl, e⟩ := hc
      obtain ⟨n, xs, _, h2⟩ := h.own l hl
      have := (h2.lt k e).1
      omega
end Wk
end Go.Proofs.Ytbkcpjgaoncioaa
