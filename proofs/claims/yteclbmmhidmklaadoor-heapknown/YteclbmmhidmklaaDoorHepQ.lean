import Derived.Test.YteclbmmhidmklaaDoorHepR
import Derived.BigQuiet
/- The document's heap: Key, Least, Pairs; ahead. -/
namespace Go.Proofs.YteclbmmhidmklaaDoor
set_option linter.ambiguousOpen false
open Go.RowKit
namespace Hh
open Ft
set_option linter.unusedSimpArgs false
set_option linter.unusedVariables false
attribute [local go_sem] Oper.semAt_some

theorem keyH_app (A B : List It) (i : Int) : keyH (A ++ B) i = (keyH A i).or (keyH B i) := by
  unfold keyH
  rw [List.find?_append]
  cases List.find? (fun x => x.i == i) A <;> rfl

theorem keyH_at {L : List It} {i : Int} {k : Nat} {x : It} (hx : L[k]? = some x) (h : keyH (L.take k) i = none) : (x.i = i → keyH L i = some x.k) ∧ (x.i ≠ i → keyH (L.take (k + 1)) i = none) := by
  obtain ⟨hk, hxe⟩ := List.getElem?_eq_some_iff.1 hx
  have e : L.take (k + 1) = L.take k ++ [x] := by rw [← hxe]; exact List.take_succ_eq_append_getElem hk
  constructor
  · intro he
    rw [← List.take_append_drop (k + 1) L, keyH_app, e, keyH_app, h]
    simp [keyH, he]
  · intro he
    rw [e, keyH_app, h]
    simp [keyH, he]

set_option maxRecDepth 100000 in
set_option maxHeartbeats 2000000 in
theorem keyH_ref (base : Nat) (w : World) (t : Nat) (N : Int) (lv : Value) (L : List It) (i : Int) (h : RHp base w t N lv L) :
    Calls Tryd.prog 35 #[ptr t, nu i] w fun e w' => e = .returned (.tuple #[nu ((keyH L i).getD 0), .bool (keyH L i).isSome]) ∧ Below w.heap.size w w' := by
  obtain ⟨a, c, rfl, hc1, hc2⟩ := h.shape
  obtain ⟨n, hn⟩ : ∃ n, L.length = n := ⟨_, rfl⟩
  rw [hn] at hc1 h
  unfold maxLen at hc2
  have hcI : (c : Int) ≤ 9223372036854775807 := by omega
  have HR := Hid.mk' h
  have HN := Hid.mk' hn
  obtain ⟨K, hK⟩ : ∃ K, keyH L i = K := ⟨_, rfl⟩
  rw [hK]
  have HK := Hid.mk' hK
  have q1 := h.cells.2.1
  clear h hn hK
  go_enter Tryd.func35, Tryd.ntmps35
  go_wp2
  go_loopw [6] (fun kv wr => ∃ k : Nat, k ≤ n ∧ kv = nun k ∧ Hid (wr = w ∧ keyH (L.take k) i = none)) (fun kv _ => n - (intOf kv).toNat)
  case atStart => exact ⟨0, Nat.zero_le _, rfl, rfl, rfl⟩
  case round =>
    obtain ⟨k, hk, rfl, HL⟩ := hrel
    have hwr := HL.out.1
    subst hwr
    by_cases hlt : k < n
    · have hkI : (k : Int) < (n : Int) := by omega
      have hk0 : (0 : Int) ≤ (k : Int) := by omega
      obtain ⟨x, hx⟩ : ∃ x, L[k]? = some x := ⟨_, List.getElem?_eq_getElem (by rw [HN.out]; exact hlt)⟩
      obtain ⟨g, c9, e9, _, _, hx1, hx2⟩ := HR.out.at hx
      simp only [Value.slice.injEq] at e9
      obtain ⟨rfl, e9n, rfl⟩ := e9
      clear e9n
      obtain ⟨xi, xk⟩ := x
      dsimp only at hx1 hx2
      obtain ⟨ky, kn⟩ := keyH_at hx HL.out.2
      by_cases he : xi = i
      · have hbe : (xi == i) = true := by simpa using he
        have HKY : Hid (K = some xk) := HK.out.symm.trans (ky he)
        clear hx ky kn he
        go_wp2
        go_ret2
        refine ⟨?_, Below.refl _ _⟩
        rw [HKY.out]
        rfl
      · have hbe : (xi == i) = false := by simpa using he
        have HKN := Hid.mk' (kn he)
        clear hx ky kn he
        go_wp2
        go_roundw
        case rel => exact ⟨k + 1, by omega, by go_num, by simp, HKN.out⟩
        case measure => simp [intOf]; omega
    · have hkI : ¬ (k : Int) < (n : Int) := by omega
      have HKY : Hid (K = none) := by
        show _ = _
        rw [← HK.out]
        have := HL.out.2
        rwa [List.take_of_length_le (by rw [HN.out]; omega)] at this
      go_wp2
      go_ret2
      refine ⟨?_, Below.refl _ _⟩
      rw [HKY.out]
      rfl

/-- The first one. -/
def fstI (L : List It) : Int := match L with
  | [] => 0
  | x :: _ => x.i

def fstK (L : List It) : Int := match L with
  | [] => 0
  | x :: _ => x.k

set_option maxRecDepth 100000 in
set_option maxHeartbeats 2000000 in
theorem leastH_ref (base : Nat) (w : World) (t : Nat) (N : Int) (lv : Value) (L : List It) (h : RHp base w t N lv L) :
    Calls Tryd.prog 33 #[ptr t] w fun e w' => e = .returned (.tuple #[nu (fstI L), nu (fstK L), .bool (!L.isEmpty)]) ∧ Below w.heap.size w w' := by
  have q1 := h.cells.2.1
  cases L with
  | nil =>
    obtain ⟨a, c, rfl, hc1, hc2⟩ := h.shape
    simp only [List.length_nil] at *
    clear h
    go_enter Tryd.func33, Tryd.ntmps33
    go_wp2
    go_ret3
    exact ⟨rfl, Below.refl _ _⟩
  | cons x L =>
    obtain ⟨g, c, rfl, hc1, hc2, hx1, hx2⟩ := h.at (k := 0) (x := x) rfl
    obtain ⟨xi, xk⟩ := x
    obtain ⟨n, hn⟩ : ∃ n, L.length = n := ⟨_, rfl⟩
    simp only [List.length_cons, hn, Nat.zero_mul, Nat.zero_add] at *
    have hn0 : ¬ ((n : Int) + 1 = 0) := by omega
    have hn1 : (0 : Int) < (n : Int) + 1 := by omega
    unfold maxLen at hc2
    have hcI : (c : Int) ≤ 9223372036854775807 := by omega
    clear h hn
    go_enter Tryd.func33, Tryd.ntmps33
    go_wp2
    go_quiet (fail)
    go_wp2
    go_ret3
    exact ⟨rfl, rfl, rfl, rfl, Nat.le_refl _, fun _ _ => rfl⟩

set_option maxRecDepth 100000 in
set_option maxHeartbeats 2000000 in
theorem ahead_ref (ai ak bi bk : Int) (w : World) :
    Calls Tryd.prog 31 #[.agg #[nu ai, nu ak], .agg #[nu bi, nu bk]] w fun e w' => e = .returned (.bool (ahd ⟨ai, ak⟩ ⟨bi, bk⟩)) ∧ Below w.heap.size w w' := by
  have HB : Hid (Below w.heap.size w ((w.alloc (.cells #[nu ai, nu ak] 67)).alloc (.cells #[nu bi, nu bk] 67))) := ((Below.refl _ _).alloc (Nat.le_refl _) _).alloc (by simp) _
  have hA := ahd_iff (a := ⟨ai, ak⟩) (b := ⟨bi, bk⟩)
  dsimp only at hA
  obtain ⟨r, hr⟩ : ∃ r, ahd ⟨ai, ak⟩ ⟨bi, bk⟩ = r := ⟨_, rfl⟩
  rw [hr] at hA ⊢
  clear hr
  by_cases h1 : ak < bk
  · obtain rfl : r = true := hA.2 (.inl h1)
    have d1 : decide (ak < bk) = true := decide_eq_true h1
    clear hA
    go_enter Tryd.func31, Tryd.ntmps31
    go_wp2
    go_ret
    exact ⟨rfl, HB.out⟩
  · have d1 : decide (ak < bk) = false := decide_eq_false h1
    by_cases h2 : ak = bk
    · have d2 : (ak == bk) = true := by simpa using h2
      obtain rfl : r = decide (ai < bi) := by
        rw [Bool.eq_iff_iff, hA, decide_eq_true_iff]
        exact ⟨fun h => h.elim (fun e => absurd e h1) (fun e => e.2), fun h => .inr ⟨h2, h⟩⟩
      clear hA h2
      go_enter Tryd.func31, Tryd.ntmps31
      go_wp2
      go_ret
      exact ⟨rfl, HB.out⟩
    · have d2 : (ak == bk) = false := by simpa using h2
      obtain rfl : r = false := by
        cases r with
        | false => rfl
        | true => exact absurd (hA.1 rfl) (fun e => e.elim h1 (fun e => h2 e.1))
      clear hA h2
      go_enter Tryd.func31, Tryd.ntmps31
      go_wp2
      go_ret
      exact ⟨rfl, HB.out⟩
end Hh
end Go.Proofs.YteclbmmhidmklaaDoor
