/- The walk of ScopeParses. -/
import Derived.Test.YtmgddocninihoaaDoorRefP
import Derived.Test.YtmgddocninihoaaDoorPlace
namespace Go.Proofs.YtmgddocninihoaaDoor
set_option linter.ambiguousOpen false
open Go.RowKit Nm Er
namespace Sc
set_option linter.unusedSimpArgs false
set_option linter.unusedVariables false

/-- The statements' 'told', at an error that is the right one. -/
theorem told_nil (w : World) : Calls Tryd.prog 12 #[.nilIface, .int .i64 0, .int .i64 (-1)] w fun e w' => e = .returned (.bool true) ∧ Below w.heap.size w w' := by
  have c := plain_nil 0 w
  go_enter Tryd.func12, Tryd.ntmps12
  go_wp2_with fail
  refine c.mono ?_
  rintro e w1 ⟨rfl, hb⟩
  go_wp2
  go_ret
  exact ⟨rfl, hb⟩
theorem told_no (n : Nat) (h1 : 1 ≤ n) (h2 : n ≤ 24) (w : World) (hE : Handle w) : Calls Tryd.prog 12 #[noV n, .int .i64 n, .int .i64 (-1)] w fun e w' => e = .returned (.bool true) ∧ Below w.heap.size w w' := by
  have c := plain_no n n h1 h2 w hE
  rw [decide_eq_true rfl] at c
  unfold noV at c ⊢
  go_enter Tryd.func12, Tryd.ntmps12
  go_wp2_with fail
  refine c.mono ?_
  rintro e w1 ⟨rfl, hb⟩
  go_wp2
  go_ret
  exact ⟨rfl, hb⟩
theorem told_at (n k : Nat) (h1 : 1 ≤ n) (h2 : n ≤ 24) (w : World) (hE : Handle w) : Calls Tryd.prog 12 #[atV n k, .int .i64 n, .int .i64 k] w fun e w' => e = .returned (.bool true) ∧ Below w.heap.size w w' := by
  have c := at_at n k h1 h2 w hE
  unfold atV at c ⊢
  go_enter Tryd.func12, Tryd.ntmps12
  go_wp2_with fail
  refine c.mono ?_
  rintro e w1 ⟨rfl, hb⟩
  go_wp2
  go_ret
  exact ⟨rfl, hb⟩

/-- What the document answers for Parse of any text: the set, the error's number, its place or -1. -/
def refT (l : List (List UInt8)) (t : List UInt8) : Nat × Int × Int := if 4096 < t.length then (0, 3, -1) else ((parseG l 0 (wordsL 0 t)).1, (parseG l 0 (wordsL 0 t)).2.1, placeV (parseG l 0 (wordsL 0 t)).2.1 (parseG l 0 (wordsL 0 t)).2.2)

theorem rparse_t (v : Value) (l : List (List UInt8)) (t : List UInt8) (w : World) (hR : Rd w v l) (h64 : l.length ≤ 64) (hdl : ∀ p ∈ l, dottedB p = true) (hm : t.length ≤ maxLen) :
    Calls Tryd.prog 19 #[v, .string (B t)] w fun e w' => e = .returned (.tuple #[Bt.st (refT l t).1, .int .i64 (refT l t).2.1, .int .i64 (refT l t).2.2]) ∧ Below w.heap.size w w' := by
  unfold refT
  by_cases h : 4096 < t.length
  · rw [if_pos h]
    exact (rparse_long v l t w h hm).mono (by rintro e w' ⟨rfl, rfl⟩; exact ⟨rfl, Below.refl _ _⟩)
  · rw [if_neg h]; exact rparse_s v l t w hR h64 hdl (by omega)

theorem ref_same (l : List (List UInt8)) (t : List UInt8) : (parseT l t).1 = (refT l t).1 := by
  unfold parseT refT
  split <;> rfl

/-- The program's error is told as the document's number and place. -/
theorem told_t (l : List (List UInt8)) (t : List UInt8) (w : World) (hE : Handle w) : Calls Tryd.prog 12 #[(parseT l t).2, .int .i64 (refT l t).2.1, .int .i64 (refT l t).2.2] w fun e w' => e = .returned (.bool true) ∧ Below w.heap.size w w' := by
  unfold parseT refT
  by_cases h : 4096 < t.length
  · rw [if_pos h, if_pos h]
    exact told_no 3 (by decide) (by decide) w hE
  · rw [if_neg h, if_neg h]
    generalize hp : parseG l 0 (wordsL 0 t) = p
    have hno := parseG_no l (wordsL 0 t) 0
    rw [hp] at hno
    obtain ⟨x, no, k⟩ := p
    dsimp only at hno ⊢
    by_cases hz : no = 0
    · subst hz
      exact told_nil w
    · have e1 : errP no k = atV no k := by simp [errP, hz]
      have e2 : placeV no k = (k : Int) := by simp [placeV, hz]
      rw [e1, e2]
      exact told_at no k (by omega) (by rcases hno with h | ⟨_, h | h⟩ <;> omega) w hE
set_option maxRecDepth 1000000 in
set_option maxHeartbeats 2000000 in
theorem scopeParses_walk (v : Value) (l : List (List UInt8)) (t u : List UInt8) (w : World) (hR : Rd w v l) (hlen : ∀ p ∈ l, p.length ≤ maxLen) (ht : t.length ≤ maxLen) (hu : u.length ≤ maxLen) (hE : Handle w) :
    Calls Tryd.prog 4 #[v, .string (B t), .string (B u)] w fun e w' => e = .returned (.bool true) ∧ Below w.heap.size w w' := by
  have HLEN : Hid (∀ p ∈ l, p.length ≤ maxLen) := hlen
  clear hlen
  by_cases hl : 64 < l.length
  · go_enter Tryd.func4, Tryd.ntmps4
    go_wp2_with fail
    refine (rnew_many v l w hR hl).mono ?_
    rintro e w1 ⟨rfl, hq⟩
    subst w1
    go_wp2
    go_ret
    exact ⟨rfl, Below.refl _ _⟩
  go_enter Tryd.func4, Tryd.ntmps4
  go_wp2_with fail
  refine (rnew_any v l w hR (by omega) HLEN.out).mono ?_
  rintro e w1 ⟨rfl, hb1⟩
  cases hg : newG [] l with
  | some nk =>
    obtain ⟨n, k⟩ := nk
    have hn := (newG_num l [] n k hg).1
    have e1 : newV l = ((n : Int), (k : Int)) := by unfold newV; rw [hg]
    rw [e1]
    have hz : ((n : Int) != 0) = true := by rw [bne_iff_ne]; omega
    clear hg hn
    go_wp2
    go_ret
    exact ⟨rfl, hb1⟩
  | none =>
    have e1 : newV l = (0, -1) := by unfold newV; rw [hg]
    rw [e1]
    go_wp2_with fail
    refine (new_any v l w1 (hR.below hb1) (by omega) HLEN.out).mono ?_
    rintro e w2 ⟨hb2, ⟨_, pb, mb, _, _, rfl, hM⟩ | ⟨n, k, h, _⟩⟩
    rotate_left
    · rw [hg] at h; cases h
    have hB2 := hb1.trans (hb2.mono hb1.size)
    have h64 := hM.most
    obtain ⟨hnd, hdt⟩ := hM.facts
    have HDT : Hid (∀ p ∈ l, dottedB p = true) := hdt
    have HR : Hid (∀ w', Below w.heap.size w w' → Rd w' v l) := fun w' h => hR.below h
    have HMx : Hid (∀ w', Below w2.heap.size w2 w' → Mp w' pb mb l) := fun w' h => hM.kept h
    have CT := told_t l t
    have CU := told_t l u
    have CTH : Hid (∀ w', Handle w' → Calls Tryd.prog 12 #[(parseT l t).2, .int .i64 (refT l t).2.1, .int .i64 (refT l t).2.2] w' fun e w'' => e = .returned (.bool true) ∧ Below w'.heap.size w' w'') := CT
    have CUH : Hid (∀ w', Handle w' → Calls Tryd.prog 12 #[(parseT l u).2, .int .i64 (refT l u).2.1, .int .i64 (refT l u).2.2] w' fun e w'' => e = .returned (.bool true) ∧ Below w'.heap.size w' w'') := CU
    have PT : Hid (∀ w', Mp w' pb mb l → Calls Tryd.prog 20 #[.pointer (some ⟨pb, 0, none⟩), .string (B t)] w' fun e w'' => e = .returned (.tuple #[Bt.st (refT l t).1, (parseT l t).2]) ∧ Below w'.heap.size w' w'') := fun w' h => by rw [← ref_same]; exact parse_t pb mb l t w' h ht
    have PU : Hid (∀ w', Mp w' pb mb l → Calls Tryd.prog 20 #[.pointer (some ⟨pb, 0, none⟩), .string (B u)] w' fun e w'' => e = .returned (.tuple #[Bt.st (refT l u).1, (parseT l u).2]) ∧ Below w'.heap.size w' w'') := fun w' h => by rw [← ref_same]; exact parse_t pb mb l u w' h hu
    have RT : Hid (∀ w', Rd w' v l → Calls Tryd.prog 19 #[v, .string (B t)] w' fun e w'' => e = .returned (.tuple #[Bt.st (refT l t).1, .int .i64 (refT l t).2.1, .int .i64 (refT l t).2.2]) ∧ Below w'.heap.size w' w'') := fun w' h => rparse_t v l t w' h h64 HDT.out ht
    have RU : Hid (∀ w', Rd w' v l → Calls Tryd.prog 19 #[v, .string (B u)] w' fun e w'' => e = .returned (.tuple #[Bt.st (refT l u).1, .int .i64 (refT l u).2.1, .int .i64 (refT l u).2.2]) ∧ Below w'.heap.size w' w'') := fun w' h => rparse_t v l u w' h h64 HDT.out hu
    clear CT CU hnd hdt ht hu hR
    generalize (parseT l t).2 = et at *
    generalize (parseT l u).2 = eu at *
    generalize refT l t = rt at *
    generalize refT l u = ru at *
    obtain ⟨x, n, k⟩ := rt
    obtain ⟨y, m, j⟩ := ru
    dsimp only at *
    go_wp2_with fail
    refine (RT.out _ (HR.out _ hB2)).mono ?_
    rintro e w3 ⟨rfl, hb3⟩
    have hC3 := hb3
    go_wp2_with fail
    refine (PT.out _ (HMx.out _ hC3)).mono ?_
    rintro e w4 ⟨rfl, hb4⟩
    have hC4 := hC3.trans (hb4.mono hC3.size)
    go_wp2_with fail
    refine (PU.out _ (HMx.out _ hC4)).mono ?_
    rintro e w5 ⟨rfl, hb5⟩
    have hC5 := hC4.trans (hb5.mono hC4.size)
    go_wp2_with fail
    refine (PT.out _ (HMx.out _ hC5)).mono ?_
    rintro e w6 ⟨rfl, hb6⟩
    have hC6 := hC5.trans (hb6.mono hC5.size)
    go_wp2_with fail
    refine (RU.out _ (HR.out _ (hB2.trans (hC6.mono hB2.size)))).mono ?_
    rintro e w7 ⟨rfl, hb7⟩
    have hC7 := hC6.trans (hb7.mono hC6.size)
    have hB7 := hB2.trans (hC7.mono hB2.size)
    go_wp2_with fail
    refine (CTH.out _ (hE.below hB7)).mono ?_
    rintro e w8 ⟨rfl, hb8⟩
    have hB8 := hB7.trans (hb8.mono hB7.size)
    go_wp2_with fail
    refine (CTH.out _ (hE.below hB8)).mono ?_
    rintro e w9 ⟨rfl, hb9⟩
    have hB9 := hB8.trans (hb9.mono hB8.size)
    go_wp2_with fail
    refine (CUH.out _ (hE.below hB9)).mono ?_
    rintro e w10 ⟨rfl, hb10⟩
    have hB10 := hB9.trans (hb10.mono hB9.size)
    go_wp2
    go_ret
    exact ⟨rfl, hB10⟩
end Sc
end Go.Proofs.YtmgddocninihoaaDoor
