/- The program's rise, sink, settle. -/
import Derived.Test.YthjdpfmnbmnbhaaHqD
namespace Go.Proofs.Ythjdpfmnbmnbhaa
set_option linter.ambiguousOpen false
open Go.RowKit
namespace Hq
open Hh Ft
set_option linter.unusedSimpArgs false
set_option linter.unusedVariables false
attribute [local go_sem] Oper.semAt_some

/-- What is left of the heap amid a call: some row, and where each stands. -/
def Amid (w w' : World) (p rb rc ab ac n m : Nat) (D : List It) (P : List It → Prop) : Prop := ∃ D' A', Lay w' p rb rc ab ac n m D' A' ∧ Keep (foot p rb ab) w w' ∧ D'.Perm D ∧ P D'

theorem foot_trans {w a b : World} {p rb ab : Nat} (h : Keep (foot p rb ab) w a) (k : Keep (foot p rb ab) a b) : Keep (foot p rb ab) w b := h.trans k (fun _ _ e => e)

theorem foot_below {w a b : World} {p rb ab : Nat} (h : Keep (foot p rb ab) w a) (k : Below a.heap.size a b) : Keep (foot p rb ab) w b := h.trans (Keep.of_below (F := fun _ => False) k) (fun _ _ e => e.elim)

set_option maxRecDepth 100000 in
set_option maxHeartbeats 4000000 in
theorem rise_p {w : World} {p rb rc ab ac n m : Nat} {D : List It} {A : List Int} (h : Lay w p rb rc ab ac n m D A) (a : Nat) (ha : a < n) (hN : Near D a) :
    Calls Try.prog 40 #[ptr p, nun a] w fun e w' => ∃ k : Nat, e = .returned (nun k) ∧ k < n ∧ Amid w w' p rb rc ab ac n m D (fun D' => Snk D' k) := by
  have HS : Hid (Amid w w p rb rc ab ac n m D (fun D' => Near D' a)) := ⟨D, A, h, Keep.refl _ _, List.Perm.refl _, hN⟩
  have hn : n ≤ 65536 := h.few2
  clear h hN
  go_enter Try.func40, Try.ntmps40
  go_wp2
  go_loopw [1, 5] (fun av bv wr => ∃ k : Nat, av = nun k ∧ k < n ∧ Hid (Amid w wr p rb rc ab ac n m D (fun D' => Near D' k))) (fun av _ _ => (intOf av).toNat)
  case atStart => exact ⟨a, rfl, ha, HS⟩
  case round =>
    obtain ⟨k, rfl, hk, HA⟩ := hrel
    obtain ⟨D1, A1, h1, k1, p1, n1⟩ := HA.out
    by_cases h0 : 0 < k
    · have h0I : (0 : Int) < (k : Int) := by omega
      have c1 := Hid.mk' (isAhead_p h1 k ((k - 1) / 2) hk (by omega))
      have hq : Int.tdiv ((k : Int) - 1) 2 = (((k - 1) / 2 : Nat) : Int) := by
        rw [Int.tdiv_eq_ediv_of_nonneg (by omega)]
        omega
      obtain ⟨q, hqq⟩ : ∃ q, (k - 1) / 2 = q := ⟨_, rfl⟩
      rw [hqq] at c1 hq
      have hqn : q < n := by omega
      have hqk : q < k := by omega
      obtain ⟨r, hr⟩ : ∃ r, ahd (atD D1 k) (atD D1 q) = r := ⟨_, rfl⟩
      rw [hr] at c1
      cases r with
      | true =>
        have HB : ∀ w5, Below wr.heap.size wr w5 → Hid (Calls Try.prog 36 #[ptr p, nun k, nun q] w5 fun e w' => e = .returned (.tuple #[]) ∧ Hid (Amid w w' p rb rc ab ac n m D (fun D' => Near D' q))) := fun w5 hb => by
          refine (swap_p (h1.below hb) k q hk (by omega)).mono ?_
          rintro e w' ⟨rfl, hl, hkp, _⟩
          have hkn : k < D1.length := by rw [h1.hn]; exact hk
          have hqn : q < D1.length := by omega
          refine ⟨rfl, _, _, hl, foot_trans (foot_below k1 hb) hkp, (swp_perm D1 k q hkn hqn).trans p1, ?_⟩
          have := n1.up h0 hkn (by rw [hqq]; exact hr)
          rwa [hqq] at this
        clear h1 k1 p1 n1 hr HA hqq
        go_wp2_with fail
        refine c1.out.mono ?_
        rintro e w5 ⟨rfl, hb5⟩
        have c2 := HB w5 hb5
        clear hb5 HB c1
        go_wp2_with fail
        refine c2.out.mono ?_
        rintro e w6 ⟨rfl, HA6⟩
        go_wp2
        go_roundw
        case rel => exact ⟨q, by go_num, hqn, HA6⟩
        case measure => simp [intOf]; omega
      | false =>
        have HE : ∀ w5, Below wr.heap.size wr w5 → Hid (Amid w w5 p rb rc ab ac n m D (fun D' => Snk D' k)) := fun w5 hb => by
          have hkn : k < D1.length := by rw [h1.hn]; exact hk
          exact ⟨D1, A1, h1.below hb, foot_below k1 hb, p1, n1.stay h1.rel.unl hkn (.inr (by rw [hqq]; exact hr))⟩
        clear h1 k1 p1 n1 hr HA hqq
        go_wp2_with fail
        refine c1.out.mono ?_
        rintro e w5 ⟨rfl, hb5⟩
        have HE5 := HE w5 hb5
        clear hb5 HE c1
        go_wp2
        go_ret
        exact ⟨k, rfl, hk, HE5.out⟩
    · have h0I : ¬ (0 : Int) < (k : Int) := by omega
      have HE : Hid (Amid w wr p rb rc ab ac n m D (fun D' => Snk D' k)) := by
        have hkn : k < D1.length := by rw [h1.hn]; exact hk
        exact ⟨D1, A1, h1, k1, p1, n1.stay h1.rel.unl hkn (.inl (by omega))⟩
      clear h1 k1 p1 n1 HA
      go_wp2
      go_ret
      exact ⟨k, rfl, hk, HE.out⟩

/-- Amid the search for the least below a: f is a, or one below it that is ahead of a, and of all below a that come ahead of k. -/
def Fst (D : List It) (a f k : Nat) : Prop := (f = a ∨ (0 < f ∧ f < D.length ∧ (f - 1) / 2 = a ∧ ahd (atD D f) (atD D a) = true)) ∧ ∀ c, 0 < c → c < D.length → (c - 1) / 2 = a → c < k → c = f ∨ (if f = a then ahd (atD D c) (atD D a) = false else ahd (atD D f) (atD D c) = true)

theorem Fst.start (D : List It) (a : Nat) : Fst D a a (2 * a + 1) := ⟨.inl rfl, fun c h0 hc hp hk => by omega⟩

theorem Fst.step {D : List It} {a f k : Nat} (h : Fst D a f k) (hu : Unl D) (hal : a < D.length) (hk0 : 2 * a + 1 ≤ k) (hk : k < D.length) (hk2 : k ≤ 2 * a + 2) : Fst D a (if ahd (atD D k) (atD D f) = true then k else f) (k + 1) := by
  have hp : (k - 1) / 2 = a := by omega
  obtain ⟨h1, h2⟩ := h
  by_cases hg : ahd (atD D k) (atD D f) = true
  · rw [if_pos hg]
    have hka : k ≠ a := by omega
    have hga : ahd (atD D k) (atD D a) = true := by
      rcases h1 with rfl | ⟨_, _, _, h4⟩
      · exact hg
      · exact ahd_trans hg h4
    refine ⟨.inr ⟨by omega, hk, hp, hga⟩, fun c h0 hc hcp hck => ?_⟩
    by_cases e : c = k
    · exact .inl e
    · refine .inr ?_
      rw [if_neg hka]
      rcases h2 c h0 hc hcp (by omega) with h3 | h3
      · rw [h3]
        exact hg
      · by_cases e2 : f = a
        · rw [if_pos e2] at h3
          have : ahd (atD D a) (atD D c) = true := ahd_total (hu.ne hc hal (by omega)) (by rw [h3]; simp)
          exact ahd_trans hga this
        · rw [if_neg e2] at h3
          exact ahd_trans hg h3
  · rw [if_neg hg]
    refine ⟨h1, fun c h0 hc hcp hck => ?_⟩
    by_cases e : c = k
    · subst e
      by_cases e2 : c = f
      · exact .inl e2
      · refine .inr ?_
        by_cases e3 : f = a
        · rw [if_pos e3, ← e3]
          simpa using hg
        · rw [if_neg e3]
          have hfl : f < D.length := by
            rcases h1 with h1 | ⟨_, h1, _⟩
            · exact absurd h1 e3
            · exact h1
          exact ahd_total (hu.ne hc hfl e2) (by simpa using hg)
    · exact h2 c h0 hc hcp (by omega)

theorem Fst.none {D : List It} {a k : Nat} (h : Fst D a a k) (hS : Snk D a) (hu : Unl D) (hal : a < D.length) (he : D.length ≤ k ∨ 2 * a + 2 < k) : Hpd D :=
  hS.done hu hal (fun c h0 hc hp => by
    rcases h.2 c h0 hc hp (by omega) with h3 | h3
    · omega
    · rw [if_pos rfl] at h3
      exact h3)

theorem Fst.some {D : List It} {a f k : Nat} (h : Fst D a f k) (hS : Snk D a) (hne : f ≠ a) (he : D.length ≤ k ∨ 2 * a + 2 < k) : f < D.length ∧ a < f ∧ Snk (swp D a f) f := by
  rcases h.1 with h1 | ⟨h0, hl, hp, hg⟩
  · exact absurd h1 hne
  · refine ⟨hl, by omega, hS.down h0 hl hp hg (fun c hc0 hc hcp hcf => ?_)⟩
    rcases h.2 c hc0 hc hcp (by omega) with h3 | h3
    · exact absurd h3 hcf
    · rw [if_neg hne] at h3
      exact h3

set_option maxRecDepth 100000 in
set_option maxHeartbeats 4000000 in
theorem sink_p {w : World} {p rb rc ab ac n m : Nat} {D : List It} {A : List Int} (h : Lay w p rb rc ab ac n m D A) (a : Nat) (ha : a < n) (hN : Snk D a) :
    Calls Try.prog 39 #[ptr p, nun a] w fun e w' => e = .returned (.tuple #[]) ∧ Amid w w' p rb rc ab ac n m D Hpd := by
  have HS : Hid (Amid w w p rb rc ab ac n m D (fun D' => Snk D' a)) := ⟨D, A, h, Keep.refl _ _, List.Perm.refl _, hN⟩
  have hn : n ≤ 65536 := h.few2
  have hcap := h.caps
  unfold maxLen at hcap
  have hrc : (rc : Int) ≤ 9223372036854775807 := by omega
  clear h hN hcap
  go_enter Try.func39, Try.ntmps39
  go_wp2
  go_loopw [1, 4, 5] (fun av fv bv wr => ∃ k : Nat, av = nun k ∧ k < n ∧ Hid (Amid w wr p rb rc ab ac n m D (fun D' => Snk D' k))) (fun av _ _ _ => n - (intOf av).toNat)
  case atStart => exact ⟨a, rfl, ha, HS⟩
  case round =>
    obtain ⟨k, rfl, hk, HA⟩ := hrel
    rename World => w1
    obtain ⟨D1, A1, h1, k1, p1, n1⟩ := HA.out
    have H1 := Hid.mk' h1
    have HK1 := Hid.mk' k1
    have HP1 := Hid.mk' p1
    have HN1 := Hid.mk' n1
    clear h1 k1 p1 n1 HA
    go_wp2
    go_loopw [4, 5] (fun fv bv wr => ∃ (f b : Nat), fv = nun f ∧ bv = nun b ∧ f < n ∧ 2 * k + 1 ≤ b ∧ b ≤ 2 * k + 3 ∧ Hid (Below w1.heap.size w1 wr ∧ Fst D1 k f b)) (fun _ bv _ => 2 * k + 3 - (intOf bv).toNat)
    case atStart => exact ⟨k, 2 * k + 1, rfl, by go_num, hk, by omega, by omega, Below.refl _ _, Fst.start _ _⟩
    case round =>
      obtain ⟨f, b, rfl, rfl, hf, hb1, hb2, HL⟩ := hrel
      have h2 := H1.out.below HL.out.1
      have q1 := h2.cells.2.1
      by_cases hlt : b ≤ 2 * k + 2
      · have hltI : (b : Int) ≤ 2 * (k : Int) + 2 := by omega
        by_cases hbn : b < n
        · have hbnI : (b : Int) < (n : Int) := by omega
          have c1 := Hid.mk' (isAhead_p h2 b f hbn hf)
          have hst := HL.out.2.step H1.out.rel.unl (by rw [H1.out.hn]; exact hk) hb1 (by rw [H1.out.hn]; exact hbn) hlt
          obtain ⟨r, hr⟩ : ∃ r, ahd (atD D1 b) (atD D1 f) = r := ⟨_, rfl⟩
          rw [hr] at c1 hst
          have HB := Hid.mk' HL.out.1
          clear h2 hr HL
          cases r with
          | true =>
            have HF : Hid (Fst D1 k b (b + 1)) := hst
            clear hst
            go_wp2_with fail
            refine c1.out.mono ?_
            rintro e w5 ⟨rfl, hb5⟩
            have HB5 : Hid (Below w1.heap.size w1 w5) := HB.out.trans (hb5.mono HB.out.size)
            clear hb5 c1
            go_wp2
            go_roundw
            case rel => exact ⟨b, b + 1, rfl, by go_num, hbn, by omega, by omega, HB5.out, HF.out⟩
            case measure => simp [intOf]; omega
          | false =>
            have HF : Hid (Fst D1 k f (b + 1)) := by
              show Fst D1 k f (b + 1)
              simpa using hst
            clear hst
            go_wp2_with fail
            refine c1.out.mono ?_
            rintro e w5 ⟨rfl, hb5⟩
            have HB5 : Hid (Below w1.heap.size w1 w5) := HB.out.trans (hb5.mono HB.out.size)
            clear hb5 c1
            go_wp2
            go_roundw
            case rel => exact ⟨f, b + 1, rfl, by go_num, hf, by omega, by omega, HB5.out, HF.out⟩
            case measure => simp [intOf]; omega
        · have hbnI : ¬ (b : Int) < (n : Int) := by omega
          have hend : D1.length ≤ b ∨ 2 * k + 2 < b := .inl (by rw [H1.out.hn]; omega)
          have HEND := Hid.mk' hend
          clear hend
          by_cases hfk : f = k
          · subst hfk
            have hb : ((f : Int) == (f : Int)) = true := by simp
            have HE : Hid (Amid w wr p rb rc ab ac n m D Hpd) := ⟨D1, A1, h2, foot_below HK1.out HL.out.1, HP1.out, HL.out.2.none HN1.out H1.out.rel.unl (by rw [H1.out.hn]; exact hk) HEND.out⟩
            clear h2 HL
            go_wp2
            (try simp only [Exit.inBlock, Exit.then])
            refine bodyPost_ret (results_none rfl _ _ _) rfl ?_
            exact ⟨rfl, HE.out⟩
          · have hb : ((f : Int) == (k : Int)) = false := by
              simp only [beq_eq_false_iff_ne]
              omega
            have hsm := HL.out.2.some HN1.out hfk HEND.out
            have hkf : k < f := hsm.2.1
            have HC : Hid (Calls Try.prog 36 #[ptr p, nun k, nun f] wr fun e w' => e = .returned (.tuple #[]) ∧ Hid (Amid w w' p rb rc ab ac n m D (fun D' => Snk D' f))) := by
              refine (swap_p h2 k f hk hf).mono ?_
              rintro e w' ⟨rfl, hl, hkp, _⟩
              exact ⟨rfl, _, _, hl, foot_trans (foot_below HK1.out HL.out.1) hkp, (swp_perm D1 k f (by rw [H1.out.hn]; exact hk) (by rw [H1.out.hn]; exact hf)).trans HP1.out, hsm.2.2⟩
            clear h2 HL hsm
            go_wp2_with fail
            refine HC.out.mono ?_
            rintro e w6 ⟨rfl, HA6⟩
            go_wp2
            go_roundw
            case rel => exact ⟨f, rfl, hf, HA6⟩
            case measure => simp [intOf]; omega
      · have hltI : ¬ (b : Int) ≤ 2 * (k : Int) + 2 := by omega
        have hend : D1.length ≤ b ∨ 2 * k + 2 < b := .inr (by omega)
        have HEND := Hid.mk' hend
        clear hend
        by_cases hfk : f = k
        · subst hfk
          have hb : ((f : Int) == (f : Int)) = true := by simp
          have HE : Hid (Amid w wr p rb rc ab ac n m D Hpd) := ⟨D1, A1, h2, foot_below HK1.out HL.out.1, HP1.out, HL.out.2.none HN1.out H1.out.rel.unl (by rw [H1.out.hn]; exact hk) HEND.out⟩
          clear h2 HL
          go_wp2
          (try simp only [Exit.inBlock, Exit.then])
          refine bodyPost_ret (results_none rfl _ _ _) rfl ?_
          exact ⟨rfl, HE.out⟩
        · have hb : ((f : Int) == (k : Int)) = false := by
              simp only [beq_eq_false_iff_ne]
              omega
          have hsm := HL.out.2.some HN1.out hfk HEND.out
          have hkf : k < f := hsm.2.1
          have HC : Hid (Calls Try.prog 36 #[ptr p, nun k, nun f] wr fun e w' => e = .returned (.tuple #[]) ∧ Hid (Amid w w' p rb rc ab ac n m D (fun D' => Snk D' f))) := by
            refine (swap_p h2 k f hk hf).mono ?_
            rintro e w' ⟨rfl, hl, hkp, _⟩
            exact ⟨rfl, _, _, hl, foot_trans (foot_below HK1.out HL.out.1) hkp, (swp_perm D1 k f (by rw [H1.out.hn]; exact hk) (by rw [H1.out.hn]; exact hf)).trans HP1.out, hsm.2.2⟩
          clear h2 HL hsm
          go_wp2_with fail
          refine HC.out.mono ?_
          rintro e w6 ⟨rfl, HA6⟩
          go_wp2
          go_roundw
          case rel => exact ⟨f, rfl, hf, HA6⟩
          case measure => simp [intOf]; omega

set_option maxRecDepth 100000 in
theorem settle_p {w : World} {p rb rc ab ac n m : Nat} {D : List It} {A : List Int} (h : Lay w p rb rc ab ac n m D A) (a : Nat) (ha : a < n) (hN : Near D a) :
    Calls Try.prog 35 #[ptr p, nun a] w fun e w' => e = .returned (.tuple #[]) ∧ Amid w w' p rb rc ab ac n m D Hpd := by
  have c1 := Hid.mk' (rise_p h a ha hN)
  clear h hN
  go_enter Try.func35, Try.ntmps35
  go_wp2_with fail
  refine c1.out.mono ?_
  rintro e w1 ⟨k, rfl, hk, D1, A1, h1, k1, p1, n1⟩
  have c2 := Hid.mk' (sink_p h1 k hk n1)
  have HK := Hid.mk' k1
  have HP := Hid.mk' p1
  clear h1 k1 p1 n1 c1
  go_wp2_with fail
  refine c2.out.mono ?_
  rintro e w2 ⟨rfl, D2, A2, h2, k2, p2, n2⟩
  have HE : Hid (Amid w w2 p rb rc ab ac n m D Hpd) := ⟨D2, A2, h2, foot_trans HK.out k2, p2.trans HP.out, n2⟩
  clear h2 k2 p2 n2 c2
  go_wp2
  go_end0
  exact ⟨rfl, HE.out⟩
end Hq
end Go.Proofs.Ythjdpfmnbmnbhaa
