/- The document's answer for Parse. -/
import Derived.Test.YtmgddocninihoaaDoorRefW
namespace Go.Proofs.YtmgddocninihoaaDoor
set_option linter.ambiguousOpen false
open Go.RowKit Nm Er
namespace Sc
set_option linter.unusedSimpArgs false
set_option linter.unusedVariables false

theorem drop_at {t : List UInt8} {k : Nat} (h : k < t.length) : t.drop k = t[k] :: t.drop (k + 1) := List.drop_eq_getElem_cons h
theorem words_blank {t : List UInt8} {k : Nat} (h : k < t.length) (hk : t[k] = 32) : wordsL k (t.drop k) = wordsL (k + 1) (t.drop (k + 1)) := by
  rw [drop_at h, hk, wordsL_step k _ (by simp)]
  simp [hb]
theorem words_done {t : List UInt8} {k : Nat} (h : t.length ≤ k) : wordsL k (t.drop k) = [] := by
  rw [List.drop_eq_nil_of_le h, wordsL_nil]
theorem hb_take {t : List UInt8} {k e : Nat} (hke : k ≤ e) (he : e ≤ t.length) (hno : ∀ j (hj : j < t.length), k ≤ j → j < e → t[j] ≠ 32) (hend : e = t.length ∨ ∃ h : e < t.length, t[e] = 32) : hb (t.drop k) = (t.drop k).take (e - k) := by
  have hall : ∀ x ∈ (t.drop k).take (e - k), (x != 32) = true := fun x hx => by
    obtain ⟨j, hj, rfl⟩ := List.getElem_of_mem hx
    rw [List.length_take, List.length_drop] at hj
    have := hno (k + j) (by omega) (by omega) (by omega)
    simp only [List.getElem_take, List.getElem_drop]
    simpa using this
  have e1 : t.drop k = (t.drop k).take (e - k) ++ t.drop e := by
    have := (List.take_append_drop (e - k) (t.drop k)).symm
    rw [List.drop_drop, show k + (e - k) = e by omega] at this
    exact this
  have e2 : hb (t.drop k) = hb ((t.drop k).take (e - k) ++ t.drop e) := by rw [← e1]
  rw [e2]
  unfold hb
  rw [List.takeWhile_append_of_pos hall]
  rcases hend with rfl | ⟨h1, h2⟩
  · simp
  · rw [drop_at h1, h2]; simp

theorem words_word {t : List UInt8} {k e : Nat} (hke : k < e) (he : e ≤ t.length) (hno : ∀ j (hj : j < t.length), k ≤ j → j < e → t[j] ≠ 32) (hend : e = t.length ∨ ∃ h : e < t.length, t[e] = 32) :
    wordsL k (t.drop k) = (k, (t.drop k).take (e - k)) :: wordsL e (t.drop e) := by
  have hne : t.drop k ≠ [] := by
    intro e0
    have := congrArg List.length e0
    rw [List.length_drop] at this; simp at this; omega
  have hh := hb_take (by omega) he hno hend
  have hlen : (hb (t.drop k)).length = e - k := by rw [hh, List.length_take, List.length_drop]; omega
  have hnz : hb (t.drop k) ≠ [] := by intro e0; rw [e0] at hlen; simp at hlen; omega
  rw [wordsL_step k _ hne, if_neg hnz, hlen, hh, List.drop_drop, show k + (e - k) + 1 = e + 1 by omega, show k + (e - k + 1) = e + 1 by omega]
  show _ :: wordsL (e + 1) (t.drop (e + 1)) = _
  congr 1
  rcases hend with rfl | ⟨h1, h2⟩
  · rw [words_done (Nat.le_refl _), words_done (by omega)]
  · rw [words_blank h1 h2]

theorem rparse_long (v : Value) (l : List (List UInt8)) (t : List UInt8) (w : World) (ht : 4096 < t.length) (hm : t.length ≤ maxLen) :
    Calls Tryd.prog 19 #[v, .string (B t)] w fun e w' => e = .returned (.tuple #[Bt.st 0, .int .i64 3, .int .i64 (-1)]) ∧ w' = w := by
  have hsz : (B t).size = t.length := rfl
  unfold maxLen at hm
  go_enter Tryd.func19, Tryd.ntmps19
  go_wp2
  go_ret3
  exact ⟨rfl, rfl⟩

/-- The place that the document's Parse tells. -/
def placeV (no k : Nat) : Int := if no = 0 then -1 else (k : Int)

theorem byte_eq {t : List UInt8} {k : Nat} (hk : k < (B t).size) (hk2 : k < t.length) : ((((B t)[k]'hk).toNat : Int) == 32) = decide (t[k] = 32) := by
  have e : (B t)[k]'hk = t[k] := rfl
  rw [e]
  by_cases h : t[k] = 32
  · rw [h]; rfl
  · rw [decide_eq_false h, beq_eq_false_iff_ne]
    intro e2
    exact h (UInt8.toNat_inj.1 (by have e3 : (t[k]).toNat = 32 := by omega
                                   exact e3))

set_option maxRecDepth 100000 in
set_option maxHeartbeats 1000000 in
theorem rparse_s (v : Value) (l : List (List UInt8)) (t : List UInt8) (w : World) (hR : Rd w v l) (h64 : l.length ≤ 64) (hdl : ∀ p ∈ l, dottedB p = true) (ht : t.length ≤ 4096) :
    Calls Tryd.prog 19 #[v, .string (B t)] w fun e w' => e = .returned (.tuple #[Bt.st (parseG l 0 (wordsL 0 t)).1, .int .i64 (parseG l 0 (wordsL 0 t)).2.1, .int .i64 (placeV (parseG l 0 (wordsL 0 t)).2.1 (parseG l 0 (wordsL 0 t)).2.2)]) ∧ Below w.heap.size w w' := by
  have CW : Hid (∀ (h : List UInt8) (w1 : World), h.length ≤ 4096 → Below w.heap.size w w1 → Calls Tryd.prog 36 #[v, .string (B h)] w1 fun e w' => e = .returned (.tuple #[Bt.st (readG l h).1, .int .i64 (readG l h).2]) ∧ Below w1.heap.size w1 w') := fun h w1 hh hb => rword_s v l h w1 (hR.below hb) h64 hh hdl
  have HRL : Hid (∀ h, (readG l h).1 < 18446744073709551616) := fun h => readG_lt l h h64
  have hsz : (B t).size = t.length := rfl
  clear hR hdl
  go_enter Tryd.func19, Tryd.ntmps19
  go_wp2
  go_loopw [7, 8] (fun sv i wr => ∃ s k : Nat, k ≤ t.length ∧ i = .int .i64 k ∧ sv = Bt.st s ∧ s < 18446744073709551616 ∧ Below w.heap.size w wr ∧ Hid (parseG l s (wordsL k (t.drop k)) = parseG l 0 (wordsL 0 t))) (fun _ i _ => t.length - (intOf i).toNat)
  case atStart => exact ⟨0, 0, Nat.zero_le _, rfl, rfl, by decide, Below.refl _ _, rfl⟩
  case round =>
    obtain ⟨s, k, hk, rfl, rfl, hs, hb, hP⟩ := hrel
    by_cases hp : k < t.length
    · have hbe := byte_eq (t := t) (k := k) hp hp
      by_cases h32 : t[k] = 32
      · rw [decide_eq_true h32] at hbe
        have HP2 : Hid (parseG l s (wordsL (k + 1) (t.drop (k + 1))) = parseG l 0 (wordsL 0 t)) := by
          show _ = _
          rw [← hP.out, words_blank hp h32]
        clear h32 hP
        go_wp2
        go_roundw
        case rel => exact ⟨s, k + 1, by omega, by go_num, rfl, hs, hb, HP2⟩
        case measure => simp [intOf]; omega
      · rw [decide_eq_false h32] at hbe
        have H32 : Hid (t[k] ≠ 32) := h32
        clear h32
        go_wp2
        rename World => wOld
        have hbk := hb
        go_loopw [9] (fun ev wr => ∃ e : Nat, k ≤ e ∧ e ≤ t.length ∧ ev = .int .i64 e ∧ Below w.heap.size w wr ∧ Hid (∀ j (hj : j < t.length), k ≤ j → j < e → t[j] ≠ 32)) (fun ev _ => t.length - (intOf ev).toNat)
        case atStart => exact ⟨k, Nat.le_refl _, hk, rfl, hbk, fun j hj h1 h2 => by omega⟩
        case round =>
          obtain ⟨e, hke, hel, rfl, hb2, hno⟩ := hrel
          by_cases hgo : ∃ h : e < t.length, t[e] ≠ 32
          · obtain ⟨hlt, hne⟩ := hgo
            have hb3 := byte_eq (t := t) (k := e) hlt hlt
            rw [decide_eq_false hne] at hb3
            have hb4 : ((((B t)[e]'hlt).toNat : Int) != 32) = true := by unfold bne; rw [hb3]; rfl
            have HNE : Hid (t[e] ≠ 32) := hne
            clear hne hb3
            go_wp2
            go_roundw
            case rel =>
              refine ⟨e + 1, by omega, by omega, by go_num, hb2, fun j hj h1 h2 => ?_⟩
              rcases Nat.lt_or_ge j e with h' | h'
              · exact hno.out j hj h1 h'
              · obtain rfl : j = e := by omega
                exact HNE.out
            case measure => simp [intOf]; omega
          · have hend : e = t.length ∨ ∃ h : e < t.length, t[e] = 32 := by
              rcases Nat.lt_or_ge e t.length with h | h
              · right
                refine ⟨h, ?_⟩
                by_cases h3 : t[e] = 32
                · exact h3
                · exact absurd ⟨h, h3⟩ hgo
              · exact .inl (by omega)
            have hke2 : k < e := by
              rcases Nat.lt_or_ge k e with h | h
              · exact h
              · obtain rfl : e = k := by omega
                rcases hend with h' | ⟨_, h'⟩
                · omega
                · exact absurd h' H32.out
            have hww := words_word hke2 hel hno.out hend
            have hx : (B t).extract k e = B ((t.drop k).take (e - k)) := extract_mid t k e
            have hwl : ((t.drop k).take (e - k)).length ≤ 4096 := by rw [List.length_take, List.length_drop]; omega
            have hpg : parseG l s ((k, (t.drop k).take (e - k)) :: wordsL e (t.drop e)) = parseG l 0 (wordsL 0 t) := by
              rw [← hww]; exact hP.out
            simp only [parseG] at hpg
            have cw := CW.out ((t.drop k).take (e - k)) wr hwl hb2
            have hxl := HRL.out ((t.drop k).take (e - k))
            have hstop : Hid (e = t.length ∨ ∃ h : e < t.length, ((((B t)[e]'h).toNat : Int) != 32) = false) := by
              rcases hend with h' | ⟨h', h''⟩
              · exact .inl h'
              · refine .inr ⟨h', ?_⟩
                have h3 := byte_eq (t := t) (k := e) h' h'
                rw [decide_eq_true h''] at h3
                unfold bne; rw [h3]; rfl
            clear hww hP hend hgo hno H32
            generalize (t.drop k).take (e - k) = wd at *
            generalize readG l wd = r at cw hpg hxl
            obtain ⟨x, no⟩ := r
            dsimp only at cw hpg hxl
            by_cases hz : no = 0
            · subst hz
              have HPG : Hid (parseG l (s ||| x) (wordsL e (t.drop e)) = parseG l 0 (wordsL 0 t)) := by
                show _ = _
                rw [← hpg]; simp
              clear hpg
              have ko := u64_or_nat s x hs hxl
              rcases hstop.out with rfl | ⟨h', h''⟩
              · clear hstop
                go_wp2_with (first | (simp only [hx]) | fail)
                refine cw.mono ?_
                rintro ee w3 ⟨rfl, hb3⟩
                go_wp2_with (first | (simp only [ko]) | fail)
                go_roundw
                case rel => exact ⟨s ||| x, _, hel, rfl, rfl, Nat.or_lt_two_pow (n := 64) hs hxl, hb2.trans (hb3.mono hb2.size), HPG⟩
                case measure => simp [intOf]; omega
              · clear hstop
                go_wp2_with (first | (simp only [hx]) | fail)
                refine cw.mono ?_
                rintro ee w3 ⟨rfl, hb3⟩
                go_wp2_with (first | (simp only [ko]) | fail)
                go_roundw
                case rel => exact ⟨s ||| x, _, hel, rfl, rfl, Nat.or_lt_two_pow (n := 64) hs hxl, hb2.trans (hb3.mono hb2.size), HPG⟩
                case measure => simp [intOf]; omega
            · have HPG : Hid ((0, no, k) = parseG l 0 (wordsL 0 t)) := by
                show _ = _
                rw [← hpg, if_neg hz]
              clear hpg
              have hzi : ((no : Int) != 0) = true := by rw [bne_iff_ne]; omega
              rcases hstop.out with rfl | ⟨h', h''⟩
              · clear hstop
                go_wp2_with (first | (simp only [hx]) | fail)
                refine cw.mono ?_
                rintro ee w3 ⟨rfl, hb3⟩
                go_wp2
                go_ret3
                rw [← HPG.out]
                exact ⟨by simp [placeV, hz], hb2.trans (hb3.mono hb2.size)⟩
              · clear hstop
                go_wp2_with (first | (simp only [hx]) | fail)
                refine cw.mono ?_
                rintro ee w3 ⟨rfl, hb3⟩
                go_wp2
                go_ret3
                rw [← HPG.out]
                exact ⟨by simp [placeV, hz], hb2.trans (hb3.mono hb2.size)⟩
    · obtain rfl : k = t.length := by omega
      have hP2 : Hid (parseG l 0 (wordsL 0 t) = (s, 0, 0)) := by
        show _ = _
        rw [← hP.out, words_done (Nat.le_refl _)]; rfl
      go_wp2
      go_ret3
      rw [hP2.out]
      exact ⟨rfl, hb⟩
end Sc
end Go.Proofs.YtmgddocninihoaaDoor
