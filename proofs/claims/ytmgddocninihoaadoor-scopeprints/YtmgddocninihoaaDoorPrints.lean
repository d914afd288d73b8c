/- The walk of ScopePrints. -/
import Derived.Test.YtmgddocninihoaaDoorRefN
import Derived.Test.YtmgddocninihoaaDoorPlace
namespace Go.Proofs.YtmgddocninihoaaDoor
set_option linter.ambiguousOpen false
open Go.RowKit Nm Er
namespace Sc
set_option linter.unusedSimpArgs false
set_option linter.unusedVariables false

set_option maxRecDepth 1000000 in
set_option maxHeartbeats 4000000 in
theorem scopePrints_walk (v : Value) (l : List (List UInt8)) (s : Nat) (w : World) (hR : Rd w v l) (hlen : ∀ p ∈ l, p.length ≤ maxLen) (hs : s < 18446744073709551616) (hT : Bt.Tab w) (h1 : 1 < w.heap.size) (hE : Handle w) :
    Calls Tryd.prog 5 #[v, Bt.st s] w fun e w' => e = .returned (.bool true) ∧ Below w.heap.size w w' := by
  have HLEN : Hid (∀ p ∈ l, p.length ≤ maxLen) := hlen
  clear hlen
  by_cases hl : 64 < l.length
  · go_enter Tryd.func5, Tryd.ntmps5
    go_wp2_with fail
    refine (rnew_many v l w hR hl).mono ?_
    rintro e w1 ⟨rfl, hq⟩
    subst w1
    go_wp2
    go_ret
    exact ⟨rfl, Below.refl _ _⟩
  go_enter Tryd.func5, Tryd.ntmps5
  go_wp2_with fail
  refine (rnew_any v l w hR (by omega) HLEN.out).mono ?_
  rintro e w1 ⟨rfl, hb1⟩
  cases hg : newG [] l with
  | some nk =>
    obtain ⟨n, k⟩ := nk
    have hn := (newG_num l [] n k hg).1
    have e1 : newV l = ((n : Int), (k : Int)) := by unfold newV; rw [hg]
    rw [e1]
    have hz : ((n : Int) != 0) = true := by rw [bne_iff_ne]; omega
    clear hg hn
    go_wp2
    go_ret
    exact ⟨rfl, hb1⟩
  | none =>
    have e1 : newV l = (0, -1) := by unfold newV; rw [hg]
    rw [e1]
    go_wp2_with fail
    refine (new_any v l w1 (hR.below hb1) (by omega) HLEN.out).mono ?_
    rintro e w2 ⟨hb2, ⟨_, pb, mb, _, _, rfl, hM⟩ | ⟨n, k, h, _⟩⟩
    rotate_left
    · rw [hg] at h; cases h
    have hB2 := hb1.trans (hb2.mono hb1.size)
    have h64 := hM.most
    obtain ⟨hnd, hdt⟩ := hM.facts
    obtain ⟨hT2, h12⟩ := tab_below hT h1 hB2
    by_cases hw : Bt.less s (allS l.length) = 0
    · have c1 := rprint_s v l s w2 ((hR.below hb1).below hb2) h64 hs hw hdt
      have c2 := print_s pb mb l s w2 hM hs hw hT2 h12
      have hsz : ((B (printL l s)).toList == (B (printL l s)).toList) = true := by simp
      generalize B (printL l s) = pt at *
      clear hnd hdt
      go_wp2_with fail
      refine c1.mono ?_
      rintro e w3 ⟨rfl, hq⟩
      subst w3
      go_wp2_with fail
      refine c2.mono ?_
      rintro e w3 ⟨rfl, hb3⟩
      have hB3 := hB2.trans (hb3.mono hB2.size)
      go_wp2_with fail
      refine (plain_nil 0 w3).mono ?_
      rintro e w4 ⟨rfl, hb4⟩
      go_wp2
      go_ret
      exact ⟨rfl, hB3.trans (hb4.mono hB3.size)⟩
    · have c1 := rprint_bad v l s w2 ((hR.below hb1).below hb2) h64 hs hw
      have c2 := print_bad pb mb l s w2 hM hs hw
      clear hnd hdt
      have c3 : Hid (∀ w3, Handle w3 → Calls Tryd.prog 23 #[noV 11, .int .i64 11] w3 fun e w' => e = .returned (.bool true) ∧ Below w3.heap.size w3 w') := fun w3 h3 => (plain_no 11 11 (by decide) (by decide) w3 h3)
      unfold noV at c2 c3
      go_wp2_with fail
      refine c1.mono ?_
      rintro e w3 ⟨rfl, hq⟩
      subst w3
      go_wp2_with fail
      refine c2.mono ?_
      rintro e w3 ⟨rfl, hq⟩
      subst w3
      go_wp2_with fail
      refine (c3.out _ (hE.below hB2)).mono ?_
      rintro e w4 ⟨rfl, hb4⟩
      go_wp2
      go_ret
      exact ⟨rfl, hB2.trans (hb4.mono hB2.size)⟩
end Sc
end Go.Proofs.YtmgddocninihoaaDoor
