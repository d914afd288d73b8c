/- The walk of ScopeBack. -/
import Derived.Test.YtmgddocninihoaaDoorWorks
namespace Go.Proofs.YtmgddocninihoaaDoor
set_option linter.ambiguousOpen false
open Go.RowKit Nm Er
namespace Sc
set_option linter.unusedSimpArgs false
set_option linter.unusedVariables false

theorem Mp.facts {w : World} {pb mb : Nat} {l : List (List UInt8)} (h : Mp w pb mb l) : l.Nodup ∧ (∀ p ∈ l, dottedB p = true) := by obtain ⟨_, ⟨D, hD, _⟩, _⟩ := h; exact ⟨hD.nodup, hD.dotted⟩
theorem tab_below {w w' : World} (hT : Bt.Tab w) (h1 : 1 < w.heap.size) (hb : Below w.heap.size w w') : Bt.Tab w' ∧ 1 < w'.heap.size :=
  ⟨fun j hj => (hb.cell (p := ⟨1, j, none⟩) h1).trans (hT j hj), Nat.lt_of_lt_of_le h1 hb.size⟩
theorem print_len {l : List (List UInt8)} (hd : ∀ p ∈ l, dottedB p = true) (s : Nat) : (printL l s).length ≤ 8448 := by
  have h1 := outP_len l (fun p hp => dotted_len (hd p hp)) (Bt.numsL s 64)
  have h2 := Bt.ones_le s
  rw [Bt.numsL_len] at h1
  unfold printL
  omega

/-- Parse of any text. -/
def parseT (l : List (List UInt8)) (t : List UInt8) : Nat × Value := if 4096 < t.length then (0, noV 3) else ((parseG l 0 (wordsL 0 t)).1, errP (parseG l 0 (wordsL 0 t)).2.1 (parseG l 0 (wordsL 0 t)).2.2)
theorem parse_t (pb mb : Nat) (l : List (List UInt8)) (t : List UInt8) (w : World) (hM : Mp w pb mb l) (hm : t.length ≤ maxLen) :
    Calls Tryd.prog 20 #[.pointer (some ⟨pb, 0, none⟩), .string (B t)] w fun e w' => e = .returned (.tuple #[Bt.st (parseT l t).1, (parseT l t).2]) ∧ Below w.heap.size w w' := by
  unfold parseT
  by_cases h : 4096 < t.length
  · rw [if_pos h]; exact parse_long pb mb l t w hM h hm
  · rw [if_neg h]; exact parse_s pb mb l t w hM (by omega)
/-- An answer of Parse: an error and the empty set, or none and a set of the book's. -/
theorem parseT_cases (l : List (List UInt8)) (t : List UInt8) (h64 : l.length ≤ 64) : (∃ ty v, parseT l t = (0, .iface ty v)) ∨ ∃ x, parseT l t = (x, .nilIface) ∧ x < 18446744073709551616 ∧ Bt.less x (allS l.length) = 0 := by
  unfold parseT
  split
  · exact .inl ⟨_, _, rfl⟩
  · have h2 := parse_within l h64 (wordsL 0 t)
    have h3 := parseG_lt l h64 (wordsL 0 t) 0 (by decide)
    rcases parseG_no l (wordsL 0 t) 0 with h | ⟨h, h4 | h4⟩
    · refine .inr ⟨_, ?_, h3, h2⟩
      rw [h]; rfl
    · refine .inl ⟨_, _, by rw [h, h4]; rfl⟩
    · refine .inl ⟨_, _, by rw [h, h4]; rfl⟩
theorem parseT_print {l : List (List UInt8)} (hn : l.Nodup) (hd : ∀ p ∈ l, dottedB p = true) (h64 : l.length ≤ 64) (s : Nat) (hs : s < 18446744073709551616) (hw : Bt.less s (allS l.length) = 0) (h : (printL l s).length ≤ 4096) : parseT l (printL l s) = (s, .nilIface) := by
  unfold parseT
  rw [if_neg (by omega), parse_print hn hd h64 s hs hw]
  rfl

set_option maxRecDepth 1000000 in
set_option maxHeartbeats 8000000 in
theorem scopeBack_walk (v : Value) (l : List (List UInt8)) (s : Nat) (t : List UInt8) (w : World) (hR : Rd w v l) (hlen : ∀ p ∈ l, p.length ≤ maxLen) (hs : s < 18446744073709551616) (ht : t.length ≤ maxLen) (hT : Bt.Tab w) (h1 : 1 < w.heap.size) :
    Calls Tryd.prog 6 #[v, Bt.st s, .string (B t)] w fun e w' => e = .returned (.bool true) ∧ Below w.heap.size w w' := by
  have HLEN : Hid (∀ p ∈ l, p.length ≤ maxLen) := hlen
  clear hlen
  go_enter Tryd.func6, Tryd.ntmps6
  go_wp2_with fail
  refine (works_any w hT h1).mono ?_
  rintro e w1 ⟨rfl, hb1⟩
  go_wp2_with fail
  by_cases hl : 64 < l.length
  · refine (new_many v l w1 (hR.below hb1) hl).mono ?_
    rintro e w2 ⟨rfl, rfl⟩
    unfold noV
    go_wp2
    go_ret
    exact ⟨rfl, hb1⟩
  refine (new_any v l w1 (hR.below hb1) (by omega) HLEN.out).mono ?_
  rintro e w2 ⟨hb2, ⟨_, pb, mb, _, _, rfl, hM⟩ | ⟨n, k, _, rfl⟩⟩
  rotate_left
  · unfold atV
    go_wp2
    go_ret
    exact ⟨rfl, hb1.trans (hb2.mono hb1.size)⟩
  have hB2 := hb1.trans (hb2.mono hb1.size)
  clear hb2 hb1 hl
  have h64 := hM.most
  obtain ⟨hnd, hdt⟩ := hM.facts
  have HND : Hid (l.Nodup) := hnd
  have HDT : Hid (∀ p ∈ l, dottedB p = true) := hdt
  clear hnd hdt
  obtain ⟨hT2, h12⟩ := tab_below hT h1 hB2
  have hall := allS_lt l.length h64
  go_wp2_with fail
  by_cases hw : Bt.less s (allS l.length) = 0
  · refine (print_s pb mb l s w2 hM hs hw hT2 h12).mono ?_
    rintro e w3 ⟨rfl, hb3⟩
    have hM3 := hM.kept hb3
    have hB3 := hB2.trans (hb3.mono hB2.size)
    have hpl := print_len HDT.out s
    go_wp2_with fail
    refine (parse_t pb mb l _ w3 hM3 (by unfold maxLen; omega)).mono ?_
    rintro e w4 ⟨rfl, hb4⟩
    have hM4 := hM3.kept hb4
    have hB4 := hB3.trans (hb4.mono hB3.size)
    by_cases hsh : (printL l s).length ≤ 4096
    · rw [parseT_print HND.out HDT.out h64 s hs hw hsh]
      have hsz : (B (printL l s)).size = (printL l s).length := rfl
      have hss : ((s : Int) != (s : Int)) = false := by simp
      generalize B (printL l s) = pt at *
      go_wp2_with fail
      refine (parse_t pb mb l t w4 hM4 ht).mono ?_
      rintro e w5 ⟨rfl, hb5⟩
      have hM5 := hM4.kept hb5
      have hB5 := hB4.trans (hb5.mono hB4.size)
      obtain ⟨hT5, h15⟩ := tab_below hT h1 hB5
      rcases parseT_cases l t h64 with ⟨ty, vv, e5⟩ | ⟨x, e5, hx, hxw⟩
      · rw [e5]
        go_wp2
        go_ret
        exact ⟨rfl, hB5⟩
      rw [e5]
      go_wp2_with fail
      refine (print_s pb mb l x w5 hM5 hx hxw hT5 h15).mono ?_
      rintro e w6 ⟨rfl, hb6⟩
      have hM6 := hM5.kept hb6
      have hB6 := hB5.trans (hb6.mono hB5.size)
      have kx := u64_andNot_nat x (allS l.length) hx hall
      have hxz : x &&& (18446744073709551615 - allS l.length) = 0 := hxw
      have hxn : (((x &&& (18446744073709551615 - allS l.length) : Nat) : Int) != 0) = false := by rw [hxz]; rfl
      clear hxz
      go_wp2_with fail
      refine (all_s pb mb l w6 hM6).mono ?_
      rintro e w7 ⟨rfl, hq⟩
      subst w7
      have hul := print_len HDT.out x
      have husz : (B (printL l x)).size = (printL l x).length := rfl
      by_cases hu : (printL l x).length ≤ 4096
      · have cp := parse_t pb mb l (printL l x) w6 hM6 (by unfold maxLen; omega)
        rw [parseT_print HND.out HDT.out h64 x hx hxw hu] at cp
        have CQ : Hid (∀ w8, Below w6.heap.size w6 w8 → Calls Tryd.prog 22 #[.pointer (some ⟨pb, 0, none⟩), Bt.st x] w8 fun e w' => e = .returned (.tuple #[.string (B (printL l x)), .nilIface]) ∧ Below w8.heap.size w8 w') := fun w8 h8 => by
          obtain ⟨hT8, h18⟩ := tab_below hT h1 (hB6.trans (h8.mono hB6.size))
          exact print_s pb mb l x w8 (hM6.kept h8) hx hxw hT8 h18
        generalize hU : B (printL l x) = U at *
        generalize (printL l x).length = L at *
        clear hU
        go_wp2_with (first | (simp only [kx]) | fail)
        refine cp.mono ?_
        rintro e w8 ⟨rfl, hb8⟩
        go_wp2_with fail
        refine (CQ.out _ hb8).mono ?_
        rintro e w9 ⟨rfl, hb9⟩
        have hB8 := hB6.trans (hb8.mono hB6.size)
        go_wp2
        go_ret
        exact ⟨rfl, hB8.trans (hb9.mono hB8.size)⟩
      · generalize B (printL l x) = U at *
        generalize (printL l x).length = L at *
        go_wp2_with (first | (simp only [kx]) | fail)
        go_ret
        exact ⟨rfl, hB6⟩
    · have hsz : (B (printL l s)).size = (printL l s).length := rfl
      have hlong : ¬ (printL l s).length ≤ 4096 := hsh
      have e9 : parseT l (printL l s) = (0, noV 3) := by unfold parseT; rw [if_pos (by omega)]
      rw [e9]
      unfold noV
      generalize B (printL l s) = pt at *
      go_wp2_with fail
      refine (parse_t pb mb l t w4 hM4 ht).mono ?_
      rintro e w5 ⟨rfl, hb5⟩
      have hM5 := hM4.kept hb5
      have hB5 := hB4.trans (hb5.mono hB4.size)
      obtain ⟨hT5, h15⟩ := tab_below hT h1 hB5
      rcases parseT_cases l t h64 with ⟨ty, vv, e5⟩ | ⟨x, e5, hx, hxw⟩
      · rw [e5]
        go_wp2
        go_ret
        exact ⟨rfl, hB5⟩
      rw [e5]
      go_wp2_with fail
      refine (print_s pb mb l x w5 hM5 hx hxw hT5 h15).mono ?_
      rintro e w6 ⟨rfl, hb6⟩
      have hM6 := hM5.kept hb6
      have hB6 := hB5.trans (hb6.mono hB5.size)
      have kx := u64_andNot_nat x (allS l.length) hx hall
      have hxz : x &&& (18446744073709551615 - allS l.length) = 0 := hxw
      have hxn : (((x &&& (18446744073709551615 - allS l.length) : Nat) : Int) != 0) = false := by rw [hxz]; rfl
      clear hxz
      go_wp2_with fail
      refine (all_s pb mb l w6 hM6).mono ?_
      rintro e w7 ⟨rfl, hq⟩
      subst w7
      have hul := print_len HDT.out x
      have husz : (B (printL l x)).size = (printL l x).length := rfl
      by_cases hu : (printL l x).length ≤ 4096
      · have cp := parse_t pb mb l (printL l x) w6 hM6 (by unfold maxLen; omega)
        rw [parseT_print HND.out HDT.out h64 x hx hxw hu] at cp
        have CQ : Hid (∀ w8, Below w6.heap.size w6 w8 → Calls Tryd.prog 22 #[.pointer (some ⟨pb, 0, none⟩), Bt.st x] w8 fun e w' => e = .returned (.tuple #[.string (B (printL l x)), .nilIface]) ∧ Below w8.heap.size w8 w') := fun w8 h8 => by
          obtain ⟨hT8, h18⟩ := tab_below hT h1 (hB6.trans (h8.mono hB6.size))
          exact print_s pb mb l x w8 (hM6.kept h8) hx hxw hT8 h18
        generalize hU : B (printL l x) = U at *
        generalize (printL l x).length = L at *
        clear hU
        go_wp2_with (first | (simp only [kx]) | fail)
        refine cp.mono ?_
        rintro e w8 ⟨rfl, hb8⟩
        go_wp2_with fail
        refine (CQ.out _ hb8).mono ?_
        rintro e w9 ⟨rfl, hb9⟩
        have hB8 := hB6.trans (hb8.mono hB6.size)
        go_wp2
        go_ret
        exact ⟨rfl, hB8.trans (hb9.mono hB8.size)⟩
      · generalize B (printL l x) = U at *
        generalize (printL l x).length = L at *
        go_wp2_with (first | (simp only [kx]) | fail)
        go_ret
        exact ⟨rfl, hB6⟩
  · refine (print_bad pb mb l s w2 hM hs hw).mono ?_
    rintro e w3 ⟨rfl, hq⟩
    subst w3
    have hB4 := hB2
    have hM4 := hM
    have ka := u64_andNot_nat s (allS l.length) hs hall
    have hwn : (((s &&& (18446744073709551615 - allS l.length) : Nat) : Int) == 0) = false := by rw [beq_eq_false_iff_ne]; intro e; exact hw (by unfold Bt.less; omega)
    have cnum : Hid (∀ w1, Calls Tryd.prog 25 #[noV 11] w1 fun e w' => e = .returned (.int .i64 11) ∧ Below w1.heap.size w1 w') := fun w1 => num_no 11 (by decide) (by decide) w1
    unfold noV at cnum ⊢
    go_wp2_with fail
    refine (all_s pb mb l w2 hM).mono ?_
    rintro e w3 ⟨rfl, hq⟩
    subst w3
    go_wp2_with (first | (simp only [ka]) | fail)
    refine (cnum.out _).mono ?_
    rintro e w4 ⟨rfl, hb4⟩
    have hM4 := hM.kept hb4
    have hB4 := hB2.trans (hb4.mono hB2.size)
    go_wp2_with fail
    refine (parse_t pb mb l t w4 hM4 ht).mono ?_
    rintro e w5 ⟨rfl, hb5⟩
    have hM5 := hM4.kept hb5
    have hB5 := hB4.trans (hb5.mono hB4.size)
    obtain ⟨hT5, h15⟩ := tab_below hT h1 hB5
    rcases parseT_cases l t h64 with ⟨ty, vv, e5⟩ | ⟨x, e5, hx, hxw⟩
    · rw [e5]
      go_wp2
      go_ret
      exact ⟨rfl, hB5⟩
    rw [e5]
    go_wp2_with fail
    refine (print_s pb mb l x w5 hM5 hx hxw hT5 h15).mono ?_
    rintro e w6 ⟨rfl, hb6⟩
    have hM6 := hM5.kept hb6
    have hB6 := hB5.trans (hb6.mono hB5.size)
    have kx := u64_andNot_nat x (allS l.length) hx hall
    have hxz : x &&& (18446744073709551615 - allS l.length) = 0 := hxw
    have hxn : (((x &&& (18446744073709551615 - allS l.length) : Nat) : Int) != 0) = false := by rw [hxz]; rfl
    clear hxz
    go_wp2_with fail
    refine (all_s pb mb l w6 hM6).mono ?_
    rintro e w7 ⟨rfl, hq⟩
    subst w7
    have hul := print_len HDT.out x
    have husz : (B (printL l x)).size = (printL l x).length := rfl
    by_cases hu : (printL l x).length ≤ 4096
    · have cp := parse_t pb mb l (printL l x) w6 hM6 (by unfold maxLen; omega)
      rw [parseT_print HND.out HDT.out h64 x hx hxw hu] at cp
      have CQ : Hid (∀ w8, Below w6.heap.size w6 w8 → Calls Tryd.prog 22 #[.pointer (some ⟨pb, 0, none⟩), Bt.st x] w8 fun e w' => e = .returned (.tuple #[.string (B (printL l x)), .nilIface]) ∧ Below w8.heap.size w8 w') := fun w8 h8 => by
        obtain ⟨hT8, h18⟩ := tab_below hT h1 (hB6.trans (h8.mono hB6.size))
        exact print_s pb mb l x w8 (hM6.kept h8) hx hxw hT8 h18
      generalize hU : B (printL l x) = U at *
      generalize (printL l x).length = L at *
      clear hU
      go_wp2_with (first | (simp only [kx]) | fail)
      refine cp.mono ?_
      rintro e w8 ⟨rfl, hb8⟩
      go_wp2_with fail
      refine (CQ.out _ hb8).mono ?_
      rintro e w9 ⟨rfl, hb9⟩
      have hB8 := hB6.trans (hb8.mono hB6.size)
      go_wp2
      go_ret
      exact ⟨rfl, hB8.trans (hb9.mono hB8.size)⟩
    · generalize B (printL l x) = U at *
      generalize (printL l x).length = L at *
      go_wp2_with (first | (simp only [kx]) | fail)
      go_ret
      exact ⟨rfl, hB6⟩
end Sc
end Go.Proofs.YtmgddocninihoaaDoor
