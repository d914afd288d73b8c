/- The walks of LevelNames, LevelRaises and LevelBack. -/
import Derived.Test.YtfhnfejghngoeaaDoorWays
namespace Go.Proofs.YtfhnfejghngoeaaDoor
set_option linter.ambiguousOpen false
open Go.RowKit Er Nm
namespace Lv
set_option linter.unusedSimpArgs false
set_option linter.unusedVariables false

theorem plain_same (n : Nat) (m : Int) (hm : (n : Int) = m) (h1 : 1 ≤ n) (h2 : n ≤ 24) (w : World) (hg : Handle w) :
    Calls Tryd.prog 12 #[noV m, .int .i64 m] w fun e w' => e = .returned (.bool true) ∧ Below w.heap.size w w' := by
  subst hm
  have := plain_no n n h1 h2 w hg
  rw [decide_eq_true rfl] at this
  exact this

theorem plain_ok (w : World) :
    Calls Tryd.prog 12 #[.nilIface, .int .i64 0] w fun e w' => e = .returned (.bool true) ∧ Below w.heap.size w w' := by
  have := plain_nil 0 w
  rw [decide_eq_true rfl] at this
  exact this

theorem parse_yes (k : Int) (w : World) (h : levelB k = true) (hN : NamesG w) :
    Calls Tryd.prog 11 #[.string (nmS k)] w fun e w' => e = .returned (.tuple #[.int .i64 k, .nilIface]) ∧ w' = w := by
  rcases levelB_three h with rfl | rfl | rfl
  · exact parse_0 w hN
  · exact parse_1 w hN
  · exact parse_2 w hN

theorem rparse_yes (k : Int) (w : World) (h : levelB k = true) :
    Calls Tryd.prog 9 #[.string (nmS k)] w fun e w' => e = .returned (.tuple #[.int .i64 k, .int .i64 0]) ∧ w' = w := by
  rcases levelB_three h with rfl | rfl | rfl
  · exact rparse_0 w
  · exact rparse_1 w
  · exact rparse_2 w

theorem text_cases (s : ByteArray) : (∃ k, levelB k = true ∧ s = nmS k) ∨ (s ≠ nmS 0 ∧ s ≠ nmS 1 ∧ s ≠ nmS 2) := by
  by_cases h0 : s = nmS 0
  · exact .inl ⟨0, rfl, h0⟩
  · by_cases h1 : s = nmS 1
    · exact .inl ⟨1, rfl, h1⟩
    · by_cases h2 : s = nmS 2
      · exact .inl ⟨2, rfl, h2⟩
      · exact .inr ⟨h0, h1, h2⟩

/-- What a call of the names leaves. -/
theorem names_call {F : Nat} {args : Array Value} {v : Value} {w : World} (h : ∀ w1, NamesG w1 → Calls Tryd.prog F args w1 fun e w' => e = .returned v ∧ Below w1.heap.size w1 w') (w1 : World) (hN : NamesG w) (hE : Handle w) (hB : Below w.heap.size w w1) :
    Calls Tryd.prog F args w1 fun e w' => e = .returned v ∧ Below w.heap.size w w' :=
  (h w1 (hN.below hB)).mono fun e w' ⟨h1, h2⟩ => ⟨h1, Er.below_then hB h2⟩

theorem same_below {F : Nat} {args : Array Value} {v : Value} {w : World} (h : Calls Tryd.prog F args w fun e w' => e = .returned v ∧ w' = w) :
    Calls Tryd.prog F args w fun e w' => e = .returned v ∧ Below w.heap.size w w' :=
  h.mono fun e w' ⟨h1, h2⟩ => ⟨h1, by rw [h2]; exact Below.refl _ _⟩

set_option maxRecDepth 100000 in
theorem names_go (l : Int) (s : ByteArray) (w : World) (x : ByteArray) (xn yn y : Int) (xe ye : Value) (hxe : xe = .nilIface ∨ ∃ n, xe = noV n) (hye : ye = .nilIface ∨ ∃ n, ye = noV n) (hN : NamesG w) (hE : Handle w)
    (c1 : Calls Tryd.prog 8 #[.int .i64 l] w fun e w' => e = .returned (.tuple #[.string x, .int .i64 xn]) ∧ w' = w)
    (c2 : Calls Tryd.prog 9 #[.string s] w fun e w' => e = .returned (.tuple #[.int .i64 y, .int .i64 yn]) ∧ w' = w)
    (c3 : Calls Tryd.prog 10 #[.int .i64 l] w fun e w' => e = .returned (.tuple #[.string x, xe]) ∧ Below w.heap.size w w')
    (c4 : ∀ w1, NamesG w1 → Calls Tryd.prog 11 #[.string s] w1 fun e w' => e = .returned (.tuple #[.int .i64 y, ye]) ∧ w' = w1)
    (c5 : ∀ w1, Handle w1 → Calls Tryd.prog 12 #[xe, .int .i64 xn] w1 fun e w' => e = .returned (.bool true) ∧ Below w1.heap.size w1 w')
    (c6 : ∀ w1, Handle w1 → Calls Tryd.prog 12 #[ye, .int .i64 yn] w1 fun e w' => e = .returned (.bool true) ∧ Below w1.heap.size w1 w') :
    Calls Tryd.prog 3 #[.int .i64 l, .string s] w fun e w' => e = .returned (.bool true) ∧ Below w.heap.size w w' := by
  have HN : Hid (NamesG w) := hN
  have HE : Hid (Handle w) := hE
  have H4 : Hid (∀ w1, NamesG w1 → Calls Tryd.prog 11 #[.string s] w1 fun e w' => e = .returned (.tuple #[.int .i64 y, ye]) ∧ w' = w1) := c4
  have H5 : Hid (∀ w1, Handle w1 → Calls Tryd.prog 12 #[xe, .int .i64 xn] w1 fun e w' => e = .returned (.bool true) ∧ Below w1.heap.size w1 w') := c5
  have H6 : Hid (∀ w1, Handle w1 → Calls Tryd.prog 12 #[ye, .int .i64 yn] w1 fun e w' => e = .returned (.bool true) ∧ Below w1.heap.size w1 w') := c6
  clear hN hE c4 c5 c6 hxe hye
  go_enter Tryd.func3, Tryd.ntmps3
  go_wp2_with fail
  refine c1.mono ?_
  rintro e w1 ⟨rfl, hq⟩
  subst w1
  go_wp2_with fail
  refine c2.mono ?_
  rintro e w1 ⟨rfl, hq⟩
  subst w1
  go_wp2_with fail
  refine c3.mono ?_
  rintro e w1 ⟨rfl, hb1⟩
  go_wp2_with fail
  refine (H4.out w1 (HN.out.below hb1)).mono ?_
  rintro e w2 ⟨rfl, hq⟩
  subst w2
  go_wp2_with fail
  refine (H5.out w1 (HE.out.below hb1)).mono ?_
  rintro e w2 ⟨rfl, hb2⟩
  go_wp2_with fail
  refine (H6.out w2 (HE.out.below (Er.below_then hb1 hb2))).mono ?_
  rintro e w3 ⟨rfl, hb3⟩
  go_wp2
  go_ret
  exact ⟨ret_bool (by simp), Er.below_then (Er.below_then hb1 hb2) hb3⟩

theorem levelNames_walk (a : Int) (l : List UInt8) (w : World) (ha : -9223372036854775808 ≤ a ∧ a ≤ 9223372036854775807) (hl : (B l).size ≤ maxLen) (hE : Handle w) (hN : NamesG w) :
    Calls Tryd.prog 3 #[.int .i64 a, .string (B l)] w fun e w' => e = .returned (.bool true) ∧ Below w.heap.size w w' := by
  generalize B l = s at *
  cases h : levelB a with
  | true =>
    rcases text_cases s with ⟨k, hk, rfl⟩ | ⟨k0, k1, k2⟩
    · exact names_go a _ w (nmS a) 0 0 k .nilIface .nilIface (.inl rfl) (.inl rfl) hN hE (rname_yes a w h) (rparse_yes k w hk) (name_yes a w h hN) (fun w1 h1 => parse_yes k w1 hk h1) (fun w1 _ => plain_ok w1) (fun w1 _ => plain_ok w1)
    · exact names_go a s w (nmS a) 0 4 0 .nilIface (noV 4) (.inl rfl) (.inr ⟨_, rfl⟩) hN hE (rname_yes a w h) (rparse_no s w k0 k1 k2) (name_yes a w h hN) (fun w1 h1 => parse_no s w1 k0 k1 k2 h1) (fun w1 _ => plain_ok w1) (fun w1 h1 => plain_same 4 4 rfl (by omega) (by omega) w1 h1)
  | false =>
    rcases text_cases s with ⟨k, hk, rfl⟩ | ⟨k0, k1, k2⟩
    · exact names_go a _ w ⟨#[]⟩ 13 0 k (noV 13) .nilIface (.inr ⟨_, rfl⟩) (.inl rfl) hN hE (rname_no a w h) (rparse_yes k w hk) (same_below (name_no a w h)) (fun w1 h1 => parse_yes k w1 hk h1) (fun w1 h1 => plain_same 13 13 rfl (by omega) (by omega) w1 h1) (fun w1 _ => plain_ok w1)
    · exact names_go a s w ⟨#[]⟩ 13 4 0 (noV 13) (noV 4) (.inr ⟨_, rfl⟩) (.inr ⟨_, rfl⟩) hN hE (rname_no a w h) (rparse_no s w k0 k1 k2) (same_below (name_no a w h)) (fun w1 h1 => parse_no s w1 k0 k1 k2 h1) (fun w1 h1 => plain_same 13 13 rfl (by omega) (by omega) w1 h1) (fun w1 h1 => plain_same 4 4 rfl (by omega) (by omega) w1 h1)

set_option maxRecDepth 100000 in
theorem raises_go (a b n : Int) (w : World) (xn : Int) (xe : Value) (hE : Handle w)
    (c1 : Calls Tryd.prog 15 #[.int .i64 a, .int .i64 b, .int .i64 n] w fun e w' => e = .returned xe ∧ Below w.heap.size w w')
    (c2 : ∀ w1, Calls Tryd.prog 16 #[.int .i64 a, .int .i64 b, .int .i64 n] w1 fun e w' => e = .returned (.int .i64 xn) ∧ w' = w1)
    (c3 : ∀ w1, Handle w1 → Calls Tryd.prog 12 #[xe, .int .i64 xn] w1 fun e w' => e = .returned (.bool true) ∧ Below w1.heap.size w1 w') :
    Calls Tryd.prog 4 #[.int .i64 a, .int .i64 b, .int .i64 n] w fun e w' => e = .returned (.bool true) ∧ Below w.heap.size w w' := by
  have HE : Hid (Handle w) := hE
  have c4 := enough_any a b w
  have c5 := renough_any a b w
  generalize enoughB a b = eb at *
  have H2 : Hid (∀ w1, Calls Tryd.prog 16 #[.int .i64 a, .int .i64 b, .int .i64 n] w1 fun e w' => e = .returned (.int .i64 xn) ∧ w' = w1) := c2
  have H3 : Hid (∀ w1, Handle w1 → Calls Tryd.prog 12 #[xe, .int .i64 xn] w1 fun e w' => e = .returned (.bool true) ∧ Below w1.heap.size w1 w') := c3
  clear hE c2 c3
  go_enter Tryd.func4, Tryd.ntmps4
  go_wp2_with fail
  refine c4.mono ?_
  rintro e w1 ⟨rfl, hq⟩
  subst w1
  go_wp2_with fail
  refine c5.mono ?_
  rintro e w1 ⟨rfl, hq⟩
  subst w1
  go_wp2_with fail
  refine c1.mono ?_
  rintro e w1 ⟨rfl, hb1⟩
  go_wp2_with fail
  refine (H2.out w1).mono ?_
  rintro e w2 ⟨rfl, hq⟩
  subst w2
  go_wp2_with fail
  refine (H3.out w1 (HE.out.below hb1)).mono ?_
  rintro e w2 ⟨rfl, hb2⟩
  go_wp2
  go_ret
  exact ⟨ret_bool (by simp), Er.below_then hb1 hb2⟩

theorem levelRaises_walk (a b n : Int) (w : World) (ha : -9223372036854775808 ≤ a ∧ a ≤ 9223372036854775807) (hb : -9223372036854775808 ≤ b ∧ b ≤ 9223372036854775807) (hn : -9223372036854775808 ≤ n ∧ n ≤ 9223372036854775807) (hE : Handle w) (hS : StepsG w) :
    Calls Tryd.prog 4 #[.int .i64 a, .int .i64 b, .int .i64 n] w fun e w' => e = .returned (.bool true) ∧ Below w.heap.size w w' := by
  cases h : upB a b with
  | true =>
    by_cases h1 : 1 ≤ n ∧ n ≤ 300
    · exact raises_go a b n w 0 .nilIface hE (raise_ok a b n w hS h h1) (fun w1 => rraise_ok a b n w1 h h1) (fun w1 _ => plain_ok w1)
    · exact raises_go a b n w 12 (noV 12) hE (raise_time a b n w hS h h1) (fun w1 => rraise_time a b n w1 h h1) (fun w1 k => plain_same 12 12 rfl (by omega) (by omega) w1 k)
  | false => exact raises_go a b n w 13 (noV 13) hE (raise_level a b n w hS h) (fun w1 => rraise_level a b n w1 h) (fun w1 k => plain_same 13 13 rfl (by omega) (by omega) w1 k)

set_option maxRecDepth 100000 in
theorem works_any (w : World) (hN : NamesG w) :
    Calls Tryd.prog 17 #[] w fun e w' => e = .returned (.bool true) ∧ Below w.heap.size w w' := by
  have c1 := name_yes 1 w rfl hN
  rw [nmS_1] at c1
  have c2 := enough_any 2 1
  have c3 := enough_any 0 1
  rw [show enoughB 2 1 = true from rfl] at c2
  rw [show enoughB 0 1 = false from rfl] at c3
  clear hN
  go_enter Tryd.func17, Tryd.ntmps17
  go_wp2_with fail
  refine c1.mono ?_
  rintro e w1 ⟨rfl, hb1⟩
  go_wp2_with fail
  refine (c2 w1).mono ?_
  rintro e w2 ⟨rfl, hq⟩
  subst w2
  go_wp2_with fail
  refine (c3 w1).mono ?_
  rintro e w2 ⟨rfl, hq⟩
  subst w2
  go_wp2
  go_ret
  exact ⟨rfl, hb1⟩
end Lv
end Go.Proofs.YtfhnfejghngoeaaDoor
