/- Print of a number of ticks. -/
import Derived.Test.YtfibcbnhjajdlabDoorPartsC
import Derived.Test.YtfibcbnhjajdlabDoorBuild
import Derived.Lib.SmallJoins
import Derived.Lib.AppendIntMem
import Derived.Deep.CutBlock
import Derived.Deep.CutRange
import Derived.Deep.DeepCutAuto
namespace Go.Proofs.YtfibcbnhjajdlabDoor
set_option linter.ambiguousOpen false
open Go.RowKit Er Nm
namespace Ck
set_option linter.unusedSimpArgs false
set_option linter.unusedVariables false

def Pow (w : World) : Prop := Lib.TabIs Tryd.prog w "internal/strconv.uint64pow10" .u64 Lib.pow10Tab

theorem itoa_c (n : Nat) (w : World) (h : n ≤ 9223372036854775807) (hp : Pow w) :
    Calls Tryd.prog 23 #[.int .i64 n] w fun e w' => e = .returned (.string (B (Lib.decDigits n))) ∧ w.grownBy w' none := by
  refine (Tryd.strconv_Itoa n (by omega) (by omega) w hp).mono ?_
  rintro e w' ⟨rfl, k, os, rfl⟩
  refine ⟨?_, ?_⟩
  · have e : Lib.itoa (n : Int) = Lib.decDigits n := by simp [Lib.itoa]
    rw [e]; rfl
  · refine ⟨rfl, rfl, rfl, ?_, fun b hb _ => ?_⟩
    · show w.heap.size ≤ (w.heap ++ os).size
      simp
    · show (w.heap ++ os)[b]? = w.heap[b]?
      exact Array.getElem?_append_left hb

theorem bu_grown {W W' : World} {b base : Nat} {bs : List UInt8} (h : Lb.Bu W b base bs) (hg : W.grownBy W' none) : Lb.Bu W' b base bs := by
  obtain ⟨⟨p, v, hp, hk, ho⟩, hlt⟩ := h
  refine ⟨⟨p, v, hp, (hg.block b (Array.getElem?_eq_some_iff.1 hk).1 (by simp)).trans hk, ?_⟩, hlt⟩
  refine ho.kept hg ?_
  rcases ho.2 with ⟨rfl, _⟩ | ⟨g, cap, cur, rfl, _⟩
  · exact .inl rfl
  · exact .inr (by simp [Value.ownBlock])
/-! The walk -/

theorem Pow.below {w w' : World} (h : Pow w) (hb : Below w.heap.size w w') : Pow w' := (Lib.tabBelow_of_tabIs h) w' hb

theorem unit_cell {w : World} {g : Nat} {x y z : Value} (h : w.heap[g]? = some (.cells #[x, y, z] 46 (0, 0))) : w.cell? ⟨g, 0, none⟩ = some x ∧ w.cell? ⟨g, 1, none⟩ = some y ∧ w.cell? ⟨g, 2, none⟩ = some z := by
  refine ⟨?_, ?_, ?_⟩ <;> (rw [Lib.cell_of_heap h]; rfl)

theorem unit_kept {w w' : World} {b base g : Nat} {x y z : Value} (h : w.heap[g]? = some (.cells #[x, y, z] 46 (0, 0))) (hk : Lb.Kb b base w w') (hg : g ≠ b) : w'.heap[g]? = some (.cells #[x, y, z] 46 (0, 0)) :=
  hk.block g _ h hg (.inr (fun c fz e => by
    have := (Obj.cells.inj e).2.1
    revert this; decide))

theorem dec_len (n : Nat) (h : n ≤ 1099511627776) : (Lib.decDigits n).length ≤ 20 := by
  rw [Lib.decDigits_length]
  rcases Nat.lt_or_ge (Lib.nDigits n) 21 with q | q
  · omega
  · exfalso
    have key : ∀ (k n : Nat), 10 ^ k ≤ n ∨ Lib.nDigits n ≤ k ∨ k = 0 := by
      intro k
      induction k with
      | zero => intro n; exact .inr (.inr rfl)
      | succ k ih =>
        intro n
        by_cases hn : n < 10
        · rw [Lib.nDigits_small hn]; exact .inr (.inl (by omega))
        · rw [Lib.nDigits_big hn]
          rcases ih (n / 10) with h1 | h1 | h1
          · refine .inl ?_
            rw [Nat.pow_succ]; omega
          · exact .inr (.inl (by omega))
          · subst h1; exact .inl (by omega)
    rcases key 20 n with h1 | h1 | h1
    · omega
    · omega
    · omega

theorem part_len (k c : Nat) (h : c ≤ 1099511627776) : (part k c).length ≤ 21 := by
  unfold part
  split
  · simp
  · have := dec_len c h
    simp only [List.length_append, List.length_cons, List.length_nil]; omega

theorem re_le (k n : Nat) : re k n ≤ n := by
  induction k with
  | zero => exact Nat.le_refl _
  | succ k ih => exact Nat.le_trans (Nat.mod_le _ _) ih

theorem fo_len (k n : Nat) (h : n ≤ 1099511627776) : (fo k n).length ≤ 21 * k := by
  induction k with
  | zero => simp [fo]
  | succ k ih =>
    have h1 := part_len k (re k n / tk k) (Nat.le_trans (Nat.div_le_self _ _) (Nat.le_trans (re_le k n) h))
    simp only [fo, List.length_append]; omega

set_option maxRecDepth 100000 in
theorem print_no (n : Int) (w : World) (h : timeB n = false) :
    Calls Tryd.prog 13 #[.int .i64 n] w fun e w' => e = .returned (.tuple #[.string ⟨#[]⟩, noV 12]) ∧ w' = w := by
  have c := isTime_any
  unfold noV
  go_enter Tryd.func13, Tryd.ntmps13
  go_wp2_with (go_at_call 12; refine (c _ _).mono ?_; rintro e w1 ⟨rfl, rfl⟩)
  go_ret2
  exact ⟨rfl, rfl⟩

set_option maxRecDepth 100000 in
set_option maxHeartbeats 4000000 in
theorem print_c (n : Nat) (w : World) (hn : n ≤ 1099511627776) (hU : Units w) (hP : Pow w) :
    Calls Tryd.prog 13 #[.int .i64 n] w fun e w' => e = .returned (.tuple #[.string (B (formL n)), .nilIface]) ∧ Below w.heap.size w w' := by
  have ct := isTime_any (n : Int)
  have tb : timeB (n : Int) = true := timeB_iff.2 (by omega)
  rw [tb] at ct
  clear tb
  have c0 := (hU.below ((Below.refl _ w).alloc (Nat.le_refl _) (.cells #[.pointer none, .slice none 0 0] 44))) 0 _ rfl
  have c1 := (hU.below ((Below.refl _ w).alloc (Nat.le_refl _) (.cells #[.pointer none, .slice none 0 0] 44))) 1 _ rfl
  have c2 := (hU.below ((Below.refl _ w).alloc (Nat.le_refl _) (.cells #[.pointer none, .slice none 0 0] 44))) 2 _ rfl
  have c3 := (hU.below ((Below.refl _ w).alloc (Nat.le_refl _) (.cells #[.pointer none, .slice none 0 0] 44))) 3 _ rfl
  have c4 := (hU.below ((Below.refl _ w).alloc (Nat.le_refl _) (.cells #[.pointer none, .slice none 0 0] 44))) 4 _ rfl
  have c5 := (hU.below ((Below.refl _ w).alloc (Nat.le_refl _) (.cells #[.pointer none, .slice none 0 0] 44))) 5 _ rfl
  have c6 := (hU.below ((Below.refl _ w).alloc (Nat.le_refl _) (.cells #[.pointer none, .slice none 0 0] 44))) 6 _ rfl
  have c7 := (hU.below ((Below.refl _ w).alloc (Nat.le_refl _) (.cells #[.pointer none, .slice none 0 0] 44))) 7 _ rfl
  have c8 := (hU.below ((Below.refl _ w).alloc (Nat.le_refl _) (.cells #[.pointer none, .slice none 0 0] 44))) 8 _ rfl
  have c9 := (hU.below ((Below.refl _ w).alloc (Nat.le_refl _) (.cells #[.pointer none, .slice none 0 0] 44))) 9 _ rfl
  have c10 := (hU.below ((Below.refl _ w).alloc (Nat.le_refl _) (.cells #[.pointer none, .slice none 0 0] 44))) 10 _ rfl
  have c11 := (hU.below ((Below.refl _ w).alloc (Nat.le_refl _) (.cells #[.pointer none, .slice none 0 0] 44))) 11 _ rfl
  have HU : Hid (Units w) := hU
  have HPW : Hid (Pow w) := hP
  clear hU hP
  go_enter Tryd.func13, Tryd.ntmps13
  go_wp2_with (go_at_call 12; refine (ct _).mono ?_; rintro e w1 ⟨rfl, hq⟩; subst w1)
  have b0 : Lb.Bu (w.alloc (.cells #[.pointer none, .slice none 0 0] 44)) w.heap.size (w.heap.size + 1) [] := ⟨⟨_, _, .inl rfl, World.alloc_heap_new w _, World.ownsRow_nil _ _ _ _⟩, by omega⟩
  go_loopw [0, 13] (fun t i wr => ∃ k : Nat, k ≤ 4 ∧ i = .int .i64 k ∧ t = .int .i64 (re k n : Nat) ∧ Lb.Bu wr w.heap.size (w.heap.size + 1) (fo k n) ∧ w.heap.size + 1 ≤ wr.heap.size ∧ Below w.heap.size w wr) (fun _ i _ => 4 - (intOf i).toNat)
  case atStart => exact ⟨0, by omega, rfl, rfl, b0, by simp, (Below.refl _ _).alloc (Nat.le_refl _) _⟩
  case round =>
    clear b0 c0 c1 c2 c3 c4 c5 c6 c7 c8 c9 c10 c11
    obtain ⟨k, hk, rfl, rfl, hb, hsz, hB⟩ := hrel
    obtain rfl | rfl | rfl | rfl | rfl : k = 0 ∨ k = 1 ∨ k = 2 ∨ k = 3 ∨ k = 4 := by omega
    · -- the unit 0
      have ix := idx0
      have hm := Nat.le_trans (re_le 0 n) hn
      obtain ⟨m, HM⟩ : ∃ m, Hid (re 0 n = m) := ⟨_, rfl⟩
      rw [HM.out] at hm ⊢
      obtain ⟨q, HQ⟩ : ∃ q : Nat, Hid (m / 86400 = q) := ⟨_, rfl⟩
      obtain ⟨r, HR⟩ : ∃ r : Nat, Hid (m % 86400 = r) := ⟨_, rfl⟩
      have hq : (m : Int) / 86400 = (q : Int) := by have := HQ.out; omega
      have hr : (m : Int) % 86400 = (r : Int) := by have := HR.out; omega
      have hql : q ≤ 1099511627776 := by have := HQ.out; omega
      have HF : Hid (fo (0 + 1) n = fo 0 n ++ part 0 q) := by
        show fo 0 n ++ part 0 (re 0 n / tk 0) = _
        rw [HM.out, ← HQ.out]; rfl
      have HE : Hid (re (0 + 1) n = r) := by
        show re 0 n % tk 0 = r
        rw [HM.out, ← HR.out]; rfl
      have hfl := fo_len 0 n hn
      simp only [Int.cast_ofNat_Int]
      have hb1 : Lb.Bu (wr.alloc (.cells #[.int .u8 100, .int .i64 86400, .int .i64 1099511627777] 46)) w.heap.size (w.heap.size + 1) (fo 0 n) := bu_grown hb (World.grownBy_alloc wr _ none)
      have hu1 : (wr.alloc (.cells #[.int .u8 100, .int .i64 86400, .int .i64 1099511627777] 46)).heap[wr.heap.size]? = some (.cells #[.int .u8 100, .int .i64 86400, .int .i64 1099511627777] 46 (0, 0)) := World.alloc_heap_new wr _
      have hB1 : Below w.heap.size w (wr.alloc (.cells #[.int .u8 100, .int .i64 86400, .int .i64 1099511627777] 46)) := hB.alloc hB.size _
      have hs1 : w.heap.size + 1 ≤ (wr.alloc (.cells #[.int .u8 100, .int .i64 86400, .int .i64 1099511627777] 46)).heap.size := by simp; omega
      have hl1 : wr.heap.size < (wr.alloc (.cells #[.int .u8 100, .int .i64 86400, .int .i64 1099511627777] 46)).heap.size := by simp
      have hne : wr.heap.size ≠ w.heap.size := by omega
      obtain ⟨u0, u1, u2⟩ := unit_cell hu1
      go_upto_region 7 with fail
      generalize (wr.alloc (.cells #[.int .u8 100, .int .i64 86400, .int .i64 1099511627777] 46)) = w1 at *
      by_cases hz : q = 0
      · subst hz
        have hF2 : fo (0 + 1) n = fo 0 n := by rw [HF.out]; simp [part]
        rw [← hF2] at hb1
        clear hF2
        go_wp2
        go_roundw
        case rel => exact ⟨0 + 1, by omega, by go_num, by rw [HE.out, hr], hb1, hs1, hB1⟩
        case measure => simp [intOf]
      · have hpos : 0 < q := by omega
        have HF2 : Hid (fo (0 + 1) n = (fo 0 n ++ Lib.decDigits q) ++ [lt' 0]) := by
          show _ = _
          rw [HF.out]; simp [part, hz]
        have ci := itoa_c q w1 (by omega) (HPW.out.below hB1)
        go_wp2_with fail
        refine ci.mono ?_
        rintro e w2 ⟨rfl, hg2⟩
        have hb2 := bu_grown hb1 hg2
        have hu2 : w2.heap[wr.heap.size]? = some (.cells #[.int .u8 100, .int .i64 86400, .int .i64 1099511627777] 46 (0, 0)) := (hg2.block _ hl1 (by simp)).trans hu1
        have hs2 := Nat.le_trans hs1 hg2.size
        have hB2 := hB1.grown hg2 hB1.size (fun r e => by cases e)
        have hdl := dec_len q hql
        have cs := Lb.writeString_any _ _ _ (Lib.decDigits q) w2 hb2 (by omega) (by omega) hs2
        go_wp2_with fail
        refine cs.mono ?_
        rintro e w3 ⟨rfl, hk3, hb3⟩
        have hu3 := unit_kept hu2 hk3 hne
        have hB3 := hB2.trans (hk3.below (Nat.le_refl _) (by omega) hB2.size)
        have hs3 := Nat.le_trans hs2 hk3.size
        obtain ⟨v0, v1, v2⟩ := unit_cell hu3
        have cb := Lb.writeByte_any _ _ _ (lt' 0) w3 hb3 (by simp only [List.length_append]; omega) hs3
        have el : ((lt' 0).toNat : Int) = 100 := rfl
        rw [el] at cb
        go_wp2_with fail
        refine cb.mono ?_
        rintro e w4 ⟨rfl, hk4, hb4⟩
        have hu4 := unit_kept hu3 hk4 hne
        have hB4 := hB3.trans (hk4.below (Nat.le_refl _) (by omega) hB3.size)
        have hs4 := Nat.le_trans hs3 hk4.size
        obtain ⟨x0, x1, x2⟩ := unit_cell hu4
        rw [← HF2.out] at hb4
        go_wp2
        go_roundw
        case rel => exact ⟨0 + 1, by omega, by go_num, by rw [HE.out, hr], hb4, hs4, hB4⟩
        case measure => simp [intOf]
    · -- the unit 1
      have ix := idx1
      have hm := Nat.le_trans (re_le 1 n) hn
      obtain ⟨m, HM⟩ : ∃ m, Hid (re 1 n = m) := ⟨_, rfl⟩
      rw [HM.out] at hm ⊢
      obtain ⟨q, HQ⟩ : ∃ q : Nat, Hid (m / 3600 = q) := ⟨_, rfl⟩
      obtain ⟨r, HR⟩ : ∃ r : Nat, Hid (m % 3600 = r) := ⟨_, rfl⟩
      have hq : (m : Int) / 3600 = (q : Int) := by have := HQ.out; omega
      have hr : (m : Int) % 3600 = (r : Int) := by have := HR.out; omega
      have hql : q ≤ 1099511627776 := by have := HQ.out; omega
      have HF : Hid (fo (1 + 1) n = fo 1 n ++ part 1 q) := by
        show fo 1 n ++ part 1 (re 1 n / tk 1) = _
        rw [HM.out, ← HQ.out]; rfl
      have HE : Hid (re (1 + 1) n = r) := by
        show re 1 n % tk 1 = r
        rw [HM.out, ← HR.out]; rfl
      have hfl := fo_len 1 n hn
      simp only [Int.cast_ofNat_Int]
      have hb1 : Lb.Bu (wr.alloc (.cells #[.int .u8 104, .int .i64 3600, .int .i64 23] 46)) w.heap.size (w.heap.size + 1) (fo 1 n) := bu_grown hb (World.grownBy_alloc wr _ none)
      have hu1 : (wr.alloc (.cells #[.int .u8 104, .int .i64 3600, .int .i64 23] 46)).heap[wr.heap.size]? = some (.cells #[.int .u8 104, .int .i64 3600, .int .i64 23] 46 (0, 0)) := World.alloc_heap_new wr _
      have hB1 : Below w.heap.size w (wr.alloc (.cells #[.int .u8 104, .int .i64 3600, .int .i64 23] 46)) := hB.alloc hB.size _
      have hs1 : w.heap.size + 1 ≤ (wr.alloc (.cells #[.int .u8 104, .int .i64 3600, .int .i64 23] 46)).heap.size := by simp; omega
      have hl1 : wr.heap.size < (wr.alloc (.cells #[.int .u8 104, .int .i64 3600, .int .i64 23] 46)).heap.size := by simp
      have hne : wr.heap.size ≠ w.heap.size := by omega
      obtain ⟨u0, u1, u2⟩ := unit_cell hu1
      go_upto_region 7 with fail
      generalize (wr.alloc (.cells #[.int .u8 104, .int .i64 3600, .int .i64 23] 46)) = w1 at *
      by_cases hz : q = 0
      · subst hz
        have hF2 : fo (1 + 1) n = fo 1 n := by rw [HF.out]; simp [part]
        rw [← hF2] at hb1
        clear hF2
        go_wp2
        go_roundw
        case rel => exact ⟨1 + 1, by omega, by go_num, by rw [HE.out, hr], hb1, hs1, hB1⟩
        case measure => simp [intOf]
      · have hpos : 0 < q := by omega
        have HF2 : Hid (fo (1 + 1) n = (fo 1 n ++ Lib.decDigits q) ++ [lt' 1]) := by
          show _ = _
          rw [HF.out]; simp [part, hz]
        have ci := itoa_c q w1 (by omega) (HPW.out.below hB1)
        go_wp2_with fail
        refine ci.mono ?_
        rintro e w2 ⟨rfl, hg2⟩
        have hb2 := bu_grown hb1 hg2
        have hu2 : w2.heap[wr.heap.size]? = some (.cells #[.int .u8 104, .int .i64 3600, .int .i64 23] 46 (0, 0)) := (hg2.block _ hl1 (by simp)).trans hu1
        have hs2 := Nat.le_trans hs1 hg2.size
        have hB2 := hB1.grown hg2 hB1.size (fun r e => by cases e)
        have hdl := dec_len q hql
        have cs := Lb.writeString_any _ _ _ (Lib.decDigits q) w2 hb2 (by omega) (by omega) hs2
        go_wp2_with fail
        refine cs.mono ?_
        rintro e w3 ⟨rfl, hk3, hb3⟩
        have hu3 := unit_kept hu2 hk3 hne
        have hB3 := hB2.trans (hk3.below (Nat.le_refl _) (by omega) hB2.size)
        have hs3 := Nat.le_trans hs2 hk3.size
        obtain ⟨v0, v1, v2⟩ := unit_cell hu3
        have cb := Lb.writeByte_any _ _ _ (lt' 1) w3 hb3 (by simp only [List.length_append]; omega) hs3
        have el : ((lt' 1).toNat : Int) = 104 := rfl
        rw [el] at cb
        go_wp2_with fail
        refine cb.mono ?_
        rintro e w4 ⟨rfl, hk4, hb4⟩
        have hu4 := unit_kept hu3 hk4 hne
        have hB4 := hB3.trans (hk4.below (Nat.le_refl _) (by omega) hB3.size)
        have hs4 := Nat.le_trans hs3 hk4.size
        obtain ⟨x0, x1, x2⟩ := unit_cell hu4
        rw [← HF2.out] at hb4
        go_wp2
        go_roundw
        case rel => exact ⟨1 + 1, by omega, by go_num, by rw [HE.out, hr], hb4, hs4, hB4⟩
        case measure => simp [intOf]
    · -- the unit 2
      have ix := idx2
      have hm := Nat.le_trans (re_le 2 n) hn
      obtain ⟨m, HM⟩ : ∃ m, Hid (re 2 n = m) := ⟨_, rfl⟩
      rw [HM.out] at hm ⊢
      obtain ⟨q, HQ⟩ : ∃ q : Nat, Hid (m / 60 = q) := ⟨_, rfl⟩
      obtain ⟨r, HR⟩ : ∃ r : Nat, Hid (m % 60 = r) := ⟨_, rfl⟩
      have hq : (m : Int) / 60 = (q : Int) := by have := HQ.out; omega
      have hr : (m : Int) % 60 = (r : Int) := by have := HR.out; omega
      have hql : q ≤ 1099511627776 := by have := HQ.out; omega
      have HF : Hid (fo (2 + 1) n = fo 2 n ++ part 2 q) := by
        show fo 2 n ++ part 2 (re 2 n / tk 2) = _
        rw [HM.out, ← HQ.out]; rfl
      have HE : Hid (re (2 + 1) n = r) := by
        show re 2 n % tk 2 = r
        rw [HM.out, ← HR.out]; rfl
      have hfl := fo_len 2 n hn
      simp only [Int.cast_ofNat_Int]
      have hb1 : Lb.Bu (wr.alloc (.cells #[.int .u8 109, .int .i64 60, .int .i64 59] 46)) w.heap.size (w.heap.size + 1) (fo 2 n) := bu_grown hb (World.grownBy_alloc wr _ none)
      have hu1 : (wr.alloc (.cells #[.int .u8 109, .int .i64 60, .int .i64 59] 46)).heap[wr.heap.size]? = some (.cells #[.int .u8 109, .int .i64 60, .int .i64 59] 46 (0, 0)) := World.alloc_heap_new wr _
      have hB1 : Below w.heap.size w (wr.alloc (.cells #[.int .u8 109, .int .i64 60, .int .i64 59] 46)) := hB.alloc hB.size _
      have hs1 : w.heap.size + 1 ≤ (wr.alloc (.cells #[.int .u8 109, .int .i64 60, .int .i64 59] 46)).heap.size := by simp; omega
      have hl1 : wr.heap.size < (wr.alloc (.cells #[.int .u8 109, .int .i64 60, .int .i64 59] 46)).heap.size := by simp
      have hne : wr.heap.size ≠ w.heap.size := by omega
      obtain ⟨u0, u1, u2⟩ := unit_cell hu1
      go_upto_region 7 with fail
      generalize (wr.alloc (.cells #[.int .u8 109, .int .i64 60, .int .i64 59] 46)) = w1 at *
      by_cases hz : q = 0
      · subst hz
        have hF2 : fo (2 + 1) n = fo 2 n := by rw [HF.out]; simp [part]
        rw [← hF2] at hb1
        clear hF2
        go_wp2
        go_roundw
        case rel => exact ⟨2 + 1, by omega, by go_num, by rw [HE.out, hr], hb1, hs1, hB1⟩
        case measure => simp [intOf]
      · have hpos : 0 < q := by omega
        have HF2 : Hid (fo (2 + 1) n = (fo 2 n ++ Lib.decDigits q) ++ [lt' 2]) := by
          show _ = _
          rw [HF.out]; simp [part, hz]
        have ci := itoa_c q w1 (by omega) (HPW.out.below hB1)
        go_wp2_with fail
        refine ci.mono ?_
        rintro e w2 ⟨rfl, hg2⟩
        have hb2 := bu_grown hb1 hg2
        have hu2 : w2.heap[wr.heap.size]? = some (.cells #[.int .u8 109, .int .i64 60, .int .i64 59] 46 (0, 0)) := (hg2.block _ hl1 (by simp)).trans hu1
        have hs2 := Nat.le_trans hs1 hg2.size
        have hB2 := hB1.grown hg2 hB1.size (fun r e => by cases e)
        have hdl := dec_len q hql
        have cs := Lb.writeString_any _ _ _ (Lib.decDigits q) w2 hb2 (by omega) (by omega) hs2
        go_wp2_with fail
        refine cs.mono ?_
        rintro e w3 ⟨rfl, hk3, hb3⟩
        have hu3 := unit_kept hu2 hk3 hne
        have hB3 := hB2.trans (hk3.below (Nat.le_refl _) (by omega) hB2.size)
        have hs3 := Nat.le_trans hs2 hk3.size
        obtain ⟨v0, v1, v2⟩ := unit_cell hu3
        have cb := Lb.writeByte_any _ _ _ (lt' 2) w3 hb3 (by simp only [List.length_append]; omega) hs3
        have el : ((lt' 2).toNat : Int) = 109 := rfl
        rw [el] at cb
        go_wp2_with fail
        refine cb.mono ?_
        rintro e w4 ⟨rfl, hk4, hb4⟩
        have hu4 := unit_kept hu3 hk4 hne
        have hB4 := hB3.trans (hk4.below (Nat.le_refl _) (by omega) hB3.size)
        have hs4 := Nat.le_trans hs3 hk4.size
        obtain ⟨x0, x1, x2⟩ := unit_cell hu4
        rw [← HF2.out] at hb4
        go_wp2
        go_roundw
        case rel => exact ⟨2 + 1, by omega, by go_num, by rw [HE.out, hr], hb4, hs4, hB4⟩
        case measure => simp [intOf]
    · -- the unit 3
      have ix := idx3
      have hm := Nat.le_trans (re_le 3 n) hn
      obtain ⟨m, HM⟩ : ∃ m, Hid (re 3 n = m) := ⟨_, rfl⟩
      rw [HM.out] at hm ⊢
      obtain ⟨q, HQ⟩ : ∃ q : Nat, Hid (m / 1 = q) := ⟨_, rfl⟩
      obtain ⟨r, HR⟩ : ∃ r : Nat, Hid (m % 1 = r) := ⟨_, rfl⟩
      have hq : (m : Int) / 1 = (q : Int) := by have := HQ.out; omega
      have hr : (m : Int) % 1 = (r : Int) := by have := HR.out; omega
      have hql : q ≤ 1099511627776 := by have := HQ.out; omega
      have HF : Hid (fo (3 + 1) n = fo 3 n ++ part 3 q) := by
        show fo 3 n ++ part 3 (re 3 n / tk 3) = _
        rw [HM.out, ← HQ.out]; rfl
      have HE : Hid (re (3 + 1) n = r) := by
        show re 3 n % tk 3 = r
        rw [HM.out, ← HR.out]; rfl
      obtain rfl : q = m := by have := HQ.out; omega
      obtain rfl : r = 0 := by have := HR.out; omega
      clear hq hr
      have hfl := fo_len 3 n hn
      simp only [Int.cast_ofNat_Int]
      have hb1 : Lb.Bu (wr.alloc (.cells #[.int .u8 115, .int .i64 1, .int .i64 59] 46)) w.heap.size (w.heap.size + 1) (fo 3 n) := bu_grown hb (World.grownBy_alloc wr _ none)
      have hu1 : (wr.alloc (.cells #[.int .u8 115, .int .i64 1, .int .i64 59] 46)).heap[wr.heap.size]? = some (.cells #[.int .u8 115, .int .i64 1, .int .i64 59] 46 (0, 0)) := World.alloc_heap_new wr _
      have hB1 : Below w.heap.size w (wr.alloc (.cells #[.int .u8 115, .int .i64 1, .int .i64 59] 46)) := hB.alloc hB.size _
      have hs1 : w.heap.size + 1 ≤ (wr.alloc (.cells #[.int .u8 115, .int .i64 1, .int .i64 59] 46)).heap.size := by simp; omega
      have hl1 : wr.heap.size < (wr.alloc (.cells #[.int .u8 115, .int .i64 1, .int .i64 59] 46)).heap.size := by simp
      have hne : wr.heap.size ≠ w.heap.size := by omega
      obtain ⟨u0, u1, u2⟩ := unit_cell hu1
      go_upto_region 7 with fail
      generalize (wr.alloc (.cells #[.int .u8 115, .int .i64 1, .int .i64 59] 46)) = w1 at *
      by_cases hz : q = 0
      · subst hz
        have hF2 : fo (3 + 1) n = fo 3 n := by rw [HF.out]; simp [part]
        rw [← hF2] at hb1
        clear hF2
        go_wp2
        go_roundw
        case rel => exact ⟨3 + 1, by omega, by go_num, by rw [HE.out]; rfl, hb1, hs1, hB1⟩
        case measure => simp [intOf]
      · have hpos : 0 < q := by omega
        have HF2 : Hid (fo (3 + 1) n = (fo 3 n ++ Lib.decDigits q) ++ [lt' 3]) := by
          show _ = _
          rw [HF.out]; simp [part, hz]
        have ci := itoa_c q w1 (by omega) (HPW.out.below hB1)
        go_wp2_with fail
        refine ci.mono ?_
        rintro e w2 ⟨rfl, hg2⟩
        have hb2 := bu_grown hb1 hg2
        have hu2 : w2.heap[wr.heap.size]? = some (.cells #[.int .u8 115, .int .i64 1, .int .i64 59] 46 (0, 0)) := (hg2.block _ hl1 (by simp)).trans hu1
        have hs2 := Nat.le_trans hs1 hg2.size
        have hB2 := hB1.grown hg2 hB1.size (fun r e => by cases e)
        have hdl := dec_len q hql
        have cs := Lb.writeString_any _ _ _ (Lib.decDigits q) w2 hb2 (by omega) (by omega) hs2
        go_wp2_with fail
        refine cs.mono ?_
        rintro e w3 ⟨rfl, hk3, hb3⟩
        have hu3 := unit_kept hu2 hk3 hne
        have hB3 := hB2.trans (hk3.below (Nat.le_refl _) (by omega) hB2.size)
        have hs3 := Nat.le_trans hs2 hk3.size
        obtain ⟨v0, v1, v2⟩ := unit_cell hu3
        have cb := Lb.writeByte_any _ _ _ (lt' 3) w3 hb3 (by simp only [List.length_append]; omega) hs3
        have el : ((lt' 3).toNat : Int) = 115 := rfl
        rw [el] at cb
        go_wp2_with fail
        refine cb.mono ?_
        rintro e w4 ⟨rfl, hk4, hb4⟩
        have hu4 := unit_kept hu3 hk4 hne
        have hB4 := hB3.trans (hk4.below (Nat.le_refl _) (by omega) hB3.size)
        have hs4 := Nat.le_trans hs3 hk4.size
        obtain ⟨x0, x1, x2⟩ := unit_cell hu4
        rw [← HF2.out] at hb4
        go_wp2
        go_roundw
        case rel => exact ⟨3 + 1, by omega, by go_num, by rw [HE.out]; rfl, hb4, hs4, hB4⟩
        case measure => simp [intOf]
    · -- behind the last unit
      simp only [Int.cast_ofNat_Int]
      have cl := Lb.len_any _ _ _ wr hb
      have hfl := fo_len 4 n hn
      go_wp2_with fail
      refine cl.mono ?_
      rintro e w2 ⟨rfl, hq⟩
      subst w2
      by_cases hz : fo 4 n = []
      · have hz0 : (((fo 4 n).length : Int) == 0) = true := by rw [hz]; rfl
        have cs := Lb.writeString_any _ _ _ [48, 115] wr hb (by omega) (by decide) hsz
        have HZ : Hid (formL n = fo 4 n ++ [48, 115]) := by
          show _ = _
          unfold formL; rw [if_pos hz, hz]; rfl
        clear hz
        go_wp2_with fail
        refine cs.mono ?_
        rintro e w3 ⟨rfl, hk3, hb3⟩
        have hB3 := hB.trans (hk3.below (Nat.le_refl _) (by omega) hB.size)
        have ce := Lb.string_any _ _ w.heap.size _ w3 hb3 (Nat.le_refl _) hB3.size
        go_wp2_with fail
        refine ce.mono ?_
        rintro e w4 ⟨rfl, hB4, _⟩
        go_wp2
        go_ret2
        rw [HZ.out]
        exact ⟨rfl, hB3.trans hB4⟩
      · have hz0 : (((fo 4 n).length : Int) == 0) = false := by
          have := List.length_pos_iff.2 hz
          rw [beq_eq_false_iff_ne]; omega
        have HZ : Hid (formL n = fo 4 n) := by
          show _ = _
          unfold formL; rw [if_neg hz]
        clear hz
        have ce := Lb.string_any _ _ w.heap.size _ wr hb (Nat.le_refl _) hB.size
        go_wp2_with fail
        refine ce.mono ?_
        rintro e w4 ⟨rfl, hB4, _⟩
        go_wp2
        go_ret2
        rw [HZ.out]
        exact ⟨rfl, hB.trans hB4⟩
end Ck
end Go.Proofs.YtfibcbnhjajdlabDoor
