/- The walk of the law NamesKnown. -/
import Derived.Test.YtlfoipddhcdmmabUnder
import Derived.Test.YtlfoipddhcdmmabJoin
import Derived.Test.YtlfoipddhcdmmabSame
import Derived.Deep.CutRange
namespace Go.Proofs.Ytlfoipddhcdmmab
open Go.RowKit
namespace Nm

def aas : Nat → List UInt8
  | 0 => []
  | n + 1 => aas n ++ [97]

theorem aas_len (n : Nat) : (aas n).length = n := by
  induction n with
  | zero => rfl
  | succ n ih => simp [aas, ih]

theorem B_append (x y : List UInt8) : B x ++ B y = B (x ++ y) := ByteArray.mk_append_mk x y

/-- A list that was just laid. -/
theorem rd_many (w : World) (ps : List (List UInt8)) (hl : ps.length ≤ 100) : Rd (w.alloc (.cells (ps.map txt).toArray 9)) (.slice (some ⟨w.heap.size, 0, none⟩) ps.length ps.length) ps := by
  refine ⟨_, ps.length, rfl, Nat.le_refl _, by unfold maxLen; omega, fun _ => ⟨w.heap.size, rfl, by simp, fun j hj => ?_⟩⟩
  have e := heap_alloc_new w (.cells (ps.map txt).toArray 9)
  simp only [World.cell?, e]
  simp [txt, hj]

theorem size_alloc (w : World) (o : Obj) : (w.alloc o).heap.size = w.heap.size + 1 := by simp

def yesL : List (List UInt8) := [[116, 118, 45, 49], [97], aas 32, [122, 57, 95, 45]]
def noL : List (List UInt8) := [[], [49, 97], [45, 97], [65], [97, 46, 98], [195, 169], aas 33, [95], [97, 32, 98]]

def longL : List UInt8 := aas 32 ++ [46] ++ aas 32 ++ [46] ++ aas 32 ++ [46] ++ aas 32
def dotL : List (List UInt8) := [[109, 97, 105, 108, 46, 114, 101, 97, 100], [97], [97, 46, 98, 46, 99, 46, 100], longL]
def notL : List (List UInt8) := [[97, 46], [46, 97], [97, 46, 46, 98], [97, 46, 98, 46, 99, 46, 100, 46, 101], longL ++ [97], [97, 46, 66], []]

theorem pk : partsL [97, 46, 98, 46, 99] = [[97], [98], [99]] := by decide
theorem ck (w : World) : Calls Try.prog 6 #[.string ⟨#[97, 46, 98, 46, 99]⟩] w fun e w' => ∃ v, e = .returned v ∧ Rd w' v [[97], [98], [99]] ∧ Below w.heap.size w w' := by
  refine (parts_l [97, 46, 98, 46, 99] w (by decide)).mono ?_
  rintro e w' ⟨v, rfl, hown, hb⟩
  have := rd_own hown
  rw [pk] at this
  exact ⟨v, rfl, this, hb⟩
theorem uk0 (w : World) : Calls Try.prog 8 #[.string ⟨#[109, 97, 105, 108, 98, 111, 120]⟩, .string ⟨#[109, 97, 105, 108]⟩] w fun e w' => e = .returned (.bool false) ∧ Below w.heap.size w w' := by
  have h := under_l [109, 97, 105, 108, 98, 111, 120] [109, 97, 105, 108] w (by decide) (by decide)
  rw [show underB [109, 97, 105, 108, 98, 111, 120] [109, 97, 105, 108] = false by decide] at h; exact h
theorem uk1 (w : World) : Calls Try.prog 8 #[.string ⟨#[109, 97, 105, 108]⟩, .string ⟨#[109, 97, 105, 108]⟩] w fun e w' => e = .returned (.bool true) ∧ Below w.heap.size w w' := by
  have h := under_l [109, 97, 105, 108] [109, 97, 105, 108] w (by decide) (by decide)
  rw [show underB [109, 97, 105, 108] [109, 97, 105, 108] = true by decide] at h; exact h
theorem uk2 (w : World) : Calls Try.prog 8 #[.string ⟨#[97, 46]⟩, .string ⟨#[97]⟩] w fun e w' => e = .returned (.bool false) ∧ Below w.heap.size w w' := by
  have h := under_l [97, 46] [97] w (by decide) (by decide)
  rw [show underB [97, 46] [97] = false by decide] at h; exact h
theorem uk3 (w : World) : Calls Try.prog 8 #[.string ⟨#[97]⟩, .string ⟨#[]⟩] w fun e w' => e = .returned (.bool false) ∧ Below w.heap.size w w' := by
  have h := under_l [97] [] w (by decide) (by decide)
  rw [show underB [97] [] = false by decide] at h; exact h
theorem ok0 (w : World) : Calls Try.prog 9 #[.string ⟨#[97, 46, 98]⟩, .string ⟨#[97, 45, 98]⟩] w fun e w' => e = .returned (.int .i64 (-1)) ∧ Below w.heap.size w w' := by
  have h := cmp_l [97, 46, 98] [97, 45, 98] w (by decide) (by decide)
  rw [show cmpT [97, 46, 98] [97, 45, 98] = -1 by decide] at h; exact h
theorem ok1 (w : World) : Calls Try.prog 9 #[.string ⟨#[97, 46, 98]⟩, .string ⟨#[97, 46, 98]⟩] w fun e w' => e = .returned (.int .i64 (0)) ∧ Below w.heap.size w w' := by
  have h := cmp_l [97, 46, 98] [97, 46, 98] w (by decide) (by decide)
  rw [show cmpT [97, 46, 98] [97, 46, 98] = 0 by decide] at h; exact h
theorem ok2 (w : World) : Calls Try.prog 9 #[.string ⟨#[97, 46, 99]⟩, .string ⟨#[97, 46, 98, 46, 122]⟩] w fun e w' => e = .returned (.int .i64 (1)) ∧ Below w.heap.size w w' := by
  have h := cmp_l [97, 46, 99] [97, 46, 98, 46, 122] w (by decide) (by decide)
  rw [show cmpT [97, 46, 99] [97, 46, 98, 46, 122] = 1 by decide] at h; exact h
theorem ok3 (w : World) : Calls Try.prog 9 #[.string ⟨#[]⟩, .string ⟨#[46]⟩] w fun e w' => e = .returned (.int .i64 (-1)) ∧ Below w.heap.size w w' := by
  have h := cmp_l [] [46] w (by decide) (by decide)
  rw [show cmpT [] [46] = -1 by decide] at h; exact h
theorem ok4 (w : World) : Calls Try.prog 9 #[.string ⟨#[97, 255]⟩, .string ⟨#[98]⟩] w fun e w' => e = .returned (.int .i64 (-1)) ∧ Below w.heap.size w w' := by
  have h := cmp_l [97, 255] [98] w (by decide) (by decide)
  rw [show cmpT [97, 255] [98] = -1 by decide] at h; exact h
theorem ok5 (w : World) : Calls Try.prog 9 #[.string ⟨#[97, 0]⟩, .string ⟨#[97]⟩] w fun e w' => e = .returned (.int .i64 (1)) ∧ Below w.heap.size w w' := by
  have h := cmp_l [97, 0] [97] w (by decide) (by decide)
  rw [show cmpT [97, 0] [97] = 1 by decide] at h; exact h

set_option maxRecDepth 1000000 in
set_option maxHeartbeats 4000000 in
theorem namesKnown_walk (w : World) : Calls Try.prog 3 #[] w fun e w' => e = .returned (.bool true) ∧ Below w.heap.size w w' := by
  go_enter Try.func3, Try.ntmps3
  go_wp2
  go_loop [1, 2] (fun s i => ∃ k : Nat, k ≤ 32 ∧ i = .int .i64 k ∧ s = .string (B (aas k))) (fun _ i => 32 - (intOf i).toNat)
  case atStart => exact ⟨0, by omega, rfl, rfl⟩
  case round =>
    obtain ⟨k, hk, rfl, rfl⟩ := hrel
    have hsz : (B (aas k)).size ≤ 32 := by rw [B_size, aas_len]; exact hk
    by_cases h32 : k < 32
    · have HE : Hid (B (aas k) ++ ByteArray.mk #[97] = B (aas (k + 1))) := B_append (aas k) [97]
      go_wp2
      go_round
      case rel => exact ⟨k + 1, by omega, by go_num, congrArg Value.string HE.out⟩
      case measure => simp [intOf]; omega
    · have h32' : k = 32 := by omega
      have HE : Hid (B (aas 32) ++ ByteArray.mk #[97] = B (aas 33)) := B_append (aas 32) [97]
      subst h32'
      clear h32 hk
      go_upto_region 8 with fail
      rw [HE.out]
      go_cut [3, 4, 5] from 12 (fun v3 v4 v5 wr => v5 = .int .i64 0 ∧ Rd wr v3 yesL ∧ Rd wr v4 noL ∧ Below w.heap.size w wr)
      case first =>
        go_wp2_with fail
        go_meet
        refine ⟨rfl, Rd.below (rd_many w yesL (by decide)) ((Below.refl _ _).alloc (Nat.le_refl _) _), ?_, ?_⟩
        · have := rd_many (w.alloc (.cells (yesL.map txt).toArray 9)) noL (by decide)
          rw [size_alloc] at this
          exact this
        · exact ((Below.refl _ _).alloc (Nat.le_refl _) _).alloc (by simp) _
      case rest =>
        obtain ⟨rfl, hy, hn, hbel⟩ := hcut
        obtain ⟨a3, cap3, rfl, hcap3, hm3, hx3⟩ := hy
        have HY : Hid (∀ p ∈ yesL, nameB p = true ∧ p.length ≤ maxLen) := by
          show ∀ p ∈ yesL, nameB p = true ∧ p.length ≤ maxLen
          decide
        have HX3 : Hid (0 < yesL.length → ∃ g, a3 = some ⟨g, 0, none⟩ ∧ g < wc.heap.size ∧ ∀ j (hj : j < yesL.length), wc.cell? ⟨g, j, none⟩ = some (.string (B yesL[j]))) := hx3
        have HNN : Hid (∀ p ∈ noL, nameB p = false ∧ p.length ≤ maxLen) := by
          show ∀ p ∈ noL, nameB p = false ∧ p.length ≤ maxLen
          decide
        clear hx3
        have hl3 : yesL.length ≤ 100 := by decide
        have hl4 : noL.length ≤ 100 := by decide
        generalize yesL = ys at *
        generalize noL = ns at *
        unfold maxLen at hm3
        go_wp2_with fail
        go_loopw [5] (fun i wr => ∃ k : Nat, k ≤ ys.length ∧ i = .int .i64 k ∧ Below wc.heap.size wc wr) (fun i _ => ys.length - (intOf i).toNat)
        case atStart => exact ⟨0, Nat.zero_le _, rfl, Below.refl _ _⟩
        case round =>
          obtain ⟨k, hk, rfl, hb⟩ := hrel
          by_cases hp : k < ys.length
          · obtain ⟨g, rfl, hg, hcx⟩ := HX3.out (by omega)
            have hc : wr.cell? ⟨g, k, none⟩ = some (.string (B ys[k])) := (hb.cell (p := ⟨g, k, none⟩) hg).trans (hcx k hp)
            obtain ⟨hnm, hln⟩ := HY.out _ (List.getElem_mem hp)
            have HL : Hid ((ys[k]).length ≤ maxLen) := hln
            clear hcx hln
            go_wp2_with (go_at_call 4; refine (name_l _ _ HL.out).mono ?_; rintro e w5 ⟨rfl, q5⟩)
            go_roundw
            case rel => exact ⟨k + 1, by omega, by go_num, below_then hb q5⟩
            case measure => simp [intOf]; omega
          · clear HX3 HY
            have hn := hn.below hb
            have hbel := below_then hbel hb
            clear hb
            rename World => w2
            obtain ⟨a4, cap4, rfl, hcap4, hm4, hx4⟩ := hn
            unfold maxLen at hm4
            have HX4 : Hid (0 < ns.length → ∃ g, a4 = some ⟨g, 0, none⟩ ∧ g < w2.heap.size ∧ ∀ j (hj : j < ns.length), w2.cell? ⟨g, j, none⟩ = some (.string (B ns[j]))) := hx4
            clear hx4
            go_wp2_with fail
            clear hk hp
            go_loopw [6] (fun i wr => ∃ k : Nat, k ≤ ns.length ∧ i = .int .i64 k ∧ Below w2.heap.size w2 wr) (fun i _ => ns.length - (intOf i).toNat)
            case atStart => exact ⟨0, Nat.zero_le _, rfl, Below.refl _ _⟩
            case round =>
              obtain ⟨k2, hk, rfl, hb⟩ := hrel
              by_cases hp : k2 < ns.length
              · obtain ⟨g, rfl, hg, hcx⟩ := HX4.out (by omega)
                have hc : wr.cell? ⟨g, k2, none⟩ = some (.string (B ns[k2])) := (hb.cell (p := ⟨g, k2, none⟩) hg).trans (hcx k2 hp)
                obtain ⟨hnm, hln⟩ := HNN.out _ (List.getElem_mem hp)
                have HL : Hid ((ns[k2]).length ≤ maxLen) := hln
                clear hcx hln
                go_wp2_with (go_at_call 4; refine (name_l _ _ HL.out).mono ?_; rintro e w5 ⟨rfl, q5⟩)
                go_roundw
                case rel => exact ⟨k2 + 1, by omega, by go_num, below_then hb q5⟩
                case measure => simp [intOf]; omega
              · clear HX4 HNN
                have hbel := below_then hbel hb
                clear hb
                rename World => w3
                have EL : Hid (B (aas 32) ++ ByteArray.mk #[46] ++ B (aas 32) ++ ByteArray.mk #[46] ++ B (aas 32) ++ ByteArray.mk #[46] ++ B (aas 32) = B longL) := by
                  show B (aas 32) ++ B [46] ++ B (aas 32) ++ B [46] ++ B (aas 32) ++ B [46] ++ B (aas 32) = B longL
                  rw [B_append, B_append, B_append, B_append, B_append, B_append]; rfl
                have EL2 : Hid (B longL ++ ByteArray.mk #[97] = B (longL ++ [97])) := B_append longL [97]
                have hs1 : (B (aas 32)).size = 32 := by rw [B_size, aas_len]
                have hs2 : (B longL).size = 131 := by rw [B_size]; rfl
                go_upto_region 19 with fail
                rw [EL.out]
                go_upto_region 21 with fail
                rw [EL2.out]
                go_cut [8, 9, 10] from 12 (fun v8 v9 v10 wr => v10 = .int .i64 0 ∧ Rd wr v8 dotL ∧ Rd wr v9 notL ∧ Below w.heap.size w wr)
                case first =>
                  go_wp2_with fail
                  go_meet
                  refine ⟨rfl, Rd.below (rd_many w3 dotL (by decide)) ((Below.refl _ _).alloc (Nat.le_refl _) _), ?_, ?_⟩
                  · have := rd_many (w3.alloc (.cells (dotL.map txt).toArray 9)) notL (by decide)
                    rw [size_alloc] at this
                    exact this
                  · exact below_then hbel (((Below.refl _ _).alloc (Nat.le_refl _) _).alloc (by simp) _)
                case rest =>
                  clear hbel hs1 hs2 EL EL2
                  obtain ⟨rfl, hy, hn, hbel⟩ := hcut
                  rename World => wd
                  obtain ⟨a8, cap8, rfl, hcap8, hm8, hx8⟩ := hy
                  have HY : Hid (∀ p ∈ dotL, dottedB p = true ∧ p.length ≤ maxLen) := by
                    show ∀ p ∈ dotL, dottedB p = true ∧ p.length ≤ maxLen
                    decide
                  have HX8 : Hid (0 < dotL.length → ∃ g, a8 = some ⟨g, 0, none⟩ ∧ g < wd.heap.size ∧ ∀ j (hj : j < dotL.length), wd.cell? ⟨g, j, none⟩ = some (.string (B dotL[j]))) := hx8
                  have HNN : Hid (∀ p ∈ notL, dottedB p = false ∧ partsL p = [] ∧ p.length ≤ maxLen) := by
                    show ∀ p ∈ notL, dottedB p = false ∧ partsL p = [] ∧ p.length ≤ maxLen
                    decide
                  clear hx8
                  have hl8 : dotL.length ≤ 100 := by decide
                  have hl9 : notL.length ≤ 100 := by decide
                  generalize dotL = ds at *
                  generalize notL = es at *
                  unfold maxLen at hm8
                  go_wp2_with fail
                  go_loopw [10] (fun i wr => ∃ k : Nat, k ≤ ds.length ∧ i = .int .i64 k ∧ Below wd.heap.size wd wr) (fun i _ => ds.length - (intOf i).toNat)
                  case atStart => exact ⟨0, Nat.zero_le _, rfl, Below.refl _ _⟩
                  case round =>
                    obtain ⟨k3, hk, rfl, hb⟩ := hrel
                    by_cases hp : k3 < ds.length
                    · obtain ⟨g, rfl, hg, hcx⟩ := HX8.out (by omega)
                      have hc : wr.cell? ⟨g, k3, none⟩ = some (.string (B ds[k3])) := (hb.cell (p := ⟨g, k3, none⟩) hg).trans (hcx k3 hp)
                      obtain ⟨hnm, hln⟩ := HY.out _ (List.getElem_mem hp)
                      have HL : Hid ((ds[k3]).length ≤ maxLen) := hln
                      clear hcx hln
                      go_wp2_with (go_at_call 5; refine (dotted_l _ _ HL.out).mono ?_; rintro e w5 ⟨rfl, q5⟩)
                      go_roundw
                      case rel => exact ⟨k3 + 1, by omega, by go_num, below_then hb q5⟩
                      case measure => simp [intOf]; omega
                    · clear HX8 HY
                      have hn := hn.below hb
                      have hbel := below_then hbel hb
                      clear hb
                      rename World => w6
                      obtain ⟨a9, cap9, rfl, hcap9, hm9, hx9⟩ := hn
                      unfold maxLen at hm9
                      have HX9 : Hid (0 < es.length → ∃ g, a9 = some ⟨g, 0, none⟩ ∧ g < w6.heap.size ∧ ∀ j (hj : j < es.length), w6.cell? ⟨g, j, none⟩ = some (.string (B es[j]))) := hx9
                      clear hx9
                      go_wp2_with fail
                      clear hk hp
                      go_loopw [11] (fun i wr => ∃ k : Nat, k ≤ es.length ∧ i = .int .i64 k ∧ Below w6.heap.size w6 wr) (fun i _ => es.length - (intOf i).toNat)
                      case atStart => exact ⟨0, Nat.zero_le _, rfl, Below.refl _ _⟩
                      case round =>
                        obtain ⟨k4, hk, rfl, hb⟩ := hrel
                        by_cases hp : k4 < es.length
                        · obtain ⟨g, rfl, hg, hcx⟩ := HX9.out (by omega)
                          have hc : wr.cell? ⟨g, k4, none⟩ = some (.string (B es[k4])) := (hb.cell (p := ⟨g, k4, none⟩) hg).trans (hcx k4 hp)
                          obtain ⟨hnm, hnp, hln⟩ := HNN.out _ (List.getElem_mem hp)
                          have HL : Hid ((es[k4]).length ≤ maxLen) := hln
                          have HP : Hid (partsL es[k4] = []) := hnp
                          have hgr : g < wr.heap.size := Nat.lt_of_lt_of_le hg hb.size
                          clear hcx hln hnp
                          go_wp2_with fail
                          refine (dotted_l _ _ HL.out).mono ?_
                          rintro e w7 ⟨rfl, q7⟩
                          have hc7 : w7.cell? ⟨g, k4, none⟩ = some (.string (B es[k4])) := (q7.cell (p := ⟨g, k4, none⟩) hgr).trans hc
                          clear hc
                          go_wp2_with fail
                          refine (parts_l _ _ HL.out).mono ?_
                          rintro e w8 ⟨v, rfl, hown, q8⟩
                          obtain ⟨a10, cap10, hv, _, _, _⟩ := rd_own hown
                          rw [HP.out] at hv
                          subst hv
                          clear hown hc7
                          go_wp2
                          go_roundw
                          case rel => exact ⟨k4 + 1, by omega, by go_num, below_then (below_then hb q7) q8⟩
                          case measure => simp [intOf]; omega
                        · clear HX9 HNN
                          have hbel := below_then hbel hb
                          clear hb
                          rename World => w9
                          go_wp2_with fail
                          refine (ck _).mono ?_
                          rintro e wp ⟨vp, rfl, hrd, qp⟩
                          go_wp2_with fail
                          refine (same_l _ _ [[97], [98], [99]] [[97], [98], [99]] _ (hrd.below ((Below.refl _ _).alloc (Nat.le_refl _) _)) (rd_many _ [[97], [98], [99]] (by decide))).mono ?_
                          rintro e ws ⟨rfl, n, hws⟩
                          have hq : Below w.heap.size w ws := by
                            rw [hws]
                            exact below_drewN (Below.alloc (below_then hbel qp) (below_then hbel qp).size _) _
                          have et : decide ([[(97 : UInt8)], [98], [99]] = [[97], [98], [99]]) = true := by decide
                          rw [et]
                          clear hws hrd qp hbel et
                          go_wp2_with fail
                          refine (uk0 _).mono ?_
                          rintro e v0 ⟨rfl, q0⟩
                          go_wp2_with fail
                          refine (uk1 _).mono ?_
                          rintro e v1 ⟨rfl, q1⟩
                          go_wp2_with fail
                          refine (uk2 _).mono ?_
                          rintro e v2 ⟨rfl, q2⟩
                          go_wp2_with fail
                          refine (uk3 _).mono ?_
                          rintro e v3 ⟨rfl, q3⟩
                          go_wp2_with fail
                          refine (ok0 _).mono ?_
                          rintro e v4 ⟨rfl, q4⟩
                          go_wp2_with fail
                          refine (ok1 _).mono ?_
                          rintro e v5 ⟨rfl, q5⟩
                          go_wp2_with fail
                          refine (ok2 _).mono ?_
                          rintro e v6 ⟨rfl, q6⟩
                          go_wp2_with fail
                          refine (ok3 _).mono ?_
                          rintro e v7 ⟨rfl, q7⟩
                          go_wp2_with fail
                          refine (ok4 _).mono ?_
                          rintro e v8 ⟨rfl, q8⟩
                          go_wp2_with fail
                          refine (ok5 _).mono ?_
                          rintro e v9 ⟨rfl, q9⟩
                          go_wp2
                          go_ret
                          exact ⟨rfl, by repeat (first | assumption | refine below_then ?_ (by assumption))⟩
end Nm
end Go.Proofs.Ytlfoipddhcdmmab
