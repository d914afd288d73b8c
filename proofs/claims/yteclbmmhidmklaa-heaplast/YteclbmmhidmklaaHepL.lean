/- HeapLast, out of what the program's heap answers. -/
import Derived.Test.YteclbmmhidmklaaHepW
namespace Go.Proofs.Yteclbmmhidmklaa
set_option linter.ambiguousOpen false
open Go.RowKit
namespace Hh
open Ft
set_option linter.unusedSimpArgs false
set_option linter.unusedVariables false
attribute [local go_sem] Oper.semAt_some

/-- How many of the first k numbers are in it. -/
def cntH (S : List It) (k : Nat) : Nat := ((List.range k).filter (fun (j : Nat) => (keyH S (j : Int)).isSome)).length

theorem cntH_succ (S : List It) (k : Nat) : cntH S (k + 1) = cntH S k + (if (keyH S (k : Int)).isSome then 1 else 0) := by
  unfold cntH
  rw [List.range_succ, List.filter_append, List.length_append]
  congr 1
  rw [List.filter_cons]
  cases (keyH S (k : Int)).isSome <;> rfl

theorem cntH_le (S : List It) (k : Nat) : cntH S k ≤ k := by
  unfold cntH
  have := List.length_filter_le (fun (j : Nat) => (keyH S (j : Int)).isSome) (List.range k)
  rwa [List.length_range] at this

theorem cntH_all {S : List It} (h : Hk 64 S) : cntH S 64 = S.length := by
  unfold cntH
  have h1 : (S.map (fun x => x.i.toNat)).Nodup := by
    rw [List.nodup_iff_pairwise_ne, List.pairwise_map]
    refine h.nd.imp_of_mem (fun ha hb hne => ?_)
    have := h.rng _ ha
    have := h.rng _ hb
    omega
  have h2 : ((List.range 64).filter (fun (j : Nat) => (keyH S (j : Int)).isSome)).Nodup := List.nodup_range.filter _
  have h3 : (S.map (fun x => x.i.toNat)).Perm ((List.range 64).filter (fun (j : Nat) => (keyH S (j : Int)).isSome)) := by
    rw [List.perm_ext_iff_of_nodup h1 h2]
    intro n
    rw [List.mem_map, List.mem_filter, List.mem_range]
    constructor
    · rintro ⟨x, hx, rfl⟩
      have hr := h.rng x hx
      refine ⟨by omega, ?_⟩
      have : keyH S x.i = some x.k := (keyH_mem h).2 hx
      rw [show ((x.i.toNat : Nat) : Int) = x.i by omega, this]
      rfl
    · rintro ⟨hn, hs⟩
      obtain ⟨k, hk⟩ := Option.isSome_iff_exists.1 hs
      exact ⟨⟨n, k⟩, (keyH_mem h).1 hk, by simp⟩
  rw [← h3.length_eq, List.length_map]

set_option maxRecDepth 1000000 in
set_option maxHeartbeats 8000000 in
theorem heapLast_yes {R : RepHT} (C : HeapB R) (sv : Value) (l : List It) (w : World) (hR : RdQ w sv l) (hF : ∀ x ∈ l, I64 x.i) :
    Calls Try.prog 4 #[sv] w fun e w' => e = .returned (.bool true) ∧ Below w.heap.size w w' := by
  have cW := Hid.mk' (works_any C)
  have HRQ := Hid.mk' hR
  obtain ⟨av, cv, rfl, hc1, hc2, hcell⟩ := hR
  obtain ⟨m, hm⟩ : ∃ m, l.length = m := ⟨_, rfl⟩
  have HM := Hid.mk' hm
  have HCL := Hid.mk' hcell
  have HF := Hid.mk' hF
  rw [hm] at hc1 HRQ ⊢
  unfold maxLen at hc2
  have hcI : (cv : Int) ≤ 9223372036854775807 := by omega
  clear hcell hF hm
  by_cases hbig : m > 1000
  · have hbI : (m : Int) > 1000 := by omega
    go_enter Try.func4, Try.ntmps4
    go_wp2_with fail
    refine (cW.out w).mono ?_
    rintro e w1 ⟨rfl, b1⟩
    have HB1 := Hid.mk' b1
    clear b1
    go_wp2_with fail
    refine (cW.out w1).mono ?_
    rintro e w2 ⟨rfl, b2⟩
    have HB2 := Hid.mk' (HB1.out.trans (b2.mono HB1.out.size))
    clear b2
    go_wp2
    go_ret
    exact ⟨rfl, HB2.out⟩
  · have hbI : ¬ (m : Int) > 1000 := by omega
    go_enter Try.func4, Try.ntmps4
    go_wp2_with fail
    refine (cW.out w).mono ?_
    rintro e w1 ⟨rfl, b1⟩
    have HB1 := Hid.mk' b1
    have c2 := Hid.mk' (filled_any C _ l w1 (HRQ.out.below b1) HF.out)
    clear b1
    go_wp2_with fail
    refine c2.out.mono ?_
    rintro e w2 ⟨p, F, rfl, h2, f2, b2⟩
    have HB2 := Hid.mk' (HB1.out.trans (b2.mono HB1.out.size))
    have H2 := Hid.mk' h2
    have hgood := fill_good l
    have hfew := fill_few l
    have HLAST : Hid (∀ k : Nat, keyH (fill (l.take m)) (k : Int) = keyH (fill l) (k : Int)) := fun k => by rw [List.take_of_length_le (by rw [HM.out]; exact Nat.le_refl _)]
    obtain ⟨S, hS⟩ : ∃ S, fill l = S := ⟨_, rfl⟩
    rw [hS] at H2 hgood hfew HLAST
    have HG := Hid.mk' hgood
    have HFW := Hid.mk' hfew
    clear h2 f2 b2 c2 hgood hfew hS cW
    go_wp2_with fail
    go_loopw [4, 5, 6, 7, 8, 9, 10] (fun nv iv av2 bv2 kv cv2 dv2 wr => ∃ k : Nat, k ≤ 64 ∧ iv = nun k ∧ nv = nun (cntH S k) ∧ Hid (Below w2.heap.size w2 wr)) (fun _ iv _ _ _ _ _ _ => 64 - (intOf iv).toNat)
    case atStart => exact ⟨0, Nat.zero_le _, rfl, rfl, Below.refl _ _⟩
    case round =>
      obtain ⟨k, hk, rfl, rfl, HL⟩ := hrel
      rename World => w3
      by_cases hlt : k < 64
      · have hkI : (k : Int) < 64 := by omega
        go_wp2_with fail
        go_loopw [6, 7, 8] (fun av2 bv2 jv wr => ∃ j : Nat, j ≤ m ∧ jv = nun j ∧ av2 = .bool (keyH (fill (l.take j)) k).isSome ∧ bv2 = nu ((keyH (fill (l.take j)) k).getD 0) ∧ Hid (wr = w3)) (fun _ _ jv _ => m - (intOf jv).toNat)
        case atStart => exact ⟨0, Nat.zero_le _, rfl, rfl, rfl, rfl⟩
        case round =>
          obtain ⟨j, hj, rfl, rfl, rfl, HW⟩ := hrel
          have hwr := HW.out
          subst hwr
          by_cases hjm : j < m
          · have hjI : (j : Int) < (m : Int) := by omega
            have hj0 : (0 : Int) ≤ (j : Int) := by omega
            obtain ⟨gv, ov, rfl, hgl, hcl⟩ := HCL.out (by rw [HM.out]; omega)
            obtain ⟨x, hx⟩ : ∃ x, l[j]? = some x := ⟨_, List.getElem?_eq_getElem (by rw [HM.out]; exact hjm)⟩
            have hfx := HF.out x (List.mem_of_getElem? hx)
            have hft := fill_take l j x hx
            have hcx := hcl j x hx
            have hbx := HB2.out.trans (HL.out.mono HB2.out.size)
            have x0 : wr.cell? ⟨gv, ov + j * 2, none⟩ = some (nu x.i) := (hbx.cell (p := ⟨gv, ov + j * 2, none⟩) hgl).trans hcx.1
            have x1 : wr.cell? ⟨gv, ov + j * 2 + 1, none⟩ = some (nu x.k) := (hbx.cell (p := ⟨gv, ov + j * 2 + 1, none⟩) hgl).trans hcx.2
            have hks := key_set (fill_good (l.take j)) (i := x.i % 64) ⟨Int.emod_nonneg _ (by decide), Int.emod_lt_of_pos _ (by decide)⟩ x.k (k : Int)
            rw [← hft] at hks
            obtain ⟨K1, hK1⟩ : ∃ K1, keyH (fill (l.take (j + 1))) (k : Int) = K1 := ⟨_, rfl⟩
            obtain ⟨K0, hK0⟩ : ∃ K0, keyH (fill (l.take j)) (k : Int) = K0 := ⟨_, rfl⟩
            rw [hK1, hK0] at hks
            rw [hK0]
            have HK1 := Hid.mk' hK1
            obtain ⟨xi, xk⟩ := x
            dsimp only at x0 x1 hks hfx
            have cK : Hid (∀ wx, Calls Try.prog 15 #[nu xi, nu 64] wx fun e w' => e = .returned (nu (xi % 64)) ∧ w' = wx) := fun wx => pickH xi 64 wx (by decide) (by decide) hfx
            obtain ⟨q, hq⟩ : ∃ q, xi % 64 = q := ⟨_, rfl⟩
            rw [hq] at hks cK
            by_cases hqk : (k : Int) = q
            · rw [if_pos hqk] at hks
              have hb : (q == (k : Int)) = true := by
                rw [hqk]
                simp
              have HKS := Hid.mk' hks
              clear hcl hx hfx hft hcx hbx hks hK1 hK0 hq hqk
              go_wp2_with fail
              refine (cK.out _).mono ?_
              rintro e w4 ⟨rfl, rfl⟩
              go_wp2
              go_roundw
              case rel => exact ⟨j + 1, by omega, by go_num, by rw [HK1.out, HKS.out]; rfl, by rw [HK1.out, HKS.out]; rfl, trivial⟩
              case measure => simp [intOf]; omega
            · rw [if_neg hqk] at hks
              have hb : (q == (k : Int)) = false := by
                simp only [beq_eq_false_iff_ne]
                exact fun e => hqk e.symm
              have HKS := Hid.mk' hks
              clear hcl hx hfx hft hcx hbx hks hK1 hK0 hq hqk
              go_wp2_with fail
              refine (cK.out _).mono ?_
              rintro e w4 ⟨rfl, rfl⟩
              go_wp2
              go_roundw
              case rel => exact ⟨j + 1, by omega, by go_num, by rw [HK1.out, HKS.out], by rw [HK1.out, HKS.out], trivial⟩
              case measure => simp [intOf]; omega
          · have hjI : ¬ (j : Int) < (m : Int) := by omega
            obtain rfl : j = m := by omega
            rw [HLAST.out k]
            have hrep := HeapB.below C H2.out HL.out
            have c5 := Hid.mk' (C.key wr p F 64 S k hrep HG.out (by have := HFW.out; omega))
            have HCS := Hid.mk' (cntH_succ S k)
            have hcl := cntH_le S k
            obtain ⟨c, hc⟩ : ∃ c, cntH S k = c := ⟨_, rfl⟩
            rw [hc] at hcl HCS ⊢
            obtain ⟨K, hK⟩ : ∃ K, keyH S (k : Int) = K := ⟨_, rfl⟩
            rw [hK] at c5 HCS ⊢
            clear hrep hK hc
            go_wp2_with fail
            refine c5.out.mono ?_
            rintro e w4 ⟨rfl, b4⟩
            have HB4 : Hid (Below w2.heap.size w2 w4) := HL.out.trans (b4.mono HL.out.size)
            clear b4 c5
            cases K with
            | none =>
              have HC2 : Hid (cntH S (k + 1) = c) := HCS.out
              simp only [Option.isSome_none, Option.getD_none]
              go_wp2
              go_roundw
              case rel => exact ⟨k + 1, by omega, by go_num, by rw [HC2.out], HB4.out⟩
              case measure => simp [intOf]; omega
            | some y =>
              have HC2 : Hid (cntH S (k + 1) = c + 1) := HCS.out
              simp only [Option.isSome_some, Option.getD_some]
              go_wp2
              go_roundw
              case rel => exact ⟨k + 1, by omega, by go_num, by rw [HC2.out]; go_num, HB4.out⟩
              case measure => simp [intOf]; omega
      · have hkI : ¬ (k : Int) < 64 := by omega
        obtain rfl : k = 64 := by omega
        have hrep := HeapB.below C H2.out HL.out
        have c5 := Hid.mk' (C.len w3 p F 64 S hrep)
        rw [cntH_all HG.out]
        obtain ⟨c, hc⟩ : ∃ c, S.length = c := ⟨_, rfl⟩
        rw [hc] at c5 ⊢
        clear hrep hc
        go_wp2_with fail
        refine c5.out.mono ?_
        rintro e w4 ⟨rfl, b4⟩
        have HB4 : Hid (Below w.heap.size w w4) := (HB2.out.trans (HL.out.mono HB2.out.size)).trans (b4.mono (Nat.le_trans HB2.out.size HL.out.size))
        clear b4 c5
        go_wp2
        go_ret
        exact ⟨by simp, HB4.out⟩
end Hh
end Go.Proofs.Yteclbmmhidmklaa
