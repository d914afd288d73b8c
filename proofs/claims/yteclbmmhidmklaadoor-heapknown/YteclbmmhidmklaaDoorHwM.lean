/- HepG, HepW, HepL, in one text. -/
import Derived.Test.YteclbmmhidmklaaDoorHfM
/- The laws' own 'filled': a heap of 64 with some numbers set, one behind the other. -/
namespace Go.Proofs.YteclbmmhidmklaaDoor
set_option linter.ambiguousOpen false
open Go.RowKit
namespace Hh
open Ft
set_option linter.unusedSimpArgs false
set_option linter.unusedVariables false
attribute [local go_sem] Oper.semAt_some

/-- Pairs that lie there. -/
def RdQ (w : World) (v : Value) (L : List It) : Prop :=
  ∃ a cap, v = .slice a L.length cap ∧ L.length ≤ cap ∧ cap ≤ maxLen ∧ (0 < L.length → ∃ g o, a = some ⟨g, o, none⟩ ∧ g < w.heap.size ∧ ∀ n x, L[n]? = some x → w.cell? ⟨g, o + n * 2, none⟩ = some (nu x.i) ∧ w.cell? ⟨g, o + n * 2 + 1, none⟩ = some (nu x.k))

theorem RdQ.below {w w' : World} {v : Value} {L : List It} (h : RdQ w v L) (hb : Below w.heap.size w w') : RdQ w' v L := by
  obtain ⟨a, cap, h1, h2, h3, h4⟩ := h
  refine ⟨a, cap, h1, h2, h3, fun h0 => ?_⟩
  obtain ⟨g, o, e1, e2, e3⟩ := h4 h0
  exact ⟨g, o, e1, Nat.lt_of_lt_of_le e2 hb.size, fun n x hx => ⟨(hb.cell (p := ⟨g, o + n * 2, none⟩) e2).trans (e3 n x hx).1, (hb.cell (p := ⟨g, o + n * 2 + 1, none⟩) e2).trans (e3 n x hx).2⟩⟩

/-- What is in it then. -/
def fill (l : List It) : List It := l.foldl (fun H x => setH H (x.i % 64) x.k) []

theorem fill_snoc (l : List It) (x : It) : fill (l ++ [x]) = setH (fill l) (x.i % 64) x.k := by
  unfold fill
  rw [List.foldl_append]
  rfl

theorem fill_take (l : List It) (k : Nat) (x : It) (hx : l[k]? = some x) : fill (l.take (k + 1)) = setH (fill (l.take k)) (x.i % 64) x.k := by
  obtain ⟨hk, hxe⟩ := List.getElem?_eq_some_iff.1 hx
  have e : l.take (k + 1) = l.take k ++ [x] := by rw [← hxe]; exact List.take_succ_eq_append_getElem hk
  rw [e, fill_snoc]

theorem fill_good (l : List It) : Hk 64 (fill l) := by
  have : ∀ (n : Nat), Hk 64 (fill (l.take n)) := fun n => by
    induction n with
    | zero => exact Hk.nil 64
    | succ n ih =>
      by_cases h : n < l.length
      · rw [fill_take l n _ (List.getElem?_eq_getElem h)]
        exact ih.set ⟨Int.emod_nonneg _ (by decide), Int.emod_lt_of_pos _ (by decide)⟩ _
      · rw [List.take_of_length_le (by omega)] at ih ⊢
        exact ih
  have h := this l.length
  rwa [List.take_of_length_le (Nat.le_refl _)] at h

theorem fill_few (l : List It) : (fill l).length ≤ 64 := Hk.few (N := 64) (fill_good l)

set_option maxRecDepth 1000000 in
set_option maxHeartbeats 4000000 in
theorem filled_any {R : RepHT} (C : HeapB R) (sv : Value) (l : List It) (w : World) (hR : RdQ w sv l) (hF : ∀ x ∈ l, I64 x.i) :
    Calls Tryd.prog 54 #[sv] w fun e w' => ∃ p F, e = .returned (ptr p) ∧ R w' p F 64 (fill l) ∧ (∀ k, F k → w.heap.size ≤ k) ∧ Below w.heap.size w w' := by
  obtain ⟨av, cv, rfl, hc1, hc2, hcell⟩ := hR
  obtain ⟨m, hm⟩ : ∃ m, l.length = m := ⟨_, rfl⟩
  have HM := Hid.mk' hm
  have HCL := Hid.mk' hcell
  have HF := Hid.mk' hF
  rw [hm] at hc1 ⊢
  unfold maxLen at hc2
  have hcI : (cv : Int) ≤ 9223372036854775807 := by omega
  have c1 := Hid.mk' (C.new w 64)
  simp only [if_neg (show ¬ ((64 : Int) < 1 ∨ (65536 : Int) < 64) by decide)] at c1
  have hz0 : errE 0 = .nilIface := rfl
  rw [hz0] at c1
  clear hcell hF hm
  go_enter Tryd.func54, Tryd.ntmps54
  go_wp2_with fail
  refine c1.out.mono ?_
  rintro e w1 ⟨hb1, p, F, rfl, hr1, hf1⟩
  have HS1 : Hid (∃ F, R w1 p F 64 (fill (l.take 0)) ∧ (∀ k, F k → w.heap.size ≤ k) ∧ Below w.heap.size w w1) := ⟨F, hr1, hf1, hb1⟩
  clear hr1 hf1 hb1 c1
  go_wp2_with fail
  go_loopw [5] (fun iv wr => ∃ k : Nat, k ≤ m ∧ iv = nun k ∧ Hid (∃ F, R wr p F 64 (fill (l.take k)) ∧ (∀ k, F k → w.heap.size ≤ k) ∧ Below w.heap.size w wr)) (fun iv _ => m - (intOf iv).toNat)
  case atStart => exact ⟨0, Nat.zero_le _, rfl, HS1⟩
  case round =>
    clear HS1
    obtain ⟨k, hk, rfl, HS⟩ := hrel
    by_cases hlt : k < m
    · have hkI : (k : Int) < (m : Int) := by omega
      obtain ⟨gv, ov, rfl, hgl, hcl⟩ := HCL.out (by rw [HM.out]; omega)
      obtain ⟨x, hx⟩ : ∃ x, l[k]? = some x := ⟨_, List.getElem?_eq_getElem (by rw [HM.out]; exact hlt)⟩
      have hfx := HF.out x (List.mem_of_getElem? hx)
      have HFT := Hid.mk' (fill_take l k x hx)
      have hcx := hcl k x hx
      have HXX : Hid (∀ wx, Below w.heap.size w wx → wx.cell? ⟨gv, ov + k * 2, none⟩ = some (nu x.i) ∧ wx.cell? ⟨gv, ov + k * 2 + 1, none⟩ = some (nu x.k)) := fun wx hb => ⟨(hb.cell (p := ⟨gv, ov + k * 2, none⟩) hgl).trans hcx.1, (hb.cell (p := ⟨gv, ov + k * 2 + 1, none⟩) hgl).trans hcx.2⟩
      obtain ⟨F, h1, h2, h3⟩ := HS.out
      obtain ⟨xi, xk⟩ := x
      dsimp only at hfx HFT HXX
      have cK : Hid (∀ wx, Calls Tryd.prog 10 #[nu xi, nu 64] wx fun e w' => e = .returned (nu (xi % 64)) ∧ w' = wx) := fun wx => pickH xi 64 wx (by decide) (by decide) hfx
      have hg := fill_good (l.take k)
      have hf := fill_few (l.take k)
      obtain ⟨S, hS⟩ : ∃ S, fill (l.take k) = S := ⟨_, rfl⟩
      rw [hS] at h1 hg hf HFT
      have cS : Hid (∀ wx, wx = wr.drew → Calls Tryd.prog 15 #[ptr p, nu (xi % 64), nu xk] wx fun e w' => e = .returned .nilIface ∧ (w'.cell? ⟨gv, ov + k * 2, none⟩ = some (nu xi) ∧ w'.cell? ⟨gv, ov + k * 2 + 1, none⟩ = some (nu xk)) ∧ Hid (∃ F, R w' p F 64 (fill (l.take (k + 1))) ∧ (∀ k, F k → w.heap.size ≤ k) ∧ Below w.heap.size w w')) := fun wx e => by
        subst e
        have hb : Below w.heap.size w wr.drew := h3.drew
        refine (C.setYes wr.drew p F 64 S (xi % 64) xk (HeapB.below C h1 (Below.refl wr.heap.size wr).drew) hg (by omega) ⟨Int.emod_nonneg _ (by decide), Int.emod_lt_of_pos _ (by decide)⟩).mono ?_
        rintro e w' ⟨rfl, G, g1, g2, g3⟩
        have hs := h3.size
        have hb' : Below w.heap.size w w' := hb.trans (g2.below (fun j hj hc => by have := h2 j hc; omega) hb.size)
        refine ⟨rfl, HXX.out w' hb', G, by rw [HFT.out]; exact g1, fun j hj => ?_, hb'⟩
        rcases g3 j hj with e | e
        · exact h2 j e
        · exact Nat.le_trans hb.size e
      have hcd : wr.drew.cell? ⟨gv, ov + k * 2, none⟩ = some (nu xi) ∧ wr.drew.cell? ⟨gv, ov + k * 2 + 1, none⟩ = some (nu xk) := HXX.out wr.drew h3.drew
      clear hcl hx hcx hfx hg hf hS HFT HXX h1 h2 h3 HS
      go_wp2_with fail
      go_region_held3 (fun w' => w'.cell? ⟨gv, ov + k * 2, none⟩ = some (nu xi) ∧ w'.cell? ⟨gv, ov + k * 2 + 1, none⟩ = some (nu xk)) (first | assumption | exact hcd | fail) (first | (go_at_call 10; with_reducible refine (cK.out _).mono ?_; rintro e w2 ⟨rfl, hw2⟩; subst w2) | (go_at_call 15; with_reducible refine (cS.out _ rfl).mono ?_; rintro e w5 ⟨rfl, hs5, hQ5⟩) | fail)
      clear hcd cS cK hs5
      go_wp2
      go_roundw
      case rel => exact ⟨k + 1, by omega, by go_num, hQ5⟩
      case measure => simp [intOf]; omega
    · have hkI : ¬ (k : Int) < (m : Int) := by omega
      have htk : l.take k = l := List.take_of_length_le (by rw [HM.out]; omega)
      rw [htk] at HS
      clear htk
      go_wp2
      go_ret
      obtain ⟨F, h1, h2, h3⟩ := HS.out
      exact ⟨p, rfl, F, h1, h2, h3⟩
end Hh
end Go.Proofs.YteclbmmhidmklaaDoor
/- The laws' own 'works'. -/
namespace Go.Proofs.YteclbmmhidmklaaDoor
set_option linter.ambiguousOpen false
open Go.RowKit
namespace Hh
open Ft
set_option linter.unusedSimpArgs false
set_option linter.unusedVariables false
attribute [local go_sem] Oper.semAt_some

def l3 : List It := [⟨2, 5⟩, ⟨0, 5⟩, ⟨3, -1⟩]

theorem fill_l3 : fill l3 = [⟨3, -1⟩, ⟨0, 5⟩, ⟨2, 5⟩] := by rfl

theorem rdq_three (w : World) (a b c d e f : Int) (g : Nat) (t : TypeId) (hg : w.heap[g]? = some (.cells #[nu a, nu b, nu c, nu d, nu e, nu f] t)) : RdQ w (.slice (some ⟨g, 0, none⟩) 3 3) [⟨a, b⟩, ⟨c, d⟩, ⟨e, f⟩] := by
  refine ⟨_, 3, rfl, by simp, by decide, fun _ => ⟨g, 0, rfl, (Array.getElem?_eq_some_iff.1 hg).1, fun n x hx => ?_⟩⟩
  rcases n with _ | _ | _ | n
  · simp at hx
    subst hx
    simp [World.cell?, hg]
  · simp at hx
    subst hx
    simp [World.cell?, hg]
  · simp at hx
    subst hx
    simp [World.cell?, hg]
  · simp at hx

set_option maxRecDepth 1000000 in
set_option maxHeartbeats 4000000 in
theorem works_any {R : RepHT} (C : HeapB R) (w : World) : Calls Tryd.prog 37 #[] w fun e w' => e = .returned (.bool true) ∧ Below w.heap.size w w' := by
  obtain ⟨w1, hw1⟩ : ∃ w1, w.alloc (.cells #[nu 2, nu 5, nu 0, nu 5, nu 3, nu (-1)] 77) = w1 := ⟨_, rfl⟩
  have hb1 : Below w.heap.size w w1 := by rw [← hw1]; exact (Below.refl _ _).alloc (Nat.le_refl _) _
  have hg1 : w1.heap[w.heap.size]? = some (.cells #[nu 2, nu 5, nu 0, nu 5, nu 3, nu (-1)] 77) := by rw [← hw1]; exact heap_alloc_new _ _
  have c1 := Hid.mk' (filled_any C _ l3 w1 (rdq_three w1 2 5 0 5 3 (-1) w.heap.size _ hg1) (by
    intro x hx
    unfold l3 at hx
    simp only [List.mem_cons, List.not_mem_nil, or_false] at hx
    rcases hx with rfl | rfl | rfl <;> (unfold I64; dsimp only; omega)))
  rw [fill_l3] at c1
  have HB1 := Hid.mk' hb1
  clear hb1 hg1
  go_enter Tryd.func37, Tryd.ntmps37
  go_wp2_with fail
  refine c1.out.mono ?_
  rintro e w2 ⟨p, F, rfl, h2, f2, b2⟩
  have hk : Hk 64 [⟨3, -1⟩, ⟨0, 5⟩, ⟨2, 5⟩] := by rw [← fill_l3]; exact fill_good _
  have c2 := Hid.mk' (C.least w2 p F 64 _ h2 hk (by decide))
  have c3 : Hid (∀ wx, Below w2.heap.size w2 wx → Calls Tryd.prog 36 #[ptr p] wx fun e w' => e = .returned (nun 3) ∧ Below wx.heap.size wx w') := fun wx hb => C.len wx p F 64 _ (HeapB.below C h2 hb)
  have HB2 := Hid.mk' (HB1.out.trans (b2.mono HB1.out.size))
  clear h2 f2 b2 hk c1
  go_wp2_with fail
  refine c2.out.mono ?_
  rintro e w3 ⟨rfl, b3⟩
  have c4 := Hid.mk' (c3.out w3 b3)
  have HB3 := Hid.mk' (HB2.out.trans (b3.mono HB2.out.size))
  clear b3 c2 c3
  simp only [fstI, fstK, List.isEmpty_cons, Bool.not_false]
  go_wp2_with fail
  refine c4.out.mono ?_
  rintro e w4 ⟨rfl, b4⟩
  have HB4 := Hid.mk' (HB3.out.trans (b4.mono HB3.out.size))
  clear b4 c4
  go_wp2
  go_ret
  exact ⟨rfl, HB4.out⟩
end Hh
end Go.Proofs.YteclbmmhidmklaaDoor
/- HeapLast, out of what the program's heap answers. -/
namespace Go.Proofs.YteclbmmhidmklaaDoor
set_option linter.ambiguousOpen false
open Go.RowKit
namespace Hh
open Ft
set_option linter.unusedSimpArgs false
set_option linter.unusedVariables false
attribute [local go_sem] Oper.semAt_some

/-- How many of the first k numbers are in it. -/
def cntH (S : List It) (k : Nat) : Nat := ((List.range k).filter (fun (j : Nat) => (keyH S (j : Int)).isSome)).length

theorem cntH_succ (S : List It) (k : Nat) : cntH S (k + 1) = cntH S k + (if (keyH S (k : Int)).isSome then 1 else 0) := by
  unfold cntH
  rw [List.range_succ, List.filter_append, List.length_append]
  congr 1
  rw [List.filter_cons]
  cases (keyH S (k : Int)).isSome <;> rfl

theorem cntH_le (S : List It) (k : Nat) : cntH S k ≤ k := by
  unfold cntH
  have := List.length_filter_le (fun (j : Nat) => (keyH S (j : Int)).isSome) (List.range k)
  rwa [List.length_range] at this

theorem cntH_all {S : List It} (h : Hk 64 S) : cntH S 64 = S.length := by
  unfold cntH
  have h1 : (S.map (fun x => x.i.toNat)).Nodup := by
    rw [List.nodup_iff_pairwise_ne, List.pairwise_map]
    refine h.nd.imp_of_mem (fun ha hb hne => ?_)
    have := h.rng _ ha
    have := h.rng _ hb
    omega
  have h2 : ((List.range 64).filter (fun (j : Nat) => (keyH S (j : Int)).isSome)).Nodup := List.nodup_range.filter _
  have h3 : (S.map (fun x => x.i.toNat)).Perm ((List.range 64).filter (fun (j : Nat) => (keyH S (j : Int)).isSome)) := by
    rw [List.perm_ext_iff_of_nodup h1 h2]
    intro n
    rw [List.mem_map, List.mem_filter, List.mem_range]
    constructor
    · rintro ⟨x, hx, rfl⟩
      have hr := h.rng x hx
      refine ⟨by omega, ?_⟩
      have : keyH S x.i = some x.k := (keyH_mem h).2 hx
      rw [show ((x.i.toNat : Nat) : Int) = x.i by omega, this]
      rfl
    · rintro ⟨hn, hs⟩
      obtain ⟨k, hk⟩ := Option.isSome_iff_exists.1 hs
      exact ⟨⟨n, k⟩, (keyH_mem h).1 hk, by simp⟩
  rw [← h3.length_eq, List.length_map]

set_option maxRecDepth 1000000 in
set_option maxHeartbeats 8000000 in
theorem heapLast_yes {R : RepHT} (C : HeapB R) (sv : Value) (l : List It) (w : World) (hR : RdQ w sv l) (hF : ∀ x ∈ l, I64 x.i) :
    Calls Tryd.prog 40 #[sv] w fun e w' => e = .returned (.bool true) ∧ Below w.heap.size w w' := by
  have cW := Hid.mk' (works_any C)
  have HRQ := Hid.mk' hR
  obtain ⟨av, cv, rfl, hc1, hc2, hcell⟩ := hR
  obtain ⟨m, hm⟩ : ∃ m, l.length = m := ⟨_, rfl⟩
  have HM := Hid.mk' hm
  have HCL := Hid.mk' hcell
  have HF := Hid.mk' hF
  rw [hm] at hc1 HRQ ⊢
  unfold maxLen at hc2
  have hcI : (cv : Int) ≤ 9223372036854775807 := by omega
  clear hcell hF hm
  by_cases hbig : m > 1000
  · have hbI : (m : Int) > 1000 := by omega
    go_enter Tryd.func40, Tryd.ntmps40
    go_wp2_with fail
    refine (cW.out w).mono ?_
    rintro e w1 ⟨rfl, b1⟩
    have HB1 := Hid.mk' b1
    clear b1
    go_wp2_with fail
    refine (cW.out w1).mono ?_
    rintro e w2 ⟨rfl, b2⟩
    have HB2 := Hid.mk' (HB1.out.trans (b2.mono HB1.out.size))
    clear b2
    go_wp2
    go_ret
    exact ⟨rfl, HB2.out⟩
  · have hbI : ¬ (m : Int) > 1000 := by omega
    go_enter Tryd.func40, Tryd.ntmps40
    go_wp2_with fail
    refine (cW.out w).mono ?_
    rintro e w1 ⟨rfl, b1⟩
    have HB1 := Hid.mk' b1
    have c2 := Hid.mk' (filled_any C _ l w1 (HRQ.out.below b1) HF.out)
    clear b1
    go_wp2_with fail
    refine c2.out.mono ?_
    rintro e w2 ⟨p, F, rfl, h2, f2, b2⟩
    have HB2 := Hid.mk' (HB1.out.trans (b2.mono HB1.out.size))
    have H2 := Hid.mk' h2
    have hgood := fill_good l
    have hfew := fill_few l
    have HLAST : Hid (∀ k : Nat, keyH (fill (l.take m)) (k : Int) = keyH (fill l) (k : Int)) := fun k => by rw [List.take_of_length_le (by rw [HM.out]; exact Nat.le_refl _)]
    obtain ⟨S, hS⟩ : ∃ S, fill l = S := ⟨_, rfl⟩
    rw [hS] at H2 hgood hfew HLAST
    have HG := Hid.mk' hgood
    have HFW := Hid.mk' hfew
    clear h2 f2 b2 c2 hgood hfew hS cW
    go_wp2_with fail
    go_loopw [4, 5, 6, 7, 8, 9, 10] (fun nv iv av2 bv2 kv cv2 dv2 wr => ∃ k : Nat, k ≤ 64 ∧ iv = nun k ∧ nv = nun (cntH S k) ∧ Hid (Below w2.heap.size w2 wr)) (fun _ iv _ _ _ _ _ _ => 64 - (intOf iv).toNat)
    case atStart => exact ⟨0, Nat.zero_le _, rfl, rfl, Below.refl _ _⟩
    case round =>
      obtain ⟨k, hk, rfl, rfl, HL⟩ := hrel
      rename World => w3
      by_cases hlt : k < 64
      · have hkI : (k : Int) < 64 := by omega
        go_wp2_with fail
        go_loopw [6, 7, 8] (fun av2 bv2 jv wr => ∃ j : Nat, j ≤ m ∧ jv = nun j ∧ av2 = .bool (keyH (fill (l.take j)) k).isSome ∧ bv2 = nu ((keyH (fill (l.take j)) k).getD 0) ∧ Hid (wr = w3)) (fun _ _ jv _ => m - (intOf jv).toNat)
        case atStart => exact ⟨0, Nat.zero_le _, rfl, rfl, rfl, rfl⟩
        case round =>
          obtain ⟨j, hj, rfl, rfl, rfl, HW⟩ := hrel
          have hwr := HW.out
          subst hwr
          by_cases hjm : j < m
          · have hjI : (j : Int) < (m : Int) := by omega
            have hj0 : (0 : Int) ≤ (j : Int) := by omega
            obtain ⟨gv, ov, rfl, hgl, hcl⟩ := HCL.out (by rw [HM.out]; omega)
            obtain ⟨x, hx⟩ : ∃ x, l[j]? = some x := ⟨_, List.getElem?_eq_getElem (by rw [HM.out]; exact hjm)⟩
            have hfx := HF.out x (List.mem_of_getElem? hx)
            have hft := fill_take l j x hx
            have hcx := hcl j x hx
            have hbx := HB2.out.trans (HL.out.mono HB2.out.size)
            have x0 : wr.cell? ⟨gv, ov + j * 2, none⟩ = some (nu x.i) := (hbx.cell (p := ⟨gv, ov + j * 2, none⟩) hgl).trans hcx.1
            have x1 : wr.cell? ⟨gv, ov + j * 2 + 1, none⟩ = some (nu x.k) := (hbx.cell (p := ⟨gv, ov + j * 2 + 1, none⟩) hgl).trans hcx.2
            have hks := key_set (fill_good (l.take j)) (i := x.i % 64) ⟨Int.emod_nonneg _ (by decide), Int.emod_lt_of_pos _ (by decide)⟩ x.k (k : Int)
            rw [← hft] at hks
            obtain ⟨K1, hK1⟩ : ∃ K1, keyH (fill (l.take (j + 1))) (k : Int) = K1 := ⟨_, rfl⟩
            obtain ⟨K0, hK0⟩ : ∃ K0, keyH (fill (l.take j)) (k : Int) = K0 := ⟨_, rfl⟩
            rw [hK1, hK0] at hks
            rw [hK0]
            have HK1 := Hid.mk' hK1
            obtain ⟨xi, xk⟩ := x
            dsimp only at x0 x1 hks hfx
            have cK : Hid (∀ wx, Calls Tryd.prog 10 #[nu xi, nu 64] wx fun e w' => e = .returned (nu (xi % 64)) ∧ w' = wx) := fun wx => pickH xi 64 wx (by decide) (by decide) hfx
            obtain ⟨q, hq⟩ : ∃ q, xi % 64 = q := ⟨_, rfl⟩
            rw [hq] at hks cK
            by_cases hqk : (k : Int) = q
            · rw [if_pos hqk] at hks
              have hb : (q == (k : Int)) = true := by
                rw [hqk]
                simp
              have HKS := Hid.mk' hks
              clear hcl hx hfx hft hcx hbx hks hK1 hK0 hq hqk
              go_wp2_with fail
              refine (cK.out _).mono ?_
              rintro e w4 ⟨rfl, rfl⟩
              go_wp2
              go_roundw
              case rel => exact ⟨j + 1, by omega, by go_num, by rw [HK1.out, HKS.out]; rfl, by rw [HK1.out, HKS.out]; rfl, trivial⟩
              case measure => simp [intOf]; omega
            · rw [if_neg hqk] at hks
              have hb : (q == (k : Int)) = false := by
                simp only [beq_eq_false_iff_ne]
                exact fun e => hqk e.symm
              have HKS := Hid.mk' hks
              clear hcl hx hfx hft hcx hbx hks hK1 hK0 hq hqk
              go_wp2_with fail
              refine (cK.out _).mono ?_
              rintro e w4 ⟨rfl, rfl⟩
              go_wp2
              go_roundw
              case rel => exact ⟨j + 1, by omega, by go_num, by rw [HK1.out, HKS.out], by rw [HK1.out, HKS.out], trivial⟩
              case measure => simp [intOf]; omega
          · have hjI : ¬ (j : Int) < (m : Int) := by omega
            obtain rfl : j = m := by omega
            rw [HLAST.out k]
            have hrep := HeapB.below C H2.out HL.out
            have c5 := Hid.mk' (C.key wr p F 64 S k hrep HG.out (by have := HFW.out; omega))
            have HCS := Hid.mk' (cntH_succ S k)
            have hcl := cntH_le S k
            obtain ⟨c, hc⟩ : ∃ c, cntH S k = c := ⟨_, rfl⟩
            rw [hc] at hcl HCS ⊢
            obtain ⟨K, hK⟩ : ∃ K, keyH S (k : Int) = K := ⟨_, rfl⟩
            rw [hK] at c5 HCS ⊢
            clear hrep hK hc
            go_wp2_with fail
            refine c5.out.mono ?_
            rintro e w4 ⟨rfl, b4⟩
            have HB4 : Hid (Below w2.heap.size w2 w4) := HL.out.trans (b4.mono HL.out.size)
            clear b4 c5
            cases K with
            | none =>
              have HC2 : Hid (cntH S (k + 1) = c) := HCS.out
              simp only [Option.isSome_none, Option.getD_none]
              go_wp2
              go_roundw
              case rel => exact ⟨k + 1, by omega, by go_num, by rw [HC2.out], HB4.out⟩
              case measure => simp [intOf]; omega
            | some y =>
              have HC2 : Hid (cntH S (k + 1) = c + 1) := HCS.out
              simp only [Option.isSome_some, Option.getD_some]
              go_wp2
              go_roundw
              case rel => exact ⟨k + 1, by omega, by go_num, by rw [HC2.out]; go_num, HB4.out⟩
              case measure => simp [intOf]; omega
      · have hkI : ¬ (k : Int) < 64 := by omega
        obtain rfl : k = 64 := by omega
        have hrep := HeapB.below C H2.out HL.out
        have c5 := Hid.mk' (C.len w3 p F 64 S hrep)
        rw [cntH_all HG.out]
        obtain ⟨c, hc⟩ : ∃ c, S.length = c := ⟨_, rfl⟩
        rw [hc] at c5 ⊢
        clear hrep hc
        go_wp2_with fail
        refine c5.out.mono ?_
        rintro e w4 ⟨rfl, b4⟩
        have HB4 : Hid (Below w.heap.size w w4) := (HB2.out.trans (HL.out.mono HB2.out.size)).trans (b4.mono (Nat.le_trans HB2.out.size HL.out.size))
        clear b4 c5
        go_wp2
        go_ret
        exact ⟨by simp, HB4.out⟩
end Hh
end Go.Proofs.YteclbmmhidmklaaDoor
