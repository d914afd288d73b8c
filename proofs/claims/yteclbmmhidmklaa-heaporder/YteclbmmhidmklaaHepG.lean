/- The laws' own 'filled': a heap of 64 with some numbers set, one behind the other. -/
import Derived.Test.YteclbmmhidmklaaHepF
namespace Go.Proofs.Yteclbmmhidmklaa
set_option linter.ambiguousOpen false
open Go.RowKit
namespace Hh
open Ft
set_option linter.unusedSimpArgs false
set_option linter.unusedVariables false
attribute [local go_sem] Oper.semAt_some

/-- Pairs that lie there. -/
def RdQ (w : World) (v : Value) (L : List It) : Prop :=
  ∃ a cap, v = .slice a L.length cap ∧ L.length ≤ cap ∧ cap ≤ maxLen ∧ (0 < L.length → ∃ g o, a = some ⟨g, o, none⟩ ∧ g < w.heap.size ∧ ∀ n x, L[n]? = some x → w.cell? ⟨g, o + n * 2, none⟩ = some (nu x.i) ∧ w.cell? ⟨g, o + n * 2 + 1, none⟩ = some (nu x.k))

theorem RdQ.below {w w' : World} {v : Value} {L : List It} (h : RdQ w v L) (hb : Below w.heap.size w w') : RdQ w' v L := by
  obtain ⟨a, cap, h1, h2, h3, h4⟩ := h
  refine ⟨a, cap, h1, h2, h3, fun h0 => ?_⟩
  obtain ⟨g, o, e1, e2, e3⟩ := h4 h0
  exact ⟨g, o, e1, Nat.lt_of_lt_of_le e2 hb.size, fun n x hx => ⟨(hb.cell (p := ⟨g, o + n * 2, none⟩) e2).trans (e3 n x hx).1, (hb.cell (p := ⟨g, o + n * 2 + 1, none⟩) e2).trans (e3 n x hx).2⟩⟩

/-- What is in it then. -/
def fill (l : List It) : List It := l.foldl (fun H x => setH H (x.i % 64) x.k) []

theorem fill_snoc (l : List It) (x : It) : fill (l ++ [x]) = setH (fill l) (x.i % 64) x.k := by
  unfold fill
  rw [List.foldl_append]
  rfl

theorem fill_take (l : List It) (k : Nat) (x : It) (hx : l[k]? = some x) : fill (l.take (k + 1)) = setH (fill (l.take k)) (x.i % 64) x.k := by
  obtain ⟨hk, hxe⟩ := List.getElem?_eq_some_iff.1 hx
  have e : l.take (k + 1) = l.take k ++ [x] := by rw [← hxe]; exact List.take_succ_eq_append_getElem hk
  rw [e, fill_snoc]

theorem fill_good (l : List It) : Hk 64 (fill l) := by
  have : ∀ (n : Nat), Hk 64 (fill (l.take n)) := fun n => by
    induction n with
    | zero => exact Hk.nil 64
    | succ n ih =>
      by_cases h : n < l.length
      · rw [fill_take l n _ (List.getElem?_eq_getElem h)]
        exact ih.set ⟨Int.emod_nonneg _ (by decide), Int.emod_lt_of_pos _ (by decide)⟩ _
      · rw [List.take_of_length_le (by omega)] at ih ⊢
        exact ih
  have h := this l.length
  rwa [List.take_of_length_le (Nat.le_refl _)] at h

theorem fill_few (l : List It) : (fill l).length ≤ 64 := Hk.few (N := 64) (fill_good l)

set_option maxRecDepth 1000000 in
set_option maxHeartbeats 4000000 in
theorem filled_any {R : RepHT} (C : HeapB R) (sv : Value) (l : List It) (w : World) (hR : RdQ w sv l) (hF : ∀ x ∈ l, I64 x.i) :
    Calls Try.prog 7 #[sv] w fun e w' => ∃ p F, e = .returned (ptr p) ∧ R w' p F 64 (fill l) ∧ (∀ k, F k → w.heap.size ≤ k) ∧ Below w.heap.size w w' := by
  obtain ⟨av, cv, rfl, hc1, hc2, hcell⟩ := hR
  obtain ⟨m, hm⟩ : ∃ m, l.length = m := ⟨_, rfl⟩
  have HM := Hid.mk' hm
  have HCL := Hid.mk' hcell
  have HF := Hid.mk' hF
  rw [hm] at hc1 ⊢
  unfold maxLen at hc2
  have hcI : (cv : Int) ≤ 9223372036854775807 := by omega
  have c1 := Hid.mk' (C.new w 64)
  simp only [if_neg (show ¬ ((64 : Int) < 1 ∨ (65536 : Int) < 64) by decide)] at c1
  have hz0 : errE 0 = .nilIface := rfl
  rw [hz0] at c1
  clear hcell hF hm
  go_enter Try.func7, Try.ntmps7
  go_wp2_with fail
  refine c1.out.mono ?_
  rintro e w1 ⟨hb1, p, F, rfl, hr1, hf1⟩
  have HS1 : Hid (∃ F, R w1 p F 64 (fill (l.take 0)) ∧ (∀ k, F k → w.heap.size ≤ k) ∧ Below w.heap.size w w1) := ⟨F, hr1, hf1, hb1⟩
  clear hr1 hf1 hb1 c1
  go_wp2_with fail
  go_loopw [5] (fun iv wr => ∃ k : Nat, k ≤ m ∧ iv = nun k ∧ Hid (∃ F, R wr p F 64 (fill (l.take k)) ∧ (∀ k, F k → w.heap.size ≤ k) ∧ Below w.heap.size w wr)) (fun iv _ => m - (intOf iv).toNat)
  case atStart => exact ⟨0, Nat.zero_le _, rfl, HS1⟩
  case round =>
    clear HS1
    obtain ⟨k, hk, rfl, HS⟩ := hrel
    by_cases hlt : k < m
    · have hkI : (k : Int) < (m : Int) := by omega
      obtain ⟨gv, ov, rfl, hgl, hcl⟩ := HCL.out (by rw [HM.out]; omega)
      obtain ⟨x, hx⟩ : ∃ x, l[k]? = some x := ⟨_, List.getElem?_eq_getElem (by rw [HM.out]; exact hlt)⟩
      have hfx := HF.out x (List.mem_of_getElem? hx)
      have HFT := Hid.mk' (fill_take l k x hx)
      have hcx := hcl k x hx
      have HXX : Hid (∀ wx, Below w.heap.size w wx → wx.cell? ⟨gv, ov + k * 2, none⟩ = some (nu x.i) ∧ wx.cell? ⟨gv, ov + k * 2 + 1, none⟩ = some (nu x.k)) := fun wx hb => ⟨(hb.cell (p := ⟨gv, ov + k * 2, none⟩) hgl).trans hcx.1, (hb.cell (p := ⟨gv, ov + k * 2 + 1, none⟩) hgl).trans hcx.2⟩
      obtain ⟨F, h1, h2, h3⟩ := HS.out
      obtain ⟨xi, xk⟩ := x
      dsimp only at hfx HFT HXX
      have cK : Hid (∀ wx, Calls Try.prog 15 #[nu xi, nu 64] wx fun e w' => e = .returned (nu (xi % 64)) ∧ w' = wx) := fun wx => pickH xi 64 wx (by decide) (by decide) hfx
      have hg := fill_good (l.take k)
      have hf := fill_few (l.take k)
      obtain ⟨S, hS⟩ : ∃ S, fill (l.take k) = S := ⟨_, rfl⟩
      rw [hS] at h1 hg hf HFT
      have cS : Hid (∀ wx, wx = wr.drew → Calls Try.prog 16 #[ptr p, nu (xi % 64), nu xk] wx fun e w' => e = .returned .nilIface ∧ (w'.cell? ⟨gv, ov + k * 2, none⟩ = some (nu xi) ∧ w'.cell? ⟨gv, ov + k * 2 + 1, none⟩ = some (nu xk)) ∧ Hid (∃ F, R w' p F 64 (fill (l.take (k + 1))) ∧ (∀ k, F k → w.heap.size ≤ k) ∧ Below w.heap.size w w')) := fun wx e => by
        subst e
        have hb : Below w.heap.size w wr.drew := h3.drew
        refine (C.setYes wr.drew p F 64 S (xi % 64) xk (HeapB.below C h1 (Below.refl wr.heap.size wr).drew) hg (by omega) ⟨Int.emod_nonneg _ (by decide), Int.emod_lt_of_pos _ (by decide)⟩).mono ?_
        rintro e w' ⟨rfl, G, g1, g2, g3⟩
        have hs := h3.size
        have hb' : Below w.heap.size w w' := hb.trans (g2.below (fun j hj hc => by have := h2 j hc; omega) hb.size)
        refine ⟨rfl, HXX.out w' hb', G, by rw [HFT.out]; exact g1, fun j hj => ?_, hb'⟩
        rcases g3 j hj with e | e
        · exact h2 j e
        · exact Nat.le_trans hb.size e
      have hcd : wr.drew.cell? ⟨gv, ov + k * 2, none⟩ = some (nu xi) ∧ wr.drew.cell? ⟨gv, ov + k * 2 + 1, none⟩ = some (nu xk) := HXX.out wr.drew h3.drew
      clear hcl hx hcx hfx hg hf hS HFT HXX h1 h2 h3 HS
      go_wp2_with fail
      go_region_held3 (fun w' => w'.cell? ⟨gv, ov + k * 2, none⟩ = some (nu xi) ∧ w'.cell? ⟨gv, ov + k * 2 + 1, none⟩ = some (nu xk)) (first | assumption | exact hcd | fail) (first | (go_at_call 15; with_reducible refine (cK.out _).mono ?_; rintro e w2 ⟨rfl, hw2⟩; subst w2) | (go_at_call 16; with_reducible refine (cS.out _ rfl).mono ?_; rintro e w5 ⟨rfl, hs5, hQ5⟩) | fail)
      clear hcd cS cK hs5
      go_wp2
      go_roundw
      case rel => exact ⟨k + 1, by omega, by go_num, hQ5⟩
      case measure => simp [intOf]; omega
    · have hkI : ¬ (k : Int) < (m : Int) := by omega
      have htk : l.take k = l := List.take_of_length_le (by rw [HM.out]; omega)
      rw [htk] at HS
      clear htk
      go_wp2
      go_ret
      obtain ⟨F, h1, h2, h3⟩ := HS.out
      exact ⟨p, rfl, F, h1, h2, h3⟩
end Hh
end Go.Proofs.Yteclbmmhidmklaa
