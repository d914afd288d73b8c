import Derived.Test.YtnllplholfhbdaaDoorEqE
import Derived.Test.YtnllplholfhbdaaDoorRefM
import Derived.Test.YtnllplholfhbdaaDoorPackP
import Derived.Test.YtnllplholfhbdaaDoorFoot
/- The document's answer what bytes tell: numbers and texts, one behind the other. -/
namespace Go.Proofs.YtnllplholfhbdaaDoor
set_option linter.ambiguousOpen false
open Go.RowKit
namespace Ev
open Pk Sm Ft
set_option linter.unusedSimpArgs false
set_option linter.unusedVariables false

/-- What was taken so far, as it lies. -/
structure TkR (w0 w : World) (p : Nat) (t : Tkn) (v : Value) : Prop where
  blk : w.heap[p]? = some (.cells #[v, nu (t.no : Int), .bool t.big] 74)
  row : RdB w0 v t.left
  bel : Below w0.heap.size w0 w
  new : w0.heap.size ≤ p

theorem TkR.lt {w0 w : World} {p : Nat} {t : Tkn} {v : Value} (h : TkR w0 w p t v) : p < w.heap.size := (Array.getElem?_eq_some_iff.1 h.blk).1

theorem TkR.keep {w0 w w' : World} {p : Nat} {t : Tkn} {v : Value} {G : Nat → Prop} (h : TkR w0 w p t v) (hk : Keep G w w') (hp : ¬ G p) (hG : ∀ k, k < w0.heap.size → ¬ G k) : TkR w0 w' p t v :=
  ⟨hk.at h.blk hp, h.row, h.bel.trans (hk.below hG h.bel.size), h.new⟩

theorem TkR.cells {w0 w : World} {p : Nat} {t : Tkn} {v : Value} (h : TkR w0 w p t v) : w.cell? ⟨p, 0, none⟩ = some v ∧ w.cell? ⟨p, 1, none⟩ = some (nu (t.no : Int)) ∧ w.cell? ⟨p, 2, none⟩ = some (.bool t.big) ∧ ∀ i, w.frozen? ⟨p, i, none⟩ = false := by
  simp [World.cell?, World.frozen?, h.blk]

/-- One of its cells is another one. -/
theorem TkR.set {w0 w : World} {p : Nat} {t t' : Tkn} {v v' : Value} (h : TkR w0 w p t v) (i : Nat) (u : Value) (hb : (#[v, nu (t.no : Int), .bool t.big] : Array Value).setIfInBounds i u = #[v', nu (t'.no : Int), .bool t'.big]) (hr : RdB w0 v' t'.left) : TkR w0 (w.setCell ⟨p, i, none⟩ u) p t' v' ∧ Keep (fun k => k = p) w (w.setCell ⟨p, i, none⟩ u) := by
  have hK : Keep (fun k => k = p) w (w.setCell ⟨p, i, none⟩ u) := (Keep.refl (fun k => k = p) w).setCell (p := ⟨p, i, none⟩) (.inl rfl) _
  have hB := heap_setCell_same _ p i _ _ u h.blk
  rw [hb] at hB
  exact ⟨⟨hB, hr, h.bel.trans (hK.below (fun k hk e => by have := h.new; omega) h.bel.size), h.new⟩, hK⟩

set_option maxRecDepth 100000 in
theorem tnumber (w0 w : World) (p : Nat) (t : Tkn) (v : Value) (h : TkR w0 w p t v) :
    Calls Tryd.prog 32 #[ptr p] w fun e w' => e = .returned (u6 (numT t).1) ∧ ∃ v', TkR w0 w' p (numT t).2 v' ∧ Keep (fun k => k = p) w w' := by
  have H := Hid.mk' h
  obtain ⟨q0, q1, q2, qf⟩ := h.cells
  have hrow := h.row.below h.bel
  obtain ⟨left, no, big⟩ := t
  simp only at q1 q2 hrow
  by_cases h0 : no ≠ 0
  · have h0' : ((no : Int) != 0) = true := by simpa using h0
    have hN : Hid (numT ⟨left, no, big⟩ = (0, ⟨left, no, big⟩)) := numT_stuck left no big h0
    clear h h0 hrow
    go_enter Tryd.func32, Tryd.ntmps32
    go_wp2
    go_ret
    rw [hN.out]
    exact ⟨rfl, v, H.out, Keep.refl _ _⟩
  · obtain rfl : no = 0 := by omega
    have c1 := Hid.mk' (number_ref v left w hrow)
    have HR := Hid.mk' h.row
    obtain ⟨a, cap, rfl, hcl, hcm, _⟩ := hrow
    obtain ⟨x, n, no2, hn⟩ : ∃ x n no2, Pk.num left = (x, n, no2) := ⟨_, _, _, rfl⟩
    have hN : Hid (numT ⟨left, 0, big⟩ = if no2 ≠ 0 then (0, ⟨left, no2, big⟩) else (x, ⟨left.drop n, 0, big⟩)) := by
      show _ = _
      unfold numT
      rw [if_neg (by simp), hn]
    rw [hn] at c1
    simp only at c1
    by_cases h2 : no2 ≠ 0
    · have h2' : ((no2 : Int) != 0) = true := by simpa using h2
      have hN2 : Hid (numT ⟨left, 0, big⟩ = (0, ⟨left, no2, big⟩)) := by show _ = _; rw [hN.out, if_pos h2]
      obtain ⟨hS, hK⟩ := h.set (t' := ⟨left, no2, big⟩) 1 (nu (no2 : Int)) rfl h.row
      have HS := Hid.mk' hS
      have HK := Hid.mk' hK
      clear h h0 h2 hN hn hS hK
      go_enter Tryd.func32, Tryd.ntmps32
      go_wp2_with fail
      refine c1.out.mono ?_
      rintro e w1 ⟨rfl, rfl⟩
      go_wp2
      go_ret
      rw [hN2.out]
      exact ⟨rfl, _, HS.out, HK.out⟩
    · obtain rfl : no2 = 0 := by omega
      have hN2 : Hid (numT ⟨left, 0, big⟩ = (x, ⟨left.drop n, 0, big⟩)) := by show _ = _; rw [hN.out, if_neg (by simp)]
      obtain ⟨_, _, hnl, _⟩ := num_back left x n hn
      have hsl := fun wx => slice_from a left.length cap n hnl hcl wx
      have hrd := RdB.drop HR.out n hnl
      obtain ⟨hS, hK⟩ := h.set (t' := ⟨left.drop n, 0, big⟩) 0 (.slice (further a cap n) (left.length - n) (cap - n)) rfl hrd
      obtain ⟨fa, hfa⟩ : ∃ fa, further a cap n = fa := ⟨_, rfl⟩
      obtain ⟨fl, hfl⟩ : ∃ fl, left.length - n = fl := ⟨_, rfl⟩
      obtain ⟨fc, hfc⟩ : ∃ fc, cap - n = fc := ⟨_, rfl⟩
      simp only [hfa, hfl, hfc] at hsl hS hK
      have HS := Hid.mk' hS
      have HK := Hid.mk' hK
      clear h h0 h2 hN hn hS hK hrd hfa hfl hfc
      go_enter Tryd.func32, Tryd.ntmps32
      go_wp2_with fail
      refine c1.out.mono ?_
      rintro e w1 ⟨rfl, rfl⟩
      go_wp2
      go_ret
      rw [hN2.out]
      exact ⟨rfl, _, HS.out, HK.out⟩

set_option maxRecDepth 100000 in
theorem tint (w0 w : World) (p : Nat) (t : Tkn) (v : Value) (h : TkR w0 w p t v) :
    Calls Tryd.prog 34 #[ptr p] w fun e w' => e = .returned (nu (intT t).1) ∧ ∃ v', TkR w0 w' p (intT t).2 v' ∧ Keep (fun k => k = p) w w' := by
  have C := Hid.mk' (tnumber w0 w p t v h)
  obtain ⟨x, t1, hx⟩ : ∃ x t1, numT t = (x, t1) := ⟨_, _, rfl⟩
  rw [hx] at C
  have hI : Hid (intT t = if 9223372036854775807 < x then (0, ⟨t1.left, t1.no, true⟩) else ((x : Int), t1)) := by
    show _ = _
    unfold intT
    rw [hx]
  clear hx h
  simp only at C
  by_cases hb : 9223372036854775807 < x
  · have hb' : (9223372036854775807 : Int) < (x : Int) := by omega
    have hI2 : Hid (intT t = (0, ⟨t1.left, t1.no, true⟩)) := by show _ = _; rw [hI.out, if_pos hb]
    clear hb hI
    go_enter Tryd.func34, Tryd.ntmps34
    go_wp2_with fail
    refine C.out.mono ?_
    rintro e w1 ⟨rfl, v1, h1, hK1⟩
    obtain ⟨q0, q1, q2, qf⟩ := h1.cells
    obtain ⟨hS, hK⟩ := h1.set (t' := ⟨t1.left, t1.no, true⟩) 2 (.bool true) rfl h1.row
    have HS := Hid.mk' hS
    have HK := Hid.mk' (hK1.trans hK (fun _ _ h => h))
    clear h1 hK1 hS hK C
    go_wp2
    go_ret
    rw [hI2.out]
    exact ⟨rfl, _, HS.out, HK.out⟩
  · have hb' : ¬ (9223372036854775807 : Int) < (x : Int) := by omega
    have hb2 : (x : Int) ≤ 9223372036854775807 := by omega
    have hI2 : Hid (intT t = ((x : Int), t1)) := by show _ = _; rw [hI.out, if_neg hb]
    clear hb hI
    go_enter Tryd.func34, Tryd.ntmps34
    go_wp2_with fail
    refine C.out.mono ?_
    rintro e w1 ⟨rfl, v1, h1, hK1⟩
    have HS := Hid.mk' h1
    have HK := Hid.mk' hK1
    clear h1 hK1 C
    go_wp2
    go_ret
    rw [hI2.out]
    exact ⟨rfl, _, HS.out, HK.out⟩

set_option maxRecDepth 100000 in
theorem ttext (w0 w : World) (p : Nat) (t : Tkn) (v : Value) (h : TkR w0 w p t v) :
    Calls Tryd.prog 52 #[ptr p] w fun e w' => e = .returned (.string (tx (txtT t).1)) ∧ ∃ v', TkR w0 w' p (txtT t).2 v' ∧ Keep (fun k => k = p) w w' := by
  have H := Hid.mk' h
  obtain ⟨q0, q1, q2, qf⟩ := h.cells
  have hrow := h.row.below h.bel
  obtain ⟨left, no, big⟩ := t
  simp only at q1 q2 hrow
  by_cases h0 : no ≠ 0
  · have h0' : ((no : Int) != 0) = true := by simpa using h0
    have hN : Hid (txtT ⟨left, no, big⟩ = ([], ⟨left, no, big⟩)) := txtT_stuck left no big h0
    clear h h0 hrow
    go_enter Tryd.func52, Tryd.ntmps52
    go_wp2
    go_ret
    rw [hN.out]
    exact ⟨rfl, v, H.out, Keep.refl _ _⟩
  · obtain rfl : no = 0 := by omega
    have c1 := Hid.mk' (taken_ref v left 32 w hrow (by decide))
    have HR := Hid.mk' h.row
    obtain ⟨a, cap, rfl, hcl, hcm, _⟩ := hrow
    obtain ⟨x, n, no2, hn⟩ : ∃ x n no2, taken left 32 = (x, n, no2) := ⟨_, _, _, rfl⟩
    have hN : Hid (txtT ⟨left, 0, big⟩ = if no2 ≠ 0 then ([], ⟨left, no2, big⟩) else (x, ⟨left.drop n, 0, big⟩)) := by
      show _ = _
      unfold txtT
      rw [if_neg (by simp), hn]
    rw [show (32 : Int).toNat = 32 from rfl, hn] at c1
    simp only at c1
    obtain ⟨f, hf⟩ : ∃ f, tx x = f := ⟨_, rfl⟩
    rw [hf] at c1
    have HF := Hid.mk' hf
    clear hf
    by_cases h2 : no2 ≠ 0
    · have h2' : ((no2 : Int) != 0) = true := by simpa using h2
      have hN2 : Hid (txtT ⟨left, 0, big⟩ = ([], ⟨left, no2, big⟩)) := by show _ = _; rw [hN.out, if_pos h2]
      obtain ⟨hS, hK⟩ := h.set (t' := ⟨left, no2, big⟩) 1 (nu (no2 : Int)) rfl h.row
      have HS := Hid.mk' hS
      have HK := Hid.mk' hK
      clear h h0 h2 hN hn hS hK
      go_enter Tryd.func52, Tryd.ntmps52
      go_wp2_with fail
      refine c1.out.mono ?_
      rintro e w1 ⟨rfl, rfl⟩
      go_wp2
      go_ret
      rw [hN2.out]
      exact ⟨rfl, _, HS.out, HK.out⟩
    · obtain rfl : no2 = 0 := by omega
      have hN2 : Hid (txtT ⟨left, 0, big⟩ = (x, ⟨left.drop n, 0, big⟩)) := by show _ = _; rw [hN.out, if_neg (by simp)]
      obtain ⟨hnl, _, _⟩ := taken_back left 32 x n hn
      have hsl := fun wx => slice_from a left.length cap n hnl hcl wx
      have hrd := RdB.drop HR.out n hnl
      obtain ⟨hS, hK⟩ := h.set (t' := ⟨left.drop n, 0, big⟩) 0 (.slice (further a cap n) (left.length - n) (cap - n)) rfl hrd
      obtain ⟨fa, hfa⟩ : ∃ fa, further a cap n = fa := ⟨_, rfl⟩
      obtain ⟨fl, hfl⟩ : ∃ fl, left.length - n = fl := ⟨_, rfl⟩
      obtain ⟨fc, hfc⟩ : ∃ fc, cap - n = fc := ⟨_, rfl⟩
      simp only [hfa, hfl, hfc] at hsl hS hK
      have HS := Hid.mk' hS
      have HK := Hid.mk' hK
      clear h h0 h2 hN hn hS hK hrd hfa hfl hfc
      go_enter Tryd.func52, Tryd.ntmps52
      go_wp2_with fail
      refine c1.out.mono ?_
      rintro e w1 ⟨rfl, rfl⟩
      go_wp2
      go_ret
      rw [hN2.out, ← HF.out]
      exact ⟨rfl, _, HS.out, HK.out⟩
end Ev
end Go.Proofs.YtnllplholfhbdaaDoor
