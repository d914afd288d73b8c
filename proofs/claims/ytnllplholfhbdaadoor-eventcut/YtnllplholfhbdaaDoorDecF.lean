/- The document's answer what bytes tell, whole. -/
import Derived.Test.YtnllplholfhbdaaDoorDecE
namespace Go.Proofs.YtnllplholfhbdaaDoor
set_option linter.ambiguousOpen false
open Go.RowKit
namespace Ev
open Pk Sm Ft
set_option linter.unusedSimpArgs false
set_option linter.unusedVariables false

theorem numT_lt (t : Tkn) : (numT t).1 < 18446744073709551616 := by
  obtain ⟨x, n, no, hn⟩ : ∃ x n no, Pk.num t.left = (x, n, no) := ⟨_, _, _, rfl⟩
  unfold numT
  rw [hn]
  simp only
  by_cases h0 : t.no ≠ 0
  · rw [if_pos h0]; simp
  · rw [if_neg h0]
    by_cases h1 : no ≠ 0
    · rw [if_pos h1]; simp
    · rw [if_neg h1]
      obtain rfl : no = 0 := by omega
      exact (num_back t.left x n hn).1

theorem txtT_len (t : Tkn) : (txtT t).1.length ≤ 32 := by
  obtain ⟨x, n, no, hn⟩ : ∃ x n no, taken t.left 32 = (x, n, no) := ⟨_, _, _, rfl⟩
  unfold txtT
  rw [hn]
  simp only
  by_cases h0 : t.no ≠ 0
  · rw [if_pos h0]; simp
  · rw [if_neg h0]
    by_cases h1 : no ≠ 0
    · rw [if_pos h1]; simp
    · rw [if_neg h1]
      obtain rfl : no = 0 := by omega
      exact (taken_back t.left 32 x n hn).2.2

theorem born_fit (t : Tkn) : (bornT t).1.user.length ≤ 65536 ∧ (bornT t).1.label.length ≤ 65536 ∧ (0 ≤ (bornT t).1.scopes ∧ (bornT t).1.scopes < 18446744073709551616) := by
  obtain ⟨v1, t1, h1⟩ : ∃ v t', intT t = (v, t') := ⟨_, _, rfl⟩
  obtain ⟨v2, t2, h2⟩ : ∃ v t', intT t1 = (v, t') := ⟨_, _, rfl⟩
  obtain ⟨v3, t3, h3⟩ : ∃ v t', intT t2 = (v, t') := ⟨_, _, rfl⟩
  obtain ⟨v4, t4, h4⟩ : ∃ v t', intT t3 = (v, t') := ⟨_, _, rfl⟩
  obtain ⟨v5, t5, h5⟩ : ∃ v t', intT t4 = (v, t') := ⟨_, _, rfl⟩
  have l6 := txtT_len t5
  obtain ⟨v6, t6, h6⟩ : ∃ v t', txtT t5 = (v, t') := ⟨_, _, rfl⟩
  have l7 := txtT_len t6
  obtain ⟨v7, t7, h7⟩ : ∃ v t', txtT t6 = (v, t') := ⟨_, _, rfl⟩
  have l8 := numT_lt t7
  obtain ⟨v8, t8, h8⟩ : ∃ v t', numT t7 = (v, t') := ⟨_, _, rfl⟩
  obtain ⟨v9, t9, h9⟩ : ∃ v t', intT t8 = (v, t') := ⟨_, _, rfl⟩
  obtain ⟨v10, t10, h10⟩ : ∃ v t', intT t9 = (v, t') := ⟨_, _, rfl⟩
  obtain ⟨v11, t11, h11⟩ : ∃ v t', intT t10 = (v, t') := ⟨_, _, rfl⟩
  obtain ⟨v12, t12, h12⟩ : ∃ v t', intT t11 = (v, t') := ⟨_, _, rfl⟩
  rw [bornT_eq t h1 h2 h3 h4 h5 h6 h7 h8 h9 h10 h11 h12]
  rw [h6] at l6
  rw [h7] at l7
  rw [h8] at l8
  simp only at l6 l7 l8 ⊢
  omega

/-- The answer under way: what was taken, the result's block. -/
structure Dn (wE w : World) (p : Nat) (t : Tkn) (v : Value) (rb : Nat) : Prop where
  tk : TkR wE w p t v
  rblk : w.heap[rb]? = some (.cells Evt.zero.arr 29 (0, 0))
  n1 : rb ≠ p
  r0 : wE.heap.size ≤ rb

theorem Dn.call {wE w w' : World} {p : Nat} {t t' : Tkn} {v v' : Value} {rb : Nat} (h : Dn wE w p t v rb) (ht : TkR wE w' p t' v') (hk : Keep (fun k => k = p) w w') : Dn wE w' p t' v' rb :=
  ⟨ht, hk.at h.rblk h.n1, h.n1, h.r0⟩

theorem Dn.alloc {wE w : World} {p : Nat} {t : Tkn} {v : Value} {rb : Nat} (h : Dn wE w p t v rb) (o : Obj) : Dn wE (w.alloc o) p t v rb := by
  have hb : Below w.heap.size w (w.alloc o) := (Below.refl _ _).alloc (Nat.le_refl _) _
  exact ⟨h.tk.keep (Keep.of_below (F := fun _ => False) hb) (fun h => h) (fun _ _ h => h), (hb.block rb (Array.getElem?_eq_some_iff.1 h.rblk).1).trans h.rblk, h.n1, h.r0⟩

theorem Dn.rcells {wE w : World} {p : Nat} {t : Tkn} {v : Value} {rb : Nat} (h : Dn wE w p t v rb) : w.heap[rb]? = some (.cells #[nu 0, nu 0, nu 0, nu 0, nu 0, nu 0, .string ⟨#[]⟩, .string ⟨#[]⟩, .int .u64 0, nu 0, nu 0, nu 0, nu 0, nu 0, nu 0] 29) := h.rblk

/-- Another block has turned. -/
theorem Dn.other {wE w w' : World} {p : Nat} {t : Tkn} {v : Value} {rb eb : Nat} (h : Dn wE w p t v rb) (hk : Keep (fun k => k = eb) w w') (h1 : eb ≠ p) (h2 : eb ≠ rb) (h3 : wE.heap.size ≤ eb) : Dn wE w' p t v rb :=
  ⟨h.tk.keep hk (fun e => h1 e.symm) (fun k hk e => by omega), hk.at h.rblk (fun e => h2 e.symm), h.n1, h.r0⟩

theorem setCell_self {w : World} {b o : Nat} {cs : Array Value} {t : TypeId} {fr : Nat × Nat} {v : Value} (h : w.heap[b]? = some (.cells cs t fr)) (hv : cs[o]? = some v) : w.setCell ⟨b, o, none⟩ v = w := by
  obtain ⟨hb, e⟩ := Array.getElem?_eq_some_iff.1 h
  obtain ⟨ho, eo⟩ := Array.getElem?_eq_some_iff.1 hv
  have e1 : (w.setCell ⟨b, o, none⟩ v).heap = w.heap := by
    unfold World.setCell
    apply Array.ext
    · simp
    · intro i h1 h2
      simp only [Array.getElem_modify]
      split
      · rename_i q
        subst q
        rw [e]
        simp only [Option.isSome_none, Bool.false_eq_true, if_false, Obj.cells.injEq, and_true]
        apply Array.ext
        · simp
        · intro j k1 k2
          rw [Array.getElem_setIfInBounds]
          split
          · rename_i q2; subst q2; exact eo.symm
          · rfl
      · rfl
  show ({ w with heap := (w.setCell ⟨b, o, none⟩ v).heap } : World) = w
  rw [e1]

theorem frz_of {w : World} {sb : Nat} {xs : Array Value} {t : TypeId} (h : w.heap[sb]? = some (.cells xs t)) (i : Nat) : w.frozen? ⟨sb, i, none⟩ = false := by simp [World.frozen?, h]

theorem putE_below {w0 w : World} {base b : Nat} (e : Evt) (h : Below base w0 w) (hb : base ≤ b) : Below base w0 (putE w b e) := by
  unfold putE
  iterate 15 (refine Below.setCell ?_ hb _)
  exact h

set_option maxRecDepth 100000 in
set_option maxHeartbeats 8000000 in
theorem decode_early (w : World) (v : Value) (b : List UInt8) (hR : RdB w v b) (k : Nat) (t1 : Tkn) (hk : numT ⟨b, 0, false⟩ = (k, t1)) (hc : t1.no ≠ 0 ∨ 2 < k) :
    Calls Tryd.prog 12 #[v] w fun e w' => e = .returned (.tuple #[.agg (decE b).1.arr, nu ((decE b).2 : Int)]) ∧ Below w.heap.size w w' := by
  have HK := Hid.mk' hk
  have hD0 : Dn w ((w.alloc (.cells Evt.zero.arr 29)).alloc (.cells #[v, nu 0, .bool false] 74)) (w.heap.size + 1) ⟨b, 0, false⟩ v w.heap.size := by
    have s1 : (w.alloc (.cells Evt.zero.arr 29)).heap.size = w.heap.size + 1 := by simp
    have a := heap_alloc_new w (.cells Evt.zero.arr 29)
    have b' := heap_alloc_new (w.alloc (.cells Evt.zero.arr 29)) (.cells #[v, nu 0, .bool false] 74)
    rw [s1] at b'
    exact ⟨⟨b', hR, ((Below.refl _ w).alloc (Nat.le_refl _) _).alloc (by simp) _, by omega⟩, by rw [Below.heap_alloc _ _ _ (by omega)]; exact a, by omega, Nat.le_refl _⟩
  have cK := Hid.mk' (tnumber _ _ _ _ _ hD0.tk)
  rw [hk] at cK
  have HD0 := Hid.mk' hD0
  obtain ⟨a, cap, rfl, hrest0⟩ := hR
  clear hrest0
  have HZ : Hid (Evt.zero.arr = #[nu 0, nu 0, nu 0, nu 0, nu 0, nu 0, .string ⟨#[]⟩, .string ⟨#[]⟩, .int .u64 0, nu 0, nu 0, nu 0, nu 0, nu 0, nu 0]) := rfl
  rw [HZ.out] at cK HD0
  clear hD0 hk
  by_cases h0 : t1.no ≠ 0
  · have h0' : ((t1.no : Int) != 0) = true := by simpa using h0
    have hV : Hid (decE b = (Evt.zero, t1.no)) := by
      show _ = _
      unfold decE
      rw [HK.out]
      simp only
      rw [if_pos h0]
    rw [hV.out]
    clear h0 hc
    go_enter Tryd.func12, Tryd.ntmps12
    go_wp2_with fail
    refine cK.out.mono ?_
    rintro e x1 ⟨rfl, y1, ht1, hk1⟩
    have hD1 := HD0.out.call ht1 hk1
    obtain ⟨p0, p1, p2, pf⟩ := ht1.cells
    have hrb := hD1.rcells
    have z0 := cell_of (j := 0) hrb rfl
    have s0 : x1.setCell ⟨w.heap.size, 0, none⟩ (nu 0) = x1 := setCell_self hrb rfl
    have d0 : x1.drew.setCell ⟨w.heap.size, 0, none⟩ (nu 0) = x1.drew := setCell_self (w := x1.drew) hrb rfl
    have z1 := cell_of (j := 1) hrb rfl
    have s1 : x1.setCell ⟨w.heap.size, 1, none⟩ (nu 0) = x1 := setCell_self hrb rfl
    have d1 : x1.drew.setCell ⟨w.heap.size, 1, none⟩ (nu 0) = x1.drew := setCell_self (w := x1.drew) hrb rfl
    have z2 := cell_of (j := 2) hrb rfl
    have s2 : x1.setCell ⟨w.heap.size, 2, none⟩ (nu 0) = x1 := setCell_self hrb rfl
    have d2 : x1.drew.setCell ⟨w.heap.size, 2, none⟩ (nu 0) = x1.drew := setCell_self (w := x1.drew) hrb rfl
    have z3 := cell_of (j := 3) hrb rfl
    have s3 : x1.setCell ⟨w.heap.size, 3, none⟩ (nu 0) = x1 := setCell_self hrb rfl
    have d3 : x1.drew.setCell ⟨w.heap.size, 3, none⟩ (nu 0) = x1.drew := setCell_self (w := x1.drew) hrb rfl
    have z4 := cell_of (j := 4) hrb rfl
    have s4 : x1.setCell ⟨w.heap.size, 4, none⟩ (nu 0) = x1 := setCell_self hrb rfl
    have d4 : x1.drew.setCell ⟨w.heap.size, 4, none⟩ (nu 0) = x1.drew := setCell_self (w := x1.drew) hrb rfl
    have z5 := cell_of (j := 5) hrb rfl
    have s5 : x1.setCell ⟨w.heap.size, 5, none⟩ (nu 0) = x1 := setCell_self hrb rfl
    have d5 : x1.drew.setCell ⟨w.heap.size, 5, none⟩ (nu 0) = x1.drew := setCell_self (w := x1.drew) hrb rfl
    have z6 := cell_of (j := 6) hrb rfl
    have s6 : x1.setCell ⟨w.heap.size, 6, none⟩ (.string ⟨#[]⟩) = x1 := setCell_self hrb rfl
    have d6 : x1.drew.setCell ⟨w.heap.size, 6, none⟩ (.string ⟨#[]⟩) = x1.drew := setCell_self (w := x1.drew) hrb rfl
    have z7 := cell_of (j := 7) hrb rfl
    have s7 : x1.setCell ⟨w.heap.size, 7, none⟩ (.string ⟨#[]⟩) = x1 := setCell_self hrb rfl
    have d7 : x1.drew.setCell ⟨w.heap.size, 7, none⟩ (.string ⟨#[]⟩) = x1.drew := setCell_self (w := x1.drew) hrb rfl
    have z8 := cell_of (j := 8) hrb rfl
    have s8 : x1.setCell ⟨w.heap.size, 8, none⟩ (.int .u64 0) = x1 := setCell_self hrb rfl
    have d8 : x1.drew.setCell ⟨w.heap.size, 8, none⟩ (.int .u64 0) = x1.drew := setCell_self (w := x1.drew) hrb rfl
    have z9 := cell_of (j := 9) hrb rfl
    have s9 : x1.setCell ⟨w.heap.size, 9, none⟩ (nu 0) = x1 := setCell_self hrb rfl
    have d9 : x1.drew.setCell ⟨w.heap.size, 9, none⟩ (nu 0) = x1.drew := setCell_self (w := x1.drew) hrb rfl
    have z10 := cell_of (j := 10) hrb rfl
    have s10 : x1.setCell ⟨w.heap.size, 10, none⟩ (nu 0) = x1 := setCell_self hrb rfl
    have d10 : x1.drew.setCell ⟨w.heap.size, 10, none⟩ (nu 0) = x1.drew := setCell_self (w := x1.drew) hrb rfl
    have z11 := cell_of (j := 11) hrb rfl
    have s11 : x1.setCell ⟨w.heap.size, 11, none⟩ (nu 0) = x1 := setCell_self hrb rfl
    have d11 : x1.drew.setCell ⟨w.heap.size, 11, none⟩ (nu 0) = x1.drew := setCell_self (w := x1.drew) hrb rfl
    have z12 := cell_of (j := 12) hrb rfl
    have s12 : x1.setCell ⟨w.heap.size, 12, none⟩ (nu 0) = x1 := setCell_self hrb rfl
    have d12 : x1.drew.setCell ⟨w.heap.size, 12, none⟩ (nu 0) = x1.drew := setCell_self (w := x1.drew) hrb rfl
    have z13 := cell_of (j := 13) hrb rfl
    have s13 : x1.setCell ⟨w.heap.size, 13, none⟩ (nu 0) = x1 := setCell_self hrb rfl
    have d13 : x1.drew.setCell ⟨w.heap.size, 13, none⟩ (nu 0) = x1.drew := setCell_self (w := x1.drew) hrb rfl
    have z14 := cell_of (j := 14) hrb rfl
    have s14 : x1.setCell ⟨w.heap.size, 14, none⟩ (nu 0) = x1 := setCell_self hrb rfl
    have d14 : x1.drew.setCell ⟨w.heap.size, 14, none⟩ (nu 0) = x1.drew := setCell_self (w := x1.drew) hrb rfl
    have zf : ∀ i, _ := frz_of hrb
    clear hrb
    have HB := Hid.mk' ht1.bel
    have HH := Hid.mk' hD1.rblk
    clear ht1 hk1 hD1 HD0 cK
    go_wp2_with fail
    go_region
    go_wp2
    refine bodyPost_ret (results_evt rfl _ _ w.heap.size Evt.zero rfl HH.out) rfl ?_
    exact ⟨rfl, HB.out.drew⟩
  · have h0' : ((t1.no : Int) != 0) = false := by simpa using h0
    have h2 : 2 < k := by
      rcases hc with hc | hc
      · exact absurd hc h0
      · exact hc
    have h2' : (2 : Int) < (k : Int) := by omega
    have hV : Hid (decE b = (Evt.zero, 1)) := by
      show _ = _
      unfold decE
      rw [HK.out]
      simp only
      rw [if_neg h0, if_pos h2]
    rw [hV.out]
    clear h0 hc h2
    go_enter Tryd.func12, Tryd.ntmps12
    go_wp2_with fail
    refine cK.out.mono ?_
    rintro e x1 ⟨rfl, y1, ht1, hk1⟩
    have hD1 := HD0.out.call ht1 hk1
    obtain ⟨p0, p1, p2, pf⟩ := ht1.cells
    have hrb := hD1.rcells
    have z0 := cell_of (j := 0) hrb rfl
    have s0 : x1.setCell ⟨w.heap.size, 0, none⟩ (nu 0) = x1 := setCell_self hrb rfl
    have z1 := cell_of (j := 1) hrb rfl
    have s1 : x1.setCell ⟨w.heap.size, 1, none⟩ (nu 0) = x1 := setCell_self hrb rfl
    have z2 := cell_of (j := 2) hrb rfl
    have s2 : x1.setCell ⟨w.heap.size, 2, none⟩ (nu 0) = x1 := setCell_self hrb rfl
    have z3 := cell_of (j := 3) hrb rfl
    have s3 : x1.setCell ⟨w.heap.size, 3, none⟩ (nu 0) = x1 := setCell_self hrb rfl
    have z4 := cell_of (j := 4) hrb rfl
    have s4 : x1.setCell ⟨w.heap.size, 4, none⟩ (nu 0) = x1 := setCell_self hrb rfl
    have z5 := cell_of (j := 5) hrb rfl
    have s5 : x1.setCell ⟨w.heap.size, 5, none⟩ (nu 0) = x1 := setCell_self hrb rfl
    have z6 := cell_of (j := 6) hrb rfl
    have s6 : x1.setCell ⟨w.heap.size, 6, none⟩ (.string ⟨#[]⟩) = x1 := setCell_self hrb rfl
    have z7 := cell_of (j := 7) hrb rfl
    have s7 : x1.setCell ⟨w.heap.size, 7, none⟩ (.string ⟨#[]⟩) = x1 := setCell_self hrb rfl
    have z8 := cell_of (j := 8) hrb rfl
    have s8 : x1.setCell ⟨w.heap.size, 8, none⟩ (.int .u64 0) = x1 := setCell_self hrb rfl
    have z9 := cell_of (j := 9) hrb rfl
    have s9 : x1.setCell ⟨w.heap.size, 9, none⟩ (nu 0) = x1 := setCell_self hrb rfl
    have z10 := cell_of (j := 10) hrb rfl
    have s10 : x1.setCell ⟨w.heap.size, 10, none⟩ (nu 0) = x1 := setCell_self hrb rfl
    have z11 := cell_of (j := 11) hrb rfl
    have s11 : x1.setCell ⟨w.heap.size, 11, none⟩ (nu 0) = x1 := setCell_self hrb rfl
    have z12 := cell_of (j := 12) hrb rfl
    have s12 : x1.setCell ⟨w.heap.size, 12, none⟩ (nu 0) = x1 := setCell_self hrb rfl
    have z13 := cell_of (j := 13) hrb rfl
    have s13 : x1.setCell ⟨w.heap.size, 13, none⟩ (nu 0) = x1 := setCell_self hrb rfl
    have z14 := cell_of (j := 14) hrb rfl
    have s14 : x1.setCell ⟨w.heap.size, 14, none⟩ (nu 0) = x1 := setCell_self hrb rfl
    have zf : ∀ i, _ := frz_of hrb
    clear hrb
    have HB := Hid.mk' ht1.bel
    have HH := Hid.mk' hD1.rblk
    clear ht1 hk1 hD1 HD0 cK
    go_wp2
    refine bodyPost_ret (results_evt rfl _ _ w.heap.size Evt.zero rfl HH.out) rfl ?_
    exact ⟨rfl, HB.out⟩
end Ev
end Go.Proofs.YtnllplholfhbdaaDoor
