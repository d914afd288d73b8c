/- HepI, HepJ, HepX, HepY, HepZ, in one text. -/
import Derived.Test.YteclbmmhidmklaaDoorHoM
import Derived.Test.YteclbmmhidmklaaDoorHtM
import Derived.Test.YteclbmmhidmklaaDoorHwM
import Derived.Test.YteclbmmhidmklaaDoorHepK
/- HeapKnown: rows that are written out; a heap amid the chapter's examples. -/
namespace Go.Proofs.YteclbmmhidmklaaDoor
set_option linter.ambiguousOpen false
open Go.RowKit
namespace Hh
open Ft
set_option linter.unusedSimpArgs false
set_option linter.unusedVariables false
attribute [local go_sem] Oper.semAt_some

theorem hact_at : ∀ (L : List Hact) (n c : Nat) (x : Hact), L[n]? = some x → c < 3 → (L.flatMap Hact.cells)[n * 3 + c]? = x.cells[c]?
  | [], n, c, x, h, _ => by simp at h
  | y :: L, 0, c, x, h, hc => by
    simp at h
    subst h
    rw [List.flatMap_cons, List.getElem?_append_left (by simp; omega)]
    simp
  | y :: L, n + 1, c, x, h, hc => by
    have ih := hact_at L n c x (by simpa using h) hc
    rw [List.flatMap_cons, List.getElem?_append_right (by simp; omega), show (n + 1) * 3 + c - y.cells.length = n * 3 + c by simp; omega]
    exact ih

theorem hact_len (L : List Hact) : (L.flatMap Hact.cells).length = L.length * 3 := by
  induction L with
  | nil => rfl
  | cons x L ih =>
    rw [List.flatMap_cons, List.length_append, ih]
    simp
    omega

/-- Acts written out. -/
theorem rdA_block {w : World} {g : Nat} {cs : Array Value} {t : TypeId} {fr : Nat × Nat} (L : List Hact) (n : Nat) (h : w.heap[g]? = some (.cells cs t fr)) (e : cs.toList = L.flatMap Hact.cells) (hn : L.length = n) (hm : n ≤ 1000) : RdA w (.slice (some ⟨g, 0, none⟩) n n) L := by
  subst hn
  refine ⟨_, L.length, rfl, Nat.le_refl _, by unfold maxLen; omega, fun _ => ⟨g, 0, rfl, (Array.getElem?_eq_some_iff.1 h).1, fun n x hx j v hv => ?_⟩⟩
  have hj : j < 3 := (List.getElem?_eq_some_iff.1 hv).1
  rw [cell_of_row w g _ _ _ _ h, ← Array.getElem?_toList, e, Nat.zero_add, hact_at L n j x hx hj]
  exact hv

/-- Pairs written out. -/
theorem rdQ_block {w : World} {g : Nat} {cs : Array Value} {t : TypeId} {fr : Nat × Nat} (L : List It) (n : Nat) (h : w.heap[g]? = some (.cells cs t fr)) (e : cs.toList = L.flatMap It.cells) (hn : L.length = n) (hm : n ≤ 1000) : RdQ w (.slice (some ⟨g, 0, none⟩) n n) L := by
  subst hn
  refine ⟨_, L.length, rfl, Nat.le_refl _, by unfold maxLen; omega, fun _ => ⟨g, 0, rfl, (Array.getElem?_eq_some_iff.1 h).1, fun k x hx => ?_⟩⟩
  obtain ⟨hk, hxe⟩ := List.getElem?_eq_some_iff.1 hx
  have f0 := flat_atI L k 0 hk (by omega)
  have f1 := flat_atI L k 1 hk (by omega)
  rw [hxe] at f0 f1
  rw [cell_of_row w g _ _ _ _ h, cell_of_row w g _ _ _ _ h, ← Array.getElem?_toList, ← Array.getElem?_toList, e, Nat.zero_add]
  exact ⟨f0, f1⟩

/-- Numbers written out. -/
theorem rdZ_block {w : World} {g : Nat} {cs : Array Value} {t : TypeId} {fr : Nat × Nat} (L : List Int) (n : Nat) (h : w.heap[g]? = some (.cells cs t fr)) (e : cs.toList = L.map nu) (hn : L.length = n) (hm : n ≤ 1000) : RdZ w (.slice (some ⟨g, 0, none⟩) n n) L := by
  subst hn
  refine ⟨_, L.length, rfl, Nat.le_refl _, by unfold maxLen; omega, fun _ => ⟨g, rfl, (Array.getElem?_eq_some_iff.1 h).1, fun k i hk => ?_⟩⟩
  rw [cell_of_row w g _ _ _ _ h, ← Array.getElem?_toList, e, List.getElem?_map, hk]
  rfl

/-- A heap of four numbers. -/
structure Kn (R : RepHT) (w0 w : World) (p : Nat) (S : List It) : Prop where
  ex : ∃ F, R w p F 4 S ∧ (∀ k, F k → w0.heap.size ≤ k)
  good : Hk 4 S
  bel : Below w0.heap.size w0 w

section
variable {R : RepHT} {w0 w w' : World} {p : Nat} {S S' : List It}

theorem Kn.few (h : Kn R w0 w p S) : S.length ≤ 65536 := by
  have := Hk.few (N := 4) h.good
  omega

theorem Kn.below (C : HeapC R) (h : Kn R w0 w p S) (hb : Below w.heap.size w w') : Kn R w0 w' p S := by
  obtain ⟨F, h1, h2⟩ := h.ex
  exact ⟨⟨F, C.below h1 hb, h2⟩, h.good, h.bel.trans (hb.mono h.bel.size)⟩

theorem Kn.left {F : Nat → Prop} (h : Kn R w0 w p S) (h2 : ∀ k, F k → w0.heap.size ≤ k) (hl : LeftH R w w' p F 4 S') (hg : Hk 4 S') : Kn R w0 w' p S' := by
  obtain ⟨G, g1, g2, g3⟩ := hl
  refine ⟨⟨G, g1, fun k hk => ?_⟩, hg, h.bel.trans (g2.below (fun k hk e => by have := h2 k e; omega) h.bel.size)⟩
  rcases g3 k hk with e | e
  · exact h2 k e
  · exact Nat.le_trans h.bel.size e

theorem Kn.set (C : HeapC R) (h : Kn R w0 w p S) (i k : Int) (hi : 0 ≤ i ∧ i < 4) (e : setH S i k = S') : Calls Tryd.prog 15 #[ptr p, nu i, nu k] w fun e w' => e = .returned .nilIface ∧ Hid (Kn R w0 w' p S') := by
  obtain ⟨F, h1, h2⟩ := h.ex
  subst e
  refine (C.setYes w p F 4 S i k h1 h.good h.few hi).mono ?_
  rintro e w' ⟨rfl, hl⟩
  exact ⟨rfl, h.left h2 hl (h.good.set hi k)⟩

theorem Kn.no (C : HeapC R) (h : Kn R w0 w p S) (i k : Int) (hi : ¬ (0 ≤ i ∧ i < 4)) : Calls Tryd.prog 15 #[ptr p, nu i, nu k] w fun e w' => e = .returned (errE 1) ∧ Hid (Kn R w0 w' p S) := by
  obtain ⟨F, h1, h2⟩ := h.ex
  refine (C.setNo w p F 4 S i k h1 h.good hi).mono ?_
  rintro e w' ⟨rfl, hl⟩
  exact ⟨rfl, h.left h2 hl h.good⟩

theorem Kn.drop (C : HeapC R) (h : Kn R w0 w p S) (i : Int) (b : Bool) (hb : hasH S i = b) (e : dropH S i = S') : Calls Tryd.prog 11 #[ptr p, nu i] w fun e w' => e = .returned (.bool b) ∧ Hid (Kn R w0 w' p S') := by
  obtain ⟨F, h1, h2⟩ := h.ex
  subst e
  subst hb
  refine (C.drop w p F 4 S i h1 h.good h.few).mono ?_
  rintro e w' ⟨rfl, hl⟩
  exact ⟨rfl, h.left h2 hl (h.good.drop i)⟩

theorem Kn.key (C : HeapC R) (h : Kn R w0 w p S) (i : Int) (k : Int) (b : Bool) (e : (keyH S i).getD 0 = k ∧ (keyH S i).isSome = b) : Calls Tryd.prog 34 #[ptr p, nu i] w fun e w' => e = .returned (.tuple #[nu k, .bool b]) ∧ Hid (Kn R w0 w' p S) := by
  obtain ⟨F, h1, h2⟩ := h.ex
  have := C.key w p F 4 S i h1 h.good h.few
  rw [e.1, e.2] at this
  refine this.mono ?_
  rintro e w' ⟨rfl, hb⟩
  exact ⟨rfl, h.below C hb⟩

theorem Kn.least (C : HeapC R) (h : Kn R w0 w p S) (i k : Int) (b : Bool) (e : fstI S = i ∧ fstK S = k ∧ (!S.isEmpty) = b) : Calls Tryd.prog 32 #[ptr p] w fun e w' => e = .returned (.tuple #[nu i, nu k, .bool b]) ∧ Hid (Kn R w0 w' p S) := by
  obtain ⟨F, h1, h2⟩ := h.ex
  have := C.least w p F 4 S h1 h.good h.few
  rw [e.1, e.2.1, e.2.2] at this
  refine this.mono ?_
  rintro e w' ⟨rfl, hb⟩
  exact ⟨rfl, h.below C hb⟩

theorem Kn.len (C : HeapC R) (h : Kn R w0 w p S) (n : Nat) (e : S.length = n) : Calls Tryd.prog 36 #[ptr p] w fun e w' => e = .returned (nun n) ∧ Hid (Kn R w0 w' p S) := by
  obtain ⟨F, h1, h2⟩ := h.ex
  have := C.len w p F 4 S h1
  rw [e] at this
  refine this.mono ?_
  rintro e w' ⟨rfl, hb⟩
  exact ⟨rfl, h.below C hb⟩

theorem Kn.all (C : HeapC R) (h : Kn R w0 w p S) : Calls Tryd.prog 8 #[ptr p] w fun e w' => ∃ gf lb, e = .returned (.func (.func gf) #[] lb) ∧ Hid (Kn R w0 w' p S ∧ ∃ X, IterH w' (.func (.func gf) #[] lb) X S) := by
  obtain ⟨F, h1, h2⟩ := h.ex
  refine (C.all w p F 4 S h1 h.good h.few).mono ?_
  rintro e w' ⟨fv, X, rfl, hit, _, hb⟩
  obtain ⟨gf, lb, kk, rfl, _⟩ := id hit
  exact ⟨gf, lb, rfl, h.below C hb, X, hit⟩

theorem Kn.pairs (C : HeapC R) (h : Kn R w0 w p S) {fv : Value} (hit : ∃ X, IterH w fv X S) {L : List Int} (e : prs S = L) : Calls Tryd.prog 14 #[fv, nu 9] w fun e w' => ∃ a n c, e = .returned (.slice a n c) ∧ Hid (Kn R w0 w' p S ∧ RdZ w' (.slice a n c) L) := by
  obtain ⟨X, hit⟩ := hit
  have hf := Hk.few (N := 4) h.good
  have := pairs_any fv X S w 9 hit (by omega) (by decide)
  rw [List.take_of_length_le (show S.length ≤ 9 by omega), e] at this
  refine this.mono ?_
  rintro e w' ⟨v, rfl, ho, hb⟩
  obtain ⟨a, c, rfl, _⟩ := Nm.own_shape ho
  exact ⟨a, _, c, rfl, h.below C hb, own_rdZ ho⟩
end

/-- A law over two lists of acts written out. -/
theorem plays_new {R : RepHT} (C : HeapC R) (w0 w : World) (hE : Er.Handle w0) (hb : Below w0.heap.size w0 w) (n : Int) (L : List Hact) (cs : Array Value) (m : Nat) (e : cs.toList = L.flatMap Hact.cells) (hm : L.length = m) (hm2 : m ≤ 1000) (hF : ∀ x ∈ L, x.fits) :
    Calls Tryd.prog 3 #[nu n, .slice (some ⟨w.heap.size, 0, none⟩) m m] (w.alloc (.cells cs 38)) fun e w' => e = .returned (.bool true) ∧ Below w.heap.size w w' := by
  have hb1 : Below w.heap.size w (w.alloc (.cells cs 38)) := (Below.refl _ _).alloc (Nat.le_refl _) _
  refine (heapPlays_yes C n _ L _ (rdA_block L m (heap_alloc_new _ _) e hm hm2) hF (hE.below (hb.trans (hb1.mono hb.size)))).mono ?_
  rintro e w' ⟨rfl, hb2⟩
  exact ⟨rfl, hb1.trans (hb2.mono hb1.size)⟩
end Hh
end Go.Proofs.YteclbmmhidmklaaDoor
/- HeapKnown: the chapter's examples. -/
namespace Go.Proofs.YteclbmmhidmklaaDoor
set_option linter.ambiguousOpen false
open Go.RowKit
namespace Hh
open Ft
set_option linter.unusedSimpArgs false
set_option linter.unusedVariables false
attribute [local go_sem] Oper.semAt_some

@[reducible] def acts4 : List Hact := [⟨0, 65535, 1⟩, ⟨0, 65536, 1⟩, ⟨2, 65535, 0⟩, ⟨0, -1, 1⟩]

@[reducible] def acts2 : List Hact := [⟨0, 0, 1⟩, ⟨0, 1, 1⟩]

theorem acts4_fits : ∀ x ∈ acts4, x.fits := by
  intro x hx
  unfold acts4 at hx
  simp only [List.mem_cons, List.not_mem_nil, or_false] at hx
  rcases hx with rfl | rfl | rfl | rfl <;> (unfold Hact.fits I64; dsimp only; omega)

theorem acts2_fits : ∀ x ∈ acts2, x.fits := by
  intro x hx
  unfold acts2 at hx
  simp only [List.mem_cons, List.not_mem_nil, or_false] at hx
  rcases hx with rfl | rfl <;> (unfold Hact.fits I64; dsimp only; omega)

set_option maxRecDepth 1000000 in
set_option maxHeartbeats 16000000 in
theorem knownSaid_yes {R : RepHT} (C : HeapC R) (w : World) (hE : Er.Handle w) : Calls Tryd.prog 18 #[] w fun e w' => e = .returned (.bool true) ∧ Below w.heap.size w w' := by
  have HE := Hid.mk' hE
  have cW : Hid (∀ wx, Calls Tryd.prog 37 #[] wx fun e w' => e = .returned (.bool true) ∧ Below wx.heap.size wx w') := fun wx => works_any C.toHeapB wx
  have cPl : Hid (∀ wx, Below w.heap.size w wx → Calls Tryd.prog 7 #[errE 1, nu 1] wx fun e w' => e = .returned (.bool true) ∧ Below wx.heap.size wx w') := fun wx hb => plainH 1 (by decide) wx (hE.below hb)
  have c1 := C.new w 4
  simp only [if_neg (show ¬ ((4 : Int) < 1 ∨ (65536 : Int) < 4) by decide)] at c1
  have c1 := Hid.mk' c1
  clear hE
  go_enter Tryd.func18, Tryd.ntmps18
  go_wp2_with fail
  refine c1.out.mono ?_
  rintro e w1 ⟨hb1, p, F, rfl, hr1, hf1⟩
  have K1 : Hid (Kn R w w1 p []) := ⟨⟨F, hr1, hf1⟩, Hk.nil 4, hb1⟩
  clear hr1 hf1 hb1 c1
  have hz0 : errE 0 = .nilIface := rfl
  rw [hz0]
  go_wp2_with fail
  refine (cW.out w1).mono ?_
  rintro e w2 ⟨rfl, hb2⟩
  have K2 := Hid.mk' (K1.out.below C hb2)
  clear K1 hb2
  have HS1 : ∃ S, setH [] 2 5 = S ∧ Hid (setH S 0 5 = [⟨0, 5⟩, ⟨2, 5⟩]) := ⟨_, rfl, rfl⟩
  obtain ⟨S1, hS1, HS1⟩ := HS1
  have HS2 : ∃ S, [⟨0, 5⟩, ⟨2, 5⟩] = S ∧ Hid (setH S 3 (-1) = [⟨3, -1⟩, ⟨0, 5⟩, ⟨2, 5⟩]) := ⟨_, rfl, rfl⟩
  obtain ⟨S2, hS2, HS2⟩ := HS2
  rw [hS2] at HS1
  have HS3 : ∃ S : List It, [⟨3, -1⟩, ⟨0, 5⟩, ⟨2, 5⟩] = S ∧ Hid (prs S = [3, -1, 0, 5, 2, 5]) ∧ Hid (setH S 3 9 = [⟨0, 5⟩, ⟨2, 5⟩, ⟨3, 9⟩]) := ⟨_, rfl, rfl, rfl⟩
  obtain ⟨S3, hS3, HP3, HS3⟩ := HS3
  rw [hS3] at HS2
  have HS4 : ∃ S : List It, [⟨0, 5⟩, ⟨2, 5⟩, ⟨3, 9⟩] = S ∧ Hid (hasH S 0 = true) ∧ Hid (dropH S 0 = [⟨2, 5⟩, ⟨3, 9⟩]) := ⟨_, rfl, rfl, rfl⟩
  obtain ⟨S4, hS4, HH4, HS4⟩ := HS4
  rw [hS4] at HS3
  have HS5 : ∃ S : List It, [⟨2, 5⟩, ⟨3, 9⟩] = S ∧ Hid ((hasH S 0 = false ∧ dropH S 0 = S) ∧ (hasH S 4 = false ∧ dropH S 4 = S) ∧ (hasH S (-1) = false ∧ dropH S (-1) = S)) ∧ Hid (S.length = 2) ∧ Hid ((keyH S 0).getD 0 = 0 ∧ (keyH S 0).isSome = false) ∧ Hid (fstI S = 2 ∧ fstK S = 5 ∧ (!S.isEmpty) = true) := ⟨_, rfl, ⟨⟨rfl, rfl⟩, ⟨rfl, rfl⟩, ⟨rfl, rfl⟩⟩, rfl, ⟨rfl, rfl⟩, ⟨rfl, rfl, rfl⟩⟩
  obtain ⟨S5, hS5, HD5, HL5, HK5, HF5⟩ := HS5
  rw [hS5] at HS4
  have c3 := Hid.mk' (K2.out.set C 2 5 (by decide) hS1)
  clear hS1 hS2 hS3 hS4 hS5
  go_wp2_with fail
  refine c3.out.mono ?_
  rintro e w3 ⟨rfl, K3⟩
  have c4 := Hid.mk' (K3.out.set C 0 5 (by decide) HS1.out)
  clear c3 K2 K3
  go_wp2_with fail
  refine c4.out.mono ?_
  rintro e w4 ⟨rfl, K4⟩
  have c5 := Hid.mk' (K4.out.set C 3 (-1) (by decide) HS2.out)
  clear c4 K4
  go_wp2_with fail
  refine c5.out.mono ?_
  rintro e w5 ⟨rfl, K5⟩
  have c6 := Hid.mk' (K5.out.all C)
  clear c5 K5
  go_wp2_with fail
  refine c6.out.mono ?_
  rintro e w6 ⟨gf, lb, rfl, K6⟩
  have c7 := Hid.mk' (K6.out.1.pairs C K6.out.2 HP3.out)
  clear c6 K6
  go_wp2_with fail
  refine c7.out.mono ?_
  rintro e w7 ⟨a7, n7, d7, rfl, K7⟩
  obtain ⟨w8, hw8⟩ : ∃ w8, w7.alloc (.cells #[nu 3, nu (-1), nu 0, nu 5, nu 2, nu 5] 3) = w8 := ⟨_, rfl⟩
  have hb8 : Below w7.heap.size w7 w8 := by rw [← hw8]; exact (Below.refl _ _).alloc (Nat.le_refl _) _
  have K8 := Hid.mk' (K7.out.1.below C hb8)
  have c8 : Hid (Calls Tryd.prog 13 #[.slice a7 n7 d7, .slice (some ⟨w7.heap.size, 0, none⟩) 6 6] (w7.alloc (.cells #[nu 3, nu (-1), nu 0, nu 5, nu 2, nu 5] 3)) fun e w' => e = .returned (.bool true) ∧ Hid (Kn R w w' p S3)) := by
    rw [hw8]
    refine (sameZ _ _ [3, -1, 0, 5, 2, 5] w8 (K7.out.2.below hb8) (rdZ_block _ 6 (by rw [← hw8]; exact heap_alloc_new _ _) rfl rfl (by decide))).mono ?_
    rintro e w' ⟨rfl, hb⟩
    exact ⟨rfl, K8.out.below C hb⟩
  clear c7 K7 hb8 K8 hw8
  go_wp2_with fail
  refine c8.out.mono ?_
  rintro e w9 ⟨rfl, K9⟩
  have c9 := Hid.mk' (K9.out.set C 3 9 (by decide) HS3.out)
  clear c8 K9
  go_wp2_with fail
  refine c9.out.mono ?_
  rintro e w10 ⟨rfl, K10⟩
  have c10 := Hid.mk' (K10.out.drop C 0 true HH4.out HS4.out)
  clear c9 K10
  go_wp2_with fail
  refine c10.out.mono ?_
  rintro e w11 ⟨rfl, K11⟩
  have c11 := Hid.mk' (K11.out.drop C 0 false HD5.out.1.1 HD5.out.1.2)
  clear c10 K11
  go_wp2_with fail
  refine c11.out.mono ?_
  rintro e w12 ⟨rfl, K12⟩
  have c12 := Hid.mk' (K12.out.drop C 4 false HD5.out.2.1.1 HD5.out.2.1.2)
  clear c11 K12
  go_wp2_with fail
  refine c12.out.mono ?_
  rintro e w13 ⟨rfl, K13⟩
  have c13 := Hid.mk' (K13.out.drop C (-1) false HD5.out.2.2.1 HD5.out.2.2.2)
  clear c12 K13
  go_wp2_with fail
  refine c13.out.mono ?_
  rintro e w14 ⟨rfl, K14⟩
  have c14 := Hid.mk' (K14.out.len C 2 HL5.out)
  clear c13 K14
  go_wp2_with fail
  refine c14.out.mono ?_
  rintro e w15 ⟨rfl, K15⟩
  have c15 := Hid.mk' (K15.out.key C 0 0 false HK5.out)
  clear c14 K15
  go_wp2_with fail
  refine c15.out.mono ?_
  rintro e w16 ⟨rfl, K16⟩
  have c16 := Hid.mk' (K16.out.least C 2 5 true HF5.out)
  clear c15 K16
  go_wp2_with fail
  refine c16.out.mono ?_
  rintro e w17 ⟨rfl, K17⟩
  have c17 := C.new w17 0
  simp only [if_pos (show ((0 : Int) < 1 ∨ (65536 : Int) < 0) by decide)] at c17
  have c17 := Hid.mk' c17
  clear c16
  go_wp2_with fail
  refine c17.out.mono ?_
  rintro e w18 ⟨hb18, rfl⟩
  have K18 := Hid.mk' (K17.out.below C hb18)
  have c18 := C.new w18 65537
  simp only [if_pos (show ((65537 : Int) < 1 ∨ (65536 : Int) < 65537) by decide)] at c18
  have c18 := Hid.mk' c18
  clear c17 hb18 K17
  go_wp2_with fail
  refine c18.out.mono ?_
  rintro e w19 ⟨hb19, rfl⟩
  have K19 := Hid.mk' (K18.out.below C hb19)
  have c19 := Hid.mk' (plays_new C w w19 HE.out K19.out.bel 65536 acts4 #[nu 0, nu 65535, nu 1, nu 0, nu 65536, nu 1, nu 2, nu 65535, nu 0, nu 0, nu (-1), nu 1] 4 rfl rfl (by decide) acts4_fits)
  clear c18 hb19 K18
  go_wp2_with fail
  refine c19.out.mono ?_
  rintro e w20 ⟨rfl, hb20⟩
  have K20 := Hid.mk' (K19.out.below C hb20)
  have c20 := Hid.mk' (plays_new C w w20 HE.out K20.out.bel 1 acts2 #[nu 0, nu 0, nu 1, nu 0, nu 1, nu 1] 2 rfl rfl (by decide) acts2_fits)
  clear c19 hb20 K19
  go_wp2_with fail
  refine c20.out.mono ?_
  rintro e w21 ⟨rfl, hb21⟩
  have K21 := Hid.mk' (K20.out.below C hb21)
  clear c20 hb21 K20
  go_wp2_with fail
  refine (cW.out w21).mono ?_
  rintro e w22 ⟨rfl, hb22⟩
  have K22 := Hid.mk' (K21.out.below C hb22)
  have c22 := Hid.mk' (K22.out.no C 4 0 (by decide))
  clear K21 hb22 cW
  go_wp2_with fail
  refine c22.out.mono ?_
  rintro e w23 ⟨rfl, K23⟩
  have c23 := Hid.mk' (cPl.out w23 K23.out.bel)
  clear c22 K22
  go_wp2_with fail
  refine c23.out.mono ?_
  rintro e w24 ⟨rfl, hb24⟩
  have K24 := Hid.mk' (K23.out.below C hb24)
  have c24 := Hid.mk' (K24.out.no C (-1) 0 (by decide))
  clear c23 K23 hb24
  go_wp2_with fail
  refine c24.out.mono ?_
  rintro e w25 ⟨rfl, K25⟩
  have c25 := Hid.mk' (cPl.out w25 K25.out.bel)
  clear c24 K24
  go_wp2_with fail
  refine c25.out.mono ?_
  rintro e w26 ⟨rfl, hb26⟩
  have K26 := Hid.mk' (K25.out.below C hb26)
  have c26 := Hid.mk' (cPl.out w26 K26.out.bel)
  clear c25 K25 hb26
  go_wp2_with fail
  refine c26.out.mono ?_
  rintro e w27 ⟨rfl, hb27⟩
  have K27 := Hid.mk' (K26.out.below C hb27)
  have c27 := Hid.mk' (cPl.out w27 K27.out.bel)
  clear c26 K26 hb27
  go_wp2_with fail
  refine c27.out.mono ?_
  rintro e w28 ⟨rfl, hb28⟩
  have K28 := Hid.mk' (K27.out.below C hb28)
  clear c27 K27 hb28
  go_wp2
  go_ret
  exact ⟨by simp, K28.out.bel⟩
end Hh
end Go.Proofs.YteclbmmhidmklaaDoor
/- HeapKnown: rising and falling rows. -/
namespace Go.Proofs.YteclbmmhidmklaaDoor
set_option linter.ambiguousOpen false
open Go.RowKit
namespace Hh
open Ft
set_option linter.unusedSimpArgs false
set_option linter.unusedVariables false
attribute [local go_sem] Oper.semAt_some

theorem infoAc : (Tryd.prog.info? 38).map (fun i => (i.zero, i.size, i.bytes)) = some (some (.agg #[.int .i64 0, .int .i64 0, .int .i64 0]), 3, 24) := by kernel_rfl

/-- A row that the law owns. -/
structure Row where
  e : TypeId
  size : Nat
  v : Value
  n : Nat
  xs : List Value

@[reducible] def Row.own (r : Row) (w0 w : World) : Prop := w.ownsRow w0.heap.size r.e r.size r.v r.n r.xs

/-- Three of them, apart. -/
structure R3 (w0 w : World) (A B C : Row) : Prop where
  a : A.own w0 w
  b : B.own w0 w
  c : C.own w0 w
  ab : ∀ j, A.v.ownBlock = some j → B.v.ownBlock ≠ some j
  ac : ∀ j, A.v.ownBlock = some j → C.v.ownBlock ≠ some j
  bc : ∀ j, B.v.ownBlock = some j → C.v.ownBlock ≠ some j
  bel : Below w0.heap.size w0 w

section
variable {w0 w w' : World} {A B C A' : Row}

theorem R3.rot (h : R3 w0 w A B C) : R3 w0 w B C A := ⟨h.b, h.c, h.a, h.bc, fun j e e2 => h.ab j e2 e, fun j e e2 => h.ac j e2 e, h.bel⟩

theorem R3.below (h : R3 w0 w A B C) (hb : Below w.heap.size w w') : R3 w0 w' A B C := by
  have hk : Keep (fun _ => False) w w' := Keep.of_below hb
  exact ⟨hk.own h.a (fun _ _ h => h), hk.own h.b (fun _ _ h => h), hk.own h.c (fun _ _ h => h), h.ab, h.ac, h.bc, h.bel.trans (hb.mono h.bel.size)⟩

theorem R3.grow (h : R3 w0 w A B C) (ho : A'.own w0 w') (hg : w.grownBy w' A.v.ownBlock) (hat : ∀ g, A'.v.ownBlock = some g → A.v.ownBlock = some g ∨ g = w.heap.size) : R3 w0 w' A' B C := by
  have hk : Keep (fun j => A.v.ownBlock = some j) w w' := (Keep.refl _ w).grown hg (fun j e => .inl e)
  refine ⟨ho, hk.own h.b (fun j e e2 => h.ab j e2 e), hk.own h.c (fun j e e2 => h.ac j e2 e), fun j e e2 => ?_, fun j e e2 => ?_, h.bc, h.bel.trans (hk.below (fun j hj e => by have := (h.a.lt j e).1; omega) h.bel.size)⟩
  · rcases hat j e with e3 | e3
    · exact h.ab j e3 e2
    · have := (h.b.lt j e2).2; omega
  · rcases hat j e with e3 | e3
    · exact h.ac j e3 e2
    · have := (h.c.lt j e2).2; omega
end

@[reducible] def rowA (v : Value) (n : Nat) (L : List Hact) : Row := ⟨38, 3, v, n, L.flatMap Hact.cells⟩

@[reducible] def rowP (v : Value) (n : Nat) (L : List It) : Row := ⟨77, 2, v, n, L.flatMap It.cells⟩

theorem own_rdA {w : World} {base n : Nat} {v : Value} {L : List Hact} (h : w.ownsRow base 38 3 v n (L.flatMap Hact.cells)) (hn : L.length = n) : RdA w v L := by
  subst hn
  rcases h.2 with ⟨h1, h2⟩ | ⟨g, c, cur, e1, _, h2, h3, h4, _⟩
  · exact ⟨none, 0, by rw [h1, h2], by omega, by unfold maxLen; omega, fun h0 => by omega⟩
  · subst e1
    refine ⟨_, c, rfl, h3, h4, fun _ => ⟨g, 0, rfl, (Array.getElem?_eq_some_iff.1 h2).1, fun k x hx j v hv => ?_⟩⟩
    have hj : j < 3 := (List.getElem?_eq_some_iff.1 hv).1
    have := h.cells (g := g) rfl (k * 3 + j) v ((hact_at L k j x hx hj).trans hv)
    rw [Addr.add_mid] at this
    rw [Nat.zero_add]
    rw [Nat.zero_add] at this
    exact this

/-- What the three rows hold. -/
structure Kr (w0 w : World) (LA LB : List Hact) (LP : List It) (na nb np : Nat) (av bv pv : Value) : Prop where
  r : R3 w0 w (rowA av na LA) (rowA bv nb LB) (rowP pv np LP)
  la : LA.length = na
  lb : LB.length = nb
  lp : LP.length = np
  fa : ∀ x ∈ LA, x.fits
  fb : ∀ x ∈ LB, x.fits
  fp : ∀ x ∈ LP, I64 x.i

section
variable {w0 w w' : World} {LA LB : List Hact} {LP : List It} {na nb np : Nat} {av bv pv : Value}

theorem Kr.below (h : Kr w0 w LA LB LP na nb np av bv pv) (hb : Below w.heap.size w w') : Kr w0 w' LA LB LP na nb np av bv pv := ⟨h.r.below hb, h.la, h.lb, h.lp, h.fa, h.fb, h.fp⟩

theorem fits_app {L M : List Hact} (h : ∀ x ∈ L, x.fits) (k : ∀ x ∈ M, x.fits) : ∀ x ∈ L ++ M, x.fits := fun x hx => (List.mem_append.1 hx).elim (h x) (k x)

theorem Kr.appA (h : Kr w0 w LA LB LP na nb np av bv pv) {M : List Hact} {m g c : Nat} {xs : List Value} (hM : xs = M.flatMap Hact.cells) (hm : M.length = m) (hf : ∀ x ∈ M, x.fits) (ho : w'.ownsRow w0.heap.size 38 3 (.slice (some ⟨g, 0, none⟩) (na + m) c) (na + m) (LA.flatMap Hact.cells ++ xs)) (hg : w.grownBy w' av.ownBlock) (hat : av.ownBlock = some g ∨ g = w.heap.size) : Kr w0 w' (LA ++ M) LB LP (na + m) nb np (.slice (some ⟨g, 0, none⟩) (na + m) c) bv pv := by
  subst hM
  rw [← List.flatMap_append] at ho
  refine ⟨h.r.grow (A' := rowA _ _ _) ho hg (fun j e => ?_), by rw [List.length_append, h.la, hm], h.lb, h.lp, fits_app h.fa hf, h.fb, h.fp⟩
  simp only [Value.ownBlock, Option.some.injEq] at e
  subst e
  exact hat

theorem Kr.appB (h : Kr w0 w LA LB LP na nb np av bv pv) {M : List Hact} {m g c : Nat} {xs : List Value} (hM : xs = M.flatMap Hact.cells) (hm : M.length = m) (hf : ∀ x ∈ M, x.fits) (ho : w'.ownsRow w0.heap.size 38 3 (.slice (some ⟨g, 0, none⟩) (nb + m) c) (nb + m) (LB.flatMap Hact.cells ++ xs)) (hg : w.grownBy w' bv.ownBlock) (hat : bv.ownBlock = some g ∨ g = w.heap.size) : Kr w0 w' LA (LB ++ M) LP na (nb + m) np av (.slice (some ⟨g, 0, none⟩) (nb + m) c) pv := by
  subst hM
  rw [← List.flatMap_append] at ho
  refine ⟨(h.r.rot.grow (A' := rowA _ _ _) ho hg (fun j e => ?_)).rot.rot, h.la, by rw [List.length_append, h.lb, hm], h.lp, h.fa, fits_app h.fb hf, h.fp⟩
  simp only [Value.ownBlock, Option.some.injEq] at e
  subst e
  exact hat

theorem Kr.appP (h : Kr w0 w LA LB LP na nb np av bv pv) {q k : Int} {g c : Nat} (hq : I64 q) (ho : w'.ownsRow w0.heap.size 77 2 (.slice (some ⟨g, 0, none⟩) (np + 1) c) (np + 1) (LP.flatMap It.cells ++ [nu q, nu k])) (hg : w.grownBy w' pv.ownBlock) (hat : pv.ownBlock = some g ∨ g = w.heap.size) : Kr w0 w' LA LB (LP ++ [⟨q, k⟩]) na nb (np + 1) av bv (.slice (some ⟨g, 0, none⟩) (np + 1) c) := by
  have ho2 : w'.ownsRow w0.heap.size 77 2 (.slice (some ⟨g, 0, none⟩) (np + 1) c) (np + 1) ((LP ++ [(⟨q, k⟩ : It)]).flatMap It.cells) := by
    rw [List.flatMap_append]
    exact ho
  refine ⟨(h.r.rot.rot.grow (A' := rowP _ _ _) ho2 hg (fun j e => ?_)).rot, h.la, h.lb, by rw [List.length_append, h.lp]; rfl, h.fa, h.fb, fun x hx => ?_⟩
  · simp only [Value.ownBlock, Option.some.injEq] at e
    subst e
    exact hat
  · rcases List.mem_append.1 hx with hx | hx
    · exact h.fp x hx
    · obtain rfl := List.mem_singleton.1 hx
      exact hq
end

theorem ones_of {l : List Int} : ∀ u ∈ l.map nu, u.oneCell' = true := by
  intro u hu
  obtain ⟨i, _, rfl⟩ := List.mem_map.1 hu
  rfl

theorem one_flatA (L : List Hact) : ∀ u ∈ L.flatMap Hact.cells, u.oneCell' = true := fun u hu => by
  obtain ⟨s, _, h⟩ := List.mem_flatMap.1 hu
  simp only [Hact.cells, List.mem_cons, List.not_mem_nil, or_false] at h
  rcases h with rfl | rfl | rfl <;> rfl

theorem fits2 {a b c d e f : Int} (ha : I64 a) (hc : I64 c) (hd : I64 d) (hf : I64 f) : ∀ x ∈ [(⟨a, b, c⟩ : Hact), ⟨d, e, f⟩], x.fits := by
  intro x hx
  simp only [List.mem_cons, List.not_mem_nil, or_false] at hx
  rcases hx with rfl | rfl
  · exact ⟨ha, hc⟩
  · exact ⟨hd, hf⟩

theorem sm64 {a : Int} (h : -1000 ≤ a ∧ a ≤ 1000) : I64 a := by
  unfold I64
  omega
end Hh
end Go.Proofs.YteclbmmhidmklaaDoor
/- HeapKnown: rising and falling rows, all sizes up to 19. -/
namespace Go.Proofs.YteclbmmhidmklaaDoor
set_option linter.ambiguousOpen false
open Go.RowKit
namespace Hh
open Ft
set_option linter.unusedSimpArgs false
set_option linter.unusedVariables false
attribute [local go_sem] Oper.semAt_some

set_option maxRecDepth 1000000 in
set_option maxHeartbeats 16000000 in
theorem knownRows_yes {R : RepHT} (C : HeapC R) (w : World) (hE : Er.Handle w) : Calls Tryd.prog 19 #[] w fun e w' => e = .returned (.bool true) ∧ Below w.heap.size w w' := by
  obtain ⟨i0, ji, hz0, hz1, hz2⟩ := info_parts infoAc
  obtain ⟨i1, jp, pz0, pz1, pz2⟩ := info_parts infoPr
  have HE := Hid.mk' hE
  clear hE
  go_enter Tryd.func19, Tryd.ntmps19
  go_wp2_with fail
  go_loopw [1] (fun nv wr => ∃ n : Nat, 1 ≤ n ∧ n ≤ 20 ∧ nv = nun n ∧ Hid (Below w.heap.size w wr)) (fun nv _ => 20 - (intOf nv).toNat)
  case atStart => exact ⟨1, by omega, by omega, rfl, Below.refl _ _⟩
  case round =>
    obtain ⟨n, hn1, hn20, rfl, HB⟩ := hrel
    by_cases hlt : n < 20
    · have hnI : (n : Int) < 20 := by omega
      have HK0 : Hid (Kr w wr [] [] [] 0 0 0 (.slice none 0 0) (.slice none 0 0) (.slice none 0 0)) := ⟨⟨World.ownsRow_nil _ _ _ _, World.ownsRow_nil _ _ _ _, World.ownsRow_nil _ _ _ _, fun j e => by simp [Value.ownBlock] at e, fun j e => by simp [Value.ownBlock] at e, fun j e => by simp [Value.ownBlock] at e, HB.out⟩, rfl, rfl, rfl, by simp, by simp, by simp⟩
      rename World => wz
      go_wp2_with fail
      go_loopw [2, 3, 4, 5] (fun av bv pv kv wr => ∃ k : Nat, k ≤ n ∧ kv = nun k ∧ Hid (∃ LA LB LP, Kr w wr LA LB LP (2 * k) (2 * k) k av bv pv)) (fun _ _ _ kv _ => n - (intOf kv).toNat)
      case atStart => exact ⟨0, Nat.zero_le _, rfl, [], [], [], HK0.out⟩
      case round =>
        clear HK0
        obtain ⟨k, hk, rfl, HK⟩ := hrel
        by_cases hkn : k < n
        · have hkI : (k : Int) < (n : Int) := by omega
          have hk19 : k ≤ 19 := by omega
          obtain ⟨LA, LB, LP, hq⟩ := HK.out
          obtain ⟨h2, hh2⟩ : ∃ h2, k / 2 = h2 := ⟨_, rfl⟩
          obtain ⟨h3, hh3⟩ : ∃ h3, k / 3 = h3 := ⟨_, rfl⟩
          obtain ⟨h4, hh4⟩ : ∃ h4, k % 4 = h4 := ⟨_, rfl⟩
          obtain ⟨h7, hh7⟩ : ∃ h7, k * 7 = h7 := ⟨_, rfl⟩
          have b2 : h2 ≤ 19 := by omega
          have b3 : h3 ≤ 19 := by omega
          have b4 : h4 ≤ 19 := by omega
          have b7 : h7 ≤ 133 := by omega
          have d2 : Int.tdiv (k : Int) 2 = (h2 : Int) := by
            rw [Int.tdiv_eq_ediv_of_nonneg (by omega)]
            omega
          have d3 : Int.tdiv (k : Int) 3 = (h3 : Int) := by
            rw [Int.tdiv_eq_ediv_of_nonneg (by omega)]
            omega
          have d4 : Int.tmod (k : Int) 4 = (h4 : Int) := by
            rw [Int.tmod_eq_emod_of_nonneg (by omega)]
            omega
          have d7 : (k : Int) * 7 = (h7 : Int) := by omega
          clear hh2 hh3 hh4 hh7
          have HAA := Hid.mk' (hq.below ((Below.refl _ _).alloc (Nat.le_refl _) (.cells #[nu 0, nun k, nun h2, nu 3, nu 0, nun k] 38)))
          have HRWA : Hid ((wr.alloc (.cells #[nu 0, nun k, nun h2, nu 3, nu 0, nun k] 38)).ownsRow w.heap.size 38 3 u2 (2 * k) (LA.flatMap Hact.cells)) := (HAA.out.r).a
          have hbsA : Hid (w.heap.size ≤ (wr.alloc (.cells #[nu 0, nun k, nun h2, nu 3, nu 0, nun k] 38)).heap.size) := HAA.out.r.bel.size
          have honA : Hid (∀ u ∈ [nu 0, nun k, nun h2, nu 3, nu 0, nun k], u.oneCell' = true) := by
            intro u hu
            simp only [List.mem_cons, List.not_mem_nil, or_false] at hu
            rcases hu with rfl | rfl | rfl | rfl | rfl | rfl <;> rfl
          have hmxA : Hid ((2 * k) + 2 ≤ maxLen) := by show _ ≤ _; unfold maxLen; omega
          have hbyA : Hid (((2 * k) + 2) * 24 ≤ 140737488355328) := by show _ ≤ _; omega
          clear hq HK
          go_upto_region 10 with (first | (at_builtin; refine wpList_append_lies _ rfl _ _ 22 rfl w.heap.size 38 i0 (.agg #[.int .i64 0, .int .i64 0, .int .i64 0]) 3 24 Tryd.underlying22 ji hz0 hz1 hz2 rfl (by decide) u2 (2 * k) (LA.flatMap Hact.cells) rfl HRWA.out ⟨wr.heap.size, 0, none⟩ 2 2 [nu 0, nun k, nun h2, nu 3, nu 0, nun k] rfl rfl (World.news_of_block (heap_alloc_new _ _)) honA.out (by decide) hmxA.out hbyA.out hbsA.out _ rfl ?_; intro gA cA wA hoA hgA hatA _; have HKA := Hid.mk' (HAA.out.appA (M := [⟨0, k, h2⟩, ⟨3, 0, k⟩]) rfl rfl (fits2 (sm64 (by omega)) (sm64 (by omega)) (sm64 (by omega)) (sm64 (by omega))) hoA hgA hatA); clear hoA hgA hatA) | fail)
          have HAB := Hid.mk' (HKA.out.below ((Below.refl _ _).alloc (Nat.le_refl _) (.cells #[nu 0, nun k, nu (-(k : Int)), nu 2, nun h3, nu 0] 38)))
          have HRWB : Hid ((wA.alloc (.cells #[nu 0, nun k, nu (-(k : Int)), nu 2, nun h3, nu 0] 38)).ownsRow w.heap.size 38 3 u3 (2 * k) (LB.flatMap Hact.cells)) := (HAB.out.r).b
          have hbsB : Hid (w.heap.size ≤ (wA.alloc (.cells #[nu 0, nun k, nu (-(k : Int)), nu 2, nun h3, nu 0] 38)).heap.size) := HAB.out.r.bel.size
          have honB : Hid (∀ u ∈ [nu 0, nun k, nu (-(k : Int)), nu 2, nun h3, nu 0], u.oneCell' = true) := by
            intro u hu
            simp only [List.mem_cons, List.not_mem_nil, or_false] at hu
            rcases hu with rfl | rfl | rfl | rfl | rfl | rfl <;> rfl
          have hmxB : Hid ((2 * k) + 2 ≤ maxLen) := by show _ ≤ _; unfold maxLen; omega
          have hbyB : Hid (((2 * k) + 2) * 24 ≤ 140737488355328) := by show _ ≤ _; omega
          clear HAA HRWA hbsA honA hmxA hbyA HKA
          go_upto_region 11 with (first | (at_builtin; refine wpList_append_lies _ rfl _ _ 22 rfl w.heap.size 38 i0 (.agg #[.int .i64 0, .int .i64 0, .int .i64 0]) 3 24 Tryd.underlying22 ji hz0 hz1 hz2 rfl (by decide) u3 (2 * k) (LB.flatMap Hact.cells) rfl HRWB.out ⟨wA.heap.size, 0, none⟩ 2 2 [nu 0, nun k, nu (-(k : Int)), nu 2, nun h3, nu 0] rfl rfl (World.news_of_block (heap_alloc_new _ _)) honB.out (by decide) hmxB.out hbyB.out hbsB.out _ rfl ?_; intro gB cB wB hoB hgB hatB _; have HKB := Hid.mk' (HAB.out.appB (M := [⟨0, k, -(k : Int)⟩, ⟨2, h3, 0⟩]) rfl rfl (fits2 (sm64 (by omega)) (sm64 (by omega)) (sm64 (by omega)) (sm64 (by omega))) hoB hgB hatB); clear hoB hgB hatB) | fail)
          have HAP := Hid.mk' (HKB.out.below ((Below.refl _ _).alloc (Nat.le_refl _) (.cells #[nun h7, nun h4] 77)))
          have HRWP : Hid ((wB.alloc (.cells #[nun h7, nun h4] 77)).ownsRow w.heap.size 77 2 u4 (k) (LP.flatMap It.cells)) := (HAP.out.r).c
          have hbsP : Hid (w.heap.size ≤ (wB.alloc (.cells #[nun h7, nun h4] 77)).heap.size) := HAP.out.r.bel.size
          have honP : Hid (∀ u ∈ [nun h7, nun h4], u.oneCell' = true) := by
            intro u hu
            simp only [List.mem_cons, List.not_mem_nil, or_false] at hu
            rcases hu with rfl | rfl <;> rfl
          have hmxP : Hid ((k) + 1 ≤ maxLen) := by show _ ≤ _; unfold maxLen; omega
          have hbyP : Hid (((k) + 1) * 16 ≤ 140737488355328) := by show _ ≤ _; omega
          clear HAB HRWB hbsB honB hmxB hbyB HKB
          go_wp2_with (at_builtin; refine wpList_append_lies _ rfl _ _ 76 rfl w.heap.size 77 i1 (.agg #[.int .i64 0, .int .i64 0]) 2 16 Tryd.underlying76 jp pz0 pz1 pz2 rfl (by decide) u4 (k) (LP.flatMap It.cells) rfl HRWP.out ⟨wB.heap.size, 0, none⟩ 1 1 [nun h7, nun h4] rfl rfl (World.news_of_block (heap_alloc_new _ _)) honP.out (by decide) hmxP.out hbyP.out hbsP.out _ rfl ?_; intro gP cP wP hoP hgP hatP _; have HKP := Hid.mk' (HAP.out.appP (sm64 (by omega)) hoP hgP hatP); clear hoP hgP hatP)
          go_roundw
          case rel => exact ⟨k + 1, by omega, by go_num, _, _, _, by rw [show 2 * (k + 1) = 2 * k + 2 by omega]; exact HKP.out⟩
          case measure => simp [intOf]; omega
        · have hkI : ¬ (k : Int) < (n : Int) := by omega
          obtain rfl : k = n := by omega
          obtain ⟨LA, LB, LP, hq⟩ := HK.out
          have hqb := hq.r.b
          obtain ⟨gb, cb, hbe, _⟩ := World.ownsRow.form hqb (show 0 < 2 * k by omega)
          have hbe : u3 = .slice (some ⟨gb, 0, none⟩) (2 * k) cb := hbe
          subst hbe
          have HQ := Hid.mk' hq
          have HRW : Hid (wr.ownsRow w.heap.size 38 3 u2 (2 * k) (LA.flatMap Hact.cells)) := hq.r.a
          have hbs : Hid (w.heap.size ≤ wr.heap.size) := hq.r.bel.size
          have hmx : Hid (2 * k + 2 * k ≤ maxLen) := by show _ ≤ _; unfold maxLen; omega
          have hby : Hid ((2 * k + 2 * k) * 24 ≤ 140737488355328) := by show _ ≤ _; omega
          have hln : Hid ((LB.flatMap Hact.cells).length = 2 * k * 3) := by show _ = _; rw [hact_len, hq.lb]
          have hnw : Hid (∀ j u, (LB.flatMap Hact.cells)[j]? = some u → wr.cell? ((⟨gb, 0, none⟩ : Addr).add j) = some u) := fun j u hu => World.ownsRow.cells hqb (g := gb) rfl j u hu
          have hk0 : Hid (0 < 2 * k) := by show _ < _; omega
          clear hq hqb HK
          go_upto_region 13 with (first | (at_builtin; refine wpList_append_lies _ rfl _ _ 22 rfl w.heap.size 38 i0 (.agg #[.int .i64 0, .int .i64 0, .int .i64 0]) 3 24 Tryd.underlying22 ji hz0 hz1 hz2 rfl (by decide) u2 (2 * k) (LA.flatMap Hact.cells) rfl HRW.out ⟨gb, 0, none⟩ (2 * k) cb (LB.flatMap Hact.cells) rfl hln.out hnw.out (one_flatA LB) hk0.out hmx.out hby.out hbs.out _ rfl ?_; intro g8 c8 w8 ho8 hg8 hat8 _; have HK8 := Hid.mk' (HQ.out.appA (M := LB) rfl HQ.out.lb HQ.out.fb ho8 hg8 hat8); clear ho8 hg8 hat8) | fail)
          clear HRW hbs hmx hby hln hnw hk0 HQ
          have c1 := Hid.mk' (heapPlays_yes C (k : Int) _ _ w8 (own_rdA HK8.out.r.a HK8.out.la) HK8.out.fa (HE.out.below HK8.out.r.bel))
          obtain ⟨nn, hnn⟩ : ∃ nn, 2 * k + 2 * k = nn := ⟨_, rfl⟩
          rw [hnn] at c1 HK8 ⊢
          go_wp2_with fail
          refine c1.out.mono ?_
          rintro e w9 ⟨rfl, hb9⟩
          have HK9 := Hid.mk' (HK8.out.below hb9)
          have c2 := Hid.mk' (heapPlays_yes C (k : Int) _ _ w9 (own_rdA HK9.out.r.b HK9.out.lb) HK9.out.fb (HE.out.below HK9.out.r.bel))
          clear c1 hb9 HK8
          go_wp2_with fail
          refine c2.out.mono ?_
          rintro e w10 ⟨rfl, hb10⟩
          have HK10 := Hid.mk' (HK9.out.below hb10)
          have c3 := Hid.mk' (heapTaken_yes C _ _ w10 (own_rdQ HK10.out.r.c HK10.out.lp) HK10.out.fp)
          clear c2 hb10 HK9
          go_wp2_with fail
          refine c3.out.mono ?_
          rintro e w11 ⟨rfl, hb11⟩
          have HK11 := Hid.mk' (HK10.out.below hb11)
          have c4 := Hid.mk' (heapOrder_yes C _ _ (k : Int) 3 w11 (own_rdQ HK11.out.r.c HK11.out.lp) HK11.out.fp (sm64 (by omega)))
          clear c3 hb11 HK10
          go_wp2_with fail
          refine c4.out.mono ?_
          rintro e w12 ⟨rfl, hb12⟩
          have HK12 := Hid.mk' (HK11.out.below hb12)
          have c5 := Hid.mk' (heapLast_yes C.toHeapB _ _ w12 (own_rdQ HK12.out.r.c HK12.out.lp) HK12.out.fp)
          clear c4 hb12 HK11
          go_wp2_with fail
          refine c5.out.mono ?_
          rintro e w13 ⟨rfl, hb13⟩
          have HB13 := Hid.mk' (HK12.out.below hb13).r.bel
          clear c5 hb13 HK12
          go_wp2
          go_roundw
          case rel => exact ⟨k + 1, by omega, by omega, by go_num, HB13⟩
          case measure => simp [intOf]; omega
    · have hnI : ¬ (n : Int) < 20 := by omega
      go_wp2
      go_ret
      exact ⟨rfl, HB.out⟩
end Hh
end Go.Proofs.YteclbmmhidmklaaDoor
/- HeapKnown: keys and numbers at their ends; and all of it. -/
namespace Go.Proofs.YteclbmmhidmklaaDoor
set_option linter.ambiguousOpen false
open Go.RowKit
namespace Hh
open Ft
set_option linter.unusedSimpArgs false
set_option linter.unusedVariables false
attribute [local go_sem] Oper.semAt_some

def endsH : List Int := [-9223372036854775808, -1, 0, 1, 9223372036854775807]

@[reducible] def endsA : Array Value := #[.int .i64 (-9223372036854775808), .int .i64 (-1), .int .i64 0, .int .i64 1, .int .i64 9223372036854775807]

theorem ends_i64 : ∀ i, i < 5 → I64 (endsH.getD i 0) := by decide +kernel

theorem ends_at (i : Nat) (h : i < 5) : endsA[i]? = some (nu (endsH.getD i 0)) := by
  match i, h with
  | 0, _ => rfl
  | 1, _ => rfl
  | 2, _ => rfl
  | 3, _ => rfl
  | 4, _ => rfl

/-- The ends lie there. -/
structure Ek (w0 w : World) (eb : Nat) : Prop where
  bel : Below w0.heap.size w0 w
  blk : w.heap[eb]? = some (.cells endsA 3)

theorem Ek.at {w0 w : World} {eb : Nat} (h : Ek w0 w eb) (i : Nat) (hi : i < 5) : w.cell? ⟨eb, i, none⟩ = some (nu (endsH.getD i 0)) := by
  rw [cell_of_row w eb i _ _ _ h.blk]
  exact ends_at i hi

theorem Ek.below {w0 w w' : World} {eb : Nat} (h : Ek w0 w eb) (hb : Below w.heap.size w w') : Ek w0 w' eb :=
  ⟨h.bel.trans (hb.mono h.bel.size), (hb.block eb (Array.getElem?_eq_some_iff.1 h.blk).1).trans h.blk⟩

@[reducible] def prU (x y : Int) : Value := .agg #[nu x, nu y]

@[reducible] def acU (x y z : Int) : Value := .agg #[nu x, nu y, nu z]

@[reducible] def prs3 (x y : Int) : Array Value := #[nu 1, nu x, nu 2, nu y, nu 3, nu 0]

@[reducible] def acs4 (x y : Int) : Array Value := #[nu 0, nu x, nu y, nu 2, nu y, nu 0, nu 0, nu 1, nu x, nu 0, nu 2, nu y]

set_option maxRecDepth 100000 in
theorem fill3 (x y : Int) : Instr.fill (fun i => some (i * 2, 2)) ((Array.range (3 * 2)).map ((prU 0 0).cells[· % (prU 0 0).cells.size]!)) [(0, prU 1 x), (1, prU 2 y), (2, prU 3 0)] = some (prs3 x y) := by kernel_rfl

set_option maxRecDepth 100000 in
theorem run_build3 (x y : Int) (w : World) : (Instr.buildSlice 76 3 #[(0, prU 1 x), (1, prU 2 y), (2, prU 3 0)]).run Tryd.prog w = .ok (.slice (some ⟨w.heap.size, 0, none⟩) 3 3) (w.alloc (.cells (prs3 x y) 77)) := by
  obtain ⟨i0, ji, hz0, hz1, hz2⟩ := info_parts infoPr
  have hf : Instr.fill (fun i => some (i * i0.size, i0.size)) ((Array.range (3 * i0.size)).map ((prU 0 0).cells[· % (prU 0 0).cells.size]!)) [(0, prU 1 x), (1, prU 2 y), (2, prU 3 0)] = some (prs3 x y) := by
    rw [hz1]
    exact fill3 x y
  have h1 : ¬ 3 * i0.size > 2 ^ 24 := by rw [hz1]; decide
  have h2 : ¬ 3 * i0.size = 0 := by rw [hz1]; decide
  simp [Instr.buildSlice, run_underlying Tryd.underlying76, sizeOf, typeInfo, zeroValue, ji, hz0, h1, h2, hf, newRow]

theorem wp_build3 {o : Oper} {a : Act} {w : World} {K : Act → World → Prop} {Q : Exit → Act → World → Prop} (p q r : Operand) (ho : o.op = .buildSlice 76 3 #[(0, p), (1, q), (2, r)])
    (x y : Int) (hp : a.eval p = prU 1 x) (hq : a.eval q = prU 2 y) (hr : a.eval r = prU 3 0)
    (h : K (a.put o.dst (.slice (some ⟨w.heap.size, 0, none⟩) 3 3)) (w.alloc (.cells (prs3 x y) 77))) : o.wp Tryd.prog a w K Q := by
  have e : (#[(0, p), (1, q), (2, r)] : Array (Nat × Operand)).map (fun (i, x) => (i, a.eval x)) = #[(0, prU 1 x), (1, prU 2 y), (2, prU 3 0)] := by
    simp [hp, hq, hr]
  unfold Oper.wp execOp
  simp only [ho, e, Sem.run_bind, run_build3, Result.andThen_ok]
  exact h

theorem infoAc2 : (Tryd.prog.info? 38).map (fun i => (i.zero, i.size, i.bytes)) = some (some (acU 0 0 0), 3, 24) := by kernel_rfl

set_option maxRecDepth 100000 in
theorem fill4 (x y : Int) : Instr.fill (fun i => some (i * 3, 3)) ((Array.range (4 * 3)).map ((acU 0 0 0).cells[· % (acU 0 0 0).cells.size]!)) [(0, acU 0 x y), (1, acU 2 y 0), (2, acU 0 1 x), (3, acU 0 2 y)] = some (acs4 x y) := by kernel_rfl

set_option maxRecDepth 100000 in
theorem run_build4 (x y : Int) (w : World) : (Instr.buildSlice 22 4 #[(0, acU 0 x y), (1, acU 2 y 0), (2, acU 0 1 x), (3, acU 0 2 y)]).run Tryd.prog w = .ok (.slice (some ⟨w.heap.size, 0, none⟩) 4 4) (w.alloc (.cells (acs4 x y) 38)) := by
  obtain ⟨i0, ji, hz0, hz1, hz2⟩ := info_parts infoAc2
  have hf : Instr.fill (fun i => some (i * i0.size, i0.size)) ((Array.range (4 * i0.size)).map ((acU 0 0 0).cells[· % (acU 0 0 0).cells.size]!)) [(0, acU 0 x y), (1, acU 2 y 0), (2, acU 0 1 x), (3, acU 0 2 y)] = some (acs4 x y) := by
    rw [hz1]
    exact fill4 x y
  have h1 : ¬ 4 * i0.size > 2 ^ 24 := by rw [hz1]; decide
  have h2 : ¬ 4 * i0.size = 0 := by rw [hz1]; decide
  simp [Instr.buildSlice, run_underlying Tryd.underlying22, sizeOf, typeInfo, zeroValue, ji, hz0, h1, h2, hf, newRow]

theorem wp_build4 {o : Oper} {a : Act} {w : World} {K : Act → World → Prop} {Q : Exit → Act → World → Prop} (p q r s : Operand) (ho : o.op = .buildSlice 22 4 #[(0, p), (1, q), (2, r), (3, s)])
    (x y : Int) (hp : a.eval p = acU 0 x y) (hq : a.eval q = acU 2 y 0) (hr : a.eval r = acU 0 1 x) (hs : a.eval s = acU 0 2 y)
    (h : K (a.put o.dst (.slice (some ⟨w.heap.size, 0, none⟩) 4 4)) (w.alloc (.cells (acs4 x y) 38))) : o.wp Tryd.prog a w K Q := by
  have e : (#[(0, p), (1, q), (2, r), (3, s)] : Array (Nat × Operand)).map (fun (i, x) => (i, a.eval x)) = #[(0, acU 0 x y), (1, acU 2 y 0), (2, acU 0 1 x), (3, acU 0 2 y)] := by
    simp [hp, hq, hr, hs]
  unfold Oper.wp execOp
  simp only [ho, e, Sem.run_bind, run_build4, Result.andThen_ok]
  exact h

theorem pr3_ints {x y : Int} : ∀ z ∈ [(⟨1, x⟩ : It), ⟨2, y⟩, ⟨3, 0⟩], I64 z.i := by
  intro z hz
  simp only [List.mem_cons, List.not_mem_nil, or_false] at hz
  rcases hz with rfl | rfl | rfl <;> (unfold I64; dsimp only; omega)

theorem ac4_fits {x y : Int} (hx : I64 x) (hy : I64 y) : ∀ z ∈ [(⟨0, x, y⟩ : Hact), ⟨2, y, 0⟩, ⟨0, 1, x⟩, ⟨0, 2, y⟩], z.fits := by
  intro z hz
  simp only [List.mem_cons, List.not_mem_nil, or_false] at hz
  rcases hz with rfl | rfl | rfl | rfl
  · exact ⟨sm64 (by simp), hy⟩
  · exact ⟨sm64 (by simp), sm64 (by simp)⟩
  · exact ⟨sm64 (by simp), hx⟩
  · exact ⟨sm64 (by simp), hy⟩

/-- A law over pairs written out. -/
theorem taken_new {R : RepHT} (C : HeapC R) (w : World) (L : List It) (cs : Array Value) (m : Nat) (e : cs.toList = L.flatMap It.cells) (hm : L.length = m) (hm2 : m ≤ 1000) (hF : ∀ x ∈ L, I64 x.i) :
    Calls Tryd.prog 38 #[.slice (some ⟨w.heap.size, 0, none⟩) m m] (w.alloc (.cells cs 77)) fun e w' => e = .returned (.bool true) ∧ Below w.heap.size w w' := by
  have hb1 : Below w.heap.size w (w.alloc (.cells cs 77)) := (Below.refl _ _).alloc (Nat.le_refl _) _
  refine (heapTaken_yes C _ L _ (rdQ_block L m (heap_alloc_new _ _) e hm hm2) hF).mono ?_
  rintro e w' ⟨rfl, hb2⟩
  exact ⟨rfl, hb1.trans (hb2.mono hb1.size)⟩

theorem rdA_nil (w : World) : RdA w (.slice none 0 0) [] := ⟨none, 0, rfl, Nat.le_refl _, by unfold maxLen; omega, fun h => by simp at h⟩

set_option maxRecDepth 100000 in
set_option maxHeartbeats 16000000 in
theorem knownEnds_yes {R : RepHT} (C : HeapC R) (w : World) (hE : Er.Handle w) : Calls Tryd.prog 20 #[] w fun e w' => e = .returned (.bool true) ∧ Below w.heap.size w w' := by
  have HH := Hid.mk' hE
  have HC := Hid.mk' C
  clear hE C
  have HE0 : Hid (Ek w (w.alloc (.cells endsA 3)) w.heap.size) := ⟨(Below.refl _ _).alloc (Nat.le_refl _) _, heap_alloc_new _ _⟩
  go_enter Tryd.func20, Tryd.ntmps20
  go_wp2
  generalize w.alloc (.cells endsA 3) = w1 at *
  generalize w.heap.size = eb at HE0 ⊢
  go_loopw [2] (fun iv wr => ∃ i : Nat, i ≤ 5 ∧ iv = nun i ∧ Hid (Ek w wr eb)) (fun iv _ => 5 - (intOf iv).toNat)
  case atStart => exact ⟨0, by omega, rfl, HE0⟩
  case round =>
    clear HE0
    obtain ⟨i, hi, rfl, HE⟩ := hrel
    by_cases hi8 : i < 5
    · have hiI : (i : Int) < 5 := by omega
      have hi0 : (0 : Int) ≤ (i : Int) := by omega
      go_wp2
      rename World => wa
      go_loopw [3] (fun kv wr => ∃ k : Nat, k ≤ 5 ∧ kv = nun k ∧ Hid (Ek w wr eb)) (fun kv _ => 5 - (intOf kv).toNat)
      case atStart => exact ⟨0, by omega, rfl, HE⟩
      case round =>
        clear HE
        obtain ⟨k, hk, rfl, HE⟩ := hrel
        by_cases hk8 : k < 5
        · have hkI : (k : Int) < 5 := by omega
          have hk0 : (0 : Int) ≤ (k : Int) := by omega
          obtain ⟨x, hx⟩ : ∃ x, endsH.getD i 0 = x := ⟨_, rfl⟩
          obtain ⟨y, hy⟩ : ∃ y, endsH.getD k 0 = y := ⟨_, rfl⟩
          have HXI : Hid (I64 x) := by rw [← hx]; exact ends_i64 i hi8
          have HYI : Hid (I64 y) := by rw [← hy]; exact ends_i64 k hk8
          have HEA : Hid (∀ wx, Ek w wx eb → wx.cell? ⟨eb, i, none⟩ = some (nu x) ∧ wx.cell? ⟨eb, k, none⟩ = some (nu y)) := fun wx h => by
            rw [← hx, ← hy]
            exact ⟨h.at i hi8, h.at k hk8⟩
          clear hx hy
          have CT : Hid (∀ wx, Calls Tryd.prog 38 #[.slice (some ⟨wx.heap.size, 0, none⟩) 3 3] (wx.alloc (.cells (prs3 x y) 77)) fun e w' => e = .returned (.bool true) ∧ Below wx.heap.size wx w') := fun wx =>
            taken_new HC.out wx [⟨1, x⟩, ⟨2, y⟩, ⟨3, 0⟩] (prs3 x y) 3 rfl rfl (by decide) pr3_ints
          have CP : Hid (∀ wx, Ek w wx eb → Calls Tryd.prog 3 #[nu 3, .slice (some ⟨wx.heap.size, 0, none⟩) 4 4] (wx.alloc (.cells (acs4 x y) 38)) fun e w' => e = .returned (.bool true) ∧ Below wx.heap.size wx w') := fun wx h =>
            plays_new HC.out w wx HH.out h.bel 3 [⟨0, x, y⟩, ⟨2, y, 0⟩, ⟨0, 1, x⟩, ⟨0, 2, y⟩] (acs4 x y) 4 rfl rfl (by decide) (ac4_fits HXI.out HYI.out)
          have CN : Hid (∀ wx, Ek w wx eb → Calls Tryd.prog 3 #[nu x, .slice none 0 0] wx fun e w' => e = .returned (.bool true) ∧ Below wx.heap.size wx w') := fun wx h =>
            heapPlays_yes HC.out x _ [] wx (rdA_nil wx) (by simp) (HH.out.below h.bel)
          go_upto_region 8 with fail
          have hS := HEA.out wr HE.out
          have HE1 : Hid (Ek w wr.drew eb) := HE.out.below (Below.refl _ _).drew
          refine wp_region_held_drew (S := fun w' => w'.cell? ⟨eb, i, none⟩ = some (nu x) ∧ w'.cell? ⟨eb, k, none⟩ = some (nu y)) (by kernel_rfl) hS (fun hHeld => ?_)
          generalize wr.drew = w2 at *
          clear hS HE
          refine wpAnyH_take (i := 0) (v := ?_) rfl (by kernel_rfl) (by kernel_rfl) (by kernel_rfl) (fun _ _ _ h => h) (Or.inl ⟨by rfl, ?_⟩) hHeld ?_
          rotate_left
          · (intro w' hS'; have hq1 := hS'.1; have hq2 := hS'.2; go_simp <;> with_reducible rfl)
          simp only [Act.put, List.getElem_toArray, List.getElem_cons_succ, List.getElem_cons_zero, List.setIfInBounds_toArray, List.set]
          refine wpAnyH_take (i := 1) (v := ?_) rfl (by kernel_rfl) (by kernel_rfl) (by kernel_rfl) (fun _ _ _ h => h) (Or.inl ⟨by rfl, ?_⟩) hHeld ?_
          rotate_left
          · (intro w' hS'; have hq1 := hS'.1; have hq2 := hS'.2; go_simp <;> with_reducible rfl)
          simp only [Act.put, List.getElem_toArray, List.getElem_cons_succ, List.getElem_cons_zero, List.setIfInBounds_toArray, List.set]
          refine wpAnyH_take (i := 2) (v := ?_) rfl (by kernel_rfl) (by kernel_rfl) (by kernel_rfl) (fun _ _ _ h => h) (Or.inl ⟨by rfl, ?_⟩) hHeld ?_
          rotate_left
          · (intro w' hS'; have hq1 := hS'.1; have hq2 := hS'.2; go_simp <;> with_reducible rfl)
          simp only [Act.put, List.getElem_toArray, List.getElem_cons_succ, List.getElem_cons_zero, List.setIfInBounds_toArray, List.set]
          refine wpAnyH_take (i := 3) (v := ?_) rfl (by kernel_rfl) (by kernel_rfl) (by kernel_rfl) (fun _ _ _ h => h) (Or.inl ⟨by rfl, ?_⟩) hHeld ?_
          rotate_left
          · (intro w' hS'; have hq1 := hS'.1; have hq2 := hS'.2; go_simp <;> with_reducible rfl)
          simp only [Act.put, List.getElem_toArray, List.getElem_cons_succ, List.getElem_cons_zero, List.setIfInBounds_toArray, List.set]
          refine wpAnyH_take (i := 4) (v := prU 1 x) rfl (by kernel_rfl) (by kernel_rfl) (by kernel_rfl) (fun _ _ _ h => h) (Or.inl ⟨by rfl, ?_⟩) hHeld ?_
          · (intro w' hS'; kernel_rfl)
          simp only [Act.put, List.getElem_toArray, List.getElem_cons_succ, List.getElem_cons_zero, List.setIfInBounds_toArray, List.set]
          refine wpAnyH_take (i := 5) (v := ?_) rfl (by kernel_rfl) (by kernel_rfl) (by kernel_rfl) (fun _ _ _ h => h) (Or.inl ⟨by rfl, ?_⟩) hHeld ?_
          rotate_left
          · (intro w' hS'; have hq1 := hS'.1; have hq2 := hS'.2; go_simp <;> with_reducible rfl)
          simp only [Act.put, List.getElem_toArray, List.getElem_cons_succ, List.getElem_cons_zero, List.setIfInBounds_toArray, List.set]
          refine wpAnyH_take (i := 6) (v := ?_) rfl (by kernel_rfl) (by kernel_rfl) (by kernel_rfl) (fun _ _ _ h => h) (Or.inl ⟨by rfl, ?_⟩) hHeld ?_
          rotate_left
          · (intro w' hS'; have hq1 := hS'.1; have hq2 := hS'.2; go_simp <;> with_reducible rfl)
          simp only [Act.put, List.getElem_toArray, List.getElem_cons_succ, List.getElem_cons_zero, List.setIfInBounds_toArray, List.set]
          refine wpAnyH_take (i := 7) (v := ?_) rfl (by kernel_rfl) (by kernel_rfl) (by kernel_rfl) (fun _ _ _ h => h) (Or.inl ⟨by rfl, ?_⟩) hHeld ?_
          rotate_left
          · (intro w' hS'; have hq1 := hS'.1; have hq2 := hS'.2; go_simp <;> with_reducible rfl)
          simp only [Act.put, List.getElem_toArray, List.getElem_cons_succ, List.getElem_cons_zero, List.setIfInBounds_toArray, List.set]
          refine wpAnyH_take (i := 8) (v := ?_) rfl (by kernel_rfl) (by kernel_rfl) (by kernel_rfl) (fun _ _ _ h => h) (Or.inl ⟨by rfl, ?_⟩) hHeld ?_
          rotate_left
          · (intro w' hS'; have hq1 := hS'.1; have hq2 := hS'.2; go_simp <;> with_reducible rfl)
          simp only [Act.put, List.getElem_toArray, List.getElem_cons_succ, List.getElem_cons_zero, List.setIfInBounds_toArray, List.set]
          refine wpAnyH_take (i := 9) (v := prU 2 y) rfl (by kernel_rfl) (by kernel_rfl) (by kernel_rfl) (fun _ _ _ h => h) (Or.inl ⟨by rfl, ?_⟩) hHeld ?_
          · (intro w' hS'; kernel_rfl)
          simp only [Act.put, List.getElem_toArray, List.getElem_cons_succ, List.getElem_cons_zero, List.setIfInBounds_toArray, List.set]
          refine wpAnyH_take (i := 10) (v := prU 3 0) rfl (by kernel_rfl) (by kernel_rfl) (by kernel_rfl) (fun _ _ _ h => h) (Or.inl ⟨by rfl, ?_⟩) hHeld ?_
          · (intro w' hS'; kernel_rfl)
          simp only [Act.put, List.getElem_toArray, List.getElem_cons_succ, List.getElem_cons_zero, List.setIfInBounds_toArray, List.set]
          have HE2 : Hid (Ek w (w2.alloc (.cells (prs3 x y) 77)) eb) := HE1.out.below ((Below.refl _ _).alloc (Nat.le_refl _) _)
          refine wpAnyH_ready (rs := [11]) (by kernel_rfl) (by simp) ?_
          refine AllReadyH.cons rfl (fun K hK => ?_) AllReadyH.nil
          rw [if_pos (by rfl)]
          simp only [List.getElem_toArray, List.getElem_cons_succ, List.getElem_cons_zero]
          refine wp_build3 _ _ _ rfl x y rfl rfl rfl ?_
          refine hK.out _ _ (HEA.out _ HE2.out) (fun hHeld => ?_)
          clear hK K
          simp only [Act.put, List.getElem_toArray, List.getElem_cons_succ, List.getElem_cons_zero, List.setIfInBounds_toArray, List.set]
          refine wpAnyH_ready (rs := [12]) (by kernel_rfl) (by simp) ?_
          refine AllReadyH.cons rfl (fun K hK => ?_) AllReadyH.nil
          go_simp
          refine (CT.out w2).mono ?_
          rintro e w3 ⟨rfl, hb⟩
          go_wp2_with fail
          have HE3 := Hid.mk' (HE1.out.below hb)
          refine hK.out _ _ (HEA.out _ HE3.out) (fun hHeld => ?_)
          clear hK K hb
          clear CT HE1 HE2
          refine wpAnyH_take (i := 13) (v := ?_) rfl (by kernel_rfl) (by kernel_rfl) (by kernel_rfl) (fun _ _ _ h => h) (Or.inl ⟨by rfl, ?_⟩) hHeld ?_
          rotate_left
          · (intro w' hS'; have hq1 := hS'.1; have hq2 := hS'.2; go_simp <;> with_reducible rfl)
          simp only [Act.put, List.getElem_toArray, List.getElem_cons_succ, List.getElem_cons_zero, List.setIfInBounds_toArray, List.set]
          refine wpAnyH_take (i := 14) (v := ?_) rfl (by kernel_rfl) (by kernel_rfl) (by kernel_rfl) (fun _ _ _ h => h) (Or.inl ⟨by rfl, ?_⟩) hHeld ?_
          rotate_left
          · (intro w' hS'; have hq1 := hS'.1; have hq2 := hS'.2; go_simp <;> with_reducible rfl)
          simp only [Act.put, List.getElem_toArray, List.getElem_cons_succ, List.getElem_cons_zero, List.setIfInBounds_toArray, List.set]
          refine wpAnyH_take (i := 15) (v := ?_) rfl (by kernel_rfl) (by kernel_rfl) (by kernel_rfl) (fun _ _ _ h => h) (Or.inl ⟨by rfl, ?_⟩) hHeld ?_
          rotate_left
          · (intro w' hS'; have hq1 := hS'.1; have hq2 := hS'.2; go_simp <;> with_reducible rfl)
          simp only [Act.put, List.getElem_toArray, List.getElem_cons_succ, List.getElem_cons_zero, List.setIfInBounds_toArray, List.set]
          refine wpAnyH_take (i := 16) (v := ?_) rfl (by kernel_rfl) (by kernel_rfl) (by kernel_rfl) (fun _ _ _ h => h) (Or.inl ⟨by rfl, ?_⟩) hHeld ?_
          rotate_left
          · (intro w' hS'; have hq1 := hS'.1; have hq2 := hS'.2; go_simp <;> with_reducible rfl)
          simp only [Act.put, List.getElem_toArray, List.getElem_cons_succ, List.getElem_cons_zero, List.setIfInBounds_toArray, List.set]
          refine wpAnyH_take (i := 17) (v := ?_) rfl (by kernel_rfl) (by kernel_rfl) (by kernel_rfl) (fun _ _ _ h => h) (Or.inl ⟨by rfl, ?_⟩) hHeld ?_
          rotate_left
          · (intro w' hS'; have hq1 := hS'.1; have hq2 := hS'.2; go_simp <;> with_reducible rfl)
          simp only [Act.put, List.getElem_toArray, List.getElem_cons_succ, List.getElem_cons_zero, List.setIfInBounds_toArray, List.set]
          refine wpAnyH_take (i := 18) (v := ?_) rfl (by kernel_rfl) (by kernel_rfl) (by kernel_rfl) (fun _ _ _ h => h) (Or.inl ⟨by rfl, ?_⟩) hHeld ?_
          rotate_left
          · (intro w' hS'; have hq1 := hS'.1; have hq2 := hS'.2; go_simp <;> with_reducible rfl)
          simp only [Act.put, List.getElem_toArray, List.getElem_cons_succ, List.getElem_cons_zero, List.setIfInBounds_toArray, List.set]
          refine wpAnyH_take (i := 19) (v := ?_) rfl (by kernel_rfl) (by kernel_rfl) (by kernel_rfl) (fun _ _ _ h => h) (Or.inl ⟨by rfl, ?_⟩) hHeld ?_
          rotate_left
          · (intro w' hS'; have hq1 := hS'.1; have hq2 := hS'.2; go_simp <;> with_reducible rfl)
          simp only [Act.put, List.getElem_toArray, List.getElem_cons_succ, List.getElem_cons_zero, List.setIfInBounds_toArray, List.set]
          refine wpAnyH_take (i := 20) (v := ?_) rfl (by kernel_rfl) (by kernel_rfl) (by kernel_rfl) (fun _ _ _ h => h) (Or.inl ⟨by rfl, ?_⟩) hHeld ?_
          rotate_left
          · (intro w' hS'; have hq1 := hS'.1; have hq2 := hS'.2; go_simp <;> with_reducible rfl)
          simp only [Act.put, List.getElem_toArray, List.getElem_cons_succ, List.getElem_cons_zero, List.setIfInBounds_toArray, List.set]
          refine wpAnyH_take (i := 21) (v := ?_) rfl (by kernel_rfl) (by kernel_rfl) (by kernel_rfl) (fun _ _ _ h => h) (Or.inl ⟨by rfl, ?_⟩) hHeld ?_
          rotate_left
          · (intro w' hS'; have hq1 := hS'.1; have hq2 := hS'.2; go_simp <;> with_reducible rfl)
          simp only [Act.put, List.getElem_toArray, List.getElem_cons_succ, List.getElem_cons_zero, List.setIfInBounds_toArray, List.set]
          refine wpAnyH_take (i := 22) (v := ?_) rfl (by kernel_rfl) (by kernel_rfl) (by kernel_rfl) (fun _ _ _ h => h) (Or.inl ⟨by rfl, ?_⟩) hHeld ?_
          rotate_left
          · (intro w' hS'; have hq1 := hS'.1; have hq2 := hS'.2; go_simp <;> with_reducible rfl)
          simp only [Act.put, List.getElem_toArray, List.getElem_cons_succ, List.getElem_cons_zero, List.setIfInBounds_toArray, List.set]
          refine wpAnyH_take (i := 23) (v := acU 0 x y) rfl (by kernel_rfl) (by kernel_rfl) (by kernel_rfl) (fun _ _ _ h => h) (Or.inl ⟨by rfl, ?_⟩) hHeld ?_
          · (intro w' hS'; kernel_rfl)
          simp only [Act.put, List.getElem_toArray, List.getElem_cons_succ, List.getElem_cons_zero, List.setIfInBounds_toArray, List.set]
          refine wpAnyH_take (i := 24) (v := ?_) rfl (by kernel_rfl) (by kernel_rfl) (by kernel_rfl) (fun _ _ _ h => h) (Or.inl ⟨by rfl, ?_⟩) hHeld ?_
          rotate_left
          · (intro w' hS'; have hq1 := hS'.1; have hq2 := hS'.2; go_simp <;> with_reducible rfl)
          simp only [Act.put, List.getElem_toArray, List.getElem_cons_succ, List.getElem_cons_zero, List.setIfInBounds_toArray, List.set]
          refine wpAnyH_take (i := 25) (v := ?_) rfl (by kernel_rfl) (by kernel_rfl) (by kernel_rfl) (fun _ _ _ h => h) (Or.inl ⟨by rfl, ?_⟩) hHeld ?_
          rotate_left
          · (intro w' hS'; have hq1 := hS'.1; have hq2 := hS'.2; go_simp <;> with_reducible rfl)
          simp only [Act.put, List.getElem_toArray, List.getElem_cons_succ, List.getElem_cons_zero, List.setIfInBounds_toArray, List.set]
          refine wpAnyH_take (i := 26) (v := ?_) rfl (by kernel_rfl) (by kernel_rfl) (by kernel_rfl) (fun _ _ _ h => h) (Or.inl ⟨by rfl, ?_⟩) hHeld ?_
          rotate_left
          · (intro w' hS'; have hq1 := hS'.1; have hq2 := hS'.2; go_simp <;> with_reducible rfl)
          simp only [Act.put, List.getElem_toArray, List.getElem_cons_succ, List.getElem_cons_zero, List.setIfInBounds_toArray, List.set]
          refine wpAnyH_take (i := 27) (v := ?_) rfl (by kernel_rfl) (by kernel_rfl) (by kernel_rfl) (fun _ _ _ h => h) (Or.inl ⟨by rfl, ?_⟩) hHeld ?_
          rotate_left
          · (intro w' hS'; have hq1 := hS'.1; have hq2 := hS'.2; go_simp <;> with_reducible rfl)
          simp only [Act.put, List.getElem_toArray, List.getElem_cons_succ, List.getElem_cons_zero, List.setIfInBounds_toArray, List.set]
          refine wpAnyH_take (i := 28) (v := acU 2 y 0) rfl (by kernel_rfl) (by kernel_rfl) (by kernel_rfl) (fun _ _ _ h => h) (Or.inl ⟨by rfl, ?_⟩) hHeld ?_
          · (intro w' hS'; kernel_rfl)
          simp only [Act.put, List.getElem_toArray, List.getElem_cons_succ, List.getElem_cons_zero, List.setIfInBounds_toArray, List.set]
          refine wpAnyH_take (i := 29) (v := ?_) rfl (by kernel_rfl) (by kernel_rfl) (by kernel_rfl) (fun _ _ _ h => h) (Or.inl ⟨by rfl, ?_⟩) hHeld ?_
          rotate_left
          · (intro w' hS'; have hq1 := hS'.1; have hq2 := hS'.2; go_simp <;> with_reducible rfl)
          simp only [Act.put, List.getElem_toArray, List.getElem_cons_succ, List.getElem_cons_zero, List.setIfInBounds_toArray, List.set]
          refine wpAnyH_take (i := 30) (v := ?_) rfl (by kernel_rfl) (by kernel_rfl) (by kernel_rfl) (fun _ _ _ h => h) (Or.inl ⟨by rfl, ?_⟩) hHeld ?_
          rotate_left
          · (intro w' hS'; have hq1 := hS'.1; have hq2 := hS'.2; go_simp <;> with_reducible rfl)
          simp only [Act.put, List.getElem_toArray, List.getElem_cons_succ, List.getElem_cons_zero, List.setIfInBounds_toArray, List.set]
          refine wpAnyH_take (i := 31) (v := ?_) rfl (by kernel_rfl) (by kernel_rfl) (by kernel_rfl) (fun _ _ _ h => h) (Or.inl ⟨by rfl, ?_⟩) hHeld ?_
          rotate_left
          · (intro w' hS'; have hq1 := hS'.1; have hq2 := hS'.2; go_simp <;> with_reducible rfl)
          simp only [Act.put, List.getElem_toArray, List.getElem_cons_succ, List.getElem_cons_zero, List.setIfInBounds_toArray, List.set]
          refine wpAnyH_take (i := 32) (v := ?_) rfl (by kernel_rfl) (by kernel_rfl) (by kernel_rfl) (fun _ _ _ h => h) (Or.inl ⟨by rfl, ?_⟩) hHeld ?_
          rotate_left
          · (intro w' hS'; have hq1 := hS'.1; have hq2 := hS'.2; go_simp <;> with_reducible rfl)
          simp only [Act.put, List.getElem_toArray, List.getElem_cons_succ, List.getElem_cons_zero, List.setIfInBounds_toArray, List.set]
          refine wpAnyH_take (i := 33) (v := acU 0 1 x) rfl (by kernel_rfl) (by kernel_rfl) (by kernel_rfl) (fun _ _ _ h => h) (Or.inl ⟨by rfl, ?_⟩) hHeld ?_
          · (intro w' hS'; kernel_rfl)
          simp only [Act.put, List.getElem_toArray, List.getElem_cons_succ, List.getElem_cons_zero, List.setIfInBounds_toArray, List.set]
          refine wpAnyH_take (i := 34) (v := ?_) rfl (by kernel_rfl) (by kernel_rfl) (by kernel_rfl) (fun _ _ _ h => h) (Or.inl ⟨by rfl, ?_⟩) hHeld ?_
          rotate_left
          · (intro w' hS'; have hq1 := hS'.1; have hq2 := hS'.2; go_simp <;> with_reducible rfl)
          simp only [Act.put, List.getElem_toArray, List.getElem_cons_succ, List.getElem_cons_zero, List.setIfInBounds_toArray, List.set]
          refine wpAnyH_take (i := 35) (v := ?_) rfl (by kernel_rfl) (by kernel_rfl) (by kernel_rfl) (fun _ _ _ h => h) (Or.inl ⟨by rfl, ?_⟩) hHeld ?_
          rotate_left
          · (intro w' hS'; have hq1 := hS'.1; have hq2 := hS'.2; go_simp <;> with_reducible rfl)
          simp only [Act.put, List.getElem_toArray, List.getElem_cons_succ, List.getElem_cons_zero, List.setIfInBounds_toArray, List.set]
          refine wpAnyH_take (i := 36) (v := ?_) rfl (by kernel_rfl) (by kernel_rfl) (by kernel_rfl) (fun _ _ _ h => h) (Or.inl ⟨by rfl, ?_⟩) hHeld ?_
          rotate_left
          · (intro w' hS'; have hq1 := hS'.1; have hq2 := hS'.2; go_simp <;> with_reducible rfl)
          simp only [Act.put, List.getElem_toArray, List.getElem_cons_succ, List.getElem_cons_zero, List.setIfInBounds_toArray, List.set]
          refine wpAnyH_take (i := 37) (v := ?_) rfl (by kernel_rfl) (by kernel_rfl) (by kernel_rfl) (fun _ _ _ h => h) (Or.inl ⟨by rfl, ?_⟩) hHeld ?_
          rotate_left
          · (intro w' hS'; have hq1 := hS'.1; have hq2 := hS'.2; go_simp <;> with_reducible rfl)
          simp only [Act.put, List.getElem_toArray, List.getElem_cons_succ, List.getElem_cons_zero, List.setIfInBounds_toArray, List.set]
          refine wpAnyH_take (i := 38) (v := acU 0 2 y) rfl (by kernel_rfl) (by kernel_rfl) (by kernel_rfl) (fun _ _ _ h => h) (Or.inl ⟨by rfl, ?_⟩) hHeld ?_
          · (intro w' hS'; kernel_rfl)
          simp only [Act.put, List.getElem_toArray, List.getElem_cons_succ, List.getElem_cons_zero, List.setIfInBounds_toArray, List.set]
          have HE4 : Hid (Ek w (w3.alloc (.cells (acs4 x y) 38)) eb) := HE3.out.below ((Below.refl _ _).alloc (Nat.le_refl _) _)
          refine wpAnyH_ready (rs := [39]) (by kernel_rfl) (by simp) ?_
          refine AllReadyH.cons rfl (fun K hK => ?_) AllReadyH.nil
          rw [if_pos (by rfl)]
          simp only [List.getElem_toArray, List.getElem_cons_succ, List.getElem_cons_zero]
          refine wp_build4 _ _ _ _ rfl x y rfl rfl rfl rfl ?_
          refine hK.out _ _ (HEA.out _ HE4.out) (fun hHeld => ?_)
          clear hK K
          simp only [Act.put, List.getElem_toArray, List.getElem_cons_succ, List.getElem_cons_zero, List.setIfInBounds_toArray, List.set]
          refine wpAnyH_ready (rs := [40]) (by kernel_rfl) (by simp) ?_
          refine AllReadyH.cons rfl (fun K hK => ?_) AllReadyH.nil
          go_simp
          refine (CP.out w3 HE3.out).mono ?_
          rintro e w4 ⟨rfl, hb⟩
          go_wp2_with fail
          have HE5 := Hid.mk' (HE3.out.below hb)
          refine hK.out _ _ (HEA.out _ HE5.out) (fun hHeld => ?_)
          clear hK K hb
          clear CP HE3 HE4
          refine wpAnyH_take (i := 41) (v := ?_) rfl (by kernel_rfl) (by kernel_rfl) (by kernel_rfl) (fun _ _ _ h => h) (Or.inl ⟨by rfl, ?_⟩) hHeld ?_
          rotate_left
          · (intro w' hS'; have hq1 := hS'.1; have hq2 := hS'.2; go_simp <;> with_reducible rfl)
          simp only [Act.put, List.getElem_toArray, List.getElem_cons_succ, List.getElem_cons_zero, List.setIfInBounds_toArray, List.set]
          refine wpAnyH_take (i := 42) (v := ?_) rfl (by kernel_rfl) (by kernel_rfl) (by kernel_rfl) (fun _ _ _ h => h) (Or.inl ⟨by rfl, ?_⟩) hHeld ?_
          rotate_left
          · (intro w' hS'; have hq1 := hS'.1; have hq2 := hS'.2; go_simp <;> with_reducible rfl)
          simp only [Act.put, List.getElem_toArray, List.getElem_cons_succ, List.getElem_cons_zero, List.setIfInBounds_toArray, List.set]
          refine wpAnyH_take (i := 43) (v := ?_) rfl (by kernel_rfl) (by kernel_rfl) (by kernel_rfl) (fun _ _ _ h => h) (Or.inl ⟨by rfl, ?_⟩) hHeld ?_
          rotate_left
          · (intro w' hS'; have hq1 := hS'.1; have hq2 := hS'.2; go_simp <;> with_reducible rfl)
          simp only [Act.put, List.getElem_toArray, List.getElem_cons_succ, List.getElem_cons_zero, List.setIfInBounds_toArray, List.set]
          refine wpAnyH_take (i := 44) (v := ?_) rfl (by kernel_rfl) (by kernel_rfl) (by kernel_rfl) (fun _ _ _ h => h) (Or.inl ⟨by rfl, ?_⟩) hHeld ?_
          rotate_left
          · (intro w' hS'; have hq1 := hS'.1; have hq2 := hS'.2; go_simp <;> with_reducible rfl)
          simp only [Act.put, List.getElem_toArray, List.getElem_cons_succ, List.getElem_cons_zero, List.setIfInBounds_toArray, List.set]
          refine wpAnyH_take (i := 45) (v := ?_) rfl (by kernel_rfl) (by kernel_rfl) (by kernel_rfl) (fun _ _ _ h => h) (Or.inl ⟨by rfl, ?_⟩) hHeld ?_
          rotate_left
          · (intro w' hS'; have hq1 := hS'.1; have hq2 := hS'.2; go_simp <;> with_reducible rfl)
          simp only [Act.put, List.getElem_toArray, List.getElem_cons_succ, List.getElem_cons_zero, List.setIfInBounds_toArray, List.set]
          refine wpAnyH_take (i := 46) (v := ?_) rfl (by kernel_rfl) (by kernel_rfl) (by kernel_rfl) (fun _ _ _ h => h) (Or.inl ⟨by rfl, ?_⟩) hHeld ?_
          rotate_left
          · (intro w' hS'; have hq1 := hS'.1; have hq2 := hS'.2; go_simp <;> with_reducible rfl)
          simp only [Act.put, List.getElem_toArray, List.getElem_cons_succ, List.getElem_cons_zero, List.setIfInBounds_toArray, List.set]
          refine wpAnyH_take (i := 47) (v := ?_) rfl (by kernel_rfl) (by kernel_rfl) (by kernel_rfl) (fun _ _ _ h => h) (Or.inl ⟨by rfl, ?_⟩) hHeld ?_
          rotate_left
          · (intro w' hS'; have hq1 := hS'.1; have hq2 := hS'.2; go_simp <;> with_reducible rfl)
          simp only [Act.put, List.getElem_toArray, List.getElem_cons_succ, List.getElem_cons_zero, List.setIfInBounds_toArray, List.set]
          refine wpAnyH_ready (rs := [48]) (by kernel_rfl) (by simp) ?_
          refine AllReadyH.cons rfl (fun K hK => ?_) AllReadyH.nil
          go_simp
          refine (CN.out w4 HE5.out).mono ?_
          rintro e w5 ⟨rfl, hb⟩
          go_wp2_with fail
          have HE6 := Hid.mk' (HE5.out.below hb)
          refine hK.out _ _ (HEA.out _ HE6.out) (fun hHeld => ?_)
          clear hK K hb
          refine wpAnyH_take (i := 49) (v := ?_) rfl (by kernel_rfl) (by kernel_rfl) (by kernel_rfl) (fun _ _ _ h => h) (Or.inl ⟨by rfl, ?_⟩) hHeld ?_
          rotate_left
          · (intro w' hS'; have hq1 := hS'.1; have hq2 := hS'.2; go_simp <;> with_reducible rfl)
          simp only [Act.put, List.getElem_toArray, List.getElem_cons_succ, List.getElem_cons_zero, List.setIfInBounds_toArray, List.set]
          refine wpAnyH_take (i := 50) (v := ?_) rfl (by kernel_rfl) (by kernel_rfl) (by kernel_rfl) (fun _ _ _ h => h) (Or.inl ⟨by rfl, ?_⟩) hHeld ?_
          rotate_left
          · (intro w' hS'; have hq1 := hS'.1; have hq2 := hS'.2; go_simp <;> with_reducible rfl)
          simp only [Act.put, List.getElem_toArray, List.getElem_cons_succ, List.getElem_cons_zero, List.setIfInBounds_toArray, List.set]
          refine wpAnyH_done (by kernel_rfl) ?_ _
          clear hHeld HE5 CN HEA
          go_wp2
          go_roundw
          case rel => exact ⟨k + 1, by omega, by go_num, HE6⟩
          case measure => simp [intOf]; omega
        · have hkI : ¬ (k : Int) < 5 := by omega
          go_wp2
          go_roundw
          case rel => exact ⟨i + 1, by omega, by go_num, HE⟩
          case measure => simp [intOf]; omega
    · have hiI : ¬ (i : Int) < 5 := by omega
      go_wp2
      go_ret
      exact ⟨rfl, HE.out.bel⟩

set_option maxRecDepth 100000 in
theorem heapKnown_yes {R : RepHT} (C : HeapC R) (w : World) (hE : Er.Handle w) : Calls Tryd.prog 4 #[] w fun e w' => e = .returned (.bool true) ∧ Below w.heap.size w w' := by
  have HE := Hid.mk' hE
  have c1 := Hid.mk' (knownSaid_yes C w hE)
  clear hE
  go_enter Tryd.func4, Tryd.ntmps4
  go_wp2_with fail
  refine c1.out.mono ?_
  rintro e w1 ⟨rfl, hb1⟩
  have HB1 := Hid.mk' hb1
  have c2 := Hid.mk' (knownRows_yes C w1 (HE.out.below hb1))
  clear c1 hb1
  go_wp2_with fail
  refine c2.out.mono ?_
  rintro e w2 ⟨rfl, hb2⟩
  have HB2 := Hid.mk' (HB1.out.trans (hb2.mono HB1.out.size))
  have c3 := Hid.mk' (knownEnds_yes C w2 (HE.out.below HB2.out))
  clear c2 hb2 HB1
  go_wp2_with fail
  refine c3.out.mono ?_
  rintro e w3 ⟨rfl, hb3⟩
  have HB3 := Hid.mk' (HB2.out.trans (hb3.mono HB2.out.size))
  clear c3 hb3 HB2
  go_wp2
  go_ret
  exact ⟨rfl, HB3.out⟩
end Hh
end Go.Proofs.YteclbmmhidmklaaDoor
