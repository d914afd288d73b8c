import Derived.Test.YtcleeidfiaafcaaDoorTreY
/- A tree that was hung as parents were chosen, and the calls on it. -/
namespace Go.Proofs.YtcleeidfiaafcaaDoor
set_option linter.ambiguousOpen false
open Go.RowKit
namespace Tr
open An Rg Ft Lv
set_option linter.unusedSimpArgs false
set_option linter.unusedVariables false
attribute [local go_sem] Oper.semAt_some

theorem usedS_at : ∀ (n : Nat), n ≤ 32 → ∀ i : Nat, i < n → at' (usedS n) i = slotU i
  | 0, _, i, hi => by omega
  | n + 1, hn, i, hi => by
    unfold at' usedS
    rw [Int.toNat_natCast, get_set (usedS_len n) _ _ _ (by omega)]
    split
    · next e => rw [e]
    · next e =>
      have := usedS_at n (by omega) i (by omega)
      unfold at' at this
      rwa [Int.toNat_natCast] at this

theorem hang_start {n : Nat} (hn : n ≤ 32) : Hg (usedS n) (-1) n (kidsU [] (-1) (-1)) (fun j => kidsU [] j (-1)) := by
  refine ⟨usedS_len n, hn, fun i hi => by rw [usedS_at n hn i hi]; rfl, fun i hi => by rw [usedS_at n hn i hi]; rfl, Ring.nil _, rfl, fun j _ => Ring.nil _, fun j hj => by rw [usedS_at n hn j hj]; rfl, fun i hi => ?_, fun j hj i hi => ?_⟩
  · simp [kidsU] at hi
  · simp [kidsU] at hi

/-- A tree that was hung as parents were chosen, without what is cut. -/
def TH (R : RepTy) (w0 w : World) (p q n : Nat) (up : List Int) (cut : Int) (m : Nat) (B : Nat → Prop) : Prop :=
  ∃ A l, A.wr ≤ m ∧ Su R w0 w p q A l B ∧ Hg A.sl l n (kidsU up (-1) cut) (fun j => kidsU up j cut)

section
variable {Rep : World → Nat → (Nat → Prop) → Arn → Prop} {R : RepTy} {w0 w w' : World} {p q n m : Nat} {up : List Int} {cut : Int} {B B' : Nat → Prop}

theorem TH.bel (h : TH R w0 w p q n up cut m B) : Below w0.heap.size w0 w := by
  obtain ⟨A, l, _, h2, _⟩ := h
  exact h2.bel

theorem TH.more (C : TreeC Rep R) (h : TH R w0 w p q n up cut m B) (hb : Below w.heap.size w w') (hB : ∀ k, B' k → B k ∨ (w.heap.size ≤ k ∧ k < w'.heap.size)) : TH R w0 w' p q n up cut m B' := by
  obtain ⟨A, l, h1, h2, h3⟩ := h
  exact ⟨A, l, h1, h2.more C hb hB, h3⟩

theorem TH.below (C : TreeC Rep R) (h : TH R w0 w p q n up cut m B) (hb : Below w.heap.size w w') : TH R w0 w' p q n up cut m B := h.more C hb (fun k hk => .inl hk)

theorem link_I64 {x : Int} (h : -1 ≤ x ∧ x < 32) : I64 (linkS x) ∧ I64 (linkB x) := by
  unfold linkS linkB
  constructor <;> split <;> constructor <;> omega

theorem add_th (C : TreeC Rep R) (h : TH R w0 w p q n up (-1) m B) (hm : m ≤ 1000) (hu : Ups up) (hi : up.length < n) (hn : n ≤ 32) {x : Int} (hx : -1 ≤ x ∧ x < up.length) :
    Calls Tryd.prog 6 #[ptr q, nun up.length, lkU (linkS x) (linkB x)] w fun e w' => e = .returned .nilIface ∧ TH R w0 w' p q n (up ++ [x]) (-1) (m + 8) B ∧ Kq B w w' := by
  obtain ⟨A, l, h1, h2, h3⟩ := h
  obtain ⟨S', l', e1, e2⟩ := hang_add h3 hu hi hx
  have hl := link_I64 (x := x) (by omega)
  refine (add_su C up.length (linkS x) (linkB x) _ h2 (by omega) ⟨by omega, by omega⟩ hl.1 hl.2 e1).mono ?_
  rintro e w' ⟨rfl, A', g1, g2, _, g3, g4⟩
  refine ⟨rfl, ⟨A', l', by omega, g3, ?_⟩, g4⟩
  rw [g2]
  exact e2

theorem cut_th (C : TreeC Rep R) (h : TH R w0 w p q n up (-1) m B) (hm : m ≤ 1000) (hu : Ups up) (hi : up.length = n) {c : Nat} (hc : c < n) :
    Calls Tryd.prog 10 #[ptr q, nun c] w fun e w' => e = .returned .nilIface ∧ TH R w0 w' p q n up c (m + 8) B ∧ Kq B w w' := by
  obtain ⟨A, l, h1, h2, h3⟩ := h
  obtain ⟨S', l', e1, e2⟩ := hang_cut h3 hu hi hc
  have := h3.n32
  refine (cut_su C c _ h2 (by omega) ⟨by omega, by omega⟩ e1).mono ?_
  rintro e w' ⟨rfl, A', g1, g2, _, g3, g4⟩
  refine ⟨rfl, ⟨A', l', by omega, g3, ?_⟩, g4⟩
  rw [g2]
  exact e2

/-- What is hung again. -/
def Again (R : RepTy) (w0 w : World) (p q : Nat) (up : List Int) (c : Nat) (B : Nat → Prop) : Prop :=
  ∃ A l, Su R w0 w p q A l B ∧ kidsL A.sl c = [] ∧ (up.getD c 0 < 0 → l = c ∧ allL A.sl l = kidsU up (-1) c ++ [c]) ∧ (0 ≤ up.getD c 0 → kidsL A.sl (up.getD c 0) = kidsU up (up.getD c 0) c ++ [c])

theorem again_th {c : Nat} (C : TreeC Rep R) (h : TH R w0 w p q n up c m B) (hm : m ≤ 1000) (hu : Ups up) (hi : up.length = n) (hc : c < n) :
    Calls Tryd.prog 6 #[ptr q, nun c, lkU (linkS (up.getD c 0)) (linkB (up.getD c 0))] w fun e w' => e = .returned .nilIface ∧ Again R w0 w' p q up c B ∧ Kq B w w' := by
  obtain ⟨A, l, h1, h2, h3⟩ := h
  obtain ⟨S', l', e1, e2⟩ := hang_again h3 hu hi hc
  have := h3.n32
  have hb := hu c (by omega)
  have hl := link_I64 (x := up.getD c 0) (by omega)
  refine (add_su C c _ _ _ h2 (by omega) ⟨by omega, by omega⟩ hl.1 hl.2 e1).mono ?_
  rintro e w' ⟨rfl, A', g1, g2, _, g3, g4⟩
  refine ⟨rfl, ⟨A', l', g3, ?_⟩, g4⟩
  rw [g2]
  exact e2

theorem su_list (C : TreeC Rep R) {A : Arn} {l : Int} (h : Su R w0 w p q A l B) (i : Int) (hi : I64 i) :
    (Calls Tryd.prog 9 #[ptr q, nu 0, nu i] w fun e w' => ∃ v, e = .returned v ∧ w'.ownsRow w.heap.size 3 1 v (allL A.sl l).length ((allL A.sl l).map nun) ∧ Below w.heap.size w w') ∧
    (Calls Tryd.prog 9 #[ptr q, nu 1, nu i] w fun e w' => ∃ v, e = .returned v ∧ w'.ownsRow w.heap.size 3 1 v (kidsL A.sl i).length ((kidsL A.sl i).map nun) ∧ Below w.heap.size w w') ∧
    (Calls Tryd.prog 9 #[ptr q, nu 2, nu i] w fun e w' => ∃ v, e = .returned v ∧ w'.ownsRow w.heap.size 3 1 v (undL A.sl i).length ((undL A.sl i).map nun) ∧ Below w.heap.size w w') := by
  obtain ⟨F, h1, h2, _⟩ := h
  exact ⟨list_0 C w p q F A l i h1 h2 hi, list_1 C w p q F A l i h1 h2 hi, list_2 C w p q F A l i h1 h2 hi⟩

theorem last_su (C : TreeC Rep R) {A : Arn} {l : Int} (h : Su R w0 w p q A l B) : Calls Tryd.prog 7 #[ptr q] w fun e w' => e = .returned (nu l) ∧ Below w.heap.size w w' := by
  obtain ⟨F, h1, h2, _⟩ := h
  exact C.last w p q F A l h1

theorem roots_th (C : TreeC Rep R) (h : TH R w0 w p q n up cut m B) :
    Calls Tryd.prog 9 #[ptr q, nu 0, nu 0] w fun e w' => ∃ v, e = .returned v ∧ w'.ownsRow w.heap.size 3 1 v (kidsU up (-1) cut).length ((kidsU up (-1) cut).map nun) ∧ Below w.heap.size w w' := by
  obtain ⟨A, l, _, h2, h3⟩ := h
  have := (su_list C h2 0 ⟨by omega, by omega⟩).1
  rwa [h3.roots] at this

theorem kids_th (C : TreeC Rep R) (h : TH R w0 w p q n up cut m B) {i : Nat} (hi : i < n) :
    Calls Tryd.prog 9 #[ptr q, nu 1, nun i] w fun e w' => ∃ v, e = .returned v ∧ w'.ownsRow w.heap.size 3 1 v (kidsU up i cut).length ((kidsU up i cut).map nun) ∧ Below w.heap.size w w' := by
  obtain ⟨A, l, _, h2, h3⟩ := h
  have := h3.n32
  have := (su_list C h2 i ⟨by omega, by omega⟩).2.1
  rwa [h3.kidsL hi] at this

theorem under_th (C : TreeC Rep R) (h : TH R w0 w p q n up cut m B) (hu : Ups up) {i : Nat} (hi : i < n) :
    Calls Tryd.prog 9 #[ptr q, nu 2, nun i] w fun e w' => ∃ v, e = .returned v ∧ w'.ownsRow w.heap.size 3 1 v (preU up cut 33 i).length ((preU up cut 33 i).map nun) ∧ Below w.heap.size w w' := by
  obtain ⟨A, l, _, h2, h3⟩ := h
  have := h3.n32
  have := (su_list C h2 i ⟨by omega, by omega⟩).2.2
  rw [h3.undL (fun i k _ hk => (kidsU_lt hu hk).1) hi] at this
  unfold preU
  exact this

theorem last_th (C : TreeC Rep R) (h : TH R w0 w p q n up cut m B) : Calls Tryd.prog 7 #[ptr q] w fun e w' => e = .returned (nu (lastI (kidsU up (-1) cut))) ∧ Below w.heap.size w w' := by
  obtain ⟨A, l, _, h2, h3⟩ := h
  have := last_su C h2
  rwa [h3.last] at this
end

theorem used_th {Rep : World → Nat → (Nat → Prop) → Arn → Prop} {R : RepTy} (H : KeepC Rep) (CN : NewC Rep) (CP : PutC Rep) (C : TreeC Rep R) (n : Nat) (hn : n ≤ 32) (w : World) :
    Calls Tryd.prog 4 #[nun n] w fun e w' => ∃ p q, e = .returned (.tuple #[ptr p, ptr q, .bool true]) ∧ TH R w w' p q n [] (-1) n (fun _ => False) :=
  (used_any H CN CP C n hn w).mono (by
    rintro e w' ⟨p, q, rfl, h⟩
    exact ⟨p, q, rfl, _, _, Nat.le_refl _, h, hang_start hn⟩)

set_option maxRecDepth 100000 in
theorem ups0 : Ups [] ∧ Ups [-1] ∧ Ups [-1, 0] := by
  have h1 : Ups [] := fun k hk => by simp at hk
  have h2 : Ups ([] ++ [-1]) := h1.snoc (by decide)
  exact ⟨h1, h2, h2.snoc (p := 0) (by decide)⟩

theorem works_row : preU [-1, 0] (-1) 33 0 = [0, 1] := by
  unfold preU
  decide +kernel

set_option maxRecDepth 100000 in
set_option maxHeartbeats 4000000 in
theorem works_any {Rep : World → Nat → (Nat → Prop) → Arn → Prop} {R : RepTy} (H : KeepC Rep) (CN : NewC Rep) (CP : PutC Rep) (C : TreeC Rep R) (w : World) :
    Calls Tryd.prog 5 #[] w fun e w' => e = .returned (.bool true) ∧ Below w.heap.size w w' := by
  obtain ⟨u0, u1, u2⟩ := ups0
  have c0 := Hid.mk' (used_th H CN CP C 2 (by omega) w)
  have e1 : lastI (kidsU [] (-1) (-1)) = -1 := by decide +kernel
  have e4 : lastI (kidsU [-1, 0] (-1) (-1)) = 0 := by decide +kernel
  have c1 : Hid (∀ wx p q, TH R w wx p q 2 [] (-1) 2 (fun _ => False) → Calls Tryd.prog 7 #[ptr q] wx fun e w' => e = .returned (nu (-1)) ∧ TH R w w' p q 2 [] (-1) 2 (fun _ => False)) := fun wx p q h => by
    have := last_th C h
    rw [e1] at this
    exact this.mono (fun e w' h1 => ⟨h1.1, h.below C h1.2⟩)
  have c2 : Hid (∀ wx p q, TH R w wx p q 2 [] (-1) 2 (fun _ => False) → Calls Tryd.prog 6 #[ptr q, nu 0, lkU 0 0] wx fun e w' => e = .returned .nilIface ∧ TH R w w' p q 2 [-1] (-1) 10 (fun _ => False)) := fun wx p q h => by
    have := add_th C h (by omega) u0 (by decide) (by omega) (x := -1) (by decide)
    rw [show linkS (-1) = 0 by decide, show linkB (-1) = 0 by decide] at this
    exact this.mono (fun e w' h1 => ⟨h1.1, h1.2.1⟩)
  have c3 : Hid (∀ wx p q, TH R w wx p q 2 [-1] (-1) 10 (fun _ => False) → Calls Tryd.prog 6 #[ptr q, nu 1, lkU 0 1] wx fun e w' => e = .returned .nilIface ∧ TH R w w' p q 2 [-1, 0] (-1) 18 (fun _ => False)) := fun wx p q h => by
    have := add_th C h (by omega) u1 (by decide) (by omega) (x := 0) (by decide)
    rw [show linkS 0 = 0 by decide, show linkB 0 = 1 by decide] at this
    exact this.mono (fun e w' h1 => ⟨h1.1, h1.2.1⟩)
  have c4 : Hid (∀ wx p q, TH R w wx p q 2 [-1, 0] (-1) 18 (fun _ => False) → Calls Tryd.prog 7 #[ptr q] wx fun e w' => e = .returned (nu 0) ∧ TH R w w' p q 2 [-1, 0] (-1) 18 (fun _ => False)) := fun wx p q h => by
    have := last_th C h
    rw [e4] at this
    exact this.mono (fun e w' h1 => ⟨h1.1, h.below C h1.2⟩)
  have c5 : Hid (∀ wx p q, TH R w wx p q 2 [-1, 0] (-1) 18 (fun _ => False) → Calls Tryd.prog 9 #[ptr q, nu 2, nu 0] wx fun e w' => ∃ v, e = .returned v ∧ RdN w' v [0, 1] ∧ Below w.heap.size w w') := fun wx p q h => by
    have := under_th C h u2 (i := 0) (by omega)
    rw [works_row] at this
    refine this.mono (fun e w' ⟨v, h1, h2, h3⟩ => ⟨v, h1, own_rdN h2, h.bel.trans (h3.mono h.bel.size)⟩)
  clear e1 e4
  clear H CN CP C u0 u1 u2
  go_enter Tryd.func5, Tryd.ntmps5
  go_wp2_with fail
  refine c0.out.mono ?_
  rintro e w1 ⟨p, q, rfl, h1⟩
  have H1 := Hid.mk' h1
  clear h1 c0
  go_wp2_with fail
  refine (c1.out _ _ _ H1.out).mono ?_
  rintro e w2 ⟨rfl, h2⟩
  have H2 := Hid.mk' h2
  clear h2 c1 H1
  go_wp2_with fail
  refine (c2.out _ _ _ H2.out).mono ?_
  rintro e w3 ⟨rfl, h3⟩
  have H3 := Hid.mk' h3
  clear h3 c2 H2
  go_wp2_with fail
  refine (c3.out _ _ _ H3.out).mono ?_
  rintro e w4 ⟨rfl, h4⟩
  have H4 := Hid.mk' h4
  clear h4 c3 H3
  go_wp2_with fail
  refine (c4.out _ _ _ H4.out).mono ?_
  rintro e w5 ⟨rfl, h5⟩
  have H5 := Hid.mk' h5
  clear h5 c4 H4
  go_wp2_with fail
  refine (c5.out _ _ _ H5.out).mono ?_
  rintro e w6 ⟨v, rfl, h6, hb6⟩
  have hB7 : Below w6.heap.size w6 (w6.alloc (.cells #[nu 0, nu 1] 3)) := (Below.refl _ _).alloc (Nat.le_refl _) _
  have hR7 : RdN (w6.alloc (.cells #[nu 0, nu 1] 3)) (.slice (some ⟨w6.heap.size, 0, none⟩) 2 2) [0, 1] := own_rdN (base := w6.heap.size) (n := 2) (by
    have := World.ownsRow_lit (size := 1) (e := 3) w6 #[nu 0, nu 1] 2 (base := w6.heap.size) (Nat.le_refl _) (by unfold maxLen; omega) (by simp)
    exact this)
  have C6 := Hid.mk' (sameN v _ [0, 1] _ (h6.below hB7) hR7)
  have HB6 : Hid (Below w.heap.size w (w6.alloc (.cells #[nu 0, nu 1] 3))) := hb6.trans (hB7.mono hb6.size)
  obtain ⟨av, cv, rfl, _⟩ := h6
  clear hB7 hR7 hb6 c5 H5
  go_wp2_with fail
  refine C6.out.mono ?_
  rintro e w8 ⟨rfl, hb8⟩
  have HB8 : Hid (Below w.heap.size w w8) := HB6.out.trans (hb8.mono HB6.out.size)
  clear hb8 C6 HB6
  go_wp2
  go_ret
  exact ⟨rfl, HB8.out⟩
end Tr
end Go.Proofs.YtcleeidfiaafcaaDoor
