/- HeapTaken, out of what the program's heap answers: taken out one by one, numbers come in the order that All tells. -/
import Derived.Test.YteclbmmhidmklaaHepW
import Derived.Test.YteclbmmhidmklaaHepE
import Derived.Deep.AppendLies
namespace Go.Proofs.Yteclbmmhidmklaa
set_option linter.ambiguousOpen false
open Go.RowKit
namespace Hh
open Ft
set_option linter.unusedSimpArgs false
set_option linter.unusedVariables false
attribute [local go_sem] Oper.semAt_some

theorem infoZ : (Try.prog.info? 3).map (fun i => (i.zero, i.size, i.bytes)) = some (some (.int .i64 0), 1, 8) := by kernel_rfl

theorem prs_two (L : List It) (k : Nat) (x : It) (hx : L[k]? = some x) : (prs L)[2 * k]? = some x.i ∧ (prs L)[2 * k + 1]? = some x.k := by
  induction L generalizing k with
  | nil => simp at hx
  | cons y L ih =>
    have e : prs (y :: L) = y.i :: y.k :: prs L := rfl
    rw [e]
    cases k with
    | zero =>
      simp at hx
      subst hx
      exact ⟨rfl, rfl⟩
    | succ k =>
      have := ih k (by simpa using hx)
      rw [show 2 * (k + 1) = 2 * k + 1 + 1 by omega]
      simpa using this

theorem hk_drop {N : Int} {S : List It} (h : Hk N S) (a : Nat) : Hk N (S.drop a) :=
  ⟨h.srt.sublist (List.drop_sublist _ _), h.nd.sublist (List.drop_sublist _ _), fun x hx => h.rng x (List.mem_of_mem_drop hx)⟩

theorem key_first {N : Int} {x : It} {L : List It} : keyH (x :: L) x.i = some x.k := by
  unfold keyH
  rw [List.find?_cons]
  simp

theorem hasH_first (x : It) (L : List It) : hasH (x :: L) x.i = true := by
  unfold hasH
  simp

theorem hasH_gone {N : Int} {x : It} {L : List It} (h : Hk N (x :: L)) : hasH L x.i = false := by
  unfold hasH
  rw [List.any_eq_false]
  intro y hy
  have := (List.pairwise_cons.1 h.nd).1 y hy
  simp [Ne.symm this]

/-- Amid the loop: a numbers are taken out, k are noted. -/
structure Tk (R : RepHT) (w0 w : World) (p : Nat) (S : List It) (a k : Nat) (gv av : Value) : Prop where
  ex : ∃ F, R w p F 64 (S.drop a) ∧ (∀ j, F j → w0.heap.size ≤ j) ∧ (∀ j, gv.ownBlock = some j → ¬ F j) ∧ (∀ j, av.ownBlock = some j → ¬ F j)
  got : w.ownsRow w0.heap.size 3 1 gv (2 * k) ((prs (S.take k)).map nu)
  all : w.ownsRow w0.heap.size 3 1 av (2 * S.length) ((prs S).map nu)
  apart : ∀ j, gv.ownBlock = some j → av.ownBlock ≠ some j
  bel : Below w0.heap.size w0 w

section
variable {R : RepHT} {w0 w w' : World} {p : Nat} {S : List It} {a k : Nat} {gv av : Value}

theorem Tk.below (C : HeapC R) (h : Tk R w0 w p S a k gv av) (hb : Below w.heap.size w w') : Tk R w0 w' p S a k gv av := by
  obtain ⟨F, h1, h2, h3, h4⟩ := h.ex
  have hk : Keep (fun _ => False) w w' := Keep.of_below hb
  exact ⟨⟨F, C.keep h1 hk (fun _ _ h => h), h2, h3, h4⟩, hk.own h.got (fun _ _ h => h), hk.own h.all (fun _ _ h => h), h.apart, h.bel.trans (hb.mono h.bel.size)⟩

theorem Tk.left (C : HeapC R) (h : Tk R w0 w p S a k gv av) {b : Nat} {F : Nat → Prop} (h1 : R w p F 64 (S.drop a)) (h2 : ∀ j, F j → w0.heap.size ≤ j) (h3 : ∀ j, gv.ownBlock = some j → ¬ F j) (h4 : ∀ j, av.ownBlock = some j → ¬ F j) (hl : LeftH R w w' p F 64 (S.drop b)) : Tk R w0 w' p S b k gv av := by
  obtain ⟨G, g1, g2, g3⟩ := hl
  refine ⟨⟨G, g1, fun j hj => ?_, fun j hj e => ?_, fun j hj e => ?_⟩, g2.own h.got (fun j e => h3 j e), g2.own h.all (fun j e => h4 j e), h.apart, h.bel.trans (g2.below (fun j hj e => by have := h2 j e; omega) h.bel.size)⟩
  · rcases g3 j hj with e | e
    · exact h2 j e
    · exact Nat.le_trans h.bel.size e
  · rcases g3 j e with e | e
    · exact h3 j hj e
    · have := (h.got.lt j hj).2; omega
  · rcases g3 j e with e | e
    · exact h4 j hj e
    · have := (h.all.lt j hj).2; omega

theorem Tk.least (C : HeapC R) (hg : Hk 64 S) (h : Tk R w0 w p S a k gv av) : Calls Try.prog 11 #[ptr p] w fun e w' => e = .returned (.tuple #[nu (fstI (S.drop a)), nu (fstK (S.drop a)), .bool (!(S.drop a).isEmpty)]) ∧ Hid (Tk R w0 w' p S a k gv av) := by
  obtain ⟨F, h1, h2, h3, h4⟩ := h.ex
  have hf := Hk.few (N := 64) hg
  refine (C.least w p F 64 (S.drop a) h1 (hk_drop hg a) (by rw [List.length_drop]; omega)).mono ?_
  rintro e w' ⟨rfl, hb⟩
  exact ⟨rfl, h.below C hb⟩

theorem Tk.key (C : HeapC R) (hg : Hk 64 S) (h : Tk R w0 w p S a k gv av) (x : It) (hx : S[a]? = some x) : Calls Try.prog 12 #[ptr p, nu x.i] w fun e w' => e = .returned (.tuple #[nu x.k, .bool true]) ∧ Hid (Tk R w0 w' p S a k gv av) := by
  obtain ⟨F, h1, h2, h3, h4⟩ := h.ex
  have hf := Hk.few (N := 64) hg
  obtain ⟨ha, hxe⟩ := List.getElem?_eq_some_iff.1 hx
  have hd : S.drop a = x :: S.drop (a + 1) := by rw [List.drop_eq_getElem_cons ha, hxe]
  have := C.key w p F 64 (S.drop a) x.i h1 (hk_drop hg a) (by rw [List.length_drop]; omega)
  rw [hd, key_first (N := 64)] at this
  refine this.mono ?_
  rintro e w' ⟨rfl, hb⟩
  exact ⟨rfl, h.below C hb⟩

theorem Tk.len (C : HeapC R) (h : Tk R w0 w p S a k gv av) : Calls Try.prog 10 #[ptr p] w fun e w' => e = .returned (nun (S.length - a)) ∧ Hid (Tk R w0 w' p S a k gv av) := by
  obtain ⟨F, h1, h2, h3, h4⟩ := h.ex
  have := C.len w p F 64 (S.drop a) h1
  rw [List.length_drop] at this
  refine this.mono ?_
  rintro e w' ⟨rfl, hb⟩
  exact ⟨rfl, h.below C hb⟩

theorem Tk.drop (C : HeapC R) (hg : Hk 64 S) (h : Tk R w0 w p S a k gv av) (x : It) (hx : S[a]? = some x) : Calls Try.prog 13 #[ptr p, nu x.i] w fun e w' => e = .returned (.bool true) ∧ Hid (Tk R w0 w' p S (a + 1) k gv av) := by
  obtain ⟨F, h1, h2, h3, h4⟩ := h.ex
  have hf := Hk.few (N := 64) hg
  obtain ⟨ha, hxe⟩ := List.getElem?_eq_some_iff.1 hx
  have hd : S.drop a = x :: S.drop (a + 1) := by rw [List.drop_eq_getElem_cons ha, hxe]
  have hga := hk_drop hg a
  have := C.drop w p F 64 (S.drop a) x.i h1 hga (by rw [List.length_drop]; omega)
  rw [hd] at this hga
  rw [hasH_first, drop_head hga] at this
  refine this.mono ?_
  rintro e w' ⟨rfl, hl⟩
  exact ⟨rfl, h.left C h1 h2 h3 h4 hl⟩

theorem Tk.again (C : HeapC R) (hg : Hk 64 S) (h : Tk R w0 w p S (a + 1) k gv av) (x : It) (hx : S[a]? = some x) : Calls Try.prog 13 #[ptr p, nu x.i] w fun e w' => e = .returned (.bool false) ∧ Hid (Tk R w0 w' p S (a + 1) k gv av) := by
  obtain ⟨F, h1, h2, h3, h4⟩ := h.ex
  have hf := Hk.few (N := 64) hg
  obtain ⟨ha, hxe⟩ := List.getElem?_eq_some_iff.1 hx
  have hd : S.drop a = x :: S.drop (a + 1) := by rw [List.drop_eq_getElem_cons ha, hxe]
  have hga := hk_drop hg a
  rw [hd] at hga
  have := C.drop w p F 64 (S.drop (a + 1)) x.i h1 (hk_drop hg (a + 1)) (by rw [List.length_drop]; omega)
  rw [hasH_gone hga, drop_none (hasH_gone hga)] at this
  refine this.mono ?_
  rintro e w' ⟨rfl, hl⟩
  exact ⟨rfl, h.left C h1 h2 h3 h4 hl⟩

/-- One more is noted. -/
theorem Tk.grown (C : HeapC R) (h : Tk R w0 w p S a k gv av) {x : It} (hx : S[k]? = some x) {g c : Nat} (ho : w'.ownsRow w0.heap.size 3 1 (.slice (some ⟨g, 0, none⟩) (2 * k + 2) c) (2 * k + 2) ((prs (S.take k)).map nu ++ [nu x.i, nu x.k])) (hg : w.grownBy w' gv.ownBlock) (hat : gv.ownBlock = some g ∨ g = w.heap.size) : Tk R w0 w' p S a (k + 1) (.slice (some ⟨g, 0, none⟩) (2 * k + 2) c) av := by
  obtain ⟨F, h1, h2, h3, h4⟩ := h.ex
  have hk : Keep (fun j => gv.ownBlock = some j) w w' := (Keep.refl _ w).grown hg (fun j e => .inl e)
  obtain ⟨hkl, hxe⟩ := List.getElem?_eq_some_iff.1 hx
  have ht : S.take (k + 1) = S.take k ++ [x] := by rw [← hxe]; exact List.take_succ_eq_append_getElem hkl
  refine ⟨⟨F, C.keep h1 hk (fun j hj e => h3 j e hj), h2, fun j hj e => ?_, h4⟩, ?_, hk.own h.all (fun j e e2 => h.apart j e2 e), fun j hj e => ?_, h.bel.trans (hk.below (fun j hj e => ?_) h.bel.size)⟩
  · simp only [Value.ownBlock, Option.some.injEq] at hj
    subst hj
    rcases hat with e2 | e2
    · exact h3 _ e2 e
    · have := C.lt h1 _ e; omega
  · rw [ht, prs_snoc, List.map_append]
    exact ho
  · simp only [Value.ownBlock, Option.some.injEq] at hj
    subst hj
    rcases hat with e2 | e2
    · exact h.apart _ e2 e
    · have := (h.all.lt _ e).2; omega
  · have := (h.got.lt j e).1; omega

theorem Tk.shape (h : Tk R w0 w p S a k gv av) : ∃ g c, gv = .slice g (2 * k) c ∧ 2 * k ≤ c ∧ c ≤ maxLen := by
  obtain ⟨g, c, e, h1, h2, _⟩ := Nm.own_shape h.got
  exact ⟨g, c, e, h1, h2⟩

theorem Tk.first (C : HeapC R) (hg : Hk 64 S) (h : Tk R w0 w p S a k gv av) (x : It) (hx : S[a]? = some x) : Calls Try.prog 11 #[ptr p] w fun e w' => e = .returned (.tuple #[nu x.i, nu x.k, .bool true]) ∧ Hid (Tk R w0 w' p S a k gv av) := by
  obtain ⟨ha, hxe⟩ := List.getElem?_eq_some_iff.1 hx
  have hd : S.drop a = x :: S.drop (a + 1) := by rw [List.drop_eq_getElem_cons ha, hxe]
  have := h.least C hg
  rw [hd] at this
  exact this

theorem Tk.least0 (C : HeapC R) (hg : Hk 64 S) (h : Tk R w0 w p S a k gv av) (ha : a = S.length) : Calls Try.prog 11 #[ptr p] w fun e w' => e = .returned (.tuple #[nu 0, nu 0, .bool false]) ∧ Hid (Tk R w0 w' p S a k gv av) := by
  have := h.least C hg
  rw [show S.drop a = [] from List.drop_eq_nil_of_le (by omega)] at this
  exact this

theorem Tk.shape2 (h : Tk R w0 w p S a (k + 1) gv av) : ∃ g c, gv = .slice (some ⟨g, 0, none⟩) (2 * k + 2) c ∧ 2 * k + 2 ≤ c ∧ c ≤ maxLen := by
  obtain ⟨g, c, e, h1, h2⟩ := World.ownsRow.form h.got (by omega)
  obtain ⟨g', c', e', h3, h4, _⟩ := Nm.own_shape h.got
  rw [e] at e'
  simp only [Value.slice.injEq, true_and] at e'
  obtain ⟨_, rfl⟩ := e'
  exact ⟨g, c, e, h3, h4⟩

/-- The last that was noted. -/
theorem Tk.last {g n c : Nat} (h : Tk R w0 w p S a (k + 1) (.slice (some ⟨g, 0, none⟩) n c) av) {x : It} (hx : S[k]? = some x) : w.cell? ⟨g, 2 * k, none⟩ = some (nu x.i) ∧ w.cell? ⟨g, 2 * k + 1, none⟩ = some (nu x.k) := by
  obtain ⟨c0, cap, e, h1, h2, h3⟩ := own_rdZ h.got
  obtain ⟨hkl, _⟩ := List.getElem?_eq_some_iff.1 hx
  have hl : (prs (S.take (k + 1))).length = 2 * k + 2 := by
    rw [prs_len, List.length_take]
    omega
  rw [hl] at e h1 h3
  obtain ⟨g', rfl, _, h4⟩ := h3 (by omega)
  simp only [Value.slice.injEq, Option.some.injEq, Addr.mk.injEq, and_true] at e
  obtain ⟨rfl, _⟩ := e
  have hp := prs_two (S.take (k + 1)) k x (by rw [List.getElem?_take_of_lt (by omega)]; exact hx)
  exact ⟨h4 _ _ hp.1, h4 _ _ hp.2⟩
end
end Hh
end Go.Proofs.Yteclbmmhidmklaa
