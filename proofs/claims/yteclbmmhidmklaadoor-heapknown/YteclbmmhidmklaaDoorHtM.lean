/- HepM, HepN, in one text. -/
import Derived.Test.YteclbmmhidmklaaDoorHwM
import Derived.Test.YteclbmmhidmklaaDoorHfM
import Derived.Deep.AppendLies
/- HeapTaken, out of what the program's heap answers: taken out one by one, numbers come in the order that All tells. -/
namespace Go.Proofs.YteclbmmhidmklaaDoor
set_option linter.ambiguousOpen false
open Go.RowKit
namespace Hh
open Ft
set_option linter.unusedSimpArgs false
set_option linter.unusedVariables false
attribute [local go_sem] Oper.semAt_some

theorem infoZ : (Tryd.prog.info? 3).map (fun i => (i.zero, i.size, i.bytes)) = some (some (.int .i64 0), 1, 8) := by kernel_rfl

theorem prs_two (L : List It) (k : Nat) (x : It) (hx : L[k]? = some x) : (prs L)[2 * k]? = some x.i ∧ (prs L)[2 * k + 1]? = some x.k := by
  induction L generalizing k with
  | nil => simp at hx
  | cons y L ih =>
    have e : prs (y :: L) = y.i :: y.k :: prs L := rfl
    rw [e]
    cases k with
    | zero =>
      simp at hx
      subst hx
      exact ⟨rfl, rfl⟩
    | succ k =>
      have := ih k (by simpa using hx)
      rw [show 2 * (k + 1) = 2 * k + 1 + 1 by omega]
      simpa using this

theorem hk_drop {N : Int} {S : List It} (h : Hk N S) (a : Nat) : Hk N (S.drop a) :=
  ⟨h.srt.sublist (List.drop_sublist _ _), h.nd.sublist (List.drop_sublist _ _), fun x hx => h.rng x (List.mem_of_mem_drop hx)⟩

theorem key_first {N : Int} {x : It} {L : List It} : keyH (x :: L) x.i = some x.k := by
  unfold keyH
  rw [List.find?_cons]
  simp

theorem hasH_first (x : It) (L : List It) : hasH (x :: L) x.i = true := by
  unfold hasH
  simp

theorem hasH_gone {N : Int} {x : It} {L : List It} (h : Hk N (x :: L)) : hasH L x.i = false := by
  unfold hasH
  rw [List.any_eq_false]
  intro y hy
  have := (List.pairwise_cons.1 h.nd).1 y hy
  simp [Ne.symm this]

/-- Amid the loop: a numbers are taken out, k are noted. -/
structure Tk (R : RepHT) (w0 w : World) (p : Nat) (S : List It) (a k : Nat) (gv av : Value) : Prop where
  ex : ∃ F, R w p F 64 (S.drop a) ∧ (∀ j, F j → w0.heap.size ≤ j) ∧ (∀ j, gv.ownBlock = some j → ¬ F j) ∧ (∀ j, av.ownBlock = some j → ¬ F j)
  got : w.ownsRow w0.heap.size 3 1 gv (2 * k) ((prs (S.take k)).map nu)
  all : w.ownsRow w0.heap.size 3 1 av (2 * S.length) ((prs S).map nu)
  apart : ∀ j, gv.ownBlock = some j → av.ownBlock ≠ some j
  bel : Below w0.heap.size w0 w

section
variable {R : RepHT} {w0 w w' : World} {p : Nat} {S : List It} {a k : Nat} {gv av : Value}

theorem Tk.below (C : HeapC R) (h : Tk R w0 w p S a k gv av) (hb : Below w.heap.size w w') : Tk R w0 w' p S a k gv av := by
  obtain ⟨F, h1, h2, h3, h4⟩ := h.ex
  have hk : Keep (fun _ => False) w w' := Keep.of_below hb
  exact ⟨⟨F, C.keep h1 hk (fun _ _ h => h), h2, h3, h4⟩, hk.own h.got (fun _ _ h => h), hk.own h.all (fun _ _ h => h), h.apart, h.bel.trans (hb.mono h.bel.size)⟩

theorem Tk.left (C : HeapC R) (h : Tk R w0 w p S a k gv av) {b : Nat} {F : Nat → Prop} (h1 : R w p F 64 (S.drop a)) (h2 : ∀ j, F j → w0.heap.size ≤ j) (h3 : ∀ j, gv.ownBlock = some j → ¬ F j) (h4 : ∀ j, av.ownBlock = some j → ¬ F j) (hl : LeftH R w w' p F 64 (S.drop b)) : Tk R w0 w' p S b k gv av := by
  obtain ⟨G, g1, g2, g3⟩ := hl
  refine ⟨⟨G, g1, fun j hj => ?_, fun j hj e => ?_, fun j hj e => ?_⟩, g2.own h.got (fun j e => h3 j e), g2.own h.all (fun j e => h4 j e), h.apart, h.bel.trans (g2.below (fun j hj e => by have := h2 j e; omega) h.bel.size)⟩
  · rcases g3 j hj with e | e
    · exact h2 j e
    · exact Nat.le_trans h.bel.size e
  · rcases g3 j e with e | e
    · exact h3 j hj e
    · have := (h.got.lt j hj).2; omega
  · rcases g3 j e with e | e
    · exact h4 j hj e
    · have := (h.all.lt j hj).2; omega

theorem Tk.least (C : HeapC R) (hg : Hk 64 S) (h : Tk R w0 w p S a k gv av) : Calls Tryd.prog 32 #[ptr p] w fun e w' => e = .returned (.tuple #[nu (fstI (S.drop a)), nu (fstK (S.drop a)), .bool (!(S.drop a).isEmpty)]) ∧ Hid (Tk R w0 w' p S a k gv av) := by
  obtain ⟨F, h1, h2, h3, h4⟩ := h.ex
  have hf := Hk.few (N := 64) hg
  refine (C.least w p F 64 (S.drop a) h1 (hk_drop hg a) (by rw [List.length_drop]; omega)).mono ?_
  rintro e w' ⟨rfl, hb⟩
  exact ⟨rfl, h.below C hb⟩

theorem Tk.key (C : HeapC R) (hg : Hk 64 S) (h : Tk R w0 w p S a k gv av) (x : It) (hx : S[a]? = some x) : Calls Tryd.prog 34 #[ptr p, nu x.i] w fun e w' => e = .returned (.tuple #[nu x.k, .bool true]) ∧ Hid (Tk R w0 w' p S a k gv av) := by
  obtain ⟨F, h1, h2, h3, h4⟩ := h.ex
  have hf := Hk.few (N := 64) hg
  obtain ⟨ha, hxe⟩ := List.getElem?_eq_some_iff.1 hx
  have hd : S.drop a = x :: S.drop (a + 1) := by rw [List.drop_eq_getElem_cons ha, hxe]
  have := C.key w p F 64 (S.drop a) x.i h1 (hk_drop hg a) (by rw [List.length_drop]; omega)
  rw [hd, key_first (N := 64)] at this
  refine this.mono ?_
  rintro e w' ⟨rfl, hb⟩
  exact ⟨rfl, h.below C hb⟩

theorem Tk.len (C : HeapC R) (h : Tk R w0 w p S a k gv av) : Calls Tryd.prog 36 #[ptr p] w fun e w' => e = .returned (nun (S.length - a)) ∧ Hid (Tk R w0 w' p S a k gv av) := by
  obtain ⟨F, h1, h2, h3, h4⟩ := h.ex
  have := C.len w p F 64 (S.drop a) h1
  rw [List.length_drop] at this
  refine this.mono ?_
  rintro e w' ⟨rfl, hb⟩
  exact ⟨rfl, h.below C hb⟩

theorem Tk.drop (C : HeapC R) (hg : Hk 64 S) (h : Tk R w0 w p S a k gv av) (x : It) (hx : S[a]? = some x) : Calls Tryd.prog 11 #[ptr p, nu x.i] w fun e w' => e = .returned (.bool true) ∧ Hid (Tk R w0 w' p S (a + 1) k gv av) := by
  obtain ⟨F, h1, h2, h3, h4⟩ := h.ex
  have hf := Hk.few (N := 64) hg
  obtain ⟨ha, hxe⟩ := List.getElem?_eq_some_iff.1 hx
  have hd : S.drop a = x :: S.drop (a + 1) := by rw [List.drop_eq_getElem_cons ha, hxe]
  have hga := hk_drop hg a
  have := C.drop w p F 64 (S.drop a) x.i h1 hga (by rw [List.length_drop]; omega)
  rw [hd] at this hga
  rw [hasH_first, drop_head hga] at this
  refine this.mono ?_
  rintro e w' ⟨rfl, hl⟩
  exact ⟨rfl, h.left C h1 h2 h3 h4 hl⟩

theorem Tk.again (C : HeapC R) (hg : Hk 64 S) (h : Tk R w0 w p S (a + 1) k gv av) (x : It) (hx : S[a]? = some x) : Calls Tryd.prog 11 #[ptr p, nu x.i] w fun e w' => e = .returned (.bool false) ∧ Hid (Tk R w0 w' p S (a + 1) k gv av) := by
  obtain ⟨F, h1, h2, h3, h4⟩ := h.ex
  have hf := Hk.few (N := 64) hg
  obtain ⟨ha, hxe⟩ := List.getElem?_eq_some_iff.1 hx
  have hd : S.drop a = x :: S.drop (a + 1) := by rw [List.drop_eq_getElem_cons ha, hxe]
  have hga := hk_drop hg a
  rw [hd] at hga
  have := C.drop w p F 64 (S.drop (a + 1)) x.i h1 (hk_drop hg (a + 1)) (by rw [List.length_drop]; omega)
  rw [hasH_gone hga, drop_none (hasH_gone hga)] at this
  refine this.mono ?_
  rintro e w' ⟨rfl, hl⟩
  exact ⟨rfl, h.left C h1 h2 h3 h4 hl⟩

/-- One more is noted. -/
theorem Tk.grown (C : HeapC R) (h : Tk R w0 w p S a k gv av) {x : It} (hx : S[k]? = some x) {g c : Nat} (ho : w'.ownsRow w0.heap.size 3 1 (.slice (some ⟨g, 0, none⟩) (2 * k + 2) c) (2 * k + 2) ((prs (S.take k)).map nu ++ [nu x.i, nu x.k])) (hg : w.grownBy w' gv.ownBlock) (hat : gv.ownBlock = some g ∨ g = w.heap.size) : Tk R w0 w' p S a (k + 1) (.slice (some ⟨g, 0, none⟩) (2 * k + 2) c) av := by
  obtain ⟨F, h1, h2, h3, h4⟩ := h.ex
  have hk : Keep (fun j => gv.ownBlock = some j) w w' := (Keep.refl _ w).grown hg (fun j e => .inl e)
  obtain ⟨hkl, hxe⟩ := List.getElem?_eq_some_iff.1 hx
  have ht : S.take (k + 1) = S.take k ++ [x] := by rw [← hxe]; exact List.take_succ_eq_append_getElem hkl
  refine ⟨⟨F, C.keep h1 hk (fun j hj e => h3 j e hj), h2, fun j hj e => ?_, h4⟩, ?_, hk.own h.all (fun j e e2 => h.apart j e2 e), fun j hj e => ?_, h.bel.trans (hk.below (fun j hj e => ?_) h.bel.size)⟩
  · simp only [Value.ownBlock, Option.some.injEq] at hj
    subst hj
    rcases hat with e2 | e2
    · exact h3 _ e2 e
    · have := C.lt h1 _ e; omega
  · rw [ht, prs_snoc, List.map_append]
    exact ho
  · simp only [Value.ownBlock, Option.some.injEq] at hj
    subst hj
    rcases hat with e2 | e2
    · exact h.apart _ e2 e
    · have := (h.all.lt _ e).2; omega
  · have := (h.got.lt j e).1; omega

theorem Tk.shape (h : Tk R w0 w p S a k gv av) : ∃ g c, gv = .slice g (2 * k) c ∧ 2 * k ≤ c ∧ c ≤ maxLen := by
  obtain ⟨g, c, e, h1, h2, _⟩ := Nm.own_shape h.got
  exact ⟨g, c, e, h1, h2⟩

theorem Tk.first (C : HeapC R) (hg : Hk 64 S) (h : Tk R w0 w p S a k gv av) (x : It) (hx : S[a]? = some x) : Calls Tryd.prog 32 #[ptr p] w fun e w' => e = .returned (.tuple #[nu x.i, nu x.k, .bool true]) ∧ Hid (Tk R w0 w' p S a k gv av) := by
  obtain ⟨ha, hxe⟩ := List.getElem?_eq_some_iff.1 hx
  have hd : S.drop a = x :: S.drop (a + 1) := by rw [List.drop_eq_getElem_cons ha, hxe]
  have := h.least C hg
  rw [hd] at this
  exact this

theorem Tk.least0 (C : HeapC R) (hg : Hk 64 S) (h : Tk R w0 w p S a k gv av) (ha : a = S.length) : Calls Tryd.prog 32 #[ptr p] w fun e w' => e = .returned (.tuple #[nu 0, nu 0, .bool false]) ∧ Hid (Tk R w0 w' p S a k gv av) := by
  have := h.least C hg
  rw [show S.drop a = [] from List.drop_eq_nil_of_le (by omega)] at this
  exact this

theorem Tk.shape2 (h : Tk R w0 w p S a (k + 1) gv av) : ∃ g c, gv = .slice (some ⟨g, 0, none⟩) (2 * k + 2) c ∧ 2 * k + 2 ≤ c ∧ c ≤ maxLen := by
  obtain ⟨g, c, e, h1, h2⟩ := World.ownsRow.form h.got (by omega)
  obtain ⟨g', c', e', h3, h4, _⟩ := Nm.own_shape h.got
  rw [e] at e'
  simp only [Value.slice.injEq, true_and] at e'
  obtain ⟨_, rfl⟩ := e'
  exact ⟨g, c, e, h3, h4⟩

/-- The last that was noted. -/
theorem Tk.last {g n c : Nat} (h : Tk R w0 w p S a (k + 1) (.slice (some ⟨g, 0, none⟩) n c) av) {x : It} (hx : S[k]? = some x) : w.cell? ⟨g, 2 * k, none⟩ = some (nu x.i) ∧ w.cell? ⟨g, 2 * k + 1, none⟩ = some (nu x.k) := by
  obtain ⟨c0, cap, e, h1, h2, h3⟩ := own_rdZ h.got
  obtain ⟨hkl, _⟩ := List.getElem?_eq_some_iff.1 hx
  have hl : (prs (S.take (k + 1))).length = 2 * k + 2 := by
    rw [prs_len, List.length_take]
    omega
  rw [hl] at e h1 h3
  obtain ⟨g', rfl, _, h4⟩ := h3 (by omega)
  simp only [Value.slice.injEq, Option.some.injEq, Addr.mk.injEq, and_true] at e
  obtain ⟨rfl, _⟩ := e
  have hp := prs_two (S.take (k + 1)) k x (by rw [List.getElem?_take_of_lt (by omega)]; exact hx)
  exact ⟨h4 _ _ hp.1, h4 _ _ hp.2⟩
end
end Hh
end Go.Proofs.YteclbmmhidmklaaDoor
/- HeapTaken: its walk, out of what the program's heap answers. -/
namespace Go.Proofs.YteclbmmhidmklaaDoor
set_option linter.ambiguousOpen false
open Go.RowKit
namespace Hh
open Ft
set_option linter.unusedSimpArgs false
set_option linter.unusedVariables false
attribute [local go_sem] Oper.semAt_some

theorem hk_get {N : Int} {S : List It} (h : Hk N S) {j : Nat} {x y : It} (hy : S[j]? = some y) (hx : S[j + 1]? = some x) : y.k < x.k ∨ (y.k = x.k ∧ y.i < x.i) := by
  obtain ⟨h1, e1⟩ := List.getElem?_eq_some_iff.1 hy
  obtain ⟨h2, e2⟩ := List.getElem?_eq_some_iff.1 hx
  have := (List.pairwise_iff_getElem.1 h.srt) j (j + 1) h1 h2 (by omega)
  rw [e1, e2] at this
  exact ahd_iff.1 this

set_option maxRecDepth 1000000 in
set_option maxHeartbeats 16000000 in
theorem heapTaken_yes {R : RepHT} (C : HeapC R) (v : Value) (l : List It) (w : World) (hR : RdQ w v l) (hF : ∀ x ∈ l, I64 x.i) :
    Calls Tryd.prog 38 #[v] w fun e w' => e = .returned (.bool true) ∧ Below w.heap.size w w' := by
  obtain ⟨i0, ji, hz0, hz1, hz2⟩ := info_parts infoZ
  have HRQ := Hid.mk' hR
  obtain ⟨av, cv, rfl, hc1, hc2, hcell⟩ := hR
  have cW : Hid (∀ wx, Calls Tryd.prog 37 #[] wx fun e w' => e = .returned (.bool true) ∧ Below wx.heap.size wx w') := fun wx => works_any C.toHeapB wx
  obtain ⟨m, hm⟩ : ∃ m, l.length = m := ⟨_, rfl⟩
  have HM := Hid.mk' hm
  have HF := Hid.mk' hF
  rw [hm] at hc1 HRQ ⊢
  unfold maxLen at hc2
  have hcI : (cv : Int) ≤ 9223372036854775807 := by omega
  clear hcell hF hm
  by_cases hbig : m > 1000
  · have hbI : (m : Int) > 1000 := by omega
    go_enter Tryd.func38, Tryd.ntmps38
    go_wp2_with fail
    refine (cW.out w).mono ?_
    rintro e w1 ⟨rfl, b1⟩
    have HB1 := Hid.mk' b1
    clear b1
    go_wp2_with fail
    refine (cW.out w1).mono ?_
    rintro e w2 ⟨rfl, b2⟩
    have HB2 := Hid.mk' (HB1.out.trans (b2.mono HB1.out.size))
    clear b2
    go_wp2
    go_ret
    exact ⟨rfl, HB2.out⟩
  · have hbI : ¬ (m : Int) > 1000 := by omega
    go_enter Tryd.func38, Tryd.ntmps38
    go_wp2_with fail
    refine (cW.out w).mono ?_
    rintro e w1 ⟨rfl, b1⟩
    have HB1 := Hid.mk' b1
    have c2 := Hid.mk' (filled_any C.toHeapB _ l w1 (HRQ.out.below b1) HF.out)
    clear b1
    go_wp2_with fail
    refine c2.out.mono ?_
    rintro e w2 ⟨p, F, rfl, h2, f2, b2⟩
    have hgood := fill_good l
    have hfew := fill_few l
    obtain ⟨S, hS⟩ : ∃ S, fill l = S := ⟨_, rfl⟩
    rw [hS] at h2 hgood hfew
    have HB2 := Hid.mk' (HB1.out.trans (b2.mono HB1.out.size))
    have HF2 : Hid (∀ k, F k → w.heap.size ≤ k) := fun k hk => Nat.le_trans HB1.out.size (f2 k hk)
    have H2 := Hid.mk' h2
    have HG := Hid.mk' hgood
    have c3 := Hid.mk' (C.all w2 p F 64 S h2 hgood (by omega))
    clear h2 f2 b2 c2 hgood hS cW
    go_wp2_with fail
    refine c3.out.mono ?_
    rintro e w3 ⟨fv, X, rfl, hit, hX, b3⟩
    have HB3 := Hid.mk' (HB2.out.trans (b3.mono HB2.out.size))
    have HL3 := Hid.mk' (C.lt H2.out)
    have H3 := Hid.mk' (C.below H2.out b3)
    have HS3 := Hid.mk' b3.size
    have c4 := Hid.mk' (pairs_any fv X S w3 64 hit (by omega) (by decide))
    rw [List.take_of_length_le (show S.length ≤ 64 by omega)] at c4
    obtain ⟨gf, lb, kk, hfv, _⟩ := id hit
    subst hfv
    clear hit hX b3 c3 H2
    go_wp2_with fail
    refine c4.out.mono ?_
    rintro e w4 ⟨v4, rfl, ho4, b4⟩
    have HB4 := Hid.mk' (HB3.out.trans (b4.mono HB3.out.size))
    have HT0 : Hid (Tk R w w4 p S 0 0 (.slice none 0 0) v4) := by
      refine ⟨⟨F, C.below H3.out b4, HF2.out, fun j hj => by simp [Value.ownBlock] at hj, fun j hj e => ?_⟩, World.ownsRow_nil _ _ _ _, own_monoI ho4 HB3.out.size, fun j hj => by simp [Value.ownBlock] at hj, HB4.out⟩
      have := (ho4.lt j hj).1
      have := HL3.out j e
      have := HS3.out
      omega
    obtain ⟨n, hn⟩ : ∃ n, S.length = n := ⟨_, rfl⟩
    rw [hn] at ho4 hfew
    obtain ⟨aa, ac, rfl, ha1, ha2, _⟩ := Nm.own_shape ho4
    unfold maxLen at ha2
    have haI : (ac : Int) ≤ 9223372036854775807 := by omega
    have c5 := HT0.out.len C
    rw [hn, Nat.sub_zero] at c5
    have c5 := Hid.mk' c5
    have HN := Hid.mk' hn
    clear HB4 ho4 b4 c4 H3 HF2 HL3 HS3 HB3 HB2 HB1 HT0 hn
    go_wp2_with fail
    refine c5.out.mono ?_
    rintro e w5 ⟨rfl, HT5⟩
    clear c5
    go_wp2_with fail
    go_loopw [5, 7, 8, 9, 10, 11, 12, 13, 14] (fun gv kv _ _ _ _ _ _ _ wr => ∃ k : Nat, k ≤ n ∧ kv = nun k ∧ Hid (Tk R w wr p S k k gv (.slice aa (2 * n) ac))) (fun _ kv _ _ _ _ _ _ _ _ => n - (intOf kv).toNat)
    case atStart => exact ⟨0, Nat.zero_le _, rfl, HT5⟩
    case round =>
      clear HT5
      obtain ⟨k, hk, rfl, HT⟩ := hrel
      by_cases hlt : k < n
      · have hkI : (k : Int) < (n : Int) := by omega
        have hsn := HN.out
        obtain ⟨x, hx⟩ : ∃ x, S[k]? = some x := ⟨_, List.getElem?_eq_getElem (by omega)⟩
        by_cases hk0 : 0 < k
        · obtain ⟨j, hj⟩ : ∃ j, k = j + 1 := ⟨k - 1, by omega⟩
          obtain ⟨y, hy⟩ : ∃ y, S[j]? = some y := ⟨_, List.getElem?_eq_getElem (by omega)⟩
          have hah := hk_get HG.out hy (by rw [← hj]; exact hx)
          have hsh : ∃ g c, u5 = .slice (some ⟨g, 0, none⟩) (2 * k) c ∧ 2 * k ≤ c ∧ c ≤ maxLen := by
            have h0 := HT.out
            rw [hj] at h0 ⊢
            exact h0.shape2
          obtain ⟨ga, gc, rfl, hgc, hgm⟩ := hsh
          have HY := Hid.mk' hy
          have HJ := Hid.mk' hj
          unfold maxLen at hgm
          have hgI : (gc : Int) ≤ 9223372036854775807 := by omega
          have hk0I : (k : Int) > 0 := by omega
          have hk0I2 : (0 : Int) < (k : Int) := by omega
          have hi1 : 2 * (k : Int) - 2 = ((2 * j : Nat) : Int) := by omega
          have hi2 : 2 * (k : Int) - 1 = ((2 * j + 1 : Nat) : Int) := by omega
          have hi3 : ((2 * j : Nat) : Int) < ((2 * k : Nat) : Int) := by omega
          have hi4 : ((2 * j + 1 : Nat) : Int) < ((2 * k : Nat) : Int) := by omega
          have hi5 : (0 : Int) ≤ ((2 * j : Nat) : Int) := by omega
          have hi6 : (0 : Int) ≤ ((2 * j + 1 : Nat) : Int) := by omega
          clear hj hy
          have cL := Hid.mk' (HT.out.first C HG.out x hx)
          have HX := Hid.mk' hx
          obtain ⟨xi, xk⟩ := x
          dsimp only at cL
          have hkk : (xk != xk) = false := by simp
          clear hx
          go_wp2_with fail
          refine cL.out.mono ?_
          rintro e w4 ⟨rfl, H4⟩
          have cK := Hid.mk' (H4.out.key C HG.out _ HX.out)
          clear H4 cL
          go_wp2_with fail
          refine cK.out.mono ?_
          rintro e w5 ⟨rfl, H5⟩
          have cD := Hid.mk' (H5.out.drop C HG.out _ HX.out)
          clear H5 cK
          go_wp2_with fail
          refine cD.out.mono ?_
          rintro e w6 ⟨rfl, H6⟩
          have cA := Hid.mk' (H6.out.again C HG.out _ HX.out)
          clear H6 cD
          go_wp2_with fail
          refine cA.out.mono ?_
          rintro e w7 ⟨rfl, H7⟩
          clear cA
          have H8 := Hid.mk' (H7.out.below C ((Below.refl _ _).alloc (Nat.le_refl _) (.cells #[nu xi, nu xk] 3)))
          have HRW : Hid ((w7.alloc (.cells #[nu xi, nu xk] 3)).ownsRow w.heap.size 3 1 (.slice (some ⟨ga, 0, none⟩) (2 * k) gc) (2 * k) ((prs (S.take k)).map nu)) := H8.out.got
          have hbsz : Hid (w.heap.size ≤ (w7.alloc (.cells #[nu xi, nu xk] 3)).heap.size) := H8.out.bel.size
          have HFIN : Hid (∀ w8 g8 c8, w8.ownsRow w.heap.size 3 1 (.slice (some ⟨g8, 0, none⟩) (2 * k + 2) c8) (2 * k + 2) ((prs (S.take k)).map nu ++ [nu xi, nu xk]) → (w7.alloc (.cells #[nu xi, nu xk] 3)).grownBy w8 (Value.slice (some ⟨ga, 0, none⟩) (2 * k) gc).ownBlock → ((Value.slice (some ⟨ga, 0, none⟩) (2 * k) gc).ownBlock = some g8 ∨ g8 = (w7.alloc (.cells #[nu xi, nu xk] 3)).heap.size) → Tk R w w8 p S (k + 1) (k + 1) (.slice (some ⟨g8, 0, none⟩) (2 * k + 2) c8) (.slice aa (2 * n) ac)) := fun w8 g8 c8 h1 h2 h3 => H8.out.grown C HX.out h1 h2 h3
          have hone : Hid (∀ u ∈ [nu xi, nu xk], u.oneCell' = true) := by
            intro u hu
            simp only [List.mem_cons, List.not_mem_nil, or_false] at hu
            rcases hu with rfl | rfl <;> rfl
          have hmx : Hid (2 * k + 2 ≤ maxLen) := by show _ ≤ _; unfold maxLen; omega
          have hby : Hid ((2 * k + 2) * 8 ≤ 140737488355328) := by show _ ≤ _; omega
          have hlast : w7.cell? ⟨ga, 2 * j, none⟩ = some (nu y.i) ∧ w7.cell? ⟨ga, 2 * j + 1, none⟩ = some (nu y.k) := by
            have h0 := H7.out
            have hj := HJ.out
            subst hj
            exact h0.last HY.out
          obtain ⟨l0, l1⟩ := hlast
          obtain ⟨yi, yk⟩ := y
          dsimp only at l0 l1 hah
          obtain ⟨d, hd⟩ : ∃ d, 2 * j = d := ⟨_, rfl⟩
          rw [hd] at hi1 hi2 hi3 hi4 hi5 hi6 l0 l1
          have d1 : decide (xk < yk) = false := decide_eq_false (by omega)
          clear H8 H7 hgm HT hd
          by_cases hyk : xk = yk
          · have d2 : (xk == yk) = true := by simpa using hyk
            have d3 : decide (xi ≤ yi) = false := decide_eq_false (by omega)
            clear hah hyk
            go_wp2_with (at_builtin; refine wpList_append_lies _ rfl _ _ 35 rfl w.heap.size 3 i0 (.int .i64 0) 1 8 Tryd.underlying35 ji hz0 hz1 hz2 rfl (by decide) (.slice (some ⟨ga, 0, none⟩) (2 * k) gc) (2 * k) ((prs (S.take k)).map nu) rfl HRW.out ⟨w7.heap.size, 0, none⟩ 2 2 [nu xi, nu xk] rfl rfl (World.news_of_block (heap_alloc_new _ _)) hone.out (by decide) hmx.out hby.out hbsz.out _ rfl ?_; intro g8 c8 w8 ho8 hg8 hat8 _; have HQ8 := Hid.mk' (HFIN.out w8 g8 c8 ho8 hg8 hat8); clear ho8 hg8 hat8)
            go_roundw
            case rel => exact ⟨k + 1, by omega, by go_num, HQ8⟩
            case measure => simp [intOf]; omega
          · have d2 : (xk == yk) = false := by simpa using hyk
            clear hah hyk
            go_wp2_with (at_builtin; refine wpList_append_lies _ rfl _ _ 35 rfl w.heap.size 3 i0 (.int .i64 0) 1 8 Tryd.underlying35 ji hz0 hz1 hz2 rfl (by decide) (.slice (some ⟨ga, 0, none⟩) (2 * k) gc) (2 * k) ((prs (S.take k)).map nu) rfl HRW.out ⟨w7.heap.size, 0, none⟩ 2 2 [nu xi, nu xk] rfl rfl (World.news_of_block (heap_alloc_new _ _)) hone.out (by decide) hmx.out hby.out hbsz.out _ rfl ?_; intro g8 c8 w8 ho8 hg8 hat8 _; have HQ8 := Hid.mk' (HFIN.out w8 g8 c8 ho8 hg8 hat8); clear ho8 hg8 hat8)
            go_roundw
            case rel => exact ⟨k + 1, by omega, by go_num, HQ8⟩
            case measure => simp [intOf]; omega
        · obtain ⟨ga, gc, rfl, hgc, hgm⟩ := HT.out.shape
          unfold maxLen at hgm
          have hgI : (gc : Int) ≤ 9223372036854775807 := by omega
          have hk0I : ¬ (k : Int) > 0 := by omega
          have cL := Hid.mk' (HT.out.first C HG.out x hx)
          have HX := Hid.mk' hx
          obtain ⟨xi, xk⟩ := x
          dsimp only at cL
          have hkk : (xk != xk) = false := by simp
          clear hx
          go_wp2_with fail
          refine cL.out.mono ?_
          rintro e w4 ⟨rfl, H4⟩
          have cK := Hid.mk' (H4.out.key C HG.out _ HX.out)
          clear H4 cL
          go_wp2_with fail
          refine cK.out.mono ?_
          rintro e w5 ⟨rfl, H5⟩
          have cD := Hid.mk' (H5.out.drop C HG.out _ HX.out)
          clear H5 cK
          go_wp2_with fail
          refine cD.out.mono ?_
          rintro e w6 ⟨rfl, H6⟩
          have cA := Hid.mk' (H6.out.again C HG.out _ HX.out)
          clear H6 cD
          go_wp2_with fail
          refine cA.out.mono ?_
          rintro e w7 ⟨rfl, H7⟩
          clear cA
          have H8 := Hid.mk' (H7.out.below C ((Below.refl _ _).alloc (Nat.le_refl _) (.cells #[nu xi, nu xk] 3)))
          have HRW : Hid ((w7.alloc (.cells #[nu xi, nu xk] 3)).ownsRow w.heap.size 3 1 (.slice ga (2 * k) gc) (2 * k) ((prs (S.take k)).map nu)) := H8.out.got
          have hbsz : Hid (w.heap.size ≤ (w7.alloc (.cells #[nu xi, nu xk] 3)).heap.size) := H8.out.bel.size
          have HFIN : Hid (∀ w8 g8 c8, w8.ownsRow w.heap.size 3 1 (.slice (some ⟨g8, 0, none⟩) (2 * k + 2) c8) (2 * k + 2) ((prs (S.take k)).map nu ++ [nu xi, nu xk]) → (w7.alloc (.cells #[nu xi, nu xk] 3)).grownBy w8 (Value.slice ga (2 * k) gc).ownBlock → ((Value.slice ga (2 * k) gc).ownBlock = some g8 ∨ g8 = (w7.alloc (.cells #[nu xi, nu xk] 3)).heap.size) → Tk R w w8 p S (k + 1) (k + 1) (.slice (some ⟨g8, 0, none⟩) (2 * k + 2) c8) (.slice aa (2 * n) ac)) := fun w8 g8 c8 h1 h2 h3 => H8.out.grown C HX.out h1 h2 h3
          have hone : Hid (∀ u ∈ [nu xi, nu xk], u.oneCell' = true) := by
            intro u hu
            simp only [List.mem_cons, List.not_mem_nil, or_false] at hu
            rcases hu with rfl | rfl <;> rfl
          have hmx : Hid (2 * k + 2 ≤ maxLen) := by show _ ≤ _; unfold maxLen; omega
          have hby : Hid ((2 * k + 2) * 8 ≤ 140737488355328) := by show _ ≤ _; omega
          clear H8 H7 hgm HT
          go_wp2_with (at_builtin; refine wpList_append_lies _ rfl _ _ 35 rfl w.heap.size 3 i0 (.int .i64 0) 1 8 Tryd.underlying35 ji hz0 hz1 hz2 rfl (by decide) (.slice ga (2 * k) gc) (2 * k) ((prs (S.take k)).map nu) rfl HRW.out ⟨w7.heap.size, 0, none⟩ 2 2 [nu xi, nu xk] rfl rfl (World.news_of_block (heap_alloc_new _ _)) hone.out (by decide) hmx.out hby.out hbsz.out _ rfl ?_; intro g8 c8 w8 ho8 hg8 hat8 _; have HQ8 := Hid.mk' (HFIN.out w8 g8 c8 ho8 hg8 hat8); clear ho8 hg8 hat8)
          go_roundw
          case rel => exact ⟨k + 1, by omega, by go_num, HQ8⟩
          case measure => simp [intOf]; omega
      · have hkI : ¬ (k : Int) < (n : Int) := by omega
        obtain rfl : k = n := by omega
        have cL := Hid.mk' (HT.out.least0 C HG.out HN.out.symm)
        have HSZ : Hid (S.take k = S ∧ S.length - k = 0 ∧ 2 * S.length = 2 * k) := by
          have := HN.out
          exact ⟨List.take_of_length_le (by omega), by omega, by omega⟩
        have hb : (((2 * k : Nat) : Int) == 2 * (k : Int)) = true := by simp
        clear HT
        go_wp2_with fail
        refine cL.out.mono ?_
        rintro e w6 ⟨rfl, H6⟩
        have cN := H6.out.len C
        rw [HSZ.out.2.1] at cN
        have cN := Hid.mk' cN
        clear cL H6
        go_wp2_with fail
        refine cN.out.mono ?_
        rintro e w7 ⟨rfl, H7⟩
        clear cN
        have cS : Hid (Calls Tryd.prog 13 #[u5, .slice aa (2 * k) ac] w7 fun e w' => e = .returned (.bool true) ∧ Hid (Below w.heap.size w w')) := by
          have h1 := own_rdZ H7.out.got
          have h2 := own_rdZ H7.out.all
          rw [HSZ.out.1] at h1
          refine (sameZ _ _ (prs S) w7 h1 h2).mono ?_
          rintro e w' ⟨rfl, hb⟩
          exact ⟨rfl, H7.out.bel.trans (hb.mono H7.out.bel.size)⟩
        obtain ⟨ga, gc, rfl, hgc, hgm⟩ := H7.out.shape
        clear H7 HSZ
        go_wp2_with fail
        refine cS.out.mono ?_
        rintro e w8 ⟨rfl, HB8⟩
        clear cS
        go_wp2
        go_ret
        exact ⟨by simp, HB8.out⟩
end Hh
end Go.Proofs.YteclbmmhidmklaaDoor
